/- slices.Index, slices.Contains over numbers. -/
import Derived.Test.YtienhelohfhhfaaGA
import Derived.WalkKit
import Derived.WalkSpells
import Derived.WalkLawsBesides
import Derived.BigQuiet
import Derived.Deep.QuietTactic
import Derived.Deep.AppendLies
import Derived.Deep.RegionHeld3
import Derived.Deep.DrawnRows
import Derived.Deep.DeepCutAuto
namespace Go.Proofs.Ytienhelohfhhfaa
open Go.RowKit
namespace Gr
theorem hide {p : Prop} (h : p) : Hid p := h
/-- v is a slice of these numbers. -/
def Ints (w : World) (v : Value) (l : List Int) : Prop :=
  ∃ ao cap, v = .slice ao l.length cap ∧ (l = [] ∨ ∃ b off, ao = some ⟨b, off, none⟩ ∧ ∀ i x, l[i]? = some x → w.cell? ⟨b, off + i, none⟩ = some (.int .i64 x))
/-- v is a slice of slices of these numbers. -/
def Lists (w : World) (v : Value) (L : List (List Int)) : Prop :=
  ∃ ao cap, v = .slice ao L.length cap ∧ (L = [] ∨ ∃ b off, ao = some ⟨b, off, none⟩ ∧ ∀ i l, L[i]? = some l → ∃ u, w.cell? ⟨b, off + i, none⟩ = some u ∧ Ints w u l)
/-- v is a slice of these flags. -/
def Bools (w : World) (v : Value) (l : List Bool) : Prop :=
  ∃ ao cap, v = .slice ao l.length cap ∧ (l = [] ∨ ∃ b off, ao = some ⟨b, off, none⟩ ∧ ∀ i x, l[i]? = some x → w.cell? ⟨b, off + i, none⟩ = some (.bool x))
section
variable {w w' : World} {B : Nat} {v : Value}
theorem cell_kept (hb : Below B w w') (hB : w.heap.size ≤ B) {a : Addr} {u : Value} (h : w.cell? a = some u) : w'.cell? a = some u := by
  rw [hb.cell (Nat.lt_of_lt_of_le (World.block_lt_of_cell? w a h) hB)]; exact h
theorem Ints.kept {l : List Int} (h : Ints w v l) (hb : Below B w w') (hB : w.heap.size ≤ B) : Ints w' v l := by
  obtain ⟨ao, cap, rfl, h⟩ := h
  refine ⟨ao, cap, rfl, ?_⟩
  rcases h with h | ⟨b, off, rfl, h⟩
  · exact .inl h
  · exact .inr ⟨b, off, rfl, fun i x hx => cell_kept hb hB (h i x hx)⟩
theorem Bools.kept {l : List Bool} (h : Bools w v l) (hb : Below B w w') (hB : w.heap.size ≤ B) : Bools w' v l := by
  obtain ⟨ao, cap, rfl, h⟩ := h
  refine ⟨ao, cap, rfl, ?_⟩
  rcases h with h | ⟨b, off, rfl, h⟩
  · exact .inl h
  · exact .inr ⟨b, off, rfl, fun i x hx => cell_kept hb hB (h i x hx)⟩
theorem Lists.kept {L : List (List Int)} (h : Lists w v L) (hb : Below B w w') (hB : w.heap.size ≤ B) : Lists w' v L := by
  obtain ⟨ao, cap, rfl, h⟩ := h
  refine ⟨ao, cap, rfl, ?_⟩
  rcases h with h | ⟨b, off, rfl, h⟩
  · exact .inl h
  · refine .inr ⟨b, off, rfl, fun i l hl => ?_⟩
    obtain ⟨u, h1, h2⟩ := h i l hl
    exact ⟨u, cell_kept hb hB h1, h2.kept hb hB⟩
/-- Numbers as cells. -/
def cells (l : List Int) : List Value := l.map (fun x => .int .i64 x)
theorem cells_length (l : List Int) : (cells l).length = l.length := by simp [cells]
theorem cells_append (l m : List Int) : cells (l ++ m) = cells l ++ cells m := by simp [cells]
/-- What is owned is there to be read. -/
theorem Ints.of_owns {base : Nat} {e : TypeId} {l : List Int} (h : w.ownsRow base e 1 v l.length (cells l)) : Ints w v l := by
  rcases h.2 with ⟨rfl, h0⟩ | ⟨g, cap, cur, rfl, _, hg, _⟩
  · have : l = [] := List.eq_nil_of_length_eq_zero h0
    subst this
    exact ⟨none, 0, rfl, .inl rfl⟩
  · refine ⟨some ⟨g, 0, none⟩, cap, rfl, .inr ⟨g, 0, rfl, fun i x hx => ?_⟩⟩
    have := h.cells (g := g) rfl i (.int .i64 x) (by rw [cells, List.getElem?_map, hx]; rfl)
    have e : (⟨g, 0, none⟩ : Addr).add i = ⟨g, i, none⟩ := by unfold Addr.add; split <;> simp_all
    rw [e] at this
    rw [Nat.zero_add]; exact this
end
/-- Slices that are owned, none of them where another one lies. -/
structure Fam (w : World) (base : Nat) (e : TypeId) (V : List Value) (L : List (List Int)) : Prop where
  len : V.length = L.length
  own : ∀ (i : Nat) v l, V[i]? = some v → L[i]? = some l → w.ownsRow base e 1 v l.length (cells l)
  apart : ∀ (i j : Nat) v u, i ≠ j → V[i]? = some v → V[j]? = some u → v.ownBlock = none ∨ v.ownBlock ≠ u.ownBlock
theorem Fam.keep {w w' : World} {base : Nat} {e : TypeId} {V : List Value} {L : List (List Int)} (h : Fam w base e V L) (hg : w.grownBy w' none) : Fam w' base e V L :=
  ⟨h.len, fun i v l hv hl => (h.own i v l hv hl).kept hg (by cases v.ownBlock <;> simp), h.apart⟩
/-- A store below what is owned. -/
theorem Fam.store {w : World} {base : Nat} {e : TypeId} {V : List Value} {L : List (List Int)} (h : Fam w base e V L) (a : Addr) (u : Value) (ha : a.block < base) :
    Fam (w.setCell a u) base e V L := by
  refine ⟨h.len, fun i v l hv hl => ?_, h.apart⟩
  refine (h.own i v l hv hl).kept (row := some a.block) ⟨rfl, rfl, rfl, by simp, fun k _ hk => Below.heap_setCell w a u k (fun e => hk (by rw [e]))⟩ ?_
  cases hb : v.ownBlock with
  | none => exact .inl rfl
  | some k =>
    right
    have := ((h.own i v l hv hl).lt k hb).1
    intro e
    have : k = a.block := by simpa using e
    omega
/-- One of them grows. -/
theorem Fam.grow {w w' : World} {base : Nat} {e : TypeId} {V : List Value} {L : List (List Int)} (h : Fam w base e V L) {i : Nat} {v v' : Value} {l l' : List Int}
    (hv : V[i]? = some v) (hl : L[i]? = some l) (ho : w'.ownsRow base e 1 v' l'.length (cells l')) (hg : w.grownBy w' v.ownBlock) (hat : v'.ownBlock = v.ownBlock ∨ ∃ g, v'.ownBlock = some g ∧ w.heap.size ≤ g) :
    Fam w' base e (V.set i v') (L.set i l') := by
  have hiV : i < V.length := (List.getElem?_eq_some_iff.1 hv).1
  have hiL : i < L.length := (List.getElem?_eq_some_iff.1 hl).1
  refine ⟨by simp [h.len], ?_, ?_⟩
  · intro j u m hu hm
    by_cases hij : i = j
    · subst hij
      rw [List.getElem?_set_self hiV] at hu
      rw [List.getElem?_set_self hiL] at hm
      cases hu; cases hm
      exact ho
    · rw [List.getElem?_set_ne hij] at hu hm
      refine (h.own j u m hu hm).kept hg ?_
      rcases h.apart j i u v (Ne.symm hij) hu hv with a | a
      · exact .inl a
      · exact .inr a
  · have key : ∀ j u, j ≠ i → V[j]? = some u → (v'.ownBlock = none ∨ v'.ownBlock ≠ u.ownBlock) ∧ (u.ownBlock = none ∨ u.ownBlock ≠ v'.ownBlock) := by
      intro j u hj hu
      have hjL : j < L.length := by rw [← h.len]; exact (List.getElem?_eq_some_iff.1 hu).1
      have hown := h.own j u _ hu (List.getElem?_eq_getElem hjL)
      rcases hat with a | ⟨g, a, ag⟩
      · rw [a]
        exact ⟨h.apart i j v u (Ne.symm hj) hv hu, h.apart j i u v hj hu hv⟩
      · rw [a]
        have : ∀ k, u.ownBlock = some k → k < w.heap.size := fun k hk => (hown.lt k hk).2
        constructor
        · right; intro e; have := this _ e.symm; omega
        · right; intro e; have := this _ e; omega
    intro j k u x hjk hu hx
    by_cases hj : j = i
    · subst hj
      rw [List.getElem?_set_self hiV] at hu
      rw [List.getElem?_set_ne hjk] at hx
      cases hu
      exact (key k x (Ne.symm hjk) hx).1
    · rw [List.getElem?_set_ne (Ne.symm hj)] at hu
      by_cases hk : k = i
      · subst hk
        rw [List.getElem?_set_self hiV] at hx
        cases hx
        exact (key j u hj hu).2
      · rw [List.getElem?_set_ne (Ne.symm hk)] at hx
        exact h.apart j k u x hjk hu hx
theorem Fam.nils (w : World) (base : Nat) (e : TypeId) (n : Nat) : Fam w base e (List.replicate n (.slice none 0 0)) (List.replicate n []) := by
  refine ⟨by simp, ?_, ?_⟩
  · intro i v l hv hl
    rw [List.getElem?_replicate] at hv hl
    split at hv <;> simp at hv
    rw [if_pos (by assumption)] at hl
    cases hl
    subst hv
    exact World.ownsRow_nil ..
  · intro i j v u _ hv _
    rw [List.getElem?_replicate] at hv
    split at hv <;> simp at hv
    subst hv
    exact .inl rfl
end Gr
end Go.Proofs.Ytienhelohfhhfaa
namespace Go.Proofs.Ytienhelohfhhfaa
open Go.RowKit
attribute [local go_sem ↓] Go.wp_at_zero Go.wp_at_succ
open Gr (Ints Lists Bools hide)
theorem take_next {α : Type} {l : List α} {k : Nat} {x : α} (h : l[k]? = some x) : l.take (k + 1) = l.take k ++ [x] := by
  rw [List.take_add_one, h]; rfl
theorem getElem_some {α : Type} {l : List α} {k : Nat} (h : k < l.length) : ∃ x, l[k]? = some x := ⟨l[k], List.getElem?_eq_getElem h⟩
set_option maxRecDepth 100000 in
set_option maxHeartbeats 400000 in
theorem index_any (v : Value) (l : List Int) (x : Int) (w : World) (hl : l.length ≤ 1000000) (hI : Ints w v l) :
    Calls Try.prog 80 #[v, .int .i64 x] w fun e w' => (∃ r : Int, e = .returned (.int .i64 r) ∧ (0 ≤ r ↔ x ∈ l)) ∧ w' = w := by
  obtain ⟨ao, cap, rfl, hI⟩ := hI
  go_enter Try.func80, Try.ntmps80
  go_wp2_with fail
  go_loop [8, 5] (fun i _ => ∃ k : Nat, k ≤ l.length ∧ i = .int .i64 k ∧ x ∉ l.take k) (fun i _ => l.length - (intOf i).toNat)
  case atStart => exact ⟨0, Nat.zero_le _, rfl, by simp⟩
  case round =>
    obtain ⟨k, hk, rfl, hn⟩ := hrel
    by_cases hlt : k < l.length
    · obtain ⟨y, hy⟩ := getElem_some hlt
      rcases hI with h0 | ⟨b, off, rfl, hc⟩
      · rw [h0] at hlt; simp at hlt
      have hcell := hc k y hy
      have HN := hide hn
      have HY := hide hy
      clear hn hy hc
      by_cases hxy : x = y
      · subst hxy
        go_wp2_with fail
        go_ret
        exact ⟨⟨_, rfl, by have := List.mem_of_getElem? HY.out; simp [this]⟩, rfl⟩
      · go_wp2_with fail
        go_round
        case rel => exact ⟨k + 1, by omega, by go_num, by rw [take_next HY.out]; simp [HN.out, hxy]⟩
        case measure => simp [intOf]; omega
    · have HN := hide hn
      clear hn
      go_wp2_with fail
      go_ret
      exact ⟨⟨_, rfl, by have := HN.out; rw [List.take_of_length_le (by omega)] at this; simp [this]⟩, rfl⟩
set_option maxRecDepth 100000 in
theorem contains_any (v : Value) (l : List Int) (x : Int) (w : World) (hl : l.length ≤ 1000000) (hI : Ints w v l) :
    Calls Try.prog 51 #[v, .int .i64 x] w fun e w' => e = .returned (.bool (decide (x ∈ l))) ∧ w' = w := by
  go_enter Try.func51, Try.ntmps51
  go_wp2_with fail
  refine (index_any v l x w hl hI).mono ?_
  rintro e w' ⟨⟨r, rfl, hr⟩, hw⟩
  rw [hw]; clear hw w'
  by_cases hx : x ∈ l
  · have := hr.2 hx
    go_wp2_with fail
    go_ret
    simp [hx]
  · have : ¬ 0 ≤ r := fun h => hx (hr.1 h)
    go_wp2_with fail
    go_ret
    simp [hx]
end Go.Proofs.Ytienhelohfhhfaa
