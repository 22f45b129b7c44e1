/- value.Alike. -/
import Derived.Test.YtlmkpjdaoinmoaaVT
import Derived.Deep.LoopGhost
import Derived.WalkSmall
namespace Go.Proofs.Ytlmkpjdaoinmoaa
open Go.RowKit
theorem hide {p : Prop} (h : p) : Hid p := h

namespace V
theorem At.kept {m : Nat} {w w' : World} {v : Val} {b o : Nat} (h : At m w v b o) (hb : Below w.heap.size w w') : At m w' v b o := by
  obtain ⟨c0, c1, c2, c3, c4, hm, p0, p1, p2, p3, p4⟩ := h
  exact ⟨c0, c1, c2, c3, c4, Mem.kept m hm hb, kept_cell hb p0, kept_cell hb p1, kept_cell hb p2, kept_cell hb p3, kept_cell hb p4⟩
/-- Two values to be held against each other, and where they lie. -/
abbrev PR := Val × Val × Nat × Nat × Nat × Nat
def prCells (q : PR) : List Value := [.pointer (some ⟨q.2.2.1, q.2.2.2.1, none⟩), .pointer (some ⟨q.2.2.2.2.1, q.2.2.2.2.2, none⟩)]
def prOk (m : Nat) (w : World) (q : PR) : Prop := At (m + 1) w q.1 q.2.2.1 q.2.2.2.1 ∧ At (m + 1) w q.2.1 q.2.2.2.2.1 q.2.2.2.2.2 ∧ bulk (m + 1) q.1 ≤ 2000000 ∧ bulk (m + 1) q.2.1 ≤ 2000000
def wt (m : Nat) (L : List PR) : Nat := (L.map (fun q => parts (m + 1) q.1)).sum
def allEq (L : List PR) : Prop := ∀ q ∈ L, q.1 = q.2.1
theorem parts_pos (m : Nat) (v : Val) : 1 ≤ parts (m + 1) v := by rw [parts]; omega
theorem len_wt (m : Nat) (L : List PR) : L.length ≤ wt m L := by
  induction L with
  | nil => simp
  | cons q L ih => unfold wt at *; rw [List.map_cons, List.sum_cons, List.length_cons]; have := parts_pos m q.1; omega
theorem wt_append (m : Nat) (L R : List PR) : wt m (L ++ R) = wt m L + wt m R := by unfold wt; rw [List.map_append, List.sum_append]
theorem wt_one (m : Nat) (q : PR) : wt m [q] = parts (m + 1) q.1 := by simp [wt]
theorem prCells_len (L : List PR) : (L.flatMap prCells).length = L.length * 2 := by
  induction L with
  | nil => rfl
  | cons q L ih => rw [List.flatMap_cons, List.length_append, ih, List.length_cons]; simp [prCells]; omega
theorem parts_up : ∀ (m : Nat) {w : World} {v : Val} {cs : List Value}, Mem m w v cs → parts (m + 1) v = parts m v
  | 0, _, _, _, h => h.elim
  | m + 1, w, v, cs, ⟨lv, fv, h1, h2, h3⟩ => by
    rw [parts, parts, sumL_congr (parts (m + 1)) (parts m) v.l (fun x hx => by
      obtain ⟨j, hj⟩ := List.getElem?_of_mem hx
      obtain ⟨c, y, hy, hm⟩ := h2.all j (lt_of_get hj)
      rw [hj] at hy; cases hy; exact parts_up m hm), sumF_congr (fun x => parts (m + 1) x.2) (fun x => parts m x.2) v.f (fun x hx => by
      obtain ⟨j, hj⟩ := List.getElem?_of_mem hx
      obtain ⟨c, y, c', hy, _, hm⟩ := h3.all j (lt_of_get hj)
      rw [hj] at hy; cases hy; exact parts_up m hm)]
theorem near_ne (a b : Val) (h : near a b = false) : a ≠ b := by
  rintro rfl
  unfold near above at h
  simp at h
theorem near_eq (a b : Val) (h : near a b = true) : above a b = true ∧ names a.f = names b.f := by
  unfold near at h
  simpa using h
/-- Behind 'near': the same, just if what is in them is. -/
theorem eq_kids (a b : Val) (h : near a b = true) : a = b ↔ (a.l = b.l ∧ ∀ j : Nat, (a.f[j]?).map (·.2) = (b.f[j]?).map (·.2)) := by
  obtain ⟨h1, h2⟩ := near_eq a b h
  obtain ⟨e1, e2, e3, e4, e5⟩ := above_true a b h1
  constructor
  · rintro rfl; exact ⟨rfl, fun _ => rfl⟩
  · rintro ⟨hl, hf⟩
    refine val_ext a b e1 e2 e3 hl ?_
    apply List.ext_getElem?
    intro j
    have h3 : (names a.f)[j]? = (names b.f)[j]? := by rw [h2]
    have h4 := hf j
    unfold names at h3
    rw [List.getElem?_map, List.getElem?_map] at h3
    cases ha : a.f[j]? with
    | none => rw [ha] at h3; cases hb : b.f[j]? with
      | none => rfl
      | some y => rw [hb] at h3; simp at h3
    | some x => rw [ha] at h3 h4; cases hb : b.f[j]? with
      | none => rw [hb] at h3; simp at h3
      | some y =>
        rw [hb] at h3 h4
        simp only [Option.map_some, Option.some.injEq] at h3 h4
        rw [Prod.ext h3 h4]
theorem eq_more {α : Type} {la lb : List α} {L R : List PR} {k : Nat} {pr : PR} {f : α → Val} {u v : α} (h : allEq L ↔ allEq R ∧ ∀ j : Nat, j < k → (la[j]?).map f = (lb[j]?).map f) (hx : la[k]? = some u) (hy : lb[k]? = some v) (h1 : pr.1 = f u) (h2 : pr.2.1 = f v) :
    allEq (L ++ [pr]) ↔ allEq R ∧ ∀ j : Nat, j < k + 1 → (la[j]?).map f = (lb[j]?).map f := by
  constructor
  · intro hh
    have hL := h.1 (fun q hq => hh q (by simp [hq]))
    refine ⟨hL.1, fun j hj => ?_⟩
    rcases Nat.lt_or_ge j k with hlt | hge
    · exact hL.2 j hlt
    · have e : j = k := by omega
      subst e
      have := hh pr (by simp)
      rw [hx, hy, Option.map_some, Option.map_some, ← h1, ← h2, this]
  · intro ⟨hR, hj⟩ q hq
    rcases List.mem_append.1 hq with h3 | h3
    · exact h.2 ⟨hR, fun j hjk => hj j (by omega)⟩ q h3
    · rw [List.mem_singleton] at h3
      subst h3
      have := hj k (by omega)
      rw [hx, hy, Option.map_some, Option.map_some, ← h1, ← h2] at this
      exact Option.some.inj this
end V
theorem news_of {w : World} {g : Nat} {cs : Array Value} {e : TypeId} {fr : Nat × Nat} (h : w.heap[g]? = some (.cells cs e fr)) : ∀ j u, cs.toList[j]? = some u → w.cell? ((⟨g, 0, none⟩ : Addr).add j) = some u := by
  intro j u hu
  have hadd : (⟨g, 0, none⟩ : Addr).add j = ⟨g, j, none⟩ := by unfold Addr.add; split <;> simp_all
  rw [hadd, cell_of_row w g j cs e fr h]
  simpa using hu
theorem news_alloc (w : World) (cs : Array Value) (e : TypeId) (g : Nat) (h : w.heap.size = g) : ∀ j u, cs.toList[j]? = some u → (w.alloc (.cells cs e)).cell? ((⟨g, 0, none⟩ : Addr).add j) = some u := by
  subst h
  exact news_of (heap_alloc_new w _)
theorem news_alloc_drew (w : World) (cs : Array Value) (e : TypeId) (g : Nat) (h : w.heap.size = g) : ∀ j u, cs.toList[j]? = some u → (w.alloc (.cells cs e)).drew.cell? ((⟨g, 0, none⟩ : Addr).add j) = some u := news_alloc w cs e g h

end Go.Proofs.Ytlmkpjdaoinmoaa
