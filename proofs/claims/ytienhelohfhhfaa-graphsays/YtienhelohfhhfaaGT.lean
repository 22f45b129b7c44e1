/- What GraphSays holds against each other: each call in a form that one walk can carry. -/
import Derived.Test.YtienhelohfhhfaaGS
namespace Go.Proofs.Ytienhelohfhhfaa
open Go.RowKit
attribute [local go_sem ↓] Go.wp_at_zero Go.wp_at_succ
open Gr (Ints Lists Bools hide cells On ofN lists onb D wave left Graf Got Rch)
namespace Gr
/-- An error, and its number. -/
def SameE (ev : Value) (f : Int) : Prop := (ev = .nilIface ∧ f = 0) ∨ (ev = .iface 68 (.int .i64 f) ∧ 0 < f)
def WV (N : Net) (n : Nat) (ev : Value) (L : List (List Int)) : Prop := ∃ k, Ends N n k ∧ ((left N n k = 0 ∧ ev = .nilIface ∧ L = (List.range k).map (fun j => ofN (wave N n j))) ∨ (left N n k ≠ 0 ∧ ev = .iface 68 (.int .i64 8) ∧ L = []))
def OV (N : Net) (n : Nat) (ev : Value) (O : List Int) : Prop := ∃ k, Ends N n k ∧ ((left N n k = 0 ∧ ev = .nilIface ∧ O = ofN (flat N n k)) ∨ (left N n k ≠ 0 ∧ ev = .iface 68 (.int .i64 8) ∧ O = []))
def RV (N : Net) (n : Nat) (f : Int) (L : List (List Int)) : Prop := ((∃ i, i < n ∧ D N n i = false) ∧ f = 8 ∧ L = []) ∨ ((∀ i, i < n → D N n i = true) ∧ f = 0 ∧ L = full N n n)
def FV (M : Net) (n : Nat) (lz : List Int) (ev : Value) (l : List Int) : Prop := ((∃ x ∈ lz, ¬ (0 ≤ x ∧ x < n)) ∧ ev = .iface 68 (.int .i64 1) ∧ l = []) ∨ ((∀ x ∈ lz, 0 ≤ x ∧ x < n) ∧ ev = .nilIface ∧ ∃ S, Got M S (lz.map Int.toNat) n ∧ l = ofN (nums S))
def FR (M : Net) (n : Nat) (lz : List Int) (f : Int) (l : List Int) : Prop := ((∃ x ∈ lz, ¬ (0 ≤ x ∧ x < n)) ∧ f = 1 ∧ l = []) ∨ ((∀ x ∈ lz, 0 ≤ x ∧ x < n) ∧ f = 0 ∧ ∃ S, Got M S (lz.map Int.toNat) n ∧ l = ofN (nums S))
theorem FV.same {M : Net} {n : Nat} {lz l l' : List Int} {ev : Value} {f : Int} (h : FV M n lz ev l) (g : FR M n lz f l') : SameE ev f ∧ l = l' := by
  rcases h with ⟨⟨x, hx, hb⟩, rfl, rfl⟩ | ⟨ho, rfl, S, hS, rfl⟩
  · rcases g with ⟨_, rfl, rfl⟩ | ⟨ho, _⟩
    · exact ⟨.inr ⟨rfl, by decide⟩, rfl⟩
    · exact absurd (ho x hx) hb
  · rcases g with ⟨⟨x, hx, hb⟩, _⟩ | ⟨_, rfl, T, hT, rfl⟩
    · exact absurd (ho x hx) hb
    · exact ⟨.inl ⟨rfl, rfl⟩, by rw [hS.same hT]⟩
theorem FV.len {M : Net} {n : Nat} {lz l : List Int} {ev : Value} (h : FV M n lz ev l) : l.length ≤ n := by
  rcases h with ⟨_, _, rfl⟩ | ⟨_, _, S, hS, rfl⟩
  · simp
  · rw [ofN_length]
    have h1 := List.length_filter_le (fun i => S[i]? == some true) (List.range S.length)
    rw [List.length_range] at h1
    have := hS.len
    unfold nums
    omega
theorem D_congr {N M : Net} {n : Nat} (hN : ∀ i, i < n → ∀ j ∈ N i, j < n) (h : ∀ i, i < n → ∀ j, j ∈ N i ↔ j ∈ M i) : ∀ k i, i < n → D N k i = D M k i
  | 0, _, _ => rfl
  | k + 1, i, hi => by
    rw [D_succ, D_succ]
    apply Bool.eq_iff_iff.2
    rw [List.all_eq_true, List.all_eq_true]
    constructor
    · intro a j hj
      have hj' := (h i hi j).2 hj
      rw [← D_congr hN h k j (hN i hi j hj')]; exact a j hj'
    · intro a j hj
      rw [D_congr hN h k j (hN i hi j hj)]; exact a j ((h i hi j).1 hj)
theorem wave_congr {N M : Net} {n : Nat} (hN : ∀ i, i < n → ∀ j ∈ N i, j < n) (h : ∀ i, i < n → ∀ j, j ∈ N i ↔ j ∈ M i) (k : Nat) : wave N n k = wave M n k := by
  unfold wave
  apply List.filter_congr
  intro i hi
  rw [List.mem_range] at hi
  rw [D_congr hN h k i hi, D_congr hN h (k + 1) i hi]
theorem ends_unique {N : Net} {n k m : Nat} (h : Ends N n k) (g : Ends N n m) : k = m := by
  have key : ∀ {k m : Nat}, Ends N n k → Ends N n m → ¬ k < m := by
    intro k m h g hlt
    have h1 := g.1 k hlt
    rcases h.2 with h2 | ⟨_, h2⟩
    · have := left_split N n k
      exact h1 (List.eq_nil_of_length_eq_zero (by omega))
    · exact h1 h2
  have a := key h g
  have b := key g h
  omega
theorem all_same {N M : Net} {n : Nat} (hN : ∀ i, i < n → ∀ j ∈ N i, j < n) (hc : ∀ i, i < n → ∀ j, j ∈ N i ↔ j ∈ M i) {ev ev2 : Value} {f : Int} {L L' : List (List Int)} {O : List Int}
    (h : WV N n ev L) (g : RV M n f L') (o : OV N n ev2 O) : SameE ev f ∧ SameE ev2 f ∧ L' = L ∧ O = L.flatten ∧ (∀ l ∈ L, l ≠ [] ∧ l.length ≤ n) ∧ L.length ≤ n ∧ tot L ≤ n := by
  obtain ⟨k, hk, h⟩ := h
  obtain ⟨m, hm, o⟩ := o
  obtain rfl := ends_unique hk hm
  have hall := ends_all N n k hN hk
  rcases h with ⟨h0, rfl, rfl⟩ | ⟨h0, rfl, rfl⟩
  · rcases o with ⟨_, rfl, rfl⟩ | ⟨h1, _⟩
    · rcases g with ⟨⟨i, hi, hd⟩, _⟩ | ⟨_, rfl, rfl⟩
      · have := hall.1 h0 i hi
        rw [D_congr hN hc n i hi, hd] at this
        exact absurd this (by decide)
      · refine ⟨.inl ⟨rfl, rfl⟩, .inl ⟨rfl, rfl⟩, ?_, (flat_of N n k).symm, ?_, ?_, ?_⟩
        · unfold full
          rw [show (List.range n).map (wave M n) = (List.range n).map (wave N n) from List.map_congr_left (fun j _ => (wave_congr hN hc j).symm), waves_some N n k hk h0, List.map_map]
          rfl
        · intro l hl
          obtain ⟨j, hj, rfl⟩ := List.mem_map.1 hl
          refine ⟨?_, ?_⟩
          · have := hk.1 j (List.mem_range.1 hj)
            unfold ofN
            simpa using this
          · rw [ofN_length]
            have := List.length_filter_le (fun i => !D N j i && D N (j + 1) i) (List.range n)
            rw [List.length_range] at this
            exact this
        · rw [List.length_map, List.length_range]; exact ends_le N n k hk
        · rw [← tot_flat, flat_of, ofN_length]
          have := length_flat N n k
          omega
    · exact absurd h0 h1
  · rcases o with ⟨h1, _⟩ | ⟨_, rfl, rfl⟩
    · exact absurd h1 h0
    · rcases g with ⟨_, rfl, rfl⟩ | ⟨ha, _⟩
      · exact ⟨.inr ⟨rfl, by decide⟩, .inr ⟨rfl, by decide⟩, rfl, rfl, fun l hl => by simp at hl, by simp, by simp [tot]⟩
      · exact absurd (hall.2 (fun i hi => by rw [D_congr hN hc n i hi]; exact ha i hi)) h0
end Gr
theorem same_ok (ev : Value) (f : Int) (w : World) (h : Gr.SameE ev f) : Calls Try.prog 11 #[ev, .int .i64 f] w fun e w' => e = .returned (.bool true) ∧ w' = w := by
  rcases h with ⟨rfl, rfl⟩ | ⟨rfl, h⟩
  · exact same_nil 0 w
  · refine (same_err f f w).mono ?_
    rintro e w' ⟨rfl, hw⟩
    exact ⟨by simp [h], hw⟩
theorem waves_v (N : Gr.Net) (n b : Nat) (LU : List (List Int)) (w : World) (hn : n ≤ 1000) (hG : Graf w b (lists N n) LU)
    (hN : ∀ i, i < n → ∀ j ∈ N i, j < n) (hl : ∀ i, i < n → (N i).length ≤ 1000) :
    Calls Try.prog 17 #[.pointer (some ⟨b, 0, none⟩)] w fun e w' => (∃ v ev L, e = .returned (.tuple #[v, ev]) ∧ Lists w' v L ∧ Gr.WV N n ev L) ∧ Below w.heap.size w w' := by
  refine (waves_any N n b LU w hn hG hN hl).mono ?_
  rintro e w' ⟨⟨k, hk, h⟩, hB⟩
  rcases h with ⟨h0, v, rfl, hL⟩ | ⟨h0, rfl⟩
  · exact ⟨⟨v, _, _, rfl, hL, k, hk, .inl ⟨h0, rfl, rfl⟩⟩, hB⟩
  · exact ⟨⟨_, _, [], rfl, ⟨none, 0, rfl, .inl rfl⟩, k, hk, .inr ⟨h0, rfl, rfl⟩⟩, hB⟩
theorem order_v (N : Gr.Net) (n b : Nat) (LU : List (List Int)) (w : World) (hn : n ≤ 1000) (hG : Graf w b (lists N n) LU)
    (hN : ∀ i, i < n → ∀ j ∈ N i, j < n) (hl : ∀ i, i < n → (N i).length ≤ 1000) :
    Calls Try.prog 19 #[.pointer (some ⟨b, 0, none⟩)] w fun e w' => (∃ v ev O, e = .returned (.tuple #[v, ev]) ∧ Ints w' v O ∧ Gr.OV N n ev O) ∧ Below w.heap.size w w' := by
  refine (order_any N n b LU w hn hG hN hl).mono ?_
  rintro e w' ⟨⟨k, hk, h⟩, hB⟩
  rcases h with ⟨h0, v, rfl, hL⟩ | ⟨h0, v, rfl, hL⟩
  · exact ⟨⟨v, _, _, rfl, hL, k, hk, .inl ⟨h0, rfl, rfl⟩⟩, hB⟩
  · exact ⟨⟨_, _, [], rfl, hL, k, hk, .inr ⟨h0, rfl, rfl⟩⟩, hB⟩
theorem wavesR_v (NZ : List (List Int)) (n : Nat) (nv : Value) (w : World) (hn0 : NZ.length = n) (hn : n ≤ 100) (hL : Lists w nv NZ)
    (hrl : ∀ a, a < n → (Gr.row NZ a).length ≤ 1000) (hok : ∀ a, a < n → ∀ x ∈ Gr.row NZ a, 0 ≤ x ∧ x < n) :
    Calls Try.prog 18 #[nv] w fun e w' => (∃ v f L, e = .returned (.tuple #[v, .int .i64 f]) ∧ Lists w' v L ∧ Gr.RV (Gr.netOf NZ) n f L) ∧ Below w.heap.size w w' := by
  refine (wavesR_any NZ n nv w hn0 hn hL hrl hok).mono ?_
  rintro e w' ⟨h, hB⟩
  rcases h with ⟨h0, rfl⟩ | ⟨h0, v, rfl, hv⟩
  · exact ⟨⟨_, _, [], rfl, ⟨none, 0, rfl, .inl rfl⟩, .inl ⟨h0, rfl, rfl⟩⟩, hB⟩
  · exact ⟨⟨v, _, _, rfl, hv, .inr ⟨h0, rfl, rfl⟩⟩, hB⟩
theorem found_v {f : Nat} {args : Array Value} {M : Gr.Net} {n : Nat} {lz : List Int} {w : World} (h : Calls Try.prog f args w (Gr.Found M n lz w)) :
    Calls Try.prog f args w fun e w' => (∃ v ev l, e = .returned (.tuple #[v, ev]) ∧ Ints w' v l ∧ Gr.FV M n lz ev l) ∧ Below w.heap.size w w' := by
  refine h.mono ?_
  rintro e w' ⟨h, hB⟩
  rcases h with ⟨h0, rfl⟩ | ⟨h0, S, v, hS, rfl, hv⟩
  · exact ⟨⟨_, _, [], rfl, ⟨none, 0, rfl, .inl rfl⟩, .inl ⟨h0, rfl, rfl⟩⟩, hB⟩
  · exact ⟨⟨v, _, _, rfl, hv, .inr ⟨h0, rfl, S, hS, rfl⟩⟩, hB⟩
theorem foundR_v {f : Nat} {args : Array Value} {M : Gr.Net} {n : Nat} {lz : List Int} {w : World} (h : Calls Try.prog f args w (Gr.FoundR M n lz w)) :
    Calls Try.prog f args w fun e w' => (∃ v g l, e = .returned (.tuple #[v, .int .i64 g]) ∧ Ints w' v l ∧ Gr.FR M n lz g l) ∧ Below w.heap.size w w' := by
  refine h.mono ?_
  rintro e w' ⟨h, hB⟩
  rcases h with ⟨h0, rfl⟩ | ⟨h0, S, v, hS, rfl, hv⟩
  · exact ⟨⟨_, _, [], rfl, ⟨none, 0, rfl, .inl rfl⟩, .inl ⟨h0, rfl, rfl⟩⟩, hB⟩
  · exact ⟨⟨v, _, _, rfl, hv, .inr ⟨h0, rfl, S, hS, rfl⟩⟩, hB⟩
theorem ways_under {NZ : List (List Int)} {n : Nat} {N U : Gr.Net} (h : Gr.Net2 NZ n N U) (hok : ∀ a, a < n → ∀ x ∈ Gr.row NZ a, 0 ≤ x ∧ x < n) : Gr.Ways2 (Gr.netOf NZ) n false N := by
  intro b c hb
  rw [← Gr.mem_row h hok hb c]
  constructor
  · intro hc
    obtain ⟨k, hk, e⟩ := List.getElem_of_mem hc
    exact ⟨b, k, c, hb, by show ((Gr.row NZ b).map Int.toNat)[k]? = _; rw [List.getElem?_eq_getElem hk, e], rfl, rfl⟩
  · rintro ⟨i, k, d, _, hd, e1, e2⟩
    have e1' : b = i := e1
    have e2' : c = d := e2
    subst e1' e2'
    exact List.mem_of_getElem? hd
theorem ways_over {NZ : List (List Int)} {n : Nat} {N U : Gr.Net} (h : Gr.Net2 NZ n N U) (hok : ∀ a, a < n → ∀ x ∈ Gr.row NZ a, 0 ≤ x ∧ x < n) : Gr.Ways2 (Gr.netOf NZ) n true U := by
  intro b c hb
  rw [h.mu b hb c]
  constructor
  · rintro ⟨hc, hm⟩
    rw [← Gr.mem_row h hok hc b] at hm
    obtain ⟨k, hk, e⟩ := List.getElem_of_mem hm
    exact ⟨c, k, b, hc, by show ((Gr.row NZ c).map Int.toNat)[k]? = _; rw [List.getElem?_eq_getElem hk, e], rfl, rfl⟩
  · rintro ⟨i, k, d, hi, hd, e1, e2⟩
    have e1' : b = d := e1
    have e2' : c = i := e2
    subst e1' e2'
    exact ⟨hi, (Gr.mem_row h hok hi b).1 (List.mem_of_getElem? hd)⟩
/-- The closed lists [[1], nil]. -/
theorem two_lists (w : World) : Lists ((w.alloc (.cells #[.int .i64 1] 3)).alloc (.cells #[.slice (some ⟨w.heap.size, 0, none⟩) 1 1, .slice none 0 0] 37)) (.slice (some ⟨w.heap.size + 1, 0, none⟩) 2 2) [[1], []] := by
  refine ⟨_, _, rfl, .inr ⟨w.heap.size + 1, 0, rfl, fun i l hl => ?_⟩⟩
  have hh : ((w.alloc (.cells #[.int .i64 1] 3)).alloc (.cells #[.slice (some ⟨w.heap.size, 0, none⟩) 1 1, .slice none 0 0] 37)).heap[w.heap.size + 1]? = some (.cells [.slice (some ⟨w.heap.size, 0, none⟩) 1 1, .slice none 0 0].toArray 37 (0, 0)) := by
    rw [show w.heap.size + 1 = (w.alloc (.cells #[.int .i64 1] 3)).heap.size by simp, heap_alloc_new]
  rw [Nat.zero_add]
  match i, hl with
  | 0, hl =>
    cases hl
    refine ⟨.slice (some ⟨w.heap.size, 0, none⟩) 1 1, Gr.row_cell hh rfl, _, _, rfl, .inr ⟨w.heap.size, 0, rfl, fun j x hx => ?_⟩⟩
    have hj : j = 0 := by have := (List.getElem?_eq_some_iff.1 hx).1; simp at this; exact this
    subst hj
    cases hx
    refine cell_of_one (t := 3) ?_
    rw [heap_alloc_old _ _ (by simp), heap_alloc_new]
  | 1, hl =>
    cases hl
    exact ⟨.slice none 0 0, Gr.row_cell hh rfl, none, 0, rfl, .inl rfl⟩
  | i + 2, hl => simp at hl
theorem two_order (N U : Gr.Net) (h : Gr.Net2 [[1], []] 2 N U) (ev : Value) (O : List Int) (o : Gr.OV N 2 ev O) : ev = .nilIface ∧ O = [1, 0] := by
  have m0 : ∀ j, j ∈ N 0 ↔ j = 1 := by intro j; rw [h.mn 0 (by omega) j]; simp [Gr.row]; omega
  have m1 : ∀ j, j ∉ N 1 := by intro j; rw [h.mn 1 (by omega) j]; simp [Gr.row]
  have hN1 : N 1 = [] := List.eq_nil_iff_forall_not_mem.2 m1
  have d11 : ∀ k, D N (k + 1) 1 = true := by intro k; rw [Gr.D_succ, hN1]; rfl
  have d10 : D N 1 0 = false := by
    rw [Gr.D_succ, List.all_eq_false]; exact ⟨1, (m0 1).2 rfl, by simp [D]⟩
  have d20 : D N 2 0 = true := by
    rw [Gr.D_succ, List.all_eq_true]
    intro j hj
    rw [(m0 j).1 hj]; exact d11 0
  have hw0 : wave N 2 0 = [1] := by
    unfold wave
    rw [show List.range 2 = [0, 1] from rfl]
    simp [d10, show D N 1 1 = true from d11 0, show ∀ i, D N 0 i = false from fun _ => rfl]
  have hw1 : wave N 2 1 = [0] := by
    unfold wave
    rw [show List.range 2 = [0, 1] from rfl]
    simp [d10, show D N 1 1 = true from d11 0, d20]
  have hall : ∀ i, i < 2 → D N 2 i = true := by
    intro i hi
    rcases (show i = 0 ∨ i = 1 by omega) with rfl | rfl
    · exact d20
    · exact d11 1
  obtain ⟨k, hk, o⟩ := o
  have hl0 := (Gr.ends_all N 2 k h.bn hk).2 hall
  rcases o with ⟨_, rfl, rfl⟩ | ⟨h1, _⟩
  · refine ⟨rfl, ?_⟩
    have hk2 := Gr.ends_le N 2 k hk
    have hk1 : k ≠ 0 ∧ k ≠ 1 := by
      constructor
      · rintro rfl; rw [Gr.left_zero] at hl0; omega
      · rintro rfl
        have := Gr.left_done N 2 1 hl0 0 (by omega)
        rw [d10] at this
        exact absurd this (by decide)
    obtain rfl : k = 2 := by omega
    rw [Gr.flat_succ, Gr.flat_succ, hw0, hw1]
    rfl
  · exact absurd hl0 h1
end Go.Proofs.Ytienhelohfhhfaa
