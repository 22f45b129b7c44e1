/- Lists of texts: SameTexts, Records; the number of an error. -/
import Derived.Test.YtmlbcdofogffkabDQ
namespace Go.Proofs.Ytmlbcdofogffkab
open Go.RowKit
attribute [local go_sem ↓] Go.wp_at_zero Go.wp_at_succ
/-- v is a slice of these texts. -/
def Strs (w : World) (v : Value) (l : List ByteArray) : Prop :=
  ∃ ao cap, v = .slice ao l.length cap ∧ (l = [] ∨ ∃ b off, ao = some ⟨b, off, none⟩ ∧ ∀ i x, l[i]? = some x → w.cell? ⟨b, off + i, none⟩ = some (.string x))
theorem Strs.kept {w w' : World} {B : Nat} {v : Value} {l : List ByteArray} (h : Strs w v l) (hb : Below B w w') (hB : w.heap.size ≤ B) : Strs w' v l := by
  obtain ⟨ao, cap, rfl, h⟩ := h
  refine ⟨ao, cap, rfl, ?_⟩
  rcases h with h | ⟨b, off, rfl, h⟩
  · exact .inl h
  · exact .inr ⟨b, off, rfl, fun i x hx => by rw [hb.cell (Nat.lt_of_lt_of_le (World.block_lt_of_cell? w _ (h i x hx)) hB)]; exact h i x hx⟩
theorem Strs.of_owns {w : World} {v : Value} {l : List ByteArray} {base : Nat} (h : w.ownsRow base 9 1 v l.length (strs l)) : Strs w v l := by
  rcases h.2 with ⟨rfl, h0⟩ | ⟨g, cap, cur, rfl, _, hg, _⟩
  · have : l = [] := List.eq_nil_of_length_eq_zero h0
    subst this
    exact ⟨none, 0, rfl, .inl rfl⟩
  · refine ⟨some ⟨g, 0, none⟩, cap, rfl, .inr ⟨g, 0, rfl, fun i x hx => ?_⟩⟩
    have h3 := h.cells (g := g) rfl i (.string x) (by rw [strs, List.getElem?_map, hx]; rfl)
    have e : (⟨g, 0, none⟩ : Addr).add i = ⟨g, i, none⟩ := by unfold Addr.add; split <;> simp_all
    rw [e] at h3
    rw [Nat.zero_add]; exact h3
theorem Strs.at {w : World} {ao : Option Addr} {n cap : Nat} {l : List ByteArray} (h : Strs w (.slice ao n cap) l) {i : Nat} {x : ByteArray} (hx : l[i]? = some x) : ∃ b off, ao = some ⟨b, off, none⟩ ∧ w.cell? ⟨b, off + i, none⟩ = some (.string x) := by
  obtain ⟨ao', cap', q5, q6⟩ := h
  simp only [Value.slice.injEq] at q5
  obtain ⟨rfl, _, rfl⟩ := q5
  rcases q6 with q6 | ⟨b, off, rfl, q6⟩
  · rw [q6] at hx; simp at hx
  · exact ⟨b, off, rfl, q6 i x hx⟩
/-- Some answer; true, if both are the same. -/
def Same (A B : List ByteArray) (o : Ending) : Prop := ∃ b : Bool, o = .returned (.bool b) ∧ (A = B → b = true)
set_option maxRecDepth 100000 in
set_option maxHeartbeats 1000000 in
theorem sameTexts_any (A C : List ByteArray) (a c : Value) (w : World) (hA : A.length ≤ 1000000) (ha : Strs w a A) (hc : Strs w c C) :
    Calls Try.prog 50 #[a, c] w fun o w' => Same A C o ∧ Below w.heap.size w w' := by
  obtain ⟨aa, ca, rfl, _⟩ := id ha
  obtain ⟨ab, cb, rfl, _⟩ := id hc
  have HA := hide ha
  have HC := hide hc
  clear ha hc
  by_cases hlen : A.length = C.length
  · go_enter Try.func50, Try.ntmps50
    go_wp2_with fail
    go_loopw [5] (fun vi wx => ∃ i : Nat, i ≤ A.length ∧ vi = .int .i64 i ∧ Below w.heap.size w wx) (fun vi _ => A.length - (intOf vi).toNat)
    case atStart => exact ⟨0, Nat.zero_le _, rfl, Below.refl _ _⟩
    case round =>
      obtain ⟨i, hi, rfl, hBx⟩ := hrel
      by_cases hlt : i < A.length
      · obtain ⟨x, hx⟩ : ∃ x, A[i]? = some x := ⟨_, List.getElem?_eq_getElem hlt⟩
        obtain ⟨y, hy⟩ : ∃ y, C[i]? = some y := ⟨_, List.getElem?_eq_getElem (by omega)⟩
        obtain ⟨b1, o1, rfl, c1⟩ := (HA.out.kept hBx (Nat.le_refl _)).at hx
        obtain ⟨b2, o2, rfl, c2⟩ := (HC.out.kept hBx (Nat.le_refl _)).at hy
        have HXY : Hid (A = C → x = y) := fun e => by rw [e, hy] at hx; simpa using hx.symm
        have HBX := hide hBx
        clear hBx hx hy
        cases hl : x.toList == y.toList with
        | true =>
          go_wp2_with fail
          go_region_held3 (fun W' => W'.cell? ⟨b1, o1 + i, none⟩ = some (.string x) ∧ W'.cell? ⟨b2, o2 + i, none⟩ = some (.string y)) (go_keep) (fail)
          all_goals
            go_wp2_with fail
            go_roundw
            case rel => exact ⟨i + 1, by omega, by go_num, HBX.out.drew⟩
            case measure => simp [intOf]; omega
        | false =>
          have HNE : Hid (¬ A = C) := fun e => by have := HXY.out e; rw [this] at hl; simp at hl
          go_wp2_with fail
          go_region_held3 (fun W' => W'.cell? ⟨b1, o1 + i, none⟩ = some (.string x) ∧ W'.cell? ⟨b2, o2 + i, none⟩ = some (.string y)) (go_keep) (fail)
          all_goals
            go_wp2_with fail
            go_ret
            exact ⟨⟨_, rfl, fun e => absurd e HNE.out⟩, HBX.out.drew⟩
      · have HBX := hide hBx
        clear hBx
        go_wp2_with fail
        go_ret
        exact ⟨⟨_, rfl, fun _ => rfl⟩, HBX.out⟩
  · have HNE : Hid (¬ A = C) := fun e => hlen (by rw [e])
    have hb : ((A.length : Int) != C.length) = true := by simp; omega
    go_enter Try.func50, Try.ntmps50
    go_wp2_with fail
    go_ret
    exact ⟨⟨_, rfl, fun e => absurd e HNE.out⟩, Below.refl _ _⟩
theorem ta_errno (n : Int) (w : World) : (Instr.typeAssert (.iface 128 (.int .i64 n)) 31 128 true).run Try.prog w = .ok (.tuple #[.int .i64 n, .bool true]) w := by kernel_rfl
set_option maxRecDepth 100000 in
theorem number_err (n : Int) (w : World) : Calls Try.prog 16 #[.iface 128 (.int .i64 n)] w fun e w' => e = .returned (.int .i64 n) ∧ w' = w := by
  have hta := ta_errno n w
  go_enter Try.func16, Try.ntmps16
  go_wp2_with fail
  go_ret
  exact ⟨rfl, rfl⟩
end Go.Proofs.Ytmlbcdofogffkab
