/- value.Check, and the document's own shaped and Fault. -/
import Derived.Test.YtienhelohfhhfaaVG
namespace Go.Proofs.Ytienhelohfhhfaa.Vx
open Go.RowKit
namespace V
/-- The number of what is wrong with a value (0: nothing). -/
def fault (m : Nat) (v : Val) : Nat := if 60 < parts m v ∨ 6 < deep m v then 2 else if shaped m v then 0 else 3
/-- An error by its number. -/
def errOf (n : Nat) : Value := if n = 0 then .nilIface else .iface 68 (.int .i64 n)
theorem rise_nil : rise [] = true := rfl
theorem shaped_ref (m : Nat) (v : Val) : shaped (m + 1) v = (v.l.all (shaped m) && (v.f.all (fun x => shaped m x.2) && rise v.f) && (spare v.kind v.n v.s v.l.length v.f.length && fits v.kind v.n v.s true)) := by
  rw [shaped]
  cases hr : rise v.f
  · have hne : v.f.length ≠ 0 := by
      intro h0
      rw [List.length_eq_zero_iff.1 h0, rise_nil] at hr
      exact absurd hr (by decide)
    have : (spare v.kind v.n v.s v.l.length v.f.length && fits v.kind v.n v.s false) = false := by
      unfold spare fits
      rw [← Bool.not_eq_true]
      simp only [Bool.and_eq_true, decide_eq_true_eq, Bool.false_eq_true, and_false, or_false]
      rintro ⟨⟨_, _, _, h4⟩, h5⟩
      omega
    rw [this]; simp
  · simp only [Bool.and_true]
    rw [Bool.and_comm]
end V
theorem ret_val {a b : Value} (h : a = b) : Ending.returned a = .returned b := by rw [h]
set_option maxRecDepth 100000 in
set_option maxHeartbeats 1600000 in
theorem check_any (m : Nat) (w : World) (v : Val) (c0 c1 c2 c3 c4 : Value) (h : V.Mem m w v [c0, c1, c2, c3, c4]) (hbk : V.bulk m v ≤ 2000000) :
    Calls Try.prog 95 #[.agg #[c0, c1, c2, c3, c4]] w fun e w' => e = .returned (V.errOf (V.fault m v)) ∧ Below w.heap.size w w' := by
  have hbL : Below w.heap.size w (w.alloc (.cells #[c0, c1, c2, c3, c4] 99)) := (Below.refl _ _).alloc (Nat.le_refl _) _
  have hblk0 : (w.alloc (.cells #[c0, c1, c2, c3, c4] 99)).heap[w.heap.size]? = some (.cells #[c0, c1, c2, c3, c4] 99 (0, 0)) := heap_alloc_new _ _
  have HM : Hid _ := h
  clear h
  have hleft := V.room_left m v 1 60 (by decide)
  go_enter Try.func95, Try.ntmps95
  go_wp2_with fail
  refine (roomLeft_any m _ v c0 c1 c2 c3 c4 1 60 (V.Mem.kept m HM.out hbL) hbk (by decide) (by decide) (by decide) (by decide)).mono ?_
  rintro e w1 ⟨rfl, hb1⟩
  have hlt1 : w.heap.size < (w.alloc (.cells #[c0, c1, c2, c3, c4] 99)).heap.size := (Array.getElem?_eq_some_iff.1 hblk0).1
  have hblk1 := (hb1.block w.heap.size hlt1).trans hblk0
  have hB1 := hbL.trans (hb1.mono hbL.size)
  clear hb1 hbL hblk0 hlt1
  generalize V.room m v 1 60 = rr at *
  by_cases hr : rr < 0
  · have E : Hid (V.fault m v = 2) := by
      show _ = _
      rw [V.fault, if_pos]
      by_cases hc : (V.deep m v : Int) + 1 ≤ 7 ∧ (V.parts m v : Int) ≤ 60
      · have := hleft.1 hc; omega
      · omega
    clear hleft
    go_wp2_with fail
    go_ret
    exact ⟨ret_val (by rw [E.out]; rfl), hB1⟩
  · have hF : V.fault m v = if V.shaped m v then 0 else 3 := by
      rw [V.fault, if_neg]
      by_cases hc : (V.deep m v : Int) + 1 ≤ 7 ∧ (V.parts m v : Int) ≤ 60
      · omega
      · have := hleft.2 hc; omega
    have HF : Hid _ := hF
    clear hF hleft
    have b0 := cell_of_block hblk1 0 _ rfl
    have b1 := cell_of_block hblk1 1 _ rfl
    have b2 := cell_of_block hblk1 2 _ rfl
    have b3 := cell_of_block hblk1 3 _ rfl
    have b4 := cell_of_block hblk1 4 _ rfl
    go_wp2_with fail
    refine (shaped_any m _ v c0 c1 c2 c3 c4 (V.Mem.kept m HM.out hB1) hbk).mono ?_
    rintro e w2 ⟨rfl, hb2⟩
    have hB2 := hB1.trans (hb2.mono hB1.size)
    generalize V.shaped m v = sh at *
    cases sh
    · go_wp2_with fail
      go_ret
      exact ⟨ret_val (by rw [HF.out]; rfl), hB2⟩
    · go_wp2_with fail
      go_ret
      exact ⟨ret_val (by rw [HF.out]; rfl), hB2⟩
end Go.Proofs.Ytienhelohfhhfaa.Vx
