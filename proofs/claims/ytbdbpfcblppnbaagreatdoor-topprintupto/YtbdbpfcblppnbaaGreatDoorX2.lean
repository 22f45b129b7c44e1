/- Stacks in memory; lang.checkResource. -/
import Derived.Test.YtbdbpfcblppnbaaGreatDoorX1
namespace Go.Proofs.YtbdbpfcblppnbaaGreatDoor.Vx
open Go.RowKit
namespace X
/-- lang.contentFits. -/
def fits (m : Nat) (e : Ex) : Bool :=
 decide ((e.kind = 1 ∧ plain (m + 1) e.v = true ∧ e.a.length = 0) ∨ (e.kind = 2 ∧ V.name (V.bl e.s) = true ∧ e.a.length = 0) ∨ ((e.kind = 3 ∨ e.kind = 4) ∧ V.name (V.bl e.s) = true ∧ V.name (V.bl e.t) = true ∧ e.a.length = 0) ∨
  ((e.kind = 5 ∨ e.kind = 6) ∧ e.a.length = 2) ∨ (e.kind = 7 ∧ e.a.length = 3) ∨ e.kind = 8 ∨ (e.kind = 9 ∧ e.a.length = e.n.length ∧ V.rise (pairs e.n) = true) ∨ (e.kind = 10 ∧ V.name (V.bl e.s) = true ∧ e.a.length = 1))
end X
set_option maxRecDepth 100000 in
set_option maxHeartbeats 3200000 in
theorem xfits_any (m : Nat) (w : World) (e : Ex) (c0 c1 c2 c3 c4 : Value) (aa an : Option Addr) (ca cn : Nat) (hv : V.Mem (m + 1) w e.v [c0, c1, c2, c3, c4]) (hbk : V.bulk (m + 1) e.v ≤ 2000000)
  (hn : V.Row w (.slice an e.n.length cn) e.n.length 1 (fun i c => ∃ x, e.n[i]? = some x ∧ c = [.string x])) (hns : ∀ x ∈ e.n, x.size ≤ 2000000) (hnl : e.n.length ≤ 2000000) (hss : e.s.size ≤ 2000000) (hts : e.t.size ≤ 2000000) :
  Calls Tryz.prog 89 #[.agg #[.int .i64 e.kind, c0, c1, c2, c3, c4, .string e.s, .string e.t, .slice aa e.a.length ca, .slice an e.n.length cn]] w fun o w' => o = .returned (.bool (X.fits m e)) ∧ Below w.heap.size w w' := by
 have hb0 := fun (k : Int) => (Below.refl w.heap.size w).alloc (Nat.le_refl _) (.cells #[.int .i64 k, c0, c1, c2, c3, c4, .string e.s, .string e.t, .slice aa e.a.length ca, .slice an e.n.length cn] 57)
 have hpl := fun (k : Int) => plain_any m (w.alloc (.cells #[.int .i64 k, c0, c1, c2, c3, c4, .string e.s, .string e.t, .slice aa e.a.length ca, .slice an e.n.length cn] 57)) e.v c0 c1 c2 c3 c4 (V.Mem.kept _ hv (hb0 k)) hbk
 have hnr := fun (k : Int) => xnamesRise_any (w.alloc (.cells #[.int .i64 k, c0, c1, c2, c3, c4, .string e.s, .string e.t, .slice aa e.a.length ca, .slice an e.n.length cn] 57)) (.slice an e.n.length cn) e.n (hn.kept (hb0 k) (fun _ _ h => h)) hns hnl
 have hm1 : e.s.size ≤ maxLen := by unfold maxLen; omega
 have hm2 : e.t.size ≤ maxLen := by unfold maxLen; omega
 have hN1 := fun w => name_any e.s w hm1
 have hN2 := fun w => name_any e.t w hm2
 obtain ⟨lv, fv, hcs, hl, hf⟩ := id hv
 simp only [List.cons.injEq, and_true] at hcs
 obtain ⟨rfl, rfl, rfl, rfl, rfl⟩ := hcs
 have hE : X.fits m e = decide ((e.kind = 1 ∧ X.plain (m + 1) e.v = true ∧ e.a.length = 0) ∨ (e.kind = 2 ∧ V.name (V.bl e.s) = true ∧ e.a.length = 0) ∨ ((e.kind = 3 ∨ e.kind = 4) ∧ V.name (V.bl e.s) = true ∧ V.name (V.bl e.t) = true ∧ e.a.length = 0) ∨
  ((e.kind = 5 ∨ e.kind = 6) ∧ e.a.length = 2) ∨ (e.kind = 7 ∧ e.a.length = 3) ∨ e.kind = 8 ∨ (e.kind = 9 ∧ e.a.length = e.n.length ∧ V.rise (X.pairs e.n) = true) ∨ (e.kind = 10 ∧ V.name (V.bl e.s) = true ∧ e.a.length = 1)) := rfl
 generalize X.fits m e = R at *
 generalize X.plain (m + 1) e.v = PL at *
 generalize V.rise (X.pairs e.n) = RI at *
 generalize V.name (V.bl e.s) = NS at *
 generalize V.name (V.bl e.t) = NT at *
 have HPL := hide hpl
 have HNR := hide hnr
 have HN1 := hide hN1
 have HN2 := hide hN2
 have HE := hide hE
 clear hpl hnr hN1 hN2 hE hv hl hf hbk hn hns hb0 hm1 hm2 hss hts
 generalize e.kind = k at *
 generalize e.n.length = nl at *
 generalize e.a.length = nA at *
 have hk : k = 1 ∨ k = 2 ∨ k = 3 ∨ k = 4 ∨ k = 5 ∨ k = 6 ∨ k = 7 ∨ k = 8 ∨ k = 9 ∨ k = 10 ∨ (k ≠ 1 ∧ k ≠ 2 ∧ k ≠ 3 ∧ k ≠ 4 ∧ k ≠ 5 ∧ k ≠ 6 ∧ k ≠ 7 ∧ k ≠ 8 ∧ k ≠ 9 ∧ k ≠ 10) := by omega
 rcases hk with rfl | rfl | rfl | rfl | rfl | rfl | rfl | rfl | rfl | rfl | ⟨k1, k2, k3, k4, k5, k6, k7, k8, k9, k10⟩
 ·cases PL
  all_goals
   go_enter Tryz.func89, Tryz.ntmps89
   go_wp2_with (go_at_call 33; refine (HPL.out _).mono ?_; rintro o w1 ⟨rfl, hb1⟩; have hblk1 := (hb1.block w.heap.size (lt_alloc w _)).trans (heap_alloc_new w _); have g8 := cell_of_block hblk1 8 _ rfl; clear hblk1)
   all_goals go_ret
   all_goals refine ⟨ret_bool ?_, ((Below.refl _ w).alloc (Nat.le_refl _) _).trans (hb1.mono (by simp))⟩
   all_goals rw [HE.out]
   all_goals simp
   all_goals try (rw [Bool.eq_iff_iff, beq_iff_eq, decide_eq_true_eq]; omega)
 ·cases NS
  all_goals
   go_enter Tryz.func89, Tryz.ntmps89
   go_wp2_with (go_at_call 32; refine (HN1.out _).mono ?_; rintro o w1 ⟨rfl, hw⟩; rw [hw]; clear hw w1)
   all_goals go_ret
   all_goals refine ⟨ret_bool ?_, (Below.refl _ _).alloc (Nat.le_refl _) _⟩
   all_goals rw [HE.out]
   all_goals simp
   all_goals try (rw [Bool.eq_iff_iff, beq_iff_eq, decide_eq_true_eq]; omega)
 ·cases NS
  all_goals cases NT
  all_goals
   go_enter Tryz.func89, Tryz.ntmps89
   go_wp2_with (first | (go_at_call 32; with_reducible refine (HN1.out _).mono ?_; rintro o w1 ⟨rfl, hw⟩; rw [hw]; clear hw w1) | (go_at_call 32; with_reducible refine (HN2.out _).mono ?_; rintro o w1 ⟨rfl, hw⟩; rw [hw]; clear hw w1))
   all_goals go_ret
   all_goals refine ⟨ret_bool ?_, (Below.refl _ _).alloc (Nat.le_refl _) _⟩
   all_goals rw [HE.out]
   all_goals simp
   all_goals try (rw [Bool.eq_iff_iff, beq_iff_eq, decide_eq_true_eq]; omega)
 ·cases NS
  all_goals cases NT
  all_goals
   go_enter Tryz.func89, Tryz.ntmps89
   go_wp2_with (first | (go_at_call 32; with_reducible refine (HN1.out _).mono ?_; rintro o w1 ⟨rfl, hw⟩; rw [hw]; clear hw w1) | (go_at_call 32; with_reducible refine (HN2.out _).mono ?_; rintro o w1 ⟨rfl, hw⟩; rw [hw]; clear hw w1))
   all_goals go_ret
   all_goals refine ⟨ret_bool ?_, (Below.refl _ _).alloc (Nat.le_refl _) _⟩
   all_goals rw [HE.out]
   all_goals simp
   all_goals try (rw [Bool.eq_iff_iff, beq_iff_eq, decide_eq_true_eq]; omega)
 ·go_enter Tryz.func89, Tryz.ntmps89
  go_wp2_with fail
  all_goals go_ret
  all_goals refine ⟨ret_bool ?_, (Below.refl _ _).alloc (Nat.le_refl _) _⟩
  all_goals rw [HE.out]
  all_goals simp
  all_goals try (rw [Bool.eq_iff_iff, beq_iff_eq, decide_eq_true_eq]; omega)
 ·go_enter Tryz.func89, Tryz.ntmps89
  go_wp2_with fail
  all_goals go_ret
  all_goals refine ⟨ret_bool ?_, (Below.refl _ _).alloc (Nat.le_refl _) _⟩
  all_goals rw [HE.out]
  all_goals simp
  all_goals try (rw [Bool.eq_iff_iff, beq_iff_eq, decide_eq_true_eq]; omega)
 ·go_enter Tryz.func89, Tryz.ntmps89
  go_wp2_with fail
  all_goals go_ret
  all_goals refine ⟨ret_bool ?_, (Below.refl _ _).alloc (Nat.le_refl _) _⟩
  all_goals rw [HE.out]
  all_goals simp
  all_goals try (rw [Bool.eq_iff_iff, beq_iff_eq, decide_eq_true_eq]; omega)
 ·go_enter Tryz.func89, Tryz.ntmps89
  go_wp2_with fail
  all_goals go_ret
  all_goals refine ⟨ret_bool ?_, (Below.refl _ _).alloc (Nat.le_refl _) _⟩
  all_goals rw [HE.out]
  all_goals simp
 ·cases RI
  all_goals
   go_enter Tryz.func89, Tryz.ntmps89
   go_wp2_with (go_at_call 107; refine (HNR.out _).mono ?_; rintro o w1 ⟨rfl, n1, rfl⟩)
   all_goals go_ret
   all_goals refine ⟨ret_bool ?_, by first | exact (Below.refl _ _).alloc (Nat.le_refl _) _ | exact below_drewN ((Below.refl _ _).alloc (Nat.le_refl _) _) _⟩
   all_goals rw [HE.out]
   all_goals simp
   all_goals try (first | omega | (rw [Bool.eq_iff_iff, beq_iff_eq, decide_eq_true_eq]; omega))
 ·cases NS
  all_goals
   go_enter Tryz.func89, Tryz.ntmps89
   go_wp2_with (go_at_call 32; refine (HN1.out _).mono ?_; rintro o w1 ⟨rfl, hw⟩; rw [hw]; clear hw w1)
   all_goals go_ret
   all_goals refine ⟨ret_bool ?_, (Below.refl _ _).alloc (Nat.le_refl _) _⟩
   all_goals rw [HE.out]
   all_goals simp
   all_goals try (rw [Bool.eq_iff_iff, beq_iff_eq, decide_eq_true_eq]; omega)
 ·go_enter Tryz.func89, Tryz.ntmps89
  go_wp2_with fail
  all_goals go_ret
  all_goals refine ⟨ret_bool ?_, (Below.refl _ _).alloc (Nat.le_refl _) _⟩
  all_goals rw [HE.out]
  all_goals simp [k1, k2, k3, k4, k5, k6, k7, k8, k9, k10]
namespace X
/-- lang.shaped. -/
def shaped (sm : Val → Val → Bool) : Nat → Ex → Bool
 | 0, _ => true
 | m + 1, e => spare sm e && fits m e && e.a.all (shaped sm m)
/-- lang.Check: an error's number. -/
def fault (sm : Val → Val → Bool) (m : Nat) (e : Ex) : Nat := if room m e 1 60 < 0 then 2 else if shaped sm m e then 0 else 3
theorem errOf_zero : V.errOf 0 = .nilIface := rfl
end X
set_option maxRecDepth 100000 in
set_option maxHeartbeats 3200000 in
theorem xshaped_any (sm : Val → Val → Bool) (hsm : V.Says sm) (m : Nat) : ∀ (w : World) (e : Ex) (d0 d1 d2 d3 d4 d5 d6 d7 d8 d9 : Value), X.Mem m w e [d0, d1, d2, d3, d4, d5, d6, d7, d8, d9] → X.bulk m e ≤ 2000000 →
  Calls Tryz.prog 68 #[.agg #[d0, d1, d2, d3, d4, d5, d6, d7, d8, d9]] w fun o w' => o = .returned (.bool (X.shaped sm m e)) ∧ Below w.heap.size w w' := by
 induction m with
 | zero => intro w e d0 d1 d2 d3 d4 d5 d6 d7 d8 d9 h; exact h.elim
 | succ m ih =>
  intro w e d0 d1 d2 d3 d4 d5 d6 d7 d8 d9 ⟨c0, c1, c2, c3, c4, av, nv, hcs, hv, ha, hn⟩ hbk
  simp only [List.cons.injEq, and_true] at hcs
  obtain ⟨rfl, rfl, rfl, rfl, rfl, rfl, rfl, rfl, rfl, rfl⟩ := hcs
  obtain ⟨aa, ca, rfl⟩ := ha.shape
  obtain ⟨an, cn, rfl⟩ := hn.shape
  have IH : Hid _ := ih
  have hbe := hbk
  rw [X.bulk] at hbe
  have hbL : Below w.heap.size w (w.alloc (.cells #[.int .i64 e.kind, d1, d2, d3, d4, d5, .string e.s, .string e.t, .slice aa e.a.length ca, .slice an e.n.length cn] 57)) := (Below.refl _ _).alloc (Nat.le_refl _) _
  have hblk0 : (w.alloc (.cells #[.int .i64 e.kind, d1, d2, d3, d4, d5, .string e.s, .string e.t, .slice aa e.a.length ca, .slice an e.n.length cn] 57)).heap[w.heap.size]? = some (.cells #[.int .i64 e.kind, d1, d2, d3, d4, d5, .string e.s, .string e.t, .slice aa e.a.length ca, .slice an e.n.length cn] 57 (0, 0)) := heap_alloc_new _ _
  have HSP := hide (xspare_any sm hsm m _ e d1 d2 d3 d4 d5 aa an ca cn (V.Mem.kept _ hv hbL) (by omega))
  have HFI := hide (fun w' (hB : Below w.heap.size w w') => xfits_any m w' e d1 d2 d3 d4 d5 aa an ca cn (V.Mem.kept _ hv hB) (by omega) (hn.kept hB (fun _ _ h => h)) (fun x hx => X.bulk_n m e x hx _ hbk) (by omega) (by omega) (by omega))
  have hE : X.shaped sm (m + 1) e = (X.spare sm e && X.fits m e && e.a.all (X.shaped sm m)) := by rw [X.shaped]
  generalize X.spare sm e = sp at *
  generalize X.fits m e = ft at *
  have hal : e.a.length ≤ 2000000 := by omega
  have HBK := hide hbk
  have HA := hide ha
  clear ih hbk hbe ha hn hv
  go_enter Tryz.func68, Tryz.ntmps68
  go_wp2_with fail
  refine HSP.out.mono ?_
  rintro o w1 ⟨rfl, hb1⟩
  have hlt1 : w.heap.size < (w.alloc (.cells #[.int .i64 e.kind, d1, d2, d3, d4, d5, .string e.s, .string e.t, .slice aa e.a.length ca, .slice an e.n.length cn] 57)).heap.size := (blt hblk0)
  have hblk1 := (hb1.block w.heap.size hlt1).trans hblk0
  have hB1 := hbL.trans (hb1.mono hbL.size)
  clear hb1 hbL hblk0 hlt1 HSP
  obtain ⟨b0, b1, b2, b3, b4, b5, b6, b7, b8, b9⟩ := cl10 hblk1
  cases sp
  ·have E : Hid (X.shaped sm (m + 1) e = false) := by show _ = _; rw [hE]; rfl
   clear hE
   go_wp2_with fail
   go_ret
   exact ⟨ret_bool E.out.symm, hB1⟩
  go_wp2_with fail
  refine (HFI.out _ hB1).mono ?_
  rintro o w2 ⟨rfl, hb2⟩
  have hblk2 := (hb2.block w.heap.size (blt hblk1)).trans hblk1
  have hB2 := hB1.trans (hb2.mono hB1.size)
  clear hb2 hB1 hblk1 b0 b1 b2 b3 b4 b5 b6 b7 b8 b9 HFI
  have b8 := cell_of_block hblk2 8 _ rfl
  cases ft
  ·have E : Hid (X.shaped sm (m + 1) e = false) := by show _ = _; rw [hE]; rfl
   clear hE
   go_wp2_with fail
   go_ret
   exact ⟨ret_bool E.out.symm, hB2⟩
  have HE : Hid (X.shaped sm (m + 1) e = e.a.all (X.shaped sm m)) := by show _ = _; rw [hE]; rfl
  clear hE
  go_wp2_with fail
  go_loopw [15, 3] (fun vi _ wr => ∃ k : Nat, k ≤ e.a.length ∧ vi = .int .i64 k ∧ (∀ j x, j < k → e.a[j]? = some x → X.shaped sm m x = true) ∧
    wr.heap[w.heap.size]? = some (.cells #[.int .i64 e.kind, d1, d2, d3, d4, d5, .string e.s, .string e.t, .slice aa e.a.length ca, .slice an e.n.length cn] 57 (0, 0)) ∧ Below w.heap.size w wr)
   (fun vi _ _ => e.a.length - (intOf vi).toNat)
  case atStart => exact ⟨0, Nat.zero_le _, rfl, fun j _ hj => absurd hj (by omega), hblk2, hB2⟩
  case round =>
   clear hblk2 hB2 b8
   obtain ⟨k, hk, rfl, hok, hblk, hB⟩ := hrel
   have HOK : Hid _ := hok
   clear hok
   have b8 := cell_of_block hblk 8 _ rfl
   by_cases hlt : k < e.a.length
   ·obtain ⟨b, off, cap, x, f0, f1, f2, f3, f4, f5, f6, f7, f8, f9, e1, hx, hm, y0, y1, y2, y3, y4, y5, y6, y7, y8, y9⟩ := X.elemA (HA.out.kept hB (fun _ _ ⟨x, hx, hm⟩ => ⟨x, hx, X.Mem.kept m hm hB⟩)) k hlt
    simp only [Value.slice.injEq] at e1
    obtain ⟨rfl, _, rfl⟩ := e1
    have hlt2 : w.heap.size < wr.heap.size := (blt hblk)
    have HI := hide (IH.out wr x f0 f1 f2 f3 f4 f5 f6 f7 f8 f9 hm (X.bulk_a m e x (List.mem_of_getElem? hx) _ HBK.out))
    have HX : Hid _ := hx
    clear hm hx
    go_wp2_with fail
    refine Calls.mono HI.out ?_
    rintro o w3 ⟨rfl, hb3⟩
    have hblk3 := (hb3.block w.heap.size hlt2).trans hblk
    have hB3 := hB.trans (hb3.mono hB.size)
    clear hb3 hB hblk y0 y1 y2 y3 y4 y5 y6 y7 y8 y9 b8 HI
    generalize hq : X.shaped sm m x = q
    have HQ : Hid _ := hq
    clear hq
    cases q
    ·have E : Hid (X.shaped sm (m + 1) e = false) := by show _ = _; rw [HE.out, V.all_false _ _ k x HX.out HQ.out]
     go_wp2_with fail
     go_ret
     exact ⟨ret_bool E.out.symm, hB3⟩
    ·have HB3 := hide hB3
     have HBLK3 := hide hblk3
     clear hB3 hblk3
     go_wp2_with fail
     go_roundw
     case rel => exact ⟨k + 1, by omega, by go_num, V.so_far HOK.out HX.out HQ.out, HBLK3.out, HB3.out⟩
     case measure => simp [intOf]; omega
   ·have E : Hid (X.shaped sm (m + 1) e = true) := by
     show _ = _
     rw [HE.out]
     exact V.all_true _ _ (fun j x hx => HOK.out j x (by have := V.lt_of_get hx; omega) hx)
    clear hblk b8
    go_wp2_with fail
    go_ret
    exact ⟨ret_bool E.out.symm, hB⟩
set_option maxRecDepth 100000 in
set_option maxHeartbeats 1600000 in
theorem xcheck_any (sm : Val → Val → Bool) (hsm : V.Says sm) (m : Nat) (w : World) (e : Ex) (d0 d1 d2 d3 d4 d5 d6 d7 d8 d9 : Value) (h : X.Mem m w e [d0, d1, d2, d3, d4, d5, d6, d7, d8, d9]) (hbk : X.bulk m e ≤ 2000000) :
  Calls Tryz.prog 52 #[.agg #[d0, d1, d2, d3, d4, d5, d6, d7, d8, d9]] w fun o w' => o = .returned (V.errOf (X.fault sm m e)) ∧ Below w.heap.size w w' := by
 have hbL : Below w.heap.size w (w.alloc (.cells #[d0, d1, d2, d3, d4, d5, d6, d7, d8, d9] 57)) := (Below.refl _ _).alloc (Nat.le_refl _) _
 have hblk0 : (w.alloc (.cells #[d0, d1, d2, d3, d4, d5, d6, d7, d8, d9] 57)).heap[w.heap.size]? = some (.cells #[d0, d1, d2, d3, d4, d5, d6, d7, d8, d9] 57 (0, 0)) := heap_alloc_new _ _
 have hroom := xroom_any m _ e 1 60 d0 d1 d2 d3 d4 d5 d6 d7 d8 d9 (X.Mem.kept m h hbL) hbk (by omega) (by omega) (by omega) (by omega)
 have HSH := hide (fun w' (hB : Below w.heap.size w w') => xshaped_any sm hsm m w' e d0 d1 d2 d3 d4 d5 d6 d7 d8 d9 (X.Mem.kept m h hB) hbk)
 have hE : X.fault sm m e = if X.room m e 1 60 < 0 then 2 else if X.shaped sm m e then 0 else 3 := rfl
 generalize X.fault sm m e = F at *
 generalize X.room m e 1 60 = R at *
 generalize X.shaped sm m e = S at *
 have HR := hide hroom
 clear hroom h hbk
 go_enter Tryz.func52, Tryz.ntmps52
 go_wp2_with fail
 refine HR.out.mono ?_
 rintro o w1 ⟨rfl, hb1⟩
 have hblk1 := (hb1.block w.heap.size (blt hblk0)).trans hblk0
 have hB1 := hbL.trans (hb1.mono hbL.size)
 clear hb1 hbL hblk0 HR
 obtain ⟨b0, b1, b2, b3, b4, b5, b6, b7, b8, b9⟩ := cl10 hblk1
 by_cases hR : R < 0
 ·rw [if_pos hR] at hE
  have HE := hide hE
  clear hE
  go_wp2_with fail
  go_ret
  exact ⟨by rw [HE.out]; rfl, hB1⟩
 rw [if_neg hR] at hE
 have HB1 := hide hB1
 have HE := hide hE
 clear hB1 hE
 go_wp2_with fail
 refine (HSH.out _ HB1.out).mono ?_
 rintro o w2 ⟨rfl, hb2⟩
 have HB2 := hide (HB1.out.trans (hb2.mono HB1.out.size))
 clear hb2 hblk1 b0 b1 b2 b3 b4 b5 b6 b7 b8 b9
 cases S
 ·go_wp2_with fail
  go_ret
  exact ⟨by rw [HE.out]; rfl, HB2.out⟩
 ·go_wp2_with fail
  go_ret
  exact ⟨by rw [HE.out]; rfl, HB2.out⟩
namespace X
/-- lang.checkNamed. -/
def faultN (sm : Val → Val → Bool) (m : Nat) (s : ByteArray) (e : Ex) : Nat := if V.name (V.bl s) then fault sm m e else 3
end X
set_option maxRecDepth 100000 in
set_option maxHeartbeats 1600000 in
theorem checkNamed_any (sm : Val → Val → Bool) (hsm : V.Says sm) (m : Nat) (w : World) (s : ByteArray) (e : Ex) (d0 d1 d2 d3 d4 d5 d6 d7 d8 d9 : Value) (h : X.Mem m w e [d0, d1, d2, d3, d4, d5, d6, d7, d8, d9]) (hbk : X.bulk m e ≤ 2000000) (hs : s.size ≤ 2000000) :
  Calls Tryz.prog 35 #[.string s, .agg #[d0, d1, d2, d3, d4, d5, d6, d7, d8, d9]] w fun o w' => o = .returned (V.errOf (X.faultN sm m s e)) ∧ Below w.heap.size w w' := by
 have hbL : Below w.heap.size w (w.alloc (.cells #[d0, d1, d2, d3, d4, d5, d6, d7, d8, d9] 57)) := (Below.refl _ _).alloc (Nat.le_refl _) _
 have HCH := hide (xcheck_any sm hsm m _ e d0 d1 d2 d3 d4 d5 d6 d7 d8 d9 (X.Mem.kept m h hbL) hbk)
 have hm1 : s.size ≤ maxLen := by unfold maxLen; omega
 have HNM := hide (fun w => name_any s w hm1)
 have hE : X.faultN sm m s e = if V.name (V.bl s) then X.fault sm m e else 3 := rfl
 generalize X.faultN sm m s e = F at *
 generalize X.fault sm m e = G at *
 generalize V.name (V.bl s) = NS at *
 have HBL := hide hbL
 clear h hbk hbL hm1
 cases NS
 ·rw [hE]
  clear hE
  go_enter Tryz.func35, Tryz.ntmps35
  go_wp2_with (go_at_call 32; refine (HNM.out _).mono ?_; rintro o w1 ⟨rfl, hw⟩; rw [hw]; clear hw w1)
  go_ret
  exact ⟨rfl, HBL.out⟩
 ·rw [hE]
  clear hE
  go_enter Tryz.func35, Tryz.ntmps35
  go_wp2_with (first | (go_at_call 32; refine (HNM.out _).mono ?_; rintro o w1 ⟨rfl, hw⟩; rw [hw]; clear hw w1) | (go_at_call 52; refine HCH.out.mono ?_; rintro o w1 ⟨rfl, hb1⟩))
  go_ret
  exact ⟨rfl, HBL.out.trans (hb1.mono HBL.out.size)⟩
end Go.Proofs.YtbdbpfcblppnbaaGreatDoor.Vx
namespace Go.Proofs.YtbdbpfcblppnbaaGreatDoor.Vx
open Go.RowKit
/-- A resource, as a plain tree. -/
structure Rs where
 kind : ByteArray
 name : ByteArray
 parts : List (ByteArray × Ex)
/-- A stack, as a plain tree. -/
structure Sk where
 name : ByteArray
 ins : List (ByteArray × Val)
 res : List Rs
 outs : List (ByteArray × Ex)
namespace X
theorem Mem.form {m : Nat} {w : World} {e : Ex} {d0 d1 d2 d3 d4 d5 d6 d7 d8 d9 : Value} (h : Mem m w e [d0, d1, d2, d3, d4, d5, d6, d7, d8, d9]) :
  ∃ al cl af cf aa ca an cn, d0 = .int .i64 e.kind ∧ d1 = .int .i64 e.v.kind ∧ d2 = .int .i64 e.v.n ∧ d3 = .string e.v.s ∧ d4 = .slice al e.v.l.length cl ∧ d5 = .slice af e.v.f.length cf ∧ d6 = .string e.s ∧ d7 = .string e.t ∧ d8 = .slice aa e.a.length ca ∧ d9 = .slice an e.n.length cn := by
 cases m with
 | zero => exact h.elim
 | succ m =>
  obtain ⟨c0, c1, c2, c3, c4, av, nv, hcs, hv, ha, hn⟩ := h
  obtain ⟨lv, fv, hvs, hl, hf⟩ := hv
  simp only [List.cons.injEq, and_true] at hcs hvs
  obtain ⟨rfl, rfl, rfl, rfl, rfl, rfl, rfl, rfl, rfl, rfl⟩ := hcs
  obtain ⟨rfl, rfl, rfl, rfl, rfl⟩ := hvs
  obtain ⟨aa, ca, rfl⟩ := ha.shape
  obtain ⟨an, cn, rfl⟩ := hn.shape
  obtain ⟨al, cl, rfl⟩ := hl.shape
  obtain ⟨af, cf, rfl⟩ := hf.shape
  exact ⟨al, cl, af, cf, aa, ca, an, cn, rfl, rfl, rfl, rfl, rfl, rfl, rfl, rfl, rfl, rfl⟩
/-- A row of named expressions. -/
def Named (m : Nat) (w : World) (v : Value) (l : List (ByteArray × Ex)) : Prop := V.Row w v l.length 11 (fun i c => ∃ x c', l[i]? = some x ∧ c = .string x.1 :: c' ∧ Mem m w x.2 c')
theorem Named.kept {m : Nat} {w w' : World} {v : Value} {l : List (ByteArray × Ex)} (h : Named m w v l) (hb : Below w.heap.size w w') : Named m w' v l :=
 V.Row.kept h hb (fun _ _ ⟨x, c', hx, hc, hm⟩ => ⟨x, c', hx, hc, Mem.kept m hm hb⟩)
/-- One of them, cell by cell. -/
theorem elemE {m : Nat} {w : World} {v : Value} {l : List (ByteArray × Ex)} (h : Named m w v l) (i : Nat) (hi : i < l.length) :
  ∃ b off cap x al cl af cf aa ca an cn, v = .slice (some ⟨b, off, none⟩) l.length cap ∧ l[i]? = some x ∧
   Mem m w x.2 [.int .i64 x.2.kind, .int .i64 x.2.v.kind, .int .i64 x.2.v.n, .string x.2.v.s, .slice al x.2.v.l.length cl, .slice af x.2.v.f.length cf, .string x.2.s, .string x.2.t, .slice aa x.2.a.length ca, .slice an x.2.n.length cn] ∧
   w.cell? ⟨b, off + i * 11, none⟩ = some (.string x.1) ∧ w.cell? ⟨b, off + i * 11 + 1, none⟩ = some (.int .i64 x.2.kind) ∧ w.cell? ⟨b, off + i * 11 + 2, none⟩ = some (.int .i64 x.2.v.kind) ∧ w.cell? ⟨b, off + i * 11 + 3, none⟩ = some (.int .i64 x.2.v.n) ∧
   w.cell? ⟨b, off + i * 11 + 4, none⟩ = some (.string x.2.v.s) ∧ w.cell? ⟨b, off + i * 11 + 5, none⟩ = some (.slice al x.2.v.l.length cl) ∧ w.cell? ⟨b, off + i * 11 + 6, none⟩ = some (.slice af x.2.v.f.length cf) ∧ w.cell? ⟨b, off + i * 11 + 7, none⟩ = some (.string x.2.s) ∧
   w.cell? ⟨b, off + i * 11 + 8, none⟩ = some (.string x.2.t) ∧ w.cell? ⟨b, off + i * 11 + 9, none⟩ = some (.slice aa x.2.a.length ca) ∧ w.cell? ⟨b, off + i * 11 + 10, none⟩ = some (.slice an x.2.n.length cn) := by
 obtain ⟨ao, cap, rfl, h | ⟨b, off, rfl, h⟩⟩ := h
 ·omega
 ·obtain ⟨cs, h1, h2, x, c', hx, rfl, hm⟩ := h i hi
  match c', h1 with
  | [d0, d1, d2, d3, d4, d5, d6, d7, d8, d9], _ =>
   obtain ⟨al, cl, af, cf, aa, ca, an, cn, rfl, rfl, rfl, rfl, rfl, rfl, rfl, rfl, rfl, rfl⟩ := hm.form
   exact ⟨b, off, cap, x, al, cl, af, cf, aa, ca, an, cn, rfl, hx, hm, h2 0 (by omega), h2 1 (by omega), h2 2 (by omega), h2 3 (by omega), h2 4 (by omega), h2 5 (by omega), h2 6 (by omega), h2 7 (by omega), h2 8 (by omega), h2 9 (by omega), h2 10 (by omega)⟩
def sumP (m : Nat) (l : List (ByteArray × Ex)) : Nat := (l.map (fun x => x.1.size + bulk m x.2)).sum
theorem sumP_mem {m : Nat} {l : List (ByteArray × Ex)} {x : ByteArray × Ex} (h : x ∈ l) {B : Nat} (hB : sumP m l ≤ B) : x.1.size ≤ B ∧ bulk m x.2 ≤ B := by
 have := sum_le (fun x : ByteArray × Ex => x.1.size + bulk m x.2) l x h
 unfold sumP at hB
 omega
/-- The error of one part: its name is not above the one ahead; checkNamed. -/
def partFault (sm : Val → Val → Bool) (m : Nat) (l : List (ByteArray × Ex)) (k : Nat) : Nat :=
 match l[k]? with
 | none => 0
 | some x => if k ≠ 0 ∧ (match l[k - 1]? with | none => true | some y => Op.bytesLess (V.bl y.1) (V.bl x.1)) = false then 3 else faultN sm m x.1 x.2
/-- The first that is none of noughts. -/
def firstErr (l : List Nat) : Nat := (l.find? (fun n => n ≠ 0)).getD 0
theorem firstErr_at {l : List Nat} {k n : Nat} (h : ∀ j, j < k → l[j]? = some 0) (hk : l[k]? = some n) (hn : n ≠ 0) : firstErr l = n := by
 unfold firstErr
 induction l generalizing k with
 | nil => simp at hk
 | cons a t ih =>
  cases k with
  | zero => cases hk; rw [List.find?_cons_of_pos (by simpa using hn)]; rfl
  | succ k =>
   have h0 : a = 0 := by simpa using h 0 (by omega)
   rw [List.find?_cons_of_neg (by simp [h0])]
   exact ih (k := k) (fun j hj => by simpa using h (j + 1) (by omega)) (by simpa using hk)
theorem firstErr_none {l : List Nat} (h : ∀ j, j < l.length → l[j]? = some 0) : firstErr l = 0 := by
 unfold firstErr
 have : l.find? (fun n => n ≠ 0) = none := by
  rw [List.find?_eq_none]
  intro x hx
  obtain ⟨j, hj, e⟩ := List.getElem_of_mem hx
  have := h j hj
  rw [List.getElem?_eq_getElem hj, e] at this
  cases this
  simp
 rw [this]; rfl
/-- lang.checkResource: an error's number. -/
def resFault (sm : Val → Val → Bool) (m : Nat) (r : Rs) : Nat :=
 if (V.name (V.bl r.kind) && V.name (V.bl r.name)) = false then 3 else if 6 < r.parts.length then 2 else firstErr ((List.range r.parts.length).map (partFault sm m r.parts))
theorem faults_get {f : Nat → Nat} {n j : Nat} (h : j < n) : ((List.range n).map f)[j]? = some (f j) := by rw [List.getElem?_map, List.getElem?_range h]; rfl
end X
theorem err_ne (n : Nat) (h : n ≠ 0) : V.errOf n = .iface 62 (.int .i64 n) := by rw [V.errOf, if_neg h]
set_option maxRecDepth 100000 in
set_option maxHeartbeats 3200000 in
theorem checkResource_any (sm : Val → Val → Bool) (hsm : V.Says sm) (m : Nat) (w : World) (r : Rs) (pv : Value) (hp : X.Named m w pv r.parts) (hbk : X.sumP m r.parts ≤ 2000000) (hks : r.kind.size ≤ 2000000) (hns : r.name.size ≤ 2000000) :
  Calls Tryz.prog 34 #[.agg #[.string r.kind, .string r.name, pv]] w fun o w' => o = .returned (V.errOf (X.resFault sm m r)) ∧ Below w.heap.size w w' := by
 obtain ⟨ap, cp, rfl⟩ := V.Row.shape hp
 have hm1 : r.kind.size ≤ maxLen := by unfold maxLen; omega
 have hm2 : r.name.size ≤ maxLen := by unfold maxLen; omega
 have HN1 := hide (fun w => name_any r.kind w hm1)
 have HN2 := hide (fun w => name_any r.name w hm2)
 have hE : X.resFault sm m r = if (V.name (V.bl r.kind) && V.name (V.bl r.name)) = false then 3 else if 6 < r.parts.length then 2 else X.firstErr ((List.range r.parts.length).map (X.partFault sm m r.parts)) := rfl
 have hbL : Below w.heap.size w (w.alloc (.cells #[.string r.kind, .string r.name, .slice ap r.parts.length cp] 53)) := (Below.refl _ _).alloc (Nat.le_refl _) _
 have hblk0 : (w.alloc (.cells #[.string r.kind, .string r.name, .slice ap r.parts.length cp] 53)).heap[w.heap.size]? = some (.cells #[.string r.kind, .string r.name, .slice ap r.parts.length cp] 53 (0, 0)) := heap_alloc_new _ _
 generalize X.resFault sm m r = F at *
 generalize V.name (V.bl r.kind) = A at *
 generalize V.name (V.bl r.name) = B at *
 have HE := hide hE
 have HP := hide hp
 have HBL := hide hbL
 have HBLK0 := hide hblk0
 have HBK := hide hbk
 clear hE hp hbL hblk0 hbk hm1 hm2
 have h3 : V.errOf 3 = .iface 62 (.int .i64 3) := rfl
 have h2 : V.errOf 2 = .iface 62 (.int .i64 2) := rfl
 by_cases hAB : (A && B) = false
 ·have hF : F = 3 := by rw [HE.out, if_pos hAB]
  have HF := hide hF
  clear hF HE
  have hc : A = false ∨ (A = true ∧ B = false) := by cases A <;> cases B <;> simp_all
  rcases hc with rfl | ⟨rfl, rfl⟩
  ·clear hAB
   go_enter Tryz.func34, Tryz.ntmps34
   go_wp2_with (go_at_call 32; with_reducible refine (HN1.out _).mono ?_; rintro o w1 ⟨rfl, hw⟩; rw [hw]; clear hw w1)
   go_ret
   exact ⟨by rw [HF.out]; rfl, HBL.out⟩
  ·clear hAB
   go_enter Tryz.func34, Tryz.ntmps34
   go_wp2_with (first | (go_at_call 32; with_reducible refine (HN1.out _).mono ?_; rintro o w1 ⟨rfl, hw⟩; rw [hw]; clear hw w1) | (go_at_call 32; with_reducible refine (HN2.out _).mono ?_; rintro o w1 ⟨rfl, hw⟩; rw [hw]; clear hw w1))
   go_ret
   exact ⟨by rw [HF.out]; rfl, HBL.out⟩
 have hA : A = true ∧ B = true := by cases A <;> cases B <;> simp_all
 obtain ⟨rfl, rfl⟩ := hA
 have hE2 := HE.out
 rw [if_neg hAB] at hE2
 clear HE hAB
 by_cases h6 : 6 < r.parts.length
 ·rw [if_pos h6] at hE2
  have HF := hide hE2
  clear hE2
  go_enter Tryz.func34, Tryz.ntmps34
  go_wp2_with (first | (go_at_call 32; with_reducible refine (HN1.out _).mono ?_; rintro o w1 ⟨rfl, hw⟩; rw [hw]; clear hw w1) | (go_at_call 32; with_reducible refine (HN2.out _).mono ?_; rintro o w1 ⟨rfl, hw⟩; rw [hw]; clear hw w1))
  go_ret
  exact ⟨by rw [HF.out]; rfl, HBL.out⟩
 rw [if_neg h6] at hE2
 have HE := hide hE2
 clear hE2
 go_enter Tryz.func34, Tryz.ntmps34
 go_wp2_with (first | (go_at_call 32; with_reducible refine (HN1.out _).mono ?_; rintro o w1 ⟨rfl, hw⟩; rw [hw]; clear hw w1) | (go_at_call 32; with_reducible refine (HN2.out _).mono ?_; rintro o w1 ⟨rfl, hw⟩; rw [hw]; clear hw w1))
 go_loopw [25, 3, 4, 5] (fun vi _ _ _ wr => ∃ k : Nat, k ≤ r.parts.length ∧ vi = .int .i64 k ∧ (∀ j, j < k → X.partFault sm m r.parts j = 0) ∧
   wr.heap[w.heap.size]? = some (.cells #[.string r.kind, .string r.name, .slice ap r.parts.length cp] 53 (0, 0)) ∧ Below w.heap.size w wr)
  (fun vi _ _ _ _ => r.parts.length - (intOf vi).toNat)
 case atStart => exact ⟨0, Nat.zero_le _, rfl, fun j hj => absurd hj (by omega), HBLK0.out, HBL.out⟩
 case round =>
  clear HBLK0 HBL
  obtain ⟨k, hk, rfl, hok, hblk, hB⟩ := hrel
  have HOK := hide hok
  clear hok
  have b2 := cell_of_block hblk 2 _ rfl
  have hlt2 : w.heap.size < wr.heap.size := (blt hblk)
  by_cases hlt : k < r.parts.length
  ·obtain ⟨b, off, cap, x, al, cl, af, cf, aa, ca, an, cn, e1, hx, hm, y0, y1, y2, y3, y4, y5, y6, y7, y8, y9, y10⟩ := X.elemE (HP.out.kept hB) k hlt
   simp only [Value.slice.injEq] at e1
   obtain ⟨rfl, _, rfl⟩ := e1
   obtain ⟨hxs, hxb⟩ := X.sumP_mem (List.mem_of_getElem? hx) HBK.out
   have hbA : Below wr.heap.size wr (wr.alloc (.cells #[.string x.1, .int .i64 x.2.kind, .int .i64 x.2.v.kind, .int .i64 x.2.v.n, .string x.2.v.s, .slice al x.2.v.l.length cl, .slice af x.2.v.f.length cf, .string x.2.s, .string x.2.t, .slice aa x.2.a.length ca, .slice an x.2.n.length cn] 59)) := (Below.refl _ _).alloc (Nat.le_refl _) _
   have HCN := hide (fun w' (hB' : Below wr.heap.size wr w') => checkNamed_any sm hsm m w' x.1 x.2 _ _ _ _ _ _ _ _ _ _ (X.Mem.kept m hm hB') hxb hxs)
   have hPF : X.partFault sm m r.parts k = if k ≠ 0 ∧ (match r.parts[k - 1]? with | none => true | some y => Op.bytesLess (V.bl y.1) (V.bl x.1)) = false then 3 else X.faultN sm m x.1 x.2 := by unfold X.partFault; rw [hx]
   have HBLK := hide hblk
   have HB := hide hB
   have HBA := hide hbA
   clear hx hm hblk hB hbA
   generalize X.faultN sm m x.1 x.2 = G at *
   by_cases hk0 : k = 0
   ·have hPF0 : X.partFault sm m r.parts k = G := by rw [hPF, if_neg (fun h => h.1 hk0)]
    have HPF := hide hPF0
    clear hPF hPF0
    subst hk0
    simp only [Nat.zero_mul, Nat.add_zero] at y0 y1 y2 y3 y4 y5 y6 y7 y8 y9 y10
    have HAFT := hide (fun w2 (hb2 : Below (wr.alloc (.cells #[.string x.1, .int .i64 x.2.kind, .int .i64 x.2.v.kind, .int .i64 x.2.v.n, .string x.2.v.s, .slice al x.2.v.l.length cl, .slice af x.2.v.f.length cf, .string x.2.s, .string x.2.t, .slice aa x.2.a.length ca, .slice an x.2.n.length cn] 59)).heap.size (wr.alloc (.cells #[.string x.1, .int .i64 x.2.kind, .int .i64 x.2.v.kind, .int .i64 x.2.v.n, .string x.2.v.s, .slice al x.2.v.l.length cl, .slice af x.2.v.f.length cf, .string x.2.s, .string x.2.t, .slice aa x.2.a.length ca, .slice an x.2.n.length cn] 59)) w2) => (HBA.out.trans (hb2.mono HBA.out.size) : Below wr.heap.size wr w2))
    by_cases hG : G = 0
    ·subst hG
     go_wp2_with fail
     go_quiet (fail)
     all_goals
      go_wp2_with (go_at_call 35; refine (HCN.out _ (below_drewN HBA.out _)).mono ?_; rintro o w2 ⟨rfl, hb2⟩; rw [V.errOf, if_pos rfl])
      go_roundw
      case rel =>
       have hw2 : Below wr.heap.size wr w2 := (below_drewN HBA.out _).trans (hb2.mono (below_drewN HBA.out _).size)
       exact ⟨1, by omega, by go_num, fun j hj => by rw [show j = 0 by omega]; exact HPF.out, (hw2.block w.heap.size hlt2).trans HBLK.out, HB.out.trans (hw2.mono HB.out.size)⟩
      case measure => simp [intOf]; omega
    ·have hF : F = G := by
      rw [HE.out]
      exact X.firstErr_at (k := 0) (fun j hj => absurd hj (by omega)) (by rw [X.faults_get hlt, HPF.out]) hG
     have HF := hide hF
     clear hF
     go_wp2_with fail
     go_quiet (fail)
     all_goals
      go_wp2_with (go_at_call 35; refine (HCN.out _ (below_drewN HBA.out _)).mono ?_; rintro o w2 ⟨rfl, hb2⟩; rw [err_ne G hG])
      go_ret
      have hw2 : Below wr.heap.size wr w2 := (below_drewN HBA.out _).trans (hb2.mono (below_drewN HBA.out _).size)
      exact ⟨by rw [HF.out, err_ne G hG]; rfl, HB.out.trans (hw2.mono HB.out.size)⟩
   ·obtain ⟨k', rfl⟩ : ∃ k', k = k' + 1 := ⟨k - 1, by omega⟩
    obtain ⟨b', off', cap', y, _, _, _, _, _, _, _, _, e1, hy, _, zn, _⟩ := X.elemE (HP.out.kept HB.out) k' (by omega)
    simp only [Value.slice.injEq, Option.some.injEq, Addr.mk.injEq] at e1
    obtain ⟨⟨rfl, rfl, _⟩, _, rfl⟩ := e1
    rw [show k' + 1 - 1 = k' from rfl, hy] at hPF
    have gk : decide (0 < ((k' + 1 : Nat) : Int)) = true := decide_eq_true (by omega)
    have hbl : b < wr.heap.size := World.block_lt_of_cell? wr _ zn
    have hfl := less_flip (V.bl x.1) (V.bl y.1)
    clear hk0 hy
    cases hls : Op.bytesLess (V.bl y.1) (V.bl x.1)
    ·have hPF0 : X.partFault sm m r.parts (k' + 1) = 3 := by rw [hPF, if_pos ⟨by omega, hls⟩]
     have hF : F = 3 := by
      rw [HE.out]
      exact X.firstErr_at (k := k' + 1) (fun j hj => by rw [X.faults_get (by omega), HOK.out j hj]) (by rw [X.faults_get hlt, hPF0]) (by decide)
     have HF := hide hF
     rw [hls, ← V.toList_bl, ← V.toList_bl] at hfl
     clear hF hPF hPF0 hls
     go_wp2_with fail
     go_quiet (fail)
     all_goals
      go_wp2_with fail
      go_ret
      exact ⟨by rw [HF.out]; rfl, HB.out.trans ((below_drewN HBA.out _).mono HB.out.size)⟩
    ·have hPF0 : X.partFault sm m r.parts (k' + 1) = G := by rw [hPF, if_neg (fun h => by have h2 : Op.bytesLess (V.bl y.1) (V.bl x.1) = false := h.2; rw [hls] at h2; exact absurd h2 (by decide))]
     have HPF := hide hPF0
     rw [hls, ← V.toList_bl, ← V.toList_bl] at hfl
     clear hPF hPF0 hls
     by_cases hG : G = 0
     ·subst hG
      go_wp2_with fail
      go_quiet (fail)
      all_goals
       go_wp2_with (go_at_call 35; refine (HCN.out _ (below_drewN HBA.out _)).mono ?_; rintro o w2 ⟨rfl, hb2⟩; rw [V.errOf, if_pos rfl])
       go_roundw
       case rel =>
        have hw2 : Below wr.heap.size wr w2 := (below_drewN HBA.out _).trans (hb2.mono (below_drewN HBA.out _).size)
        refine ⟨k' + 1 + 1, by omega, by go_num, fun j hj => ?_, (hw2.block w.heap.size hlt2).trans HBLK.out, HB.out.trans (hw2.mono HB.out.size)⟩
        by_cases e : j = k' + 1
        ·rw [e]; exact HPF.out
        ·exact HOK.out j (by omega)
       case measure => simp [intOf]; omega
     ·have hF : F = G := by
       rw [HE.out]
       exact X.firstErr_at (k := k' + 1) (fun j hj => by rw [X.faults_get (by omega), HOK.out j hj]) (by rw [X.faults_get hlt, HPF.out]) hG
      have HF := hide hF
      clear hF
      go_wp2_with fail
      go_quiet (fail)
      all_goals
       go_wp2_with (go_at_call 35; refine (HCN.out _ (below_drewN HBA.out _)).mono ?_; rintro o w2 ⟨rfl, hb2⟩; rw [err_ne G hG])
       go_ret
       have hw2 : Below wr.heap.size wr w2 := (below_drewN HBA.out _).trans (hb2.mono (below_drewN HBA.out _).size)
       exact ⟨by rw [HF.out, err_ne G hG]; rfl, HB.out.trans (hw2.mono HB.out.size)⟩
  ·have hF : F = 0 := by
    rw [HE.out]
    exact X.firstErr_none (fun j hj => by
     have hj' : j < r.parts.length := by simpa using hj
     rw [X.faults_get hj', HOK.out j (by omega)])
   have HF := hide hF
   have HB := hide hB
   clear hF hB hblk
   go_wp2_with fail
   go_ret
   exact ⟨by rw [HF.out]; rfl, HB.out⟩
end Go.Proofs.YtbdbpfcblppnbaaGreatDoor.Vx
