/- TopState: XC XD. -/
import Derived.Test.YtcekcfjabhlheaaGreatDoorXB
set_option maxRecDepth 100000
set_option maxHeartbeats 3200000
namespace Go.Proofs.YtcekcfjabhlheaaGreatDoor.Vx
open Go.RowKit
namespace X
def fits (m : Nat) (e : Ex) : Bool :=
 decide ((e.kind = 1 /\ plain (m + 1) e.v = true /\ e.a.length = 0) \/ (e.kind = 2 /\ V.name (V.bl e.s) = true /\ e.a.length = 0) \/ ((e.kind = 3 \/ e.kind = 4) /\ V.name (V.bl e.s) = true /\ V.name (V.bl e.t) = true /\ e.a.length = 0) \/
  ((e.kind = 5 \/ e.kind = 6) /\ e.a.length = 2) \/ (e.kind = 7 /\ e.a.length = 3) \/ e.kind = 8 \/ (e.kind = 9 /\ e.a.length = e.n.length /\ V.rise (pairs e.n) = true) \/ (e.kind = 10 /\ V.name (V.bl e.s) = true /\ e.a.length = 1))
end X
theorem xfits_any (m : Nat) (w : World) (e : Ex) (c0 c1 c2 c3 c4 : Value) (aa an : Option Addr) (ca cn : Nat) (hv : V.Mem (m + 1) w e.v [c0, c1, c2, c3, c4]) (hbk : V.bulk (m + 1) e.v <= 2000000)
  (hn : V.Row w (.slice an e.n.length cn) e.n.length 1 (fun i c => ∃ x, e.n[i]? = some x /\ c = [.string x])) (hns : ∀ x ∈ e.n, x.size <= 2000000) (hnl : e.n.length <= 2000000) (hss : e.s.size <= 2000000) (hts : e.t.size <= 2000000) :
  Calls Tryz.prog 207 #[.agg #[.int .i64 e.kind, c0, c1, c2, c3, c4, .string e.s, .string e.t, .slice aa e.a.length ca, .slice an e.n.length cn]] w fun o w' => o = .returned (.bool (X.fits m e)) /\ Below w.heap.size w w' := by
 have hb0 := fun (k : Int) => (Below.refl w.heap.size w).alloc (Nat.le_refl _) (.cells #[.int .i64 k, c0, c1, c2, c3, c4, .string e.s, .string e.t, .slice aa e.a.length ca, .slice an e.n.length cn] 170)
 have hpl := fun (k : Int) => plain_any m (w.alloc (.cells #[.int .i64 k, c0, c1, c2, c3, c4, .string e.s, .string e.t, .slice aa e.a.length ca, .slice an e.n.length cn] 170)) e.v c0 c1 c2 c3 c4 (V.Mem.kept _ hv (hb0 k)) hbk
 have hnr := fun (k : Int) => xnamesRise_any (w.alloc (.cells #[.int .i64 k, c0, c1, c2, c3, c4, .string e.s, .string e.t, .slice aa e.a.length ca, .slice an e.n.length cn] 170)) (.slice an e.n.length cn) e.n (hn.kept (hb0 k) (fun _ _ h => h)) hns hnl
 have hm1 : e.s.size <= maxLen := by unfold maxLen; omega
 have hm2 : e.t.size <= maxLen := by unfold maxLen; omega
 have hN1 := fun w => name_any e.s w hm1
 have hN2 := fun w => name_any e.t w hm2
 obtain ⟨lv, fv, hcs, hl, hf⟩ := id hv
 simp only [List.cons.injEq, and_true] at hcs
 obtain ⟨rfl, rfl, rfl, rfl, rfl⟩ := hcs
 have hE : X.fits m e = decide ((e.kind = 1 /\ X.plain (m + 1) e.v = true /\ e.a.length = 0) \/ (e.kind = 2 /\ V.name (V.bl e.s) = true /\ e.a.length = 0) \/ ((e.kind = 3 \/ e.kind = 4) /\ V.name (V.bl e.s) = true /\ V.name (V.bl e.t) = true /\ e.a.length = 0) \/
  ((e.kind = 5 \/ e.kind = 6) /\ e.a.length = 2) \/ (e.kind = 7 /\ e.a.length = 3) \/ e.kind = 8 \/ (e.kind = 9 /\ e.a.length = e.n.length /\ V.rise (X.pairs e.n) = true) \/ (e.kind = 10 /\ V.name (V.bl e.s) = true /\ e.a.length = 1)) := rfl
 generalize X.fits m e = R at *
 generalize X.plain (m + 1) e.v = PL at *
 generalize V.rise (X.pairs e.n) = RI at *
 generalize V.name (V.bl e.s) = NS at *
 generalize V.name (V.bl e.t) = NT at *
 obtain ⟨HPL, HNR, HN1, HN2, HE⟩ := hd5 hpl hnr hN1 hN2 hE
 clear hpl hnr hN1 hN2 hE hv hl hf hbk hn hns hb0 hm1 hm2 hss hts
 generalize e.kind = k at *
 generalize e.n.length = nl at *
 generalize e.a.length = nA at *
 have hk : k = 1 \/ k = 2 \/ k = 3 \/ k = 4 \/ k = 5 \/ k = 6 \/ k = 7 \/ k = 8 \/ k = 9 \/ k = 10 \/ (k ≠ 1 /\ k ≠ 2 /\ k ≠ 3 /\ k ≠ 4 /\ k ≠ 5 /\ k ≠ 6 /\ k ≠ 7 /\ k ≠ 8 /\ k ≠ 9 /\ k ≠ 10) := by omega
 rcases hk with rfl | rfl | rfl | rfl | rfl | rfl | rfl | rfl | rfl | rfl | ⟨k1, k2, k3, k4, k5, k6, k7, k8, k9, k10⟩
 ·cases PL
  all_goals
   go_enter Tryz.func207, Tryz.ntmps207
   go_wp2_with (go_at_call 220; refine (HPL.out _).mono ?_; rintro o w1 ⟨rfl, hb1⟩; have hblk1 := (hb1.block w.heap.size (lt_alloc w _)).trans (heap_alloc_new w _); have g8 := cell_of_block hblk1 8 _ rfl; clear hblk1)
   all_goals go_ret
   all_goals refine ⟨ret_bool ?_, ((Below.refl _ w).alloc (Nat.le_refl _) _).trans (hb1.mono (by simp))⟩
   all_goals rw [HE.out]
   all_goals simp
   all_goals try (rw [Bool.eq_iff_iff, beq_iff_eq, decide_eq_true_eq]; omega)
 ·cases NS
  all_goals
   go_enter Tryz.func207, Tryz.ntmps207
   go_wp2_with (go_at_call 21; refine (HN1.out _).mono ?_; rintro o w1 ⟨rfl, hw⟩; rw [hw]; clear hw w1)
   all_goals go_ret
   all_goals refine ⟨ret_bool ?_, (Below.refl _ _).alloc (Nat.le_refl _) _⟩
   all_goals rw [HE.out]
   all_goals simp
   all_goals try (rw [Bool.eq_iff_iff, beq_iff_eq, decide_eq_true_eq]; omega)
 ·cases NS
  all_goals cases NT
  all_goals
   go_enter Tryz.func207, Tryz.ntmps207
   go_wp2_with (first | (go_at_call 21; with_reducible refine (HN1.out _).mono ?_; rintro o w1 ⟨rfl, hw⟩; rw [hw]; clear hw w1) | (go_at_call 21; with_reducible refine (HN2.out _).mono ?_; rintro o w1 ⟨rfl, hw⟩; rw [hw]; clear hw w1))
   all_goals go_ret
   all_goals refine ⟨ret_bool ?_, (Below.refl _ _).alloc (Nat.le_refl _) _⟩
   all_goals rw [HE.out]
   all_goals simp
   all_goals try (rw [Bool.eq_iff_iff, beq_iff_eq, decide_eq_true_eq]; omega)
 ·cases NS
  all_goals cases NT
  all_goals
   go_enter Tryz.func207, Tryz.ntmps207
   go_wp2_with (first | (go_at_call 21; with_reducible refine (HN1.out _).mono ?_; rintro o w1 ⟨rfl, hw⟩; rw [hw]; clear hw w1) | (go_at_call 21; with_reducible refine (HN2.out _).mono ?_; rintro o w1 ⟨rfl, hw⟩; rw [hw]; clear hw w1))
   all_goals go_ret
   all_goals refine ⟨ret_bool ?_, (Below.refl _ _).alloc (Nat.le_refl _) _⟩
   all_goals rw [HE.out]
   all_goals simp
   all_goals try (rw [Bool.eq_iff_iff, beq_iff_eq, decide_eq_true_eq]; omega)
 ·go_enter Tryz.func207, Tryz.ntmps207
  go_wp2_with fail
  all_goals go_ret
  all_goals refine ⟨ret_bool ?_, (Below.refl _ _).alloc (Nat.le_refl _) _⟩
  all_goals rw [HE.out]
  all_goals simp
  all_goals try (rw [Bool.eq_iff_iff, beq_iff_eq, decide_eq_true_eq]; omega)
 ·go_enter Tryz.func207, Tryz.ntmps207
  go_wp2_with fail
  all_goals go_ret
  all_goals refine ⟨ret_bool ?_, (Below.refl _ _).alloc (Nat.le_refl _) _⟩
  all_goals rw [HE.out]
  all_goals simp
  all_goals try (rw [Bool.eq_iff_iff, beq_iff_eq, decide_eq_true_eq]; omega)
 ·go_enter Tryz.func207, Tryz.ntmps207
  go_wp2_with fail
  all_goals go_ret
  all_goals refine ⟨ret_bool ?_, (Below.refl _ _).alloc (Nat.le_refl _) _⟩
  all_goals rw [HE.out]
  all_goals simp
  all_goals try (rw [Bool.eq_iff_iff, beq_iff_eq, decide_eq_true_eq]; omega)
 ·go_enter Tryz.func207, Tryz.ntmps207
  go_wp2_with fail
  all_goals go_ret
  all_goals refine ⟨ret_bool ?_, (Below.refl _ _).alloc (Nat.le_refl _) _⟩
  all_goals rw [HE.out]
  all_goals simp
 ·cases RI
  all_goals
   go_enter Tryz.func207, Tryz.ntmps207
   go_wp2_with (go_at_call 221; refine (HNR.out _).mono ?_; rintro o w1 ⟨rfl, n1, rfl⟩)
   all_goals go_ret
   all_goals refine ⟨ret_bool ?_, by first | exact (Below.refl _ _).alloc (Nat.le_refl _) _ | exact below_drewN ((Below.refl _ _).alloc (Nat.le_refl _) _) _⟩
   all_goals rw [HE.out]
   all_goals simp
   all_goals try (first | omega | (rw [Bool.eq_iff_iff, beq_iff_eq, decide_eq_true_eq]; omega))
 ·cases NS
  all_goals
   go_enter Tryz.func207, Tryz.ntmps207
   go_wp2_with (go_at_call 21; refine (HN1.out _).mono ?_; rintro o w1 ⟨rfl, hw⟩; rw [hw]; clear hw w1)
   all_goals go_ret
   all_goals refine ⟨ret_bool ?_, (Below.refl _ _).alloc (Nat.le_refl _) _⟩
   all_goals rw [HE.out]
   all_goals simp
   all_goals try (rw [Bool.eq_iff_iff, beq_iff_eq, decide_eq_true_eq]; omega)
 ·go_enter Tryz.func207, Tryz.ntmps207
  go_wp2_with fail
  all_goals go_ret
  all_goals refine ⟨ret_bool ?_, (Below.refl _ _).alloc (Nat.le_refl _) _⟩
  all_goals rw [HE.out]
  all_goals simp [k1, k2, k3, k4, k5, k6, k7, k8, k9, k10]
namespace X
def shaped (sm : Val -> Val -> Bool) : Nat -> Ex -> Bool
 | 0, _ => true
 | m + 1, e => spare sm e && fits m e && e.a.all (shaped sm m)
def fault (sm : Val -> Val -> Bool) (m : Nat) (e : Ex) : Nat := if room m e 1 60 < 0 then 2 else if shaped sm m e then 0 else 3
theorem errOf_zero : V.errOf 0 = .nilIface := rfl
end X
theorem xshaped_any (sm : Val -> Val -> Bool) (hsm : V.Says sm) (m : Nat) : ∀ (w : World) (e : Ex) (d0 d1 d2 d3 d4 d5 d6 d7 d8 d9 : Value), X.Mem m w e [d0, d1, d2, d3, d4, d5, d6, d7, d8, d9] -> X.bulk m e <= 2000000 ->
  Calls Tryz.prog 183 #[.agg #[d0, d1, d2, d3, d4, d5, d6, d7, d8, d9]] w fun o w' => o = .returned (.bool (X.shaped sm m e)) /\ Below w.heap.size w w' := by
 induction m with
 | zero => intro w e d0 d1 d2 d3 d4 d5 d6 d7 d8 d9 h; exact h.elim
 | succ m ih =>
  intro w e d0 d1 d2 d3 d4 d5 d6 d7 d8 d9 ⟨c0, c1, c2, c3, c4, av, nv, hcs, hv, ha, hn⟩ hbk
  simp only [List.cons.injEq, and_true] at hcs
  obtain ⟨rfl, rfl, rfl, rfl, rfl, rfl, rfl, rfl, rfl, rfl⟩ := hcs
  obtain ⟨aa, ca, rfl⟩ := ha.shape
  obtain ⟨an, cn, rfl⟩ := hn.shape
  have IH : Hid _ := ih
  have hbe := hbk
  rw [X.bulk] at hbe
  have hbL : Below w.heap.size w (w.alloc (.cells #[.int .i64 e.kind, d1, d2, d3, d4, d5, .string e.s, .string e.t, .slice aa e.a.length ca, .slice an e.n.length cn] 170)) := (Below.refl _ _).alloc (Nat.le_refl _) _
  have hblk0 := heap_alloc_new w (.cells #[.int .i64 e.kind, d1, d2, d3, d4, d5, .string e.s, .string e.t, .slice aa e.a.length ca, .slice an e.n.length cn] 170)
  have HSP := hide (xspare_any sm hsm m _ e d1 d2 d3 d4 d5 aa an ca cn (V.Mem.kept _ hv hbL) (by omega))
  have HFI := hide (fun w' (hB : Below w.heap.size w w') => xfits_any m w' e d1 d2 d3 d4 d5 aa an ca cn (V.Mem.kept _ hv hB) (by omega) (hn.kept hB (fun _ _ h => h)) (fun x hx => X.bulk_n m e x hx _ hbk) (by omega) (by omega) (by omega))
  have hE : X.shaped sm (m + 1) e = (X.spare sm e && X.fits m e && e.a.all (X.shaped sm m)) := by rw [X.shaped]
  generalize X.spare sm e = sp at *
  generalize X.fits m e = ft at *
  have hal : e.a.length <= 2000000 := by omega
  obtain ⟨HBK, HA⟩ := hd2 hbk ha
  clear ih hbk hbe ha hn hv
  go_enter Tryz.func183, Tryz.ntmps183
  go_wp2_with fail
  refine HSP.out.mono ?_
  rintro o w1 ⟨rfl, hb1⟩
  have hlt1 : w.heap.size < (w.alloc (.cells #[.int .i64 e.kind, d1, d2, d3, d4, d5, .string e.s, .string e.t, .slice aa e.a.length ca, .slice an e.n.length cn] 170)).heap.size := (blt hblk0)
  have hblk1 := (hb1.block w.heap.size hlt1).trans hblk0
  have hB1 := hbL.trans (hb1.mono hbL.size)
  clear hb1 hbL hblk0 hlt1 HSP
  obtain ⟨b0, b1, b2, b3, b4, b5, b6, b7, b8, b9⟩ := cl10 hblk1
  cases sp
  ·have E : Hid (X.shaped sm (m + 1) e = false) := by show _ = _; rw [hE]; rfl
   clear hE
   go_wp2_with fail
   go_ret
   exact ⟨ret_bool E.out.symm, hB1⟩
  go_wp2_with fail
  refine (HFI.out _ hB1).mono ?_
  rintro o w2 ⟨rfl, hb2⟩
  have hblk2 := (hb2.block w.heap.size (blt hblk1)).trans hblk1
  have hB2 := hB1.trans (hb2.mono hB1.size)
  clear hb2 hB1 hblk1 b0 b1 b2 b3 b4 b5 b6 b7 b8 b9 HFI
  have b8 := cell_of_block hblk2 8 _ rfl
  cases ft
  ·have E : Hid (X.shaped sm (m + 1) e = false) := by show _ = _; rw [hE]; rfl
   clear hE
   go_wp2_with fail
   go_ret
   exact ⟨ret_bool E.out.symm, hB2⟩
  have HE : Hid (X.shaped sm (m + 1) e = e.a.all (X.shaped sm m)) := by show _ = _; rw [hE]; rfl
  clear hE
  go_wp2_with fail
  go_loopw [15, 3] (fun vi _ wr => ∃ k : Nat, k <= e.a.length /\ vi = .int .i64 k /\ (∀ j x, j < k -> e.a[j]? = some x -> X.shaped sm m x = true) /\
    wr.heap[w.heap.size]? = some (.cells #[.int .i64 e.kind, d1, d2, d3, d4, d5, .string e.s, .string e.t, .slice aa e.a.length ca, .slice an e.n.length cn] 170 (0, 0)) /\ Below w.heap.size w wr)
   (fun vi _ _ => e.a.length - (intOf vi).toNat)
  case atStart => exact ⟨0, Nat.zero_le _, rfl, fun j _ hj => absurd hj (by omega), hblk2, hB2⟩
  case round =>
   clear hblk2 hB2 b8
   obtain ⟨k, hk, rfl, hok, hblk, hB⟩ := hrel
   have HOK : Hid _ := hok
   clear hok
   have b8 := cell_of_block hblk 8 _ rfl
   by_cases hlt : k < e.a.length
   ·obtain ⟨b, off, cap, x, f0, f1, f2, f3, f4, f5, f6, f7, f8, f9, e1, hx, hm, y0, y1, y2, y3, y4, y5, y6, y7, y8, y9⟩ := X.elemA (HA.out.kept hB (fun _ _ ⟨x, hx, hm⟩ => ⟨x, hx, X.Mem.kept m hm hB⟩)) k hlt
    simp only [Value.slice.injEq] at e1
    obtain ⟨rfl, _, rfl⟩ := e1
    have hlt2 : w.heap.size < wr.heap.size := (blt hblk)
    have HI := hide (IH.out wr x f0 f1 f2 f3 f4 f5 f6 f7 f8 f9 hm (X.bulk_a m e x (List.mem_of_getElem? hx) _ HBK.out))
    have HX : Hid _ := hx
    clear hm hx
    go_wp2_with fail
    refine Calls.mono HI.out ?_
    rintro o w3 ⟨rfl, hb3⟩
    have hblk3 := (hb3.block w.heap.size hlt2).trans hblk
    have hB3 := hB.trans (hb3.mono hB.size)
    clear hb3 hB hblk y0 y1 y2 y3 y4 y5 y6 y7 y8 y9 b8 HI
    generalize hq : X.shaped sm m x = q
    have HQ : Hid _ := hq
    clear hq
    cases q
    ·have E : Hid (X.shaped sm (m + 1) e = false) := by show _ = _; rw [HE.out, V.all_false _ _ k x HX.out HQ.out]
     go_wp2_with fail
     go_ret
     exact ⟨ret_bool E.out.symm, hB3⟩
    ·have HB3 := hide hB3
     have HBLK3 := hide hblk3
     clear hB3 hblk3
     go_wp2_with fail
     go_roundw
     case rel => exact ⟨k + 1, by omega, by go_num, V.so_far HOK.out HX.out HQ.out, HBLK3.out, HB3.out⟩
     case measure => simp [intOf]; omega
   ·have E : Hid (X.shaped sm (m + 1) e = true) := by
     show _ = _
     rw [HE.out]
     exact V.all_true _ _ (fun j x hx => HOK.out j x (by have := V.lt_of_get hx; omega) hx)
    clear hblk b8
    go_wp2_with fail
    go_ret
    exact ⟨ret_bool E.out.symm, hB⟩
theorem xcheck_any (sm : Val -> Val -> Bool) (hsm : V.Says sm) (m : Nat) (w : World) (e : Ex) (d0 d1 d2 d3 d4 d5 d6 d7 d8 d9 : Value) (h : X.Mem m w e [d0, d1, d2, d3, d4, d5, d6, d7, d8, d9]) (hbk : X.bulk m e <= 2000000) :
  Calls Tryz.prog 165 #[.agg #[d0, d1, d2, d3, d4, d5, d6, d7, d8, d9]] w fun o w' => o = .returned (V.errOf (X.fault sm m e)) /\ Below w.heap.size w w' := by
 have hbL : Below w.heap.size w (w.alloc (.cells #[d0, d1, d2, d3, d4, d5, d6, d7, d8, d9] 170)) := (Below.refl _ _).alloc (Nat.le_refl _) _
 have hblk0 := heap_alloc_new w (.cells #[d0, d1, d2, d3, d4, d5, d6, d7, d8, d9] 170)
 have hroom := xroom_any m _ e 1 60 d0 d1 d2 d3 d4 d5 d6 d7 d8 d9 (X.Mem.kept m h hbL) hbk (by omega) (by omega) (by omega) (by omega)
 have HSH := hide (fun w' (hB : Below w.heap.size w w') => xshaped_any sm hsm m w' e d0 d1 d2 d3 d4 d5 d6 d7 d8 d9 (X.Mem.kept m h hB) hbk)
 have hE : X.fault sm m e = if X.room m e 1 60 < 0 then 2 else if X.shaped sm m e then 0 else 3 := rfl
 generalize X.fault sm m e = F at *
 generalize X.room m e 1 60 = R at *
 generalize X.shaped sm m e = S at *
 have HR := hide hroom
 clear hroom h hbk
 go_enter Tryz.func165, Tryz.ntmps165
 go_wp2_with fail
 refine HR.out.mono ?_
 rintro o w1 ⟨rfl, hb1⟩
 have hblk1 := (hb1.block w.heap.size (blt hblk0)).trans hblk0
 have hB1 := hbL.trans (hb1.mono hbL.size)
 clear hb1 hbL hblk0 HR
 obtain ⟨b0, b1, b2, b3, b4, b5, b6, b7, b8, b9⟩ := cl10 hblk1
 by_cases hR : R < 0
 ·rw [if_pos hR] at hE
  have HE := hide hE
  clear hE
  go_wp2_with fail
  go_ret
  exact ⟨by rw [HE.out]; rfl, hB1⟩
 rw [if_neg hR] at hE
 obtain ⟨HB1, HE⟩ := hd2 hB1 hE
 clear hB1 hE
 go_wp2_with fail
 refine (HSH.out _ HB1.out).mono ?_
 rintro o w2 ⟨rfl, hb2⟩
 have HB2 := hide (HB1.out.trans (hb2.mono HB1.out.size))
 clear hb2 hblk1 b0 b1 b2 b3 b4 b5 b6 b7 b8 b9
 cases S
 ·go_wp2_with fail
  go_ret
  exact ⟨by rw [HE.out]; rfl, HB2.out⟩
 ·go_wp2_with fail
  go_ret
  exact ⟨by rw [HE.out]; rfl, HB2.out⟩
namespace X
end X
structure Rs where
 kind : ByteArray
 name : ByteArray
 parts : List (ByteArray × Ex)
structure Sk where
 name : ByteArray
 ins : List (ByteArray × Val)
 res : List Rs
 outs : List (ByteArray × Ex)
namespace X
def firstErr (l : List Nat) : Nat := (l.find? (fun n => n ≠ 0)).getD 0
theorem firstErr_at {l : List Nat} {k n : Nat} (h : ∀ j, j < k -> l[j]? = some 0) (hk : l[k]? = some n) (hn : n ≠ 0) : firstErr l = n := by
 unfold firstErr
 induction l generalizing k with
 | nil => simp at hk
 | cons a t ih =>
  cases k with
  | zero => cases hk; rw [List.find?_cons_of_pos (by simpa using hn)]; rfl
  | succ k =>
   have h0 : a = 0 := by simpa using h 0 (by omega)
   rw [List.find?_cons_of_neg (by simp [h0])]
   exact ih (k := k) (fun j hj => by simpa using h (j + 1) (by omega)) (by simpa using hk)
theorem firstErr_none {l : List Nat} (h : ∀ j, j < l.length -> l[j]? = some 0) : firstErr l = 0 := by
 unfold firstErr
 have : l.find? (fun n => n ≠ 0) = none := by
  rw [List.find?_eq_none]
  intro x hx
  obtain ⟨j, hj, e⟩ := List.getElem_of_mem hx
  have := h j hj
  rw [List.getElem?_eq_getElem hj, e] at this
  cases this
  simp
 rw [this]; rfl
theorem faults_get {f : Nat -> Nat} {n j : Nat} (h : j < n) : ((List.range n).map f)[j]? = some (f j) := by rw [List.getElem?_map, List.getElem?_range h]; rfl
end X
theorem err_ne (n : Nat) (h : n ≠ 0) : V.errOf n = .iface 54 (.int .i64 n) := by rw [V.errOf, if_neg h]
end Go.Proofs.YtcekcfjabhlheaaGreatDoor.Vx
