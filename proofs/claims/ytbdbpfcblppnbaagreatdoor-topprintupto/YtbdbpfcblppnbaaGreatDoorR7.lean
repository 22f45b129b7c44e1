/- For TopPrint: a name and the sign behind it. -/
import Derived.Test.YtbdbpfcblppnbaaGreatDoorRS
namespace Go.Proofs.YtbdbpfcblppnbaaGreatDoor.Vx
open Go.RowKit
set_option maxRecDepth 100000 in
set_option maxHeartbeats 6400000 in
theorem whole_any (sm : Val → Val → Bool) (hsm : V.Says sm) (R : Nat) (w : World) (ts : List P.K) (h : P.Rdr R w ts) :
  Calls Tryz.prog 45 #[.pointer (some ⟨R, 0, none⟩)] w fun r w' => Fr w w' (fun c => c = R) ∧ P.ExOut (P.whole (fun e => decide (X.fault sm 6 e = 0)) (P.fc ts)) 6 R w w' ts r := by
 have hR := h.lt
 have hb0 : Below w.heap.size w (w.alloc (.cells #[.int .i64 0, .int .i64 0, .int .i64 0, .string ⟨#[]⟩, .slice none 0 0, .slice none 0 0, .string ⟨#[]⟩, .string ⟨#[]⟩, .slice none 0 0, .slice none 0 0] 57)) := (Below.refl _ _).alloc (Nat.le_refl _) _
 have hA0 : (w.alloc (.cells #[.int .i64 0, .int .i64 0, .int .i64 0, .string ⟨#[]⟩, .slice none 0 0, .slice none 0 0, .string ⟨#[]⟩, .string ⟨#[]⟩, .slice none 0 0, .slice none 0 0] 57)).heap[w.heap.size]? = some (.cells #[.int .i64 0, .int .i64 0, .int .i64 0, .string ⟨#[]⟩, .slice none 0 0, .slice none 0 0, .string ⟨#[]⟩, .string ⟨#[]⟩, .slice none 0 0, .slice none 0 0] 57 (0, 0)) := heap_alloc_new _ _
 have hsz : (w.alloc (.cells #[.int .i64 0, .int .i64 0, .int .i64 0, .string ⟨#[]⟩, .slice none 0 0, .slice none 0 0, .string ⟨#[]⟩, .string ⟨#[]⟩, .slice none 0 0, .slice none 0 0] 57)).heap.size = w.heap.size + 1 := by simp
 have HF0 : Hid (Fr w (w.alloc (.cells #[.int .i64 0, .int .i64 0, .int .i64 0, .string ⟨#[]⟩, .slice none 0 0, .slice none 0 0, .string ⟨#[]⟩, .string ⟨#[]⟩, .slice none 0 0, .slice none 0 0] 57)) (fun c => c = R)) := (P.fr_below hb0).weak (fun _ _ e => e.elim)
 have HNX := hide (next_any R _ ts (h.kept hb0))
 have HR0 := hide (h.kept hb0)
 have HA0 := hide hA0
 have HSZ := hide hsz
 have HLN := hide h.len
 clear h hb0 hA0 hsz
 go_enter Tryz.func45, Tryz.ntmps45
 go_wp2_with fail
 generalize (w.alloc (.cells #[.int .i64 0, .int .i64 0, .int .i64 0, .string ⟨#[]⟩, .slice none 0 0, .slice none 0 0, .string ⟨#[]⟩, .string ⟨#[]⟩, .slice none 0 0, .slice none 0 0] 57)) = w0 at *
 refine HNX.out.mono ?_
 rintro r wa ⟨⟨at_, rfl⟩, hba⟩
 have HFa : Hid (Fr w0 wa (fun c => c = R)) := (P.fr_below hba).weak (fun _ _ e => e.elim)
 have HEX := hide (expr_all 6 (by decide) R wa ts (HR0.out.kept hba))
 have hfd := field_at (.int .i64 (P.headT ts).1) (.int .i64 at_) (.string (Lx.str (P.headT ts).2)) wa
 clear hba HNX HR0
 go_wp2_with fail
 refine HEX.out.mono ?_
 rintro r wb ⟨hfb, ⟨e, n, k1, v1, s1, t1, a1, i1, u1, b1, j1, p1, hE, rfl, hM, hbk, hr1⟩ | ⟨hE, ⟨k1, v1, s1, t1, a1, i1, u1, b1, j1, p1, f, rfl⟩, ts', hr1⟩⟩
 ·have hFb := HFa.out.trans hfb (fun _ _ e => e)
  have hAb := (hFb.block w.heap.size (blt HA0.out) (by omega)).trans HA0.out
  have HAc : Hid ((wb.alloc (.cells #[.int .i64 k1, .int .i64 v1.kind, .int .i64 v1.n, .string v1.s, .slice none 0 0, .slice none 0 0, .string s1, .string t1, .slice a1 i1 u1, .slice b1 j1 p1] 57)).heap[w.heap.size]? = some (.cells #[.int .i64 0, .int .i64 0, .int .i64 0, .string ⟨#[]⟩, .slice none 0 0, .slice none 0 0, .string ⟨#[]⟩, .string ⟨#[]⟩, .slice none 0 0, .slice none 0 0] 57 (0, 0))) := by
   show _ = _
   rw [heap_alloc_old _ _ (blt hAb)]; exact hAb
  have hX : (wb.alloc (.cells #[.int .i64 k1, .int .i64 v1.kind, .int .i64 v1.n, .string v1.s, .slice none 0 0, .slice none 0 0, .string s1, .string t1, .slice a1 i1 u1, .slice b1 j1 p1] 57)).heap[wb.heap.size]? = some (.cells #[.int .i64 k1, .int .i64 v1.kind, .int .i64 v1.n, .string v1.s, .slice none 0 0, .slice none 0 0, .string s1, .string t1, .slice a1 i1 u1, .slice b1 j1 p1] 57 (0, 0)) := heap_alloc_new _ _
  have HFc : Hid (Fr w (wb.alloc (.cells #[.int .i64 k1, .int .i64 v1.kind, .int .i64 v1.n, .string v1.s, .slice none 0 0, .slice none 0 0, .string s1, .string t1, .slice a1 i1 u1, .slice b1 j1 p1] 57)) (fun c => c = R)) := (HF0.out.trans hFb (fun _ _ e => e)).alloc _
  have HMc : Hid (X.MemD (P.New wa wb) 6 (wb.alloc (.cells #[.int .i64 k1, .int .i64 v1.kind, .int .i64 v1.n, .string v1.s, .slice none 0 0, .slice none 0 0, .string s1, .string t1, .slice a1 i1 u1, .slice b1 j1 p1] 57)) e (P.xc k1 v1 s1 t1 a1 i1 u1 b1 j1 p1)) := hM.to (fun c hc => heap_alloc_old _ _ hc.2) (fun _ hc => hc)
  have HCK := hide (xcheck_any sm hsm 6 (wb.alloc (.cells #[.int .i64 k1, .int .i64 v1.kind, .int .i64 v1.n, .string v1.s, .slice none 0 0, .slice none 0 0, .string s1, .string t1, .slice a1 i1 u1, .slice b1 j1 p1] 57)) e _ _ _ _ _ _ _ _ _ _ HMc.out.mem (by have := HLN.out; omega))
  have HRc : Hid (P.Rdr R (wb.alloc (.cells #[.int .i64 k1, .int .i64 v1.kind, .int .i64 v1.n, .string v1.s, .slice none 0 0, .slice none 0 0, .string s1, .string t1, .slice a1 i1 u1, .slice b1 j1 p1] 57)) (ts.drop (n + 1))) := hr1.kept ((Below.refl _ _).alloc (Nat.le_refl _) _)
  have HSc : Hid ((wb.alloc (.cells #[.int .i64 k1, .int .i64 v1.kind, .int .i64 v1.n, .string v1.s, .slice none 0 0, .slice none 0 0, .string s1, .string t1, .slice a1 i1 u1, .slice b1 j1 p1] 57)).heap.size = wb.heap.size + 1) := by
   show _ = _
   simp
  have HLa : Hid (w.heap.size + 1 ≤ wa.heap.size) := by
   show _ ≤ _
   have := HFa.out.size
   have := HSZ.out
   omega
  have HLb : Hid (wa.heap.size ≤ wb.heap.size) := hfb.size
  have HE := hide hE
  have HBK := hide hbk
  obtain ⟨x0, x1, x2, x3, x4, x5, x6, x7, x8, x9⟩ := cl10 hX
  have HX := hide hX
  unfold P.xc
  clear hfb hFb hAb hX hM hr1 hE hbk hfd HEX
  go_wp2_with fail
  generalize (wb.alloc (.cells #[.int .i64 k1, .int .i64 v1.kind, .int .i64 v1.n, .string v1.s, .slice none 0 0, .slice none 0 0, .string s1, .string t1, .slice a1 i1 u1, .slice b1 j1 p1] 57)) = wc at *
  refine HCK.out.mono ?_
  rintro r wd ⟨rfl, hbd⟩
  have hfd : Fr wc wd (fun c => c = R) := (P.fr_below hbd).weak (fun _ _ e => e.elim)
  have hAd := (hfd.block w.heap.size (blt HAc.out) (by omega)).trans HAc.out
  have hXd := (hfd.block wb.heap.size (blt HX.out) (by have := HLa.out; have := HLb.out; omega)).trans HX.out
  by_cases hf0 : X.fault sm 6 e = 0
  ·rw [hf0, X.errOf_zero]
   have HF3 := hide (HFc.out.trans hfd (fun _ _ e => e))
   have HP : Hid (P.whole (fun e => decide (X.fault sm 6 e = 0)) (P.fc ts) = some (e, P.fc (ts.drop (n + 1)))) := by
    show _ = _
    unfold P.whole
    rw [HE.out]
    simp [hf0]
   have HRd := hide (HRc.out.kept hbd)
   have HM3 : Hid (X.MemD (P.New wa wb) 6 wd e (P.xc k1 v1 s1 t1 a1 i1 u1 b1 j1 p1)) := HMc.out.to (fun c hc => hfd.block c (by have := hc.2; have := HSc.out; omega) (by have := hc.1; have := HLa.out; omega)) (fun _ hc => hc)
   have HLd : Hid (wb.heap.size ≤ wd.heap.size) := by
    show _ ≤ _
    have := hfd.size
    have := HSc.out
    omega
   obtain ⟨y0, y1, y2, y3, y4, y5, y6, y7, y8, y9⟩ := cl10 hXd
   clear hbd hfd hXd hf0
   obtain ⟨z0, z1, z2, z3, z4, z5, z6, z7, z8, z9⟩ := cl10 hAd
   obtain ⟨f0, f1, f2, f3, f4, f5, f6, f7, f8, f9⟩ := fl10 hAd
   have HAx := hide hAd
   clear hAd
   go_wp2_with fail
   obtain ⟨wz, hwz, hBz, hFz⟩ := P.sf10 HAx.out (.int .i64 k1) (.int .i64 v1.kind) (.int .i64 v1.n) (.string v1.s) (.slice none 0 0) (.slice none 0 0) (.string s1) (.string t1) (.slice a1 i1 u1) (.slice b1 j1 p1)
   rw [← hwz]
   clear hwz
   obtain ⟨r0, r1, r2, r3, r4, r5, r6, r7, r8, r9⟩ := cl10 hBz
   refine bodyPost_ret (v := .tuple #[.agg #[.int .i64 k1, .int .i64 v1.kind, .int .i64 v1.n, .string v1.s, .slice none 0 0, .slice none 0 0, .string s1, .string t1, .slice a1 i1 u1, .slice b1 j1 p1], .nilIface]) (by simp [results, Tryz.results45, go_sem, r0, r1, r2, r3, r4, r5, r6, r7, r8, r9]) rfl ⟨HF3.out.trans hFz (fun c hc e => by omega), .inl ⟨e, n, k1, v1, s1, t1, a1, i1, u1, b1, j1, p1, HP.out, rfl, HM3.out.to (fun c hc => hFz.block c (by have := hc.2; have := HLd.out; omega) (by have := hc.1; have := HLa.out; omega)) (fun c hc => ⟨by have := hc.1; have := HLa.out; omega, by have := hc.2; have := HLd.out; have := hFz.size; omega⟩), HBK.out, HRd.out.fr hFz (fun c e => by omega)⟩⟩
  ·have hev : V.errOf (X.fault sm 6 e) = .iface 62 (.int .i64 (X.fault sm 6 e)) := by
    unfold V.errOf
    rw [if_neg hf0]
   rw [hev]
   have HP : Hid (P.whole (fun e => decide (X.fault sm 6 e = 0)) (P.fc ts) = none) := by
    show _ = _
    unfold P.whole
    rw [HE.out]
    simp [hf0]
   have HFL := hide (failAt_any R wd (ts.drop (n + 1)) at_ (.iface 62 (.int .i64 (X.fault sm 6 e))) (HRc.out.kept hbd))
   generalize hff : X.fault sm 6 e = ff at *
   have HFd := hide (HFc.out.trans hfd (fun _ _ e => e))
   have HAd := hide hAd
   clear hbd hfd hXd hAd hev hf0 hff
   go_wp2_with fail
   refine HFL.out.mono ?_
   rintro r we ⟨rfl, hre, hfe⟩
   have hAe := (hfe.block w.heap.size (blt HAd.out) (by omega)).trans HAd.out
   have HF3 := hide (HFd.out.trans hfe (fun _ _ e => e))
   have HRe := hide hre
   clear hre hfe HFL
   obtain ⟨z0, z1, z2, z3, z4, z5, z6, z7, z8, z9⟩ := cl10 hAe
   obtain ⟨f0, f1, f2, f3, f4, f5, f6, f7, f8, f9⟩ := fl10 hAe
   have HAx := hide hAe
   clear hAe
   go_wp2_with fail
   obtain ⟨wz, hwz, hBz, hFz⟩ := P.sf10 HAx.out (.int .i64 0) (.int .i64 0) (.int .i64 0) (.string ⟨#[]⟩) (.slice none 0 0) (.slice none 0 0) (.string ⟨#[]⟩) (.string ⟨#[]⟩) (.slice none 0 0) (.slice none 0 0)
   rw [← hwz]
   clear hwz
   obtain ⟨r0, r1, r2, r3, r4, r5, r6, r7, r8, r9⟩ := cl10 hBz
   refine bodyPost_ret (v := .tuple #[.agg #[.int .i64 0, .int .i64 0, .int .i64 0, .string ⟨#[]⟩, .slice none 0 0, .slice none 0 0, .string ⟨#[]⟩, .string ⟨#[]⟩, .slice none 0 0, .slice none 0 0], .iface 62 (.int .i64 ff)]) (by simp [results, Tryz.results45, go_sem, r0, r1, r2, r3, r4, r5, r6, r7, r8, r9]) rfl ⟨HF3.out.trans hFz (fun c hc e => by omega), .inr ⟨HP.out, ⟨0, V.zero, ⟨#[]⟩, ⟨#[]⟩, none, 0, 0, none, 0, 0, ff, rfl⟩, _, HRe.out.fr hFz (fun c e => by omega)⟩⟩
 ·have hFb := HFa.out.trans hfb (fun _ _ e => e)
  have hAb := (hFb.block w.heap.size (blt HA0.out) (by omega)).trans HA0.out
  have hAc : (wb.alloc (.cells #[.int .i64 k1, .int .i64 v1.kind, .int .i64 v1.n, .string v1.s, .slice none 0 0, .slice none 0 0, .string s1, .string t1, .slice a1 i1 u1, .slice b1 j1 p1] 57)).heap[w.heap.size]? = some (.cells #[.int .i64 0, .int .i64 0, .int .i64 0, .string ⟨#[]⟩, .slice none 0 0, .slice none 0 0, .string ⟨#[]⟩, .string ⟨#[]⟩, .slice none 0 0, .slice none 0 0] 57 (0, 0)) := by
   rw [heap_alloc_old _ _ (blt hAb)]; exact hAb
  have HF3 : Hid (Fr w (wb.alloc (.cells #[.int .i64 k1, .int .i64 v1.kind, .int .i64 v1.n, .string v1.s, .slice none 0 0, .slice none 0 0, .string s1, .string t1, .slice a1 i1 u1, .slice b1 j1 p1] 57)) (fun c => c = R)) := (HF0.out.trans hFb (fun _ _ e => e)).alloc _
  have HRc : Hid (P.Rdr R (wb.alloc (.cells #[.int .i64 k1, .int .i64 v1.kind, .int .i64 v1.n, .string v1.s, .slice none 0 0, .slice none 0 0, .string s1, .string t1, .slice a1 i1 u1, .slice b1 j1 p1] 57)) ts') := hr1.kept ((Below.refl _ _).alloc (Nat.le_refl _) _)
  have HP : Hid (P.whole (fun e => decide (X.fault sm 6 e = 0)) (P.fc ts) = none) := by
   show _ = _
   unfold P.whole
   rw [hE]
  unfold P.xc
  clear hfb hFb hAb hr1 hE hfd HEX
  obtain ⟨z0, z1, z2, z3, z4, z5, z6, z7, z8, z9⟩ := cl10 hAc
  obtain ⟨f0, f1, f2, f3, f4, f5, f6, f7, f8, f9⟩ := fl10 hAc
  have HAx := hide hAc
  clear hAc
  go_wp2_with fail
  obtain ⟨wz, hwz, hBz, hFz⟩ := P.sf10 HAx.out (.int .i64 0) (.int .i64 0) (.int .i64 0) (.string ⟨#[]⟩) (.slice none 0 0) (.slice none 0 0) (.string ⟨#[]⟩) (.string ⟨#[]⟩) (.slice none 0 0) (.slice none 0 0)
  rw [← hwz]
  clear hwz
  obtain ⟨r0, r1, r2, r3, r4, r5, r6, r7, r8, r9⟩ := cl10 hBz
  refine bodyPost_ret (v := .tuple #[.agg #[.int .i64 0, .int .i64 0, .int .i64 0, .string ⟨#[]⟩, .slice none 0 0, .slice none 0 0, .string ⟨#[]⟩, .string ⟨#[]⟩, .slice none 0 0, .slice none 0 0], .iface 62 (.int .i64 f)]) (by simp [results, Tryz.results45, go_sem, r0, r1, r2, r3, r4, r5, r6, r7, r8, r9]) rfl ⟨HF3.out.trans hFz (fun c hc e => by omega), .inr ⟨HP.out, ⟨0, V.zero, ⟨#[]⟩, ⟨#[]⟩, none, 0, 0, none, 0, 0, f, rfl⟩, _, HRc.out.fr hFz (fun c e => by omega)⟩⟩
end Go.Proofs.YtbdbpfcblppnbaaGreatDoor.Vx
namespace Go.Proofs.YtbdbpfcblppnbaaGreatDoor.Vx
open Go.RowKit
set_option maxRecDepth 100000 in
set_option maxHeartbeats 3200000 in
theorem nameEq_any (R : Nat) (w : World) (ts : List P.K) (h : P.Rdr R w ts) :
  Calls Tryz.prog 44 #[.pointer (some ⟨R, 0, none⟩)] w fun r w' => Fr w w' (fun c => c = R) ∧
   ((∃ t1 t2 ts', ts = t1 :: t2 :: ts' ∧ P.nameEq (P.fc ts) = some (V.str t1.2.2, P.fc ts') ∧ V.name t1.2.2 = true ∧ r = .returned (.tuple #[.string (V.str t1.2.2), .nilIface]) ∧ P.Rdr R w' ts') ∨
    (P.nameEq (P.fc ts) = none ∧ (∃ s f, r = .returned (.tuple #[.string s, .iface 62 (.int .i64 f)])) ∧ ∃ ts', P.Rdr R w' ts')) := by
 have HN := hide (rname_any R w ts h)
 clear h
 go_enter Tryz.func44, Tryz.ntmps44
 go_wp2_with fail
 refine HN.out.mono ?_
 rintro r w1 ⟨hf1, ⟨t1, ts1, rfl, hE1, hn1, rfl, hr1⟩ | ⟨hE1, rfl, hr1⟩⟩
 ·have HSG := hide (sign_ev R w1 ts1 ⟨#[61]⟩ hr1)
  have HF1 := hide hf1
  have HE1 := hide hE1
  have HN1 := hide hn1
  clear hf1 hE1 hr1 HN hn1
  go_wp2_with fail
  refine HSG.out.mono ?_
  rintro r w2 ⟨hf2, ev, rfl, ⟨t2, ts2, rfl, hE2, rfl, hr2⟩ | ⟨hE2, rfl, hr2⟩⟩
  ·have HF2 := hide (HF1.out.trans hf2 (fun _ _ e => e))
   have HP : Hid (P.nameEq (P.fc (t1 :: t2 :: ts2)) = some (V.str t1.2.2, P.fc ts2)) := by
    show _ = _
    unfold P.nameEq
    rw [HE1.out]
    simp only
    rw [show P.found 4 [61] _ = _ from hE2]
    rfl
   have HR2 := hide hr2
   clear hf2 hE2 hr2 HSG
   go_wp2_with fail
   exact bodyPost_ret (v := .tuple #[.string (V.str t1.2.2), .nilIface]) (by simp [results, Tryz.results44, go_sem]) rfl ⟨HF2.out, .inl ⟨t1, t2, ts2, rfl, HP.out, HN1.out, rfl, HR2.out⟩⟩
  ·have HF2 := hide (HF1.out.trans hf2 (fun _ _ e => e))
   have HP : Hid (P.nameEq (P.fc (t1 :: ts1)) = none) := by
    show _ = _
    unfold P.nameEq
    rw [HE1.out]
    simp only
    rw [show P.found 4 [61] _ = _ from hE2]
    rfl
   have HR2 := hide hr2
   clear hf2 hE2 hr2 HSG
   go_wp2_with fail
   exact bodyPost_ret (v := .tuple #[.string (V.str t1.2.2), .iface 62 (.int .i64 5)]) (by simp [results, Tryz.results44, go_sem]) rfl ⟨HF2.out, .inr ⟨HP.out, ⟨_, _, rfl⟩, _, HR2.out⟩⟩
 ·have HP : Hid (P.nameEq (P.fc ts) = none) := by
   show _ = _
   unfold P.nameEq
   rw [hE1]
  have HF1 := hide hf1
  have HR1 := hide hr1
  clear hf1 hr1 hE1 HN
  go_wp2_with fail
  exact bodyPost_ret (v := .tuple #[.string ⟨#[]⟩, .iface 62 (.int .i64 5)]) (by simp [results, Tryz.results44, go_sem]) rfl ⟨HF1.out, .inr ⟨HP.out, ⟨_, _, rfl⟩, _, HR1.out⟩⟩
end Go.Proofs.YtbdbpfcblppnbaaGreatDoor.Vx
