/- For TopPrint: group. -/
import Derived.Test.YtbdbpfcblppnbaaGreatDoorRI
namespace Go.Proofs.YtbdbpfcblppnbaaGreatDoor.Vx
open Go.RowKit
attribute [local go_sem ↓] Go.wp_at_zero Go.wp_at_succ
set_option maxRecDepth 100000 in
set_option maxHeartbeats 6400000 in
theorem group_any (d R Br Bd : Nat) (w : World) (ts : List P.K) (hd : d ≤ 6) (ih : P.IH d) (h : P.Rdr R w ts) (hi : P.Inn R Br Bd d w) :
  Calls Tryz.prog 85 #[.pointer (some ⟨R, 0, none⟩), .func (.func 80) #[] #[.pointer (some ⟨Br, 0, none⟩), .pointer (some ⟨Bd, 0, none⟩)]] w fun r w' => Fr w w' (fun c => c = R) ∧ P.ExOut (P.group (P.ex d) (P.fc ts)) (d + 1) R w w' ts r := by
 have hR := h.lt
 have hb0 : Below w.heap.size w (w.alloc (.cells #[.int .i64 0, .int .i64 0, .int .i64 0, .string ⟨#[]⟩, .slice none 0 0, .slice none 0 0, .string ⟨#[]⟩, .string ⟨#[]⟩, .slice none 0 0, .slice none 0 0] 57)) := (Below.refl _ _).alloc (Nat.le_refl _) _
 have hA0 : (w.alloc (.cells #[.int .i64 0, .int .i64 0, .int .i64 0, .string ⟨#[]⟩, .slice none 0 0, .slice none 0 0, .string ⟨#[]⟩, .string ⟨#[]⟩, .slice none 0 0, .slice none 0 0] 57)).heap[w.heap.size]? = some (.cells #[.int .i64 0, .int .i64 0, .int .i64 0, .string ⟨#[]⟩, .slice none 0 0, .slice none 0 0, .string ⟨#[]⟩, .string ⟨#[]⟩, .slice none 0 0, .slice none 0 0] 57 (0, 0)) := heap_alloc_new _ _
 have hsz0 : (w.alloc (.cells #[.int .i64 0, .int .i64 0, .int .i64 0, .string ⟨#[]⟩, .slice none 0 0, .slice none 0 0, .string ⟨#[]⟩, .string ⟨#[]⟩, .slice none 0 0, .slice none 0 0] 57)).heap.size = w.heap.size + 1 := by simp
 have HN := hide (inner_any d R Br Bd _ ts hd ih (h.kept hb0) (hi.kept hb0))
 have HF0 : Hid (Fr w (w.alloc (.cells #[.int .i64 0, .int .i64 0, .int .i64 0, .string ⟨#[]⟩, .slice none 0 0, .slice none 0 0, .string ⟨#[]⟩, .string ⟨#[]⟩, .slice none 0 0, .slice none 0 0] 57)) (fun c => c = R)) := (P.fr_below hb0).weak (fun _ _ e => e.elim)
 have HI := hide (hi.kept hb0)
 have HIH := hide ih
 have HA0 := hide hA0
 have HSZ0 := hide hsz0
 clear h hb0 hA0 hi ih hsz0
 go_enter Tryz.func85, Tryz.ntmps85
 go_wp2_with fail
 generalize (w.alloc (.cells #[.int .i64 0, .int .i64 0, .int .i64 0, .string ⟨#[]⟩, .slice none 0 0, .slice none 0 0, .string ⟨#[]⟩, .string ⟨#[]⟩, .slice none 0 0, .slice none 0 0] 57)) = w0 at *
 refine HN.out.mono ?_
 rintro r w1 ⟨hf1, ⟨e1, n, k1, v1, s1, t1, a1, i1, u1, b1, j1, p1, hE, rfl, hM, hbk, hr1⟩ | ⟨hE, ⟨k1, v1, s1, t1, a1, i1, u1, b1, j1, p1, f, rfl⟩, ts', hr1⟩⟩
 ·have hA1 := (hf1.block w.heap.size (blt HA0.out) (by omega)).trans HA0.out
  have hlt1 : w.heap.size < w1.heap.size := (blt hA1)
  have hA2 : (w1.alloc (.cells #[.int .i64 k1, .int .i64 v1.kind, .int .i64 v1.n, .string v1.s, .slice none 0 0, .slice none 0 0, .string s1, .string t1, .slice a1 i1 u1, .slice b1 j1 p1] 57)).heap[w.heap.size]? = some (.cells #[.int .i64 0, .int .i64 0, .int .i64 0, .string ⟨#[]⟩, .slice none 0 0, .slice none 0 0, .string ⟨#[]⟩, .string ⟨#[]⟩, .slice none 0 0, .slice none 0 0] 57 (0, 0)) := by rw [heap_alloc_old _ _ hlt1]; exact hA1
  have hY2 : (w1.alloc (.cells #[.int .i64 k1, .int .i64 v1.kind, .int .i64 v1.n, .string v1.s, .slice none 0 0, .slice none 0 0, .string s1, .string t1, .slice a1 i1 u1, .slice b1 j1 p1] 57)).heap[w1.heap.size]? = some (.cells #[.int .i64 k1, .int .i64 v1.kind, .int .i64 v1.n, .string v1.s, .slice none 0 0, .slice none 0 0, .string s1, .string t1, .slice a1 i1 u1, .slice b1 j1 p1] 57 (0, 0)) := heap_alloc_new _ _
  have hF2 : Fr w (w1.alloc (.cells #[.int .i64 k1, .int .i64 v1.kind, .int .i64 v1.n, .string v1.s, .slice none 0 0, .slice none 0 0, .string s1, .string t1, .slice a1 i1 u1, .slice b1 j1 p1] 57)) (fun c => c = R) := (HF0.out.trans hf1 (fun _ _ e => e)).alloc _
  have HI2 : Hid (P.Inn R Br Bd d (w1.alloc (.cells #[.int .i64 k1, .int .i64 v1.kind, .int .i64 v1.n, .string v1.s, .slice none 0 0, .slice none 0 0, .string s1, .string t1, .slice a1 i1 u1, .slice b1 j1 p1] 57))) := (HI.out.fr hf1).kept ((Below.refl _ _).alloc (Nat.le_refl _) _)
  have HFD := hide (found_any R (w1.alloc (.cells #[.int .i64 k1, .int .i64 v1.kind, .int .i64 v1.n, .string v1.s, .slice none 0 0, .slice none 0 0, .string s1, .string t1, .slice a1 i1 u1, .slice b1 j1 p1] 57)) (ts.drop (n + 1)) 4 ⟨#[63]⟩ (by decide) (hr1.kept ((Below.refl _ _).alloc (Nat.le_refl _) _)))
  have HFa : Hid (Fr w1 (w1.alloc (.cells #[.int .i64 k1, .int .i64 v1.kind, .int .i64 v1.n, .string v1.s, .slice none 0 0, .slice none 0 0, .string s1, .string t1, .slice a1 i1 u1, .slice b1 j1 p1] 57)) (fun c => c = R)) := (Fr.refl w1 _).alloc _
  have HE := hide hE
  have HM := hide hM
  have HBK := hide hbk
  have HF2 := hide hF2
  have HA2 := hide hA2
  have HY2 := hide hY2
  have HLT := hide hlt1
  unfold P.xc
  clear hf1 hE hr1 hM hbk HN hA1 hA2 hY2 hF2 hlt1
  go_wp2_with fail
  generalize (w1.alloc (.cells #[.int .i64 k1, .int .i64 v1.kind, .int .i64 v1.n, .string v1.s, .slice none 0 0, .slice none 0 0, .string s1, .string t1, .slice a1 i1 u1, .slice b1 j1 p1] 57)) = wa at *
  refine HFD.out.mono ?_
  rintro r w2 ⟨hf2, ⟨tq, ts2, eT, hE2, rfl, hr2⟩ | ⟨hE2, rfl, hr2⟩⟩
  ·have hA3 := (hf2.block w.heap.size (blt HA2.out) (by omega)).trans HA2.out
   have hY3 := (hf2.block w1.heap.size (blt HY2.out) (by have := HLT.out; omega)).trans HY2.out
   have HF3 := hide (HF2.out.trans hf2 (fun _ _ e => e))
   have HFb := hide (HFa.out.trans hf2 (fun _ _ e => e))
   have HCH := hide (choice_any (P.New w0 w1) d R Br Bd w2 ts2 e1 k1 v1 s1 t1 a1 i1 u1 b1 j1 p1 hd HIH.out hr2 (HI2.out.fr hf2) (fun c hc => by have h1 := hc.1; have h2 := hc.2; have h3 := HFb.out.size; have h4 := HSZ0.out; exact ⟨by omega, by omega⟩) (HM.out.to (fun c hc => HFb.out.block c hc.2 (by have h1 := hc.1; have h4 := HSZ0.out; omega)) (fun c hc => hc)))
   have HA3 := hide hA3
   have HE2 := hide hE2
   obtain ⟨y0, y1, y2, y3, y4, y5, y6, y7, y8, y9⟩ := cl10 hY3
   clear hf2 hr2 hE2 HFD hA3 hY3
   go_wp2_with fail
   refine HCH.out.mono ?_
   rintro r w3 ⟨hf3, ⟨e3, m, k3, v3, s3, t3, a3, i3, u3, b3, j3, p3, hE3, rfl, hM3, hbk3, hr3⟩ | ⟨hE3, ⟨k3, v3, s3, t3, a3, i3, u3, b3, j3, p3, f, rfl⟩, ts', hr3⟩⟩
   ·have hA4 := (hf3.block w.heap.size (blt HA3.out) (by omega)).trans HA3.out
    have HF4 := hide (HF3.out.trans hf3 (fun _ _ e => e))
    have HR3 : Hid (P.Rdr R w3 (ts.drop (n + m + 2 + 1))) := by
     show P.Rdr _ _ _
     rw [show ts.drop (n + m + 2 + 1) = ts2.drop (m + 1) by rw [← P.drop_next eT, List.drop_drop]; congr 1; omega]
     exact hr3
    have HP : Hid (P.group (P.ex d) (P.fc ts) = some (e3, P.fc (ts.drop (n + m + 2 + 1)))) := by
     show _ = _
     rw [show ts.drop (n + m + 2 + 1) = ts2.drop (m + 1) by rw [← P.drop_next eT, List.drop_drop]; congr 1; omega]
     unfold P.group
     rw [HE.out]
     simp only
     rw [show P.found 4 [63] _ = _ from HE2.out]
     exact hE3
    have HBK2 : Hid (X.bulk (d + 1) e3 + 60 * (ts.drop (n + m + 2 + 1)).length ≤ 60 * ts.length) := by
     show _ ≤ _
     rw [show ts.drop (n + m + 2 + 1) = ts2.drop (m + 1) by rw [← P.drop_next eT, List.drop_drop]; congr 1; omega]
     have h1 := HBK.out
     have e2 : ts.drop (n + 1) = _ := eT
     rw [e2, List.length_cons] at h1
     omega
    have HM3 := hide hM3
    have HK : Hid (∀ c, (P.New w0 w1 c ∨ P.New w2 w3 c) → w.heap.size < c ∧ c < w3.heap.size) := fun c hc => by
     have l0 := HSZ0.out
     have l1 := HFb.out.size
     have l2 := hf3.size
     have l3 := HLT.out
     rcases hc with hc | hc
     ·have h1 := hc.1
      have h2 := hc.2
      exact ⟨by omega, by omega⟩
     ·have h1 := hc.1
      have h2 := hc.2
      exact ⟨by omega, by omega⟩
    unfold P.xc
    clear hf3 hr3 hE3 hM3 hbk3 HCH
    clear y0
    clear y1
    clear y2
    clear y3
    clear y4
    clear y5
    clear y6
    clear y7
    clear y8
    clear y9
    obtain ⟨z0, z1, z2, z3, z4, z5, z6, z7, z8, z9⟩ := cl10 hA4
    obtain ⟨f0, f1, f2, f3, f4, f5, f6, f7, f8, f9⟩ := fl10 hA4
    have HAx := hide hA4
    clear hA4
    go_wp2_with fail
    obtain ⟨wz, hwz, hBz, hFz⟩ := P.sf10 HAx.out (.int .i64 k3) (.int .i64 v3.kind) (.int .i64 v3.n) (.string v3.s) (.slice none 0 0) (.slice none 0 0) (.string s3) (.string t3) (.slice a3 i3 u3) (.slice b3 j3 p3)
    rw [← hwz]
    clear hwz
    obtain ⟨r0, r1, r2, r3, r4, r5, r6, r7, r8, r9⟩ := cl10 hBz
    refine bodyPost_ret (v := .tuple #[.agg #[.int .i64 k3, .int .i64 v3.kind, .int .i64 v3.n, .string v3.s, .slice none 0 0, .slice none 0 0, .string s3, .string t3, .slice a3 i3 u3, .slice b3 j3 p3], .nilIface]) (by simp [results, Tryz.results85, go_sem, r0, r1, r2, r3, r4, r5, r6, r7, r8, r9]) rfl ⟨HF4.out.trans hFz (fun c hc e => by omega), .inl ⟨e3, n + m + 2, k3, v3, s3, t3, a3, i3, u3, b3, j3, p3, HP.out, rfl, HM3.out.to (fun c hc => hFz.block c (HK.out c hc).2 (by have := (HK.out c hc).1; omega)) (fun c hc => ⟨by have := (HK.out c hc).1; omega, by have := (HK.out c hc).2; have := hFz.size; omega⟩), HBK2.out, HR3.out.fr hFz (fun c e => by omega)⟩⟩
   ·have hA4 := (hf3.block w.heap.size (blt HA3.out) (by omega)).trans HA3.out
    have HF4 := hide (HF3.out.trans hf3 (fun _ _ e => e))
    have HR3 := hide hr3
    have HP : Hid (P.group (P.ex d) (P.fc ts) = none) := by
     show _ = _
     unfold P.group
     rw [HE.out]
     simp only
     rw [show P.found 4 [63] _ = _ from HE2.out]
     exact hE3
    unfold P.xc
    clear hf3 hr3 hE3 HCH
    clear y0
    clear y1
    clear y2
    clear y3
    clear y4
    clear y5
    clear y6
    clear y7
    clear y8
    clear y9
    obtain ⟨z0, z1, z2, z3, z4, z5, z6, z7, z8, z9⟩ := cl10 hA4
    obtain ⟨f0, f1, f2, f3, f4, f5, f6, f7, f8, f9⟩ := fl10 hA4
    have HAx := hide hA4
    clear hA4
    go_wp2_with fail
    obtain ⟨wz, hwz, hBz, hFz⟩ := P.sf10 HAx.out (.int .i64 k3) (.int .i64 v3.kind) (.int .i64 v3.n) (.string v3.s) (.slice none 0 0) (.slice none 0 0) (.string s3) (.string t3) (.slice a3 i3 u3) (.slice b3 j3 p3)
    rw [← hwz]
    clear hwz
    obtain ⟨r0, r1, r2, r3, r4, r5, r6, r7, r8, r9⟩ := cl10 hBz
    refine bodyPost_ret (v := .tuple #[.agg #[.int .i64 k3, .int .i64 v3.kind, .int .i64 v3.n, .string v3.s, .slice none 0 0, .slice none 0 0, .string s3, .string t3, .slice a3 i3 u3, .slice b3 j3 p3], .iface 62 (.int .i64 f)]) (by simp [results, Tryz.results85, go_sem, r0, r1, r2, r3, r4, r5, r6, r7, r8, r9]) rfl ⟨HF4.out.trans hFz (fun c hc e => by omega), .inr ⟨HP.out, ⟨k3, v3, s3, t3, a3, i3, u3, b3, j3, p3, f, rfl⟩, _, HR3.out.fr hFz (fun c e => by omega)⟩⟩
  ·have hA3 := (hf2.block w.heap.size (blt HA2.out) (by omega)).trans HA2.out
   have hY3 := (hf2.block w1.heap.size (blt HY2.out) (by have := HLT.out; omega)).trans HY2.out
   have HF3 := hide (HF2.out.trans hf2 (fun _ _ e => e))
   have HFb := hide (HFa.out.trans hf2 (fun _ _ e => e))
   have HTW := hide (two_any R w2 (ts.drop (n + 1)) hr2)
   have HI3 := hide (HI2.out.fr hf2)
   have HA3 := hide hA3
   have HY3 := hide hY3
   have HE2 := hide hE2
   clear hf2 hr2 hE2 HFD hA3 hY3
   go_wp2_with fail
   refine HTW.out.mono ?_
   rintro r w3 ⟨hf3, ⟨tk, ts3, kk, eT, hE3, rfl, hr3⟩ | ⟨hE3, ⟨f, rfl⟩, hr3⟩⟩
   ·have hA4 := (hf3.block w.heap.size (blt HA3.out) (by omega)).trans HA3.out
    have hY4 := (hf3.block w1.heap.size (blt HY3.out) (by have := HLT.out; omega)).trans HY3.out
    have HF4 := hide (HF3.out.trans hf3 (fun _ _ e => e))
    have HFc := hide (HFb.out.trans hf3 (fun _ _ e => e))
    have HN2 := hide (inner_any d R Br Bd w3 ts3 hd HIH.out hr3 (HI3.out.fr hf3))
    have HA4 := hide hA4
    have HY4 := hide hY4
    have HE3 := hide hE3
    clear hf3 hr3 hE3 HTW hA4 hY4
    go_wp2_with fail
    refine HN2.out.mono ?_
    rintro r w4 ⟨hf4, ⟨e2, m, k2, v2, s2, t2, a2, i2, u2, b2, j2, p2, hE4, rfl, hM4, hbk4, hr4⟩ | ⟨hE4, ⟨k2, v2, s2, t2, a2, i2, u2, b2, j2, p2, f, rfl⟩, ts', hr4⟩⟩
    ·have hA5 := (hf4.block w.heap.size (blt HA4.out) (by omega)).trans HA4.out
     have hY5 := (hf4.block w1.heap.size (blt HY4.out) (by have := HLT.out; omega)).trans HY4.out
     have HA5 : Hid ((w4.alloc (.cells #[.int .i64 k2, .int .i64 v2.kind, .int .i64 v2.n, .string v2.s, .slice none 0 0, .slice none 0 0, .string s2, .string t2, .slice a2 i2 u2, .slice b2 j2 p2] 57)).heap[w.heap.size]? = some (.cells #[.int .i64 0, .int .i64 0, .int .i64 0, .string ⟨#[]⟩, .slice none 0 0, .slice none 0 0, .string ⟨#[]⟩, .string ⟨#[]⟩, .slice none 0 0, .slice none 0 0] 57 (0, 0))) := by
      show _ = _
      rw [heap_alloc_old _ _ (blt hA5)]; exact hA5
     have HY5 : Hid ((w4.alloc (.cells #[.int .i64 k2, .int .i64 v2.kind, .int .i64 v2.n, .string v2.s, .slice none 0 0, .slice none 0 0, .string s2, .string t2, .slice a2 i2 u2, .slice b2 j2 p2] 57)).heap[w1.heap.size]? = some (.cells #[.int .i64 k1, .int .i64 v1.kind, .int .i64 v1.n, .string v1.s, .slice none 0 0, .slice none 0 0, .string s1, .string t1, .slice a1 i1 u1, .slice b1 j1 p1] 57 (0, 0))) := by
      show _ = _
      rw [heap_alloc_old _ _ (blt hY5)]; exact hY5
     have HZ5 : Hid ((w4.alloc (.cells #[.int .i64 k2, .int .i64 v2.kind, .int .i64 v2.n, .string v2.s, .slice none 0 0, .slice none 0 0, .string s2, .string t2, .slice a2 i2 u2, .slice b2 j2 p2] 57)).heap[w4.heap.size]? = some (.cells #[.int .i64 k2, .int .i64 v2.kind, .int .i64 v2.n, .string v2.s, .slice none 0 0, .slice none 0 0, .string s2, .string t2, .slice a2 i2 u2, .slice b2 j2 p2] 57 (0, 0))) := heap_alloc_new _ _
     have HFw : Hid (Fr w (w4.alloc (.cells #[.int .i64 k2, .int .i64 v2.kind, .int .i64 v2.n, .string v2.s, .slice none 0 0, .slice none 0 0, .string s2, .string t2, .slice a2 i2 u2, .slice b2 j2 p2] 57)) (fun c => c = R)) := (HF4.out.trans hf4 (fun _ _ e => e)).alloc _
     have HF14 : Hid (Fr w1 (w4.alloc (.cells #[.int .i64 k2, .int .i64 v2.kind, .int .i64 v2.n, .string v2.s, .slice none 0 0, .slice none 0 0, .string s2, .string t2, .slice a2 i2 u2, .slice b2 j2 p2] 57)) (fun c => c = R)) := (HFc.out.trans hf4 (fun _ _ e => e)).alloc _
     have HF34 : Hid (Fr w4 (w4.alloc (.cells #[.int .i64 k2, .int .i64 v2.kind, .int .i64 v2.n, .string v2.s, .slice none 0 0, .slice none 0 0, .string s2, .string t2, .slice a2 i2 u2, .slice b2 j2 p2] 57)) (fun c => c = R)) := (Fr.refl w4 _).alloc _
     have HR5 : Hid (P.Rdr R (w4.alloc (.cells #[.int .i64 k2, .int .i64 v2.kind, .int .i64 v2.n, .string v2.s, .slice none 0 0, .slice none 0 0, .string s2, .string t2, .slice a2 i2 u2, .slice b2 j2 p2] 57)) (ts3.drop (m + 1))) := hr4.kept ((Below.refl _ _).alloc (Nat.le_refl _) _)
     have HL1 : Hid (w.heap.size < w4.heap.size) := (blt hA5)
     have HL2 : Hid (w1.heap.size < w4.heap.size) := (blt hY5)
     have HSZ5 : Hid ((w4.alloc (.cells #[.int .i64 k2, .int .i64 v2.kind, .int .i64 v2.n, .string v2.s, .slice none 0 0, .slice none 0 0, .string s2, .string t2, .slice a2 i2 u2, .slice b2 j2 p2] 57)).heap.size = w4.heap.size + 1) := by
      show _ = _
      simp
     have HL3 : Hid (w1.heap.size ≤ w3.heap.size) := HFc.out.size
     have HE4 := hide hE4
     have HM4 := hide hM4
     have HBK4 := hide hbk4
     have HSG := hide (fun W hW => sign_ev R W (ts3.drop (m + 1)) ⟨#[41]⟩ hW)
     unfold P.xc
     clear hf4 hE4 hM4 hbk4 hA5 hY5 hr4 HN2 HI HI2 HI3
     go_wp2_with fail
     generalize (w4.alloc (.cells #[.int .i64 k2, .int .i64 v2.kind, .int .i64 v2.n, .string v2.s, .slice none 0 0, .slice none 0 0, .string s2, .string t2, .slice a2 i2 u2, .slice b2 j2 p2] 57)) = w5 at *
     have KQ : Hid (∀ W, Fr w5 W (fun c => c = R ∨ c = w.heap.size) → W.heap[w1.heap.size]? = some (.cells #[.int .i64 k1, .int .i64 v1.kind, .int .i64 v1.n, .string v1.s, .slice none 0 0, .slice none 0 0, .string s1, .string t1, .slice a1 i1 u1, .slice b1 j1 p1] 57 (0, 0)) ∧ W.heap[w4.heap.size]? = some (.cells #[.int .i64 k2, .int .i64 v2.kind, .int .i64 v2.n, .string v2.s, .slice none 0 0, .slice none 0 0, .string s2, .string t2, .slice a2 i2 u2, .slice b2 j2 p2] 57 (0, 0))) := by
      intro W hf
      have q : ∀ {c : Nat} {o : Obj}, c ≠ R → c ≠ w.heap.size → w5.heap[c]? = some o → W.heap[c]? = some o := fun {c o} hc hc2 ho =>
       (hf.block c (blt ho) (fun e => e.elim hc hc2)).trans ho
      have := HL1.out
      have := HL2.out
      have := HLT.out
      exact ⟨q (by omega) (by omega) HY5.out, q (by omega) (by omega) HZ5.out⟩
     have HFIN : Hid (∀ (W wz : World) (gS : Nat) (ev : Value), Fr w5 W (fun c => c = R) → W.heap[gS]? = some (.cells #[.int .i64 k1, .int .i64 v1.kind, .int .i64 v1.n, .string v1.s, .slice none 0 0, .slice none 0 0, .string s1, .string t1, .slice a1 i1 u1, .slice b1 j1 p1, .int .i64 k2, .int .i64 v2.kind, .int .i64 v2.n, .string v2.s, .slice none 0 0, .slice none 0 0, .string s2, .string t2, .slice a2 i2 u2, .slice b2 j2 p2] 57 (0, 0)) → w5.heap.size ≤ gS →
       ((∃ t ts', ts3.drop (m + 1) = t :: ts' ∧ P.found 4 (V.bl ⟨#[41]⟩) (P.fc (ts3.drop (m + 1))) = some (P.fc ts') ∧ ev = .nilIface ∧ P.Rdr R W ts') ∨ (P.found 4 (V.bl ⟨#[41]⟩) (P.fc (ts3.drop (m + 1))) = none ∧ ev = .iface 62 (.int .i64 5) ∧ P.Rdr R W (ts3.drop (m + 1)))) →
       Fr W wz (fun c => c = w.heap.size) →
       Fr w wz (fun c => c = R) ∧ P.ExOut (P.group (P.ex d) (P.fc ts)) (d + 1) R w wz ts (.returned (.tuple #[.agg #[.int .i64 kk, .int .i64 0, .int .i64 0, .string ⟨#[]⟩, .slice none 0 0, .slice none 0 0, .string ⟨#[]⟩, .string ⟨#[]⟩, .slice (some ⟨gS, 0, none⟩) 2 2, .slice none 0 0], ev]))) := by
      rintro W wz gS ev hf hg hgl hres hz
      have hFw : Fr w wz (fun c => c = R) := (HFw.out.trans hf (fun _ _ e => e)).trans hz (fun c hc e => by omega)
      refine ⟨hFw, ?_⟩
      have l1 := HL1.out
      have l2 := HL2.out
      have l3 := HLT.out
      have l4 := HSZ5.out
      have l5 := hf.size
      have l6 := hz.size
      have l7 := HSZ0.out
      have l8 := HL3.out
      have lg := (blt hg)
      have hP : P.group (P.ex d) (P.fc ts) = (P.found 4 [41] (P.fc (ts3.drop (m + 1)))).map (fun t4 => (⟨kk, V.zero, ⟨#[]⟩, ⟨#[]⟩, [e1, e2], []⟩, t4)) := by
       unfold P.group
       rw [HE.out]
       simp only
       rw [show P.found 4 [63] _ = _ from HE2.out]
       simp only
       rw [HE3.out]
       simp only
       rw [HE4.out]
      rcases hres with ⟨t, ts', eT3, hF, rfl, hr⟩ | ⟨hF, rfl, hr⟩
      ·have hTs : ts.drop (n + m + 3 + 1) = ts' := by
        have e2 : ts.drop (n + 1 + 1) = ts3 := P.drop_next eT
        have e3 : ts3.drop (m + 1 + 1) = ts' := P.drop_next eT3
        rw [← e3, ← e2, List.drop_drop]
        congr 1
        omega
       refine .inl ⟨⟨kk, V.zero, ⟨#[]⟩, ⟨#[]⟩, [e1, e2], []⟩, n + m + 3, kk, V.zero, ⟨#[]⟩, ⟨#[]⟩, some ⟨gS, 0, none⟩, 2, 2, none, 0, 0, ?_, rfl, ?_, ?_, ?_⟩
       ·rw [hTs, hP, show P.found 4 [41] _ = _ from hF]
        rfl
       ·refine P.xnode (l := [(e1, (P.xc k1 v1 s1 t1 a1 i1 u1 b1 j1 p1)), (e2, (P.xc k2 v2 s2 t2 a2 i2 u2 b2 j2 p2))]) (arr := ([(e1, (P.xc k1 v1 s1 t1 a1 i1 u1 b1 j1 p1)), (e2, (P.xc k2 v2 s2 t2 a2 i2 u2 b2 j2 p2))].flatMap (fun x : Ex × List Value => x.2)).toArray) (ty := 57) (fr := (0, 0)) kk ⟨#[]⟩ ⟨#[]⟩ ((hz.block gS lg (by omega)).trans hg) (P.flat_at _ (fun x hx => ?_)) (fun x hx => ?_) ⟨by omega, by omega⟩
        ·rcases List.mem_cons.1 hx with rfl | hx
         ·rfl
         rw [List.mem_singleton] at hx
         subst hx
         rfl
        ·rcases List.mem_cons.1 hx with rfl | hx
         ·refine HM.out.to (fun c hc => ?_) (fun c hc => ⟨by have := hc.1; omega, by have := hc.2; omega⟩)
          have h1 := hc.1
          have h2 := hc.2
          have h3 := HF14.out.size
          rw [hz.block c (by omega) (by omega), hf.block c (by omega) (by omega), HF14.out.block c (by omega) (by omega)]
         rw [List.mem_singleton] at hx
         subst hx
         refine HM4.out.to (fun c hc => ?_) (fun c hc => ⟨by have := hc.1; omega, by have := hc.2; omega⟩)
         have h1 := hc.1
         have h2 := hc.2
         rw [hz.block c (by omega) (by omega), hf.block c (by omega) (by omega), HF34.out.block c (by omega) (by omega)]
       ·have h1 := HBK.out
        have h3 := HBK4.out
        have e2 : ts.drop (n + 1) = _ := eT
        rw [e2] at h1
        rw [eT3] at h3
        rw [hTs, X.bulk, V.bulk]
        simp only [V.zero, X.sumA, X.sumN, V.sumL, V.sumF, P.zero_size, List.map_nil, List.map_cons, List.sum_cons, List.sum_nil, List.length_nil, List.length_cons] at h1 h3 ⊢
        omega
       ·rw [hTs]
        exact hr.fr hz (fun c e => by omega)
      ·refine .inr ⟨?_, ⟨kk, V.zero, ⟨#[]⟩, ⟨#[]⟩, some ⟨gS, 0, none⟩, 2, 2, none, 0, 0, 5, rfl⟩, _, hr.fr hz (fun c e => by omega)⟩
       rw [hP, show P.found 4 [41] _ = _ from hF]
       rfl
     clear HFw HF14 HF34 HE3 HM4 HBK4 HE HM HBK HE2 HFb HFc HE4
     refine Lt.start (fun W => Fr w5 W (fun c => c = R ∨ c = w.heap.size)) [] (by kernel_rfl) ?_
     have HS0 : Fr w5 w5.drew (fun c => c = R ∨ c = w.heap.size) := (Fr.refl w5 _).drew
     refine Lt.takeY (i := 0) (v := .int .i64 kk) rfl (by kernel_rfl) (by kernel_rfl) (by kernel_rfl) (by kernel_rfl) (fun _ _ _ h => h) (Or.inl ⟨by rfl, ?_⟩) (HS0) ?_
     ·intro w
      go_simp

     refine Lt.takeS (i := 1) (v := .agg #[.int .i64 k1, .int .i64 v1.kind, .int .i64 v1.n, .string v1.s, .slice none 0 0, .slice none 0 0, .string s1, .string t1, .slice a1 i1 u1, .slice b1 j1 p1]) rfl (by kernel_rfl) (by kernel_rfl) (by kernel_rfl) (by kernel_rfl) (by kernel_rfl) (by kernel_rfl) (fun _ _ _ h => h) (Or.inl ⟨by rfl, ?_⟩) (HS0) ?_
     ·intro W hW
      have k := (KQ.out W hW).1
      obtain ⟨x0, x1, x2, x3, x4, x5, x6, x7, x8, x9⟩ := cl10 k
      clear k
      go_simp

     refine Lt.takeS (i := 2) (v := .agg #[.int .i64 k2, .int .i64 v2.kind, .int .i64 v2.n, .string v2.s, .slice none 0 0, .slice none 0 0, .string s2, .string t2, .slice a2 i2 u2, .slice b2 j2 p2]) rfl (by kernel_rfl) (by kernel_rfl) (by kernel_rfl) (by kernel_rfl) (by kernel_rfl) (by kernel_rfl) (fun _ _ _ h => h) (Or.inl ⟨by rfl, ?_⟩) (HS0) ?_
     ·intro W hW
      have k := (KQ.out W hW).2
      obtain ⟨x0, x1, x2, x3, x4, x5, x6, x7, x8, x9⟩ := cl10 k
      clear k
      go_simp

     refine Lt.takeY (i := 5) (v := .pointer (some ⟨R, 0, none⟩)) rfl (by kernel_rfl) (by kernel_rfl) (by kernel_rfl) (by kernel_rfl) (fun _ _ _ h => h) (Or.inl ⟨by rfl, ?_⟩) (HS0) ?_
     ·intro w
      go_simp

     go_simp
     refine Lt.ready2 (i := 3) (j := 6) (by kernel_rfl) rfl rfl (fun K hK => ?_) (fun K hK => ?_)
     ·go_simp
      refine hK _ _ (fun _ => HS0.alloc _) ?_
      clear hK K
      refine Lt.takeY (i := 4) (v := .agg #[.int .i64 kk, .int .i64 0, .int .i64 0, .string ⟨#[]⟩, .slice none 0 0, .slice none 0 0, .string ⟨#[]⟩, .string ⟨#[]⟩, .slice (some ⟨w5.heap.size, 0, none⟩) 2 2, .slice none 0 0]) rfl (by kernel_rfl) (by kernel_rfl) (by kernel_rfl) (by kernel_rfl) (fun _ _ _ h => h) (Or.inl ⟨by rfl, ?_⟩) (HS0.alloc _) ?_
      ·intro w
       go_simp

      go_simp
      refine Lt.ready1 (i := 6) (by kernel_rfl) rfl (fun K hK => ?_)
      refine step_call46 ?_ (.tmp 50) (.const (.string ⟨#[41]⟩)) 34 9 ?_ (.pointer (some ⟨R, 0, none⟩)) (.string ⟨#[41]⟩) ?_ ?_ ?_
      rfl
      rfl
      rfl
      rfl
      refine Calls.mono (HSG.out _ (HR5.out.fr (Fr.alloc (Fr.drew (Fr.refl w5 (fun _ => False))) _) (fun _ e => e.elim))) ?_
      rintro r w6 ⟨hf6, ev, rfl, hres⟩
      refine ⟨_, rfl, ?_⟩
      go_simp
      have hW6 : Fr w5 w6 (fun c => c = R) := (((Fr.refl w5 _).drew).alloc _).trans hf6 (fun _ _ e => e)
      refine hK _ _ (fun _ => hW6.weak (fun _ _ e => .inl e)) ?_
      clear hK K
      have hG6 : w6.heap[w5.heap.size]? = some (.cells #[.int .i64 k1, .int .i64 v1.kind, .int .i64 v1.n, .string v1.s, .slice none 0 0, .slice none 0 0, .string s1, .string t1, .slice a1 i1 u1, .slice b1 j1 p1, .int .i64 k2, .int .i64 v2.kind, .int .i64 v2.n, .string v2.s, .slice none 0 0, .slice none 0 0, .string s2, .string t2, .slice a2 i2 u2, .slice b2 j2 p2] 57 (0, 0)) := (hf6.block w5.heap.size (by simp) (by have := HL1.out; have := HSZ5.out; omega)).trans (heap_alloc_new w5.drew _)
      clear hf6
      have hAz := (hW6.block w.heap.size (blt HA5.out) (by omega)).trans HA5.out
      obtain ⟨z0, z1, z2, z3, z4, z5, z6, z7, z8, z9⟩ := cl10 hAz
      obtain ⟨f0, f1, f2, f3, f4, f5, f6, f7, f8, f9⟩ := fl10 hAz
      have HAz := hide hAz
      clear hAz
      refine Lt.ready1 (i := 7) (by kernel_rfl) rfl (fun K hK => ?_)
      go_simp
      have hBz := P.set10 HAz.out (.int .i64 kk) (.int .i64 0) (.int .i64 0) (.string ⟨#[]⟩) (.slice none 0 0) (.slice none 0 0) (.string ⟨#[]⟩) (.string ⟨#[]⟩) (.slice (some ⟨w5.heap.size, 0, none⟩) 2 2) (.slice none 0 0)
      have hFz := P.fr10 w6 w.heap.size (.int .i64 kk) (.int .i64 0) (.int .i64 0) (.string ⟨#[]⟩) (.slice none 0 0) (.slice none 0 0) (.string ⟨#[]⟩) (.string ⟨#[]⟩) (.slice (some ⟨w5.heap.size, 0, none⟩) 2 2) (.slice none 0 0)
      generalize ((((((((((w6.setCell ⟨w.heap.size, 0, none⟩ (.int .i64 kk)).setCell ⟨w.heap.size, 1, none⟩ (.int .i64 0)).setCell ⟨w.heap.size, 2, none⟩ (.int .i64 0)).setCell ⟨w.heap.size, 3, none⟩ (.string ⟨#[]⟩)).setCell ⟨w.heap.size, 4, none⟩ (.slice none 0 0)).setCell ⟨w.heap.size, 5, none⟩ (.slice none 0 0)).setCell ⟨w.heap.size, 6, none⟩ (.string ⟨#[]⟩)).setCell ⟨w.heap.size, 7, none⟩ (.string ⟨#[]⟩)).setCell ⟨w.heap.size, 8, none⟩ (.slice (some ⟨w5.heap.size, 0, none⟩) 2 2)).setCell ⟨w.heap.size, 9, none⟩ (.slice none 0 0)) = wz at *
      have hSz : Fr w5 wz (fun c => c = R ∨ c = w.heap.size) := (hW6.weak (fun _ _ e => .inl e)).trans hFz (fun c _ e => .inr e)
      refine hK _ _ (fun _ => hSz) ?_
      clear hK K
      refine Lt.ready1 (i := 8) (by kernel_rfl) rfl (fun K hK => ?_)
      go_simp
      refine hK _ _ (fun _ => hSz) ?_
      clear hK K
      refine Lt.done (by kernel_rfl) ?_ _
      have HE9 := hide (HFIN.out _ wz _ _ hW6 hG6 (Nat.le_refl _) hres hFz)
      clear hres hFz hSz
      obtain ⟨r0, r1, r2, r3, r4, r5, r6, r7, r8, r9⟩ := cl10 hBz
      clear hBz
      clear z0 f0
      clear z1 f1
      clear z2 f2
      clear z3 f3
      clear z4 f4
      clear z5 f5
      clear z6 f6
      clear z7 f7
      clear z8 f8
      clear z9 f9
      go_wp2_with fail
      exact bodyPost_ret (v := .tuple #[.agg #[.int .i64 kk, .int .i64 0, .int .i64 0, .string ⟨#[]⟩, .slice none 0 0, .slice none 0 0, .string ⟨#[]⟩, .string ⟨#[]⟩, .slice (some ⟨w5.heap.size, 0, none⟩) 2 2, .slice none 0 0], ev]) (by simp [results, Tryz.results85, go_sem, r0, r1, r2, r3, r4, r5, r6, r7, r8, r9]) rfl HE9.out
     ·refine step_call46 ?_ (.tmp 50) (.const (.string ⟨#[41]⟩)) 34 9 ?_ (.pointer (some ⟨R, 0, none⟩)) (.string ⟨#[41]⟩) ?_ ?_ ?_
      rfl
      rfl
      rfl
      rfl
      refine Calls.mono (HSG.out _ (HR5.out.fr (Fr.drew (Fr.refl w5 (fun _ => False))) (fun _ e => e.elim))) ?_
      rintro r w6 ⟨hf6, ev, rfl, hres⟩
      refine ⟨_, rfl, ?_⟩
      go_simp
      have hW6 : Fr w5 w6 (fun c => c = R) := ((Fr.refl w5 _).drew).trans hf6 (fun _ _ e => e)
      refine hK _ _ (fun _ => hW6.weak (fun _ _ e => .inl e)) ?_
      clear hK K
      refine Lt.ready1 (i := 3) (by kernel_rfl) rfl (fun K hK => ?_)
      go_simp
      have hW7 : Fr w5 (w6.alloc (.cells #[.int .i64 k1, .int .i64 v1.kind, .int .i64 v1.n, .string v1.s, .slice none 0 0, .slice none 0 0, .string s1, .string t1, .slice a1 i1 u1, .slice b1 j1 p1, .int .i64 k2, .int .i64 v2.kind, .int .i64 v2.n, .string v2.s, .slice none 0 0, .slice none 0 0, .string s2, .string t2, .slice a2 i2 u2, .slice b2 j2 p2] 57)) (fun c => c = R) := hW6.alloc _
      refine hK _ _ (fun _ => hW7.weak (fun _ _ e => .inl e)) ?_
      clear hK K
      have HG7 : Hid ((w6.alloc (.cells #[.int .i64 k1, .int .i64 v1.kind, .int .i64 v1.n, .string v1.s, .slice none 0 0, .slice none 0 0, .string s1, .string t1, .slice a1 i1 u1, .slice b1 j1 p1, .int .i64 k2, .int .i64 v2.kind, .int .i64 v2.n, .string v2.s, .slice none 0 0, .slice none 0 0, .string s2, .string t2, .slice a2 i2 u2, .slice b2 j2 p2] 57)).heap[w6.heap.size]? = some (.cells #[.int .i64 k1, .int .i64 v1.kind, .int .i64 v1.n, .string v1.s, .slice none 0 0, .slice none 0 0, .string s1, .string t1, .slice a1 i1 u1, .slice b1 j1 p1, .int .i64 k2, .int .i64 v2.kind, .int .i64 v2.n, .string v2.s, .slice none 0 0, .slice none 0 0, .string s2, .string t2, .slice a2 i2 u2, .slice b2 j2 p2] 57 (0, 0))) := heap_alloc_new w6 _
      have HL6 := hide hW6.size
      clear hf6
      have HRES : Hid (((∃ t ts', ts3.drop (m + 1) = t :: ts' ∧ P.found 4 (V.bl ⟨#[41]⟩) (P.fc (ts3.drop (m + 1))) = some (P.fc ts') ∧ ev = .nilIface ∧ P.Rdr R (w6.alloc (.cells #[.int .i64 k1, .int .i64 v1.kind, .int .i64 v1.n, .string v1.s, .slice none 0 0, .slice none 0 0, .string s1, .string t1, .slice a1 i1 u1, .slice b1 j1 p1, .int .i64 k2, .int .i64 v2.kind, .int .i64 v2.n, .string v2.s, .slice none 0 0, .slice none 0 0, .string s2, .string t2, .slice a2 i2 u2, .slice b2 j2 p2] 57)) ts') ∨ (P.found 4 (V.bl ⟨#[41]⟩) (P.fc (ts3.drop (m + 1))) = none ∧ ev = .iface 62 (.int .i64 5) ∧ P.Rdr R (w6.alloc (.cells #[.int .i64 k1, .int .i64 v1.kind, .int .i64 v1.n, .string v1.s, .slice none 0 0, .slice none 0 0, .string s1, .string t1, .slice a1 i1 u1, .slice b1 j1 p1, .int .i64 k2, .int .i64 v2.kind, .int .i64 v2.n, .string v2.s, .slice none 0 0, .slice none 0 0, .string s2, .string t2, .slice a2 i2 u2, .slice b2 j2 p2] 57)) (ts3.drop (m + 1))))) := by
       rcases hres with ⟨t, ts', q1, q2, q3, q4⟩ | ⟨q1, q2, q3⟩
       ·exact .inl ⟨t, ts', q1, q2, q3, q4.kept ((Below.refl _ _).alloc (Nat.le_refl _) _)⟩
       ·exact .inr ⟨q1, q2, q3.kept ((Below.refl _ _).alloc (Nat.le_refl _) _)⟩
      clear hres
      generalize w6.alloc (.cells #[.int .i64 k1, .int .i64 v1.kind, .int .i64 v1.n, .string v1.s, .slice none 0 0, .slice none 0 0, .string s1, .string t1, .slice a1 i1 u1, .slice b1 j1 p1, .int .i64 k2, .int .i64 v2.kind, .int .i64 v2.n, .string v2.s, .slice none 0 0, .slice none 0 0, .string s2, .string t2, .slice a2 i2 u2, .slice b2 j2 p2] 57) = w7 at *
      have hres := HRES.out
      clear HRES
      refine Lt.ready1 (i := 4) (by kernel_rfl) rfl (fun K hK => ?_)
      go_simp
      refine hK _ _ (fun _ => hW7.weak (fun _ _ e => .inl e)) ?_
      clear hK K
      have hAz := (hW7.block w.heap.size (blt HA5.out) (by omega)).trans HA5.out
      obtain ⟨z0, z1, z2, z3, z4, z5, z6, z7, z8, z9⟩ := cl10 hAz
      obtain ⟨f0, f1, f2, f3, f4, f5, f6, f7, f8, f9⟩ := fl10 hAz
      have HAz := hide hAz
      clear hAz
      refine Lt.ready1 (i := 7) (by kernel_rfl) rfl (fun K hK => ?_)
      go_simp
      have hBz := P.set10 HAz.out (.int .i64 kk) (.int .i64 0) (.int .i64 0) (.string ⟨#[]⟩) (.slice none 0 0) (.slice none 0 0) (.string ⟨#[]⟩) (.string ⟨#[]⟩) (.slice (some ⟨w6.heap.size, 0, none⟩) 2 2) (.slice none 0 0)
      have hFz := P.fr10 w7 w.heap.size (.int .i64 kk) (.int .i64 0) (.int .i64 0) (.string ⟨#[]⟩) (.slice none 0 0) (.slice none 0 0) (.string ⟨#[]⟩) (.string ⟨#[]⟩) (.slice (some ⟨w6.heap.size, 0, none⟩) 2 2) (.slice none 0 0)
      generalize ((((((((((w7.setCell ⟨w.heap.size, 0, none⟩ (.int .i64 kk)).setCell ⟨w.heap.size, 1, none⟩ (.int .i64 0)).setCell ⟨w.heap.size, 2, none⟩ (.int .i64 0)).setCell ⟨w.heap.size, 3, none⟩ (.string ⟨#[]⟩)).setCell ⟨w.heap.size, 4, none⟩ (.slice none 0 0)).setCell ⟨w.heap.size, 5, none⟩ (.slice none 0 0)).setCell ⟨w.heap.size, 6, none⟩ (.string ⟨#[]⟩)).setCell ⟨w.heap.size, 7, none⟩ (.string ⟨#[]⟩)).setCell ⟨w.heap.size, 8, none⟩ (.slice (some ⟨w6.heap.size, 0, none⟩) 2 2)).setCell ⟨w.heap.size, 9, none⟩ (.slice none 0 0)) = wz at *
      have hSz : Fr w5 wz (fun c => c = R ∨ c = w.heap.size) := (hW7.weak (fun _ _ e => .inl e)).trans hFz (fun c _ e => .inr e)
      refine hK _ _ (fun _ => hSz) ?_
      clear hK K
      refine Lt.ready1 (i := 8) (by kernel_rfl) rfl (fun K hK => ?_)
      go_simp
      refine hK _ _ (fun _ => hSz) ?_
      clear hK K
      refine Lt.done (by kernel_rfl) ?_ _
      have HE9 := hide (HFIN.out _ wz _ _ hW7 HG7.out HL6.out hres hFz)
      clear hres hFz hSz
      obtain ⟨r0, r1, r2, r3, r4, r5, r6, r7, r8, r9⟩ := cl10 hBz
      clear hBz
      clear z0 f0
      clear z1 f1
      clear z2 f2
      clear z3 f3
      clear z4 f4
      clear z5 f5
      clear z6 f6
      clear z7 f7
      clear z8 f8
      clear z9 f9
      go_wp2_with fail
      exact bodyPost_ret (v := .tuple #[.agg #[.int .i64 kk, .int .i64 0, .int .i64 0, .string ⟨#[]⟩, .slice none 0 0, .slice none 0 0, .string ⟨#[]⟩, .string ⟨#[]⟩, .slice (some ⟨w6.heap.size, 0, none⟩) 2 2, .slice none 0 0], ev]) (by simp [results, Tryz.results85, go_sem, r0, r1, r2, r3, r4, r5, r6, r7, r8, r9]) rfl HE9.out
    ·have hA5 := (hf4.block w.heap.size (blt HA4.out) (by omega)).trans HA4.out
     have hA6 : (w4.alloc (.cells #[.int .i64 k2, .int .i64 v2.kind, .int .i64 v2.n, .string v2.s, .slice none 0 0, .slice none 0 0, .string s2, .string t2, .slice a2 i2 u2, .slice b2 j2 p2] 57)).heap[w.heap.size]? = some (.cells #[.int .i64 0, .int .i64 0, .int .i64 0, .string ⟨#[]⟩, .slice none 0 0, .slice none 0 0, .string ⟨#[]⟩, .string ⟨#[]⟩, .slice none 0 0, .slice none 0 0] 57 (0, 0)) := by rw [heap_alloc_old _ _ (blt hA5)]; exact hA5
     have HF5 : Hid (Fr w (w4.alloc (.cells #[.int .i64 k2, .int .i64 v2.kind, .int .i64 v2.n, .string v2.s, .slice none 0 0, .slice none 0 0, .string s2, .string t2, .slice a2 i2 u2, .slice b2 j2 p2] 57)) (fun c => c = R)) := (HF4.out.trans hf4 (fun _ _ e => e)).alloc _
     have HR3 : Hid (P.Rdr R (w4.alloc (.cells #[.int .i64 k2, .int .i64 v2.kind, .int .i64 v2.n, .string v2.s, .slice none 0 0, .slice none 0 0, .string s2, .string t2, .slice a2 i2 u2, .slice b2 j2 p2] 57)) ts') := hr4.kept ((Below.refl _ _).alloc (Nat.le_refl _) _)
     have HP : Hid (P.group (P.ex d) (P.fc ts) = none) := by
      show _ = _
      unfold P.group
      rw [HE.out]
      simp only
      rw [show P.found 4 [63] _ = _ from HE2.out]
      simp only
      rw [HE3.out]
      simp only
      rw [hE4]
     unfold P.xc
     clear hf4 hr4 hE4 HN2 hA5
     obtain ⟨z0, z1, z2, z3, z4, z5, z6, z7, z8, z9⟩ := cl10 hA6
     obtain ⟨f0, f1, f2, f3, f4, f5, f6, f7, f8, f9⟩ := fl10 hA6
     have HAx := hide hA6
     clear hA6
     go_wp2_with fail
     obtain ⟨wz, hwz, hBz, hFz⟩ := P.sf10 HAx.out (.int .i64 0) (.int .i64 0) (.int .i64 0) (.string ⟨#[]⟩) (.slice none 0 0) (.slice none 0 0) (.string ⟨#[]⟩) (.string ⟨#[]⟩) (.slice none 0 0) (.slice none 0 0)
     rw [← hwz]
     clear hwz
     obtain ⟨r0, r1, r2, r3, r4, r5, r6, r7, r8, r9⟩ := cl10 hBz
     refine bodyPost_ret (v := .tuple #[.agg #[.int .i64 0, .int .i64 0, .int .i64 0, .string ⟨#[]⟩, .slice none 0 0, .slice none 0 0, .string ⟨#[]⟩, .string ⟨#[]⟩, .slice none 0 0, .slice none 0 0], .iface 62 (.int .i64 f)]) (by simp [results, Tryz.results85, go_sem, r0, r1, r2, r3, r4, r5, r6, r7, r8, r9]) rfl ⟨HF5.out.trans hFz (fun c hc e => by omega), .inr ⟨HP.out, ⟨0, V.zero, ⟨#[]⟩, ⟨#[]⟩, none, 0, 0, none, 0, 0, f, rfl⟩, _, HR3.out.fr hFz (fun c e => by omega)⟩⟩
   ·have hA4 := (hf3.block w.heap.size (blt HA3.out) (by omega)).trans HA3.out
    have HF4 := hide (HF3.out.trans hf3 (fun _ _ e => e))
    have HR3 := hide hr3
    have HP : Hid (P.group (P.ex d) (P.fc ts) = none) := by
     show _ = _
     unfold P.group
     rw [HE.out]
     simp only
     rw [show P.found 4 [63] _ = _ from HE2.out]
     simp only
     rw [hE3]
    clear hf3 hr3 hE3 HTW
    obtain ⟨z0, z1, z2, z3, z4, z5, z6, z7, z8, z9⟩ := cl10 hA4
    obtain ⟨f0, f1, f2, f3, f4, f5, f6, f7, f8, f9⟩ := fl10 hA4
    have HAx := hide hA4
    clear hA4
    go_wp2_with fail
    obtain ⟨wz, hwz, hBz, hFz⟩ := P.sf10 HAx.out (.int .i64 0) (.int .i64 0) (.int .i64 0) (.string ⟨#[]⟩) (.slice none 0 0) (.slice none 0 0) (.string ⟨#[]⟩) (.string ⟨#[]⟩) (.slice none 0 0) (.slice none 0 0)
    rw [← hwz]
    clear hwz
    obtain ⟨r0, r1, r2, r3, r4, r5, r6, r7, r8, r9⟩ := cl10 hBz
    refine bodyPost_ret (v := .tuple #[.agg #[.int .i64 0, .int .i64 0, .int .i64 0, .string ⟨#[]⟩, .slice none 0 0, .slice none 0 0, .string ⟨#[]⟩, .string ⟨#[]⟩, .slice none 0 0, .slice none 0 0], .iface 62 (.int .i64 f)]) (by simp [results, Tryz.results85, go_sem, r0, r1, r2, r3, r4, r5, r6, r7, r8, r9]) rfl ⟨HF4.out.trans hFz (fun c hc e => by omega), .inr ⟨HP.out, ⟨0, V.zero, ⟨#[]⟩, ⟨#[]⟩, none, 0, 0, none, 0, 0, f, rfl⟩, _, HR3.out.fr hFz (fun c e => by omega)⟩⟩
 ·have hA1 := (hf1.block w.heap.size (blt HA0.out) (by omega)).trans HA0.out
  have hA2 : (w1.alloc (.cells #[.int .i64 k1, .int .i64 v1.kind, .int .i64 v1.n, .string v1.s, .slice none 0 0, .slice none 0 0, .string s1, .string t1, .slice a1 i1 u1, .slice b1 j1 p1] 57)).heap[w.heap.size]? = some (.cells #[.int .i64 0, .int .i64 0, .int .i64 0, .string ⟨#[]⟩, .slice none 0 0, .slice none 0 0, .string ⟨#[]⟩, .string ⟨#[]⟩, .slice none 0 0, .slice none 0 0] 57 (0, 0)) := by rw [heap_alloc_old _ _ (blt hA1)]; exact hA1
  have HF3 : Hid (Fr w (w1.alloc (.cells #[.int .i64 k1, .int .i64 v1.kind, .int .i64 v1.n, .string v1.s, .slice none 0 0, .slice none 0 0, .string s1, .string t1, .slice a1 i1 u1, .slice b1 j1 p1] 57)) (fun c => c = R)) := (HF0.out.trans hf1 (fun _ _ e => e)).alloc _
  have HR3 : Hid (P.Rdr R (w1.alloc (.cells #[.int .i64 k1, .int .i64 v1.kind, .int .i64 v1.n, .string v1.s, .slice none 0 0, .slice none 0 0, .string s1, .string t1, .slice a1 i1 u1, .slice b1 j1 p1] 57)) ts') := hr1.kept ((Below.refl _ _).alloc (Nat.le_refl _) _)
  have HP : Hid (P.group (P.ex d) (P.fc ts) = none) := by
   show _ = _
   unfold P.group
   rw [hE]
  unfold P.xc
  clear hf1 hr1 hE HN hA1
  obtain ⟨z0, z1, z2, z3, z4, z5, z6, z7, z8, z9⟩ := cl10 hA2
  obtain ⟨f0, f1, f2, f3, f4, f5, f6, f7, f8, f9⟩ := fl10 hA2
  have HAx := hide hA2
  clear hA2
  go_wp2_with fail
  obtain ⟨wz, hwz, hBz, hFz⟩ := P.sf10 HAx.out (.int .i64 0) (.int .i64 0) (.int .i64 0) (.string ⟨#[]⟩) (.slice none 0 0) (.slice none 0 0) (.string ⟨#[]⟩) (.string ⟨#[]⟩) (.slice none 0 0) (.slice none 0 0)
  rw [← hwz]
  clear hwz
  obtain ⟨r0, r1, r2, r3, r4, r5, r6, r7, r8, r9⟩ := cl10 hBz
  refine bodyPost_ret (v := .tuple #[.agg #[.int .i64 0, .int .i64 0, .int .i64 0, .string ⟨#[]⟩, .slice none 0 0, .slice none 0 0, .string ⟨#[]⟩, .string ⟨#[]⟩, .slice none 0 0, .slice none 0 0], .iface 62 (.int .i64 f)]) (by simp [results, Tryz.results85, go_sem, r0, r1, r2, r3, r4, r5, r6, r7, r8, r9]) rfl ⟨HF3.out.trans hFz (fun c hc e => by omega), .inr ⟨HP.out, ⟨0, V.zero, ⟨#[]⟩, ⟨#[]⟩, none, 0, 0, none, 0, 0, f, rfl⟩, _, HR3.out.fr hFz (fun c e => by omega)⟩⟩
end Go.Proofs.YtbdbpfcblppnbaaGreatDoor.Vx
