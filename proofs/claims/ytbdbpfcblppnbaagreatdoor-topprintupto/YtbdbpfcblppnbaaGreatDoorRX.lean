/- For TopPrint: input, output. -/
import Derived.Test.YtbdbpfcblppnbaaGreatDoorR8
import Derived.Test.YtbdbpfcblppnbaaGreatDoorR7
import Derived.Test.YtbdbpfcblppnbaaGreatDoorPF
namespace Go.Proofs.YtbdbpfcblppnbaaGreatDoor.Vx
open Go.RowKit
namespace P
theorem BO_of {D : Nat → Prop} {w : World} {e : Ex} {s : ByteArray} {cs : List Value} (h : X.MemD D 6 w e cs) : KM BO D w (s, e) (.string s :: cs) := fun w2 h2 => ⟨cs, rfl, h w2 h2⟩
theorem kind_of {m : Nat} {w : World} {e : Ex} {k : Int} {v : Val} {s t : ByteArray} {a : Option Addr} {n c : Nat} {a' : Option Addr} {n' c' : Nat} (h : X.Mem m w e (xc k v s t a n c a' n' c')) : k = e.kind := by
 cases m with
 | zero => exact h.elim
 | succ m =>
  obtain ⟨c0, c1, c2, c3, c4, av, nv, hcs, _⟩ := h
  simp only [xc, List.cons.injEq, Value.int.injEq, true_and] at hcs
  exact hcs.1
theorem BI_of {D : Nat → Prop} {w : World} {e : Ex} {s : ByteArray} {k : Int} {v : Val} {s' t : ByteArray} {a : Option Addr} {n c : Nat} {a' : Option Addr} {n' c' : Nat} (h : X.MemD D 6 w e (xc k v s' t a n c a' n' c')) :
  KM BI D w (s, e.v) [.string s, .int .i64 v.kind, .int .i64 v.n, .string v.s, .slice none 0 0, .slice none 0 0] := fun w2 h2 => by
 obtain ⟨c0, c1, c2, c3, c4, av, nv, hcs, hv, _⟩ := h w2 h2
 simp only [xc, List.cons.injEq] at hcs
 obtain ⟨_, rfl, rfl, rfl, rfl, rfl, _⟩ := hcs
 exact ⟨_, rfl, hv⟩
theorem bulk_v (m : Nat) (e : Ex) : V.bulk (m + 1) e.v ≤ X.bulk (m + 1) e := by
 simp only [X.bulk]
 omega
end P
set_option maxRecDepth 100000 in
set_option maxHeartbeats 6400000 in
theorem output_any (sm : Val → Val → Bool) (hsm : V.Says sm) (R : Nat) (w : World) (ts : List P.K) (h : P.Rdr R w ts) :
  Calls Tryz.prog 31 #[.pointer (some ⟨R, 0, none⟩)] w fun r w' => Fr w w' (fun c => c = R) ∧ P.OneK P.BO (fun x => x.1.size + X.bulk 6 x.2) P.ShO (P.output (P.okE sm)) R w w' ts r := by
 have hR := h.lt
 have hb0 : Below w.heap.size w (w.alloc (.cells #[.string ⟨#[]⟩, .int .i64 0, .int .i64 0, .int .i64 0, .string ⟨#[]⟩, .slice none 0 0, .slice none 0 0, .string ⟨#[]⟩, .string ⟨#[]⟩, .slice none 0 0, .slice none 0 0] 61)) := (Below.refl _ _).alloc (Nat.le_refl _) _
 have hA0 : (w.alloc (.cells #[.string ⟨#[]⟩, .int .i64 0, .int .i64 0, .int .i64 0, .string ⟨#[]⟩, .slice none 0 0, .slice none 0 0, .string ⟨#[]⟩, .string ⟨#[]⟩, .slice none 0 0, .slice none 0 0] 61)).heap[w.heap.size]? = some (.cells #[.string ⟨#[]⟩, .int .i64 0, .int .i64 0, .int .i64 0, .string ⟨#[]⟩, .slice none 0 0, .slice none 0 0, .string ⟨#[]⟩, .string ⟨#[]⟩, .slice none 0 0, .slice none 0 0] 61 (0, 0)) := heap_alloc_new _ _
 have hsz : (w.alloc (.cells #[.string ⟨#[]⟩, .int .i64 0, .int .i64 0, .int .i64 0, .string ⟨#[]⟩, .slice none 0 0, .slice none 0 0, .string ⟨#[]⟩, .string ⟨#[]⟩, .slice none 0 0, .slice none 0 0] 61)).heap.size = w.heap.size + 1 := by simp
 have HF0 : Hid (Fr w (w.alloc (.cells #[.string ⟨#[]⟩, .int .i64 0, .int .i64 0, .int .i64 0, .string ⟨#[]⟩, .slice none 0 0, .slice none 0 0, .string ⟨#[]⟩, .string ⟨#[]⟩, .slice none 0 0, .slice none 0 0] 61)) (fun c => c = R)) := (P.fr_below hb0).weak (fun _ _ e => e.elim)
 have HNQ := hide (nameEq_any R _ ts (h.kept hb0))
 have HA0 := hide hA0
 have HSZ := hide hsz
 clear h hb0 hA0 hsz
 go_enter Tryz.func31, Tryz.ntmps31
 go_wp2_with fail
 generalize (w.alloc (.cells #[.string ⟨#[]⟩, .int .i64 0, .int .i64 0, .int .i64 0, .string ⟨#[]⟩, .slice none 0 0, .slice none 0 0, .string ⟨#[]⟩, .string ⟨#[]⟩, .slice none 0 0, .slice none 0 0] 61)) = w0 at *
 refine HNQ.out.mono ?_
 rintro r wa ⟨hfa, ⟨tk, tl, ts1, rfl, hE1, hn1, rfl, hr1⟩ | ⟨hE1, ⟨s, f, rfl⟩, ts', hr1⟩⟩
 ·have HLa : Hid (w.heap.size + 1 ≤ wa.heap.size) := by
   show _ ≤ _
   have := hfa.size
   have := HSZ.out
   omega
  have HNS : Hid ((V.str tk.2.2).size ≤ 12) := by
   show _ ≤ _
   rw [← V.length_bl, V.bl_str]
   unfold V.name at hn1
   simp only [Bool.and_eq_true, decide_eq_true_eq] at hn1
   exact hn1.1.2
  have HW := hide (whole_any sm hsm R wa ts1 hr1)
  have HFa := hide hfa
  have HE1 := hide hE1
  clear hfa hE1 hr1 hn1 HNQ
  go_wp2_with fail
  refine HW.out.mono ?_
  rintro r wb ⟨hfb, ⟨e, n, k1, v1, s1, t1, a1, i1, u1, b1, j1, p1, hE, rfl, hM, hbk, hr2⟩ | ⟨hE, ⟨k1, v1, s1, t1, a1, i1, u1, b1, j1, p1, f, rfl⟩, ts', hr2⟩⟩
  ·have hFb := HFa.out.trans hfb (fun _ _ e => e)
   have hAb := (hFb.block w.heap.size (blt HA0.out) (by omega)).trans HA0.out
   have hAc : (wb.alloc (.cells #[.int .i64 k1, .int .i64 v1.kind, .int .i64 v1.n, .string v1.s, .slice none 0 0, .slice none 0 0, .string s1, .string t1, .slice a1 i1 u1, .slice b1 j1 p1] 57)).heap[w.heap.size]? = some (.cells #[.string ⟨#[]⟩, .int .i64 0, .int .i64 0, .int .i64 0, .string ⟨#[]⟩, .slice none 0 0, .slice none 0 0, .string ⟨#[]⟩, .string ⟨#[]⟩, .slice none 0 0, .slice none 0 0] 61 (0, 0)) := by
    rw [heap_alloc_old _ _ (blt hAb)]; exact hAb
   have hX : (wb.alloc (.cells #[.int .i64 k1, .int .i64 v1.kind, .int .i64 v1.n, .string v1.s, .slice none 0 0, .slice none 0 0, .string s1, .string t1, .slice a1 i1 u1, .slice b1 j1 p1] 57)).heap[wb.heap.size]? = some (.cells #[.int .i64 k1, .int .i64 v1.kind, .int .i64 v1.n, .string v1.s, .slice none 0 0, .slice none 0 0, .string s1, .string t1, .slice a1 i1 u1, .slice b1 j1 p1] 57 (0, 0)) := heap_alloc_new _ _
   have HF3 : Hid (Fr w (wb.alloc (.cells #[.int .i64 k1, .int .i64 v1.kind, .int .i64 v1.n, .string v1.s, .slice none 0 0, .slice none 0 0, .string s1, .string t1, .slice a1 i1 u1, .slice b1 j1 p1] 57)) (fun c => c = R)) := (HF0.out.trans hFb (fun _ _ e => e)).alloc _
   have HLb : Hid (wa.heap.size ≤ wb.heap.size) := hfb.size
   have HSc : Hid ((wb.alloc (.cells #[.int .i64 k1, .int .i64 v1.kind, .int .i64 v1.n, .string v1.s, .slice none 0 0, .slice none 0 0, .string s1, .string t1, .slice a1 i1 u1, .slice b1 j1 p1] 57)).heap.size = wb.heap.size + 1) := by
    show _ = _
    simp
   obtain ⟨x0, x1, x2, x3, x4, x5, x6, x7, x8, x9⟩ := cl10 hX
   unfold P.xc
   have HMc : Hid (X.MemD (P.New wa wb) 6 (wb.alloc (.cells #[.int .i64 k1, .int .i64 v1.kind, .int .i64 v1.n, .string v1.s, .slice none 0 0, .slice none 0 0, .string s1, .string t1, .slice a1 i1 u1, .slice b1 j1 p1] 57)) e (P.xc k1 v1 s1 t1 a1 i1 u1 b1 j1 p1)) := hM.to (fun c hc => heap_alloc_old _ _ hc.2) (fun _ hc => hc)
   have HRc : Hid (P.Rdr R (wb.alloc (.cells #[.int .i64 k1, .int .i64 v1.kind, .int .i64 v1.n, .string v1.s, .slice none 0 0, .slice none 0 0, .string s1, .string t1, .slice a1 i1 u1, .slice b1 j1 p1] 57)) (ts1.drop (n + 1))) := hr2.kept ((Below.refl _ _).alloc (Nat.le_refl _) _)
   have HBK := hide hbk
   have HE := hide (show P.whole (P.okE sm) (P.fc ts1) = _ from hE)
   have HP : Hid (P.output (P.okE sm) (P.fc (tk :: tl :: ts1)) = some ((V.str tk.2.2, e), P.fc ((tk :: tl :: ts1).drop (n + 1 + 2)))) := by
    show _ = _
    unfold P.output
    rw [HE1.out]
    simp only
    rw [HE.out]
    rfl
   clear hfb hFb hAb hX hM hr2 hE hbk HW
   obtain ⟨z0, z1, z2, z3, z4, z5, z6, z7, z8, z9, z10⟩ := cl11 hAc
   obtain ⟨f0, f1, f2, f3, f4, f5, f6, f7, f8, f9, f10⟩ := fl11 hAc
   have HAx := hide hAc
   clear hAc
   go_wp2_with fail
   obtain ⟨wz, hwz, hBz, hFz⟩ := P.sf11 HAx.out (.string (V.str tk.2.2)) (.int .i64 k1) (.int .i64 v1.kind) (.int .i64 v1.n) (.string v1.s) (.slice none 0 0) (.slice none 0 0) (.string s1) (.string t1) (.slice a1 i1 u1) (.slice b1 j1 p1)
   rw [← hwz]
   clear hwz
   obtain ⟨r0, r1, r2, r3, r4, r5, r6, r7, r8, r9, r10⟩ := cl11 hBz
   refine bodyPost_ret (v := .tuple #[.agg #[.string (V.str tk.2.2), .int .i64 k1, .int .i64 v1.kind, .int .i64 v1.n, .string v1.s, .slice none 0 0, .slice none 0 0, .string s1, .string t1, .slice a1 i1 u1, .slice b1 j1 p1], .nilIface]) (by simp [results, Tryz.results31, go_sem, r0, r1, r2, r3, r4, r5, r6, r7, r8, r9, r10]) rfl ⟨HF3.out.trans hFz (fun c hc e => by omega), .inl ⟨(V.str tk.2.2, e), n + 1 + 2, [.string (V.str tk.2.2), .int .i64 k1, .int .i64 v1.kind, .int .i64 v1.n, .string v1.s, .slice none 0 0, .slice none 0 0, .string s1, .string t1, .slice a1 i1 u1, .slice b1 j1 p1], HP.out, rfl, ⟨_, k1, v1, s1, t1, a1, i1, u1, b1, j1, p1, rfl⟩, P.BO_of (HMc.out.to (fun c hc => hFz.block c (by have := hc.2; have := HSc.out; omega) (by have := hc.1; have := HLa.out; omega)) (fun c hc => ⟨by have := hc.1; have := HLa.out; omega, by have := hc.2; have := HSc.out; have := hFz.size; omega⟩)), by have := HBK.out; have := HNS.out; show (V.str tk.2.2).size + X.bulk 6 e + 60 * (ts1.drop (n + 1)).length ≤ 60 * (ts1.length + 1 + 1); omega, HRc.out.fr hFz (fun c e => by omega)⟩⟩
  ·have hFb := HFa.out.trans hfb (fun _ _ e => e)
   have hAb := (hFb.block w.heap.size (blt HA0.out) (by omega)).trans HA0.out
   have hAc : (wb.alloc (.cells #[.int .i64 k1, .int .i64 v1.kind, .int .i64 v1.n, .string v1.s, .slice none 0 0, .slice none 0 0, .string s1, .string t1, .slice a1 i1 u1, .slice b1 j1 p1] 57)).heap[w.heap.size]? = some (.cells #[.string ⟨#[]⟩, .int .i64 0, .int .i64 0, .int .i64 0, .string ⟨#[]⟩, .slice none 0 0, .slice none 0 0, .string ⟨#[]⟩, .string ⟨#[]⟩, .slice none 0 0, .slice none 0 0] 61 (0, 0)) := by
    rw [heap_alloc_old _ _ (blt hAb)]; exact hAb
   have hX : (wb.alloc (.cells #[.int .i64 k1, .int .i64 v1.kind, .int .i64 v1.n, .string v1.s, .slice none 0 0, .slice none 0 0, .string s1, .string t1, .slice a1 i1 u1, .slice b1 j1 p1] 57)).heap[wb.heap.size]? = some (.cells #[.int .i64 k1, .int .i64 v1.kind, .int .i64 v1.n, .string v1.s, .slice none 0 0, .slice none 0 0, .string s1, .string t1, .slice a1 i1 u1, .slice b1 j1 p1] 57 (0, 0)) := heap_alloc_new _ _
   have HF3 : Hid (Fr w (wb.alloc (.cells #[.int .i64 k1, .int .i64 v1.kind, .int .i64 v1.n, .string v1.s, .slice none 0 0, .slice none 0 0, .string s1, .string t1, .slice a1 i1 u1, .slice b1 j1 p1] 57)) (fun c => c = R)) := (HF0.out.trans hFb (fun _ _ e => e)).alloc _
   have HLb : Hid (wa.heap.size ≤ wb.heap.size) := hfb.size
   have HSc : Hid ((wb.alloc (.cells #[.int .i64 k1, .int .i64 v1.kind, .int .i64 v1.n, .string v1.s, .slice none 0 0, .slice none 0 0, .string s1, .string t1, .slice a1 i1 u1, .slice b1 j1 p1] 57)).heap.size = wb.heap.size + 1) := by
    show _ = _
    simp
   obtain ⟨x0, x1, x2, x3, x4, x5, x6, x7, x8, x9⟩ := cl10 hX
   unfold P.xc
   have HRc : Hid (P.Rdr R (wb.alloc (.cells #[.int .i64 k1, .int .i64 v1.kind, .int .i64 v1.n, .string v1.s, .slice none 0 0, .slice none 0 0, .string s1, .string t1, .slice a1 i1 u1, .slice b1 j1 p1] 57)) ts') := hr2.kept ((Below.refl _ _).alloc (Nat.le_refl _) _)
   have HP : Hid (P.output (P.okE sm) (P.fc (tk :: tl :: ts1)) = none) := by
    show _ = _
    unfold P.output
    rw [HE1.out]
    simp only
    rw [show P.whole (P.okE sm) (P.fc ts1) = _ from hE]
    rfl
   clear hfb hFb hAb hX hr2 hE HW
   obtain ⟨z0, z1, z2, z3, z4, z5, z6, z7, z8, z9, z10⟩ := cl11 hAc
   obtain ⟨f0, f1, f2, f3, f4, f5, f6, f7, f8, f9, f10⟩ := fl11 hAc
   have HAx := hide hAc
   clear hAc
   go_wp2_with fail
   obtain ⟨wz, hwz, hBz, hFz⟩ := P.sf11 HAx.out (.string (V.str tk.2.2)) (.int .i64 k1) (.int .i64 v1.kind) (.int .i64 v1.n) (.string v1.s) (.slice none 0 0) (.slice none 0 0) (.string s1) (.string t1) (.slice a1 i1 u1) (.slice b1 j1 p1)
   rw [← hwz]
   clear hwz
   obtain ⟨r0, r1, r2, r3, r4, r5, r6, r7, r8, r9, r10⟩ := cl11 hBz
   refine bodyPost_ret (v := .tuple #[.agg #[.string (V.str tk.2.2), .int .i64 k1, .int .i64 v1.kind, .int .i64 v1.n, .string v1.s, .slice none 0 0, .slice none 0 0, .string s1, .string t1, .slice a1 i1 u1, .slice b1 j1 p1], .iface 62 (.int .i64 f)]) (by simp [results, Tryz.results31, go_sem, r0, r1, r2, r3, r4, r5, r6, r7, r8, r9, r10]) rfl ⟨HF3.out.trans hFz (fun c hc e => by omega), .inr ⟨HP.out, ⟨[.string (V.str tk.2.2), .int .i64 k1, .int .i64 v1.kind, .int .i64 v1.n, .string v1.s, .slice none 0 0, .slice none 0 0, .string s1, .string t1, .slice a1 i1 u1, .slice b1 j1 p1], f, rfl, ⟨_, k1, v1, s1, t1, a1, i1, u1, b1, j1, p1, rfl⟩⟩, _, HRc.out.fr hFz (fun c e => by omega)⟩⟩
 ·have HP : Hid (P.output (P.okE sm) (P.fc ts) = none) := by
   show _ = _
   unfold P.output
   rw [hE1]
  have hAa := (hfa.block w.heap.size (blt HA0.out) (by omega)).trans HA0.out
  have HF3 := hide (HF0.out.trans hfa (fun _ _ e => e))
  have HRa := hide hr1
  clear hfa hr1 hE1 HNQ
  obtain ⟨z0, z1, z2, z3, z4, z5, z6, z7, z8, z9, z10⟩ := cl11 hAa
  obtain ⟨f0, f1, f2, f3, f4, f5, f6, f7, f8, f9, f10⟩ := fl11 hAa
  have HAx := hide hAa
  clear hAa
  go_wp2_with fail
  obtain ⟨wz, hwz, hBz, hFz⟩ := P.sf11 HAx.out (.string ⟨#[]⟩) (.int .i64 0) (.int .i64 0) (.int .i64 0) (.string ⟨#[]⟩) (.slice none 0 0) (.slice none 0 0) (.string ⟨#[]⟩) (.string ⟨#[]⟩) (.slice none 0 0) (.slice none 0 0)
  rw [← hwz]
  clear hwz
  obtain ⟨r0, r1, r2, r3, r4, r5, r6, r7, r8, r9, r10⟩ := cl11 hBz
  refine bodyPost_ret (v := .tuple #[.agg #[.string ⟨#[]⟩, .int .i64 0, .int .i64 0, .int .i64 0, .string ⟨#[]⟩, .slice none 0 0, .slice none 0 0, .string ⟨#[]⟩, .string ⟨#[]⟩, .slice none 0 0, .slice none 0 0], .iface 62 (.int .i64 f)]) (by simp [results, Tryz.results31, go_sem, r0, r1, r2, r3, r4, r5, r6, r7, r8, r9, r10]) rfl ⟨HF3.out.trans hFz (fun c hc e => by omega), .inr ⟨HP.out, ⟨[.string ⟨#[]⟩, .int .i64 0, .int .i64 0, .int .i64 0, .string ⟨#[]⟩, .slice none 0 0, .slice none 0 0, .string ⟨#[]⟩, .string ⟨#[]⟩, .slice none 0 0, .slice none 0 0], f, rfl, ⟨_, 0, V.zero, _, _, none, 0, 0, none, 0, 0, rfl⟩⟩, _, HRa.out.fr hFz (fun c e => by omega)⟩⟩
set_option maxRecDepth 100000 in
set_option maxHeartbeats 6400000 in
theorem input_any (sm : Val → Val → Bool) (hsm : V.Says sm) (R : Nat) (w : World) (ts : List P.K) (h : P.Rdr R w ts) :
  Calls Tryz.prog 27 #[.pointer (some ⟨R, 0, none⟩)] w fun r w' => Fr w w' (fun c => c = R) ∧ P.OneK P.BI (fun x => x.1.size + V.bulk 6 x.2) P.ShI (P.input (P.okE sm)) R w w' ts r := by
 have hR := h.lt
 have hb0 : Below w.heap.size w (w.alloc (.cells #[.string ⟨#[]⟩, .int .i64 0, .int .i64 0, .string ⟨#[]⟩, .slice none 0 0, .slice none 0 0] 49)) := (Below.refl _ _).alloc (Nat.le_refl _) _
 have hA0 : (w.alloc (.cells #[.string ⟨#[]⟩, .int .i64 0, .int .i64 0, .string ⟨#[]⟩, .slice none 0 0, .slice none 0 0] 49)).heap[w.heap.size]? = some (.cells #[.string ⟨#[]⟩, .int .i64 0, .int .i64 0, .string ⟨#[]⟩, .slice none 0 0, .slice none 0 0] 49 (0, 0)) := heap_alloc_new _ _
 have hsz : (w.alloc (.cells #[.string ⟨#[]⟩, .int .i64 0, .int .i64 0, .string ⟨#[]⟩, .slice none 0 0, .slice none 0 0] 49)).heap.size = w.heap.size + 1 := by simp
 have HF0 : Hid (Fr w (w.alloc (.cells #[.string ⟨#[]⟩, .int .i64 0, .int .i64 0, .string ⟨#[]⟩, .slice none 0 0, .slice none 0 0] 49)) (fun c => c = R)) := (P.fr_below hb0).weak (fun _ _ e => e.elim)
 have HNQ := hide (nameEq_any R _ ts (h.kept hb0))
 have HA0 := hide hA0
 have HSZ := hide hsz
 clear h hb0 hA0 hsz
 go_enter Tryz.func27, Tryz.ntmps27
 go_wp2_with fail
 generalize (w.alloc (.cells #[.string ⟨#[]⟩, .int .i64 0, .int .i64 0, .string ⟨#[]⟩, .slice none 0 0, .slice none 0 0] 49)) = w0 at *
 refine HNQ.out.mono ?_
 rintro r wa ⟨hfa, ⟨tk, tl, ts1, rfl, hE1, hn1, rfl, hr1⟩ | ⟨hE1, ⟨s, f, rfl⟩, ts', hr1⟩⟩
 ·have HLa : Hid (w.heap.size + 1 ≤ wa.heap.size) := by
   show _ ≤ _
   have := hfa.size
   have := HSZ.out
   omega
  have HNS : Hid ((V.str tk.2.2).size ≤ 12) := by
   show _ ≤ _
   rw [← V.length_bl, V.bl_str]
   unfold V.name at hn1
   simp only [Bool.and_eq_true, decide_eq_true_eq] at hn1
   exact hn1.1.2
  have HNX := hide (next_any R wa ts1 hr1)
  have HR1 := hide hr1
  have HFa := hide hfa
  have HE1 := hide hE1
  clear hfa hE1 hr1 hn1 HNQ
  go_wp2_with fail
  refine HNX.out.mono ?_
  rintro r wa' ⟨⟨at_, rfl⟩, hba⟩
  have HW := hide (whole_any sm hsm R wa' ts1 (HR1.out.kept hba))
  have hfd := field_at (.int .i64 (P.headT ts1).1) (.int .i64 at_) (.string (Lx.str (P.headT ts1).2)) wa'
  have HFa2 : Hid (Fr w0 wa' (fun c => c = R)) := HFa.out.trans ((P.fr_below hba).weak (ex1 := fun c => c = R) (fun _ _ e => e.elim)) (fun _ _ e => e)
  have HLa2 : Hid (w.heap.size + 1 ≤ wa'.heap.size) := by
   show _ ≤ _
   have := hba.size
   have := HLa.out
   omega
  clear hba HNX HR1 HFa HLa
  go_wp2_with fail
  refine HW.out.mono ?_
  rintro r wb ⟨hfb, ⟨e, n, k1, v1, s1, t1, a1, i1, u1, b1, j1, p1, hE, rfl, hM, hbk, hr2⟩ | ⟨hE, ⟨k1, v1, s1, t1, a1, i1, u1, b1, j1, p1, f, rfl⟩, ts', hr2⟩⟩
  ·have hFb := HFa2.out.trans hfb (fun _ _ e => e)
   have hAb := (hFb.block w.heap.size (blt HA0.out) (by omega)).trans HA0.out
   have hAc : (wb.alloc (.cells #[.int .i64 k1, .int .i64 v1.kind, .int .i64 v1.n, .string v1.s, .slice none 0 0, .slice none 0 0, .string s1, .string t1, .slice a1 i1 u1, .slice b1 j1 p1] 57)).heap[w.heap.size]? = some (.cells #[.string ⟨#[]⟩, .int .i64 0, .int .i64 0, .string ⟨#[]⟩, .slice none 0 0, .slice none 0 0] 49 (0, 0)) := by
    rw [heap_alloc_old _ _ (blt hAb)]; exact hAb
   have hX : (wb.alloc (.cells #[.int .i64 k1, .int .i64 v1.kind, .int .i64 v1.n, .string v1.s, .slice none 0 0, .slice none 0 0, .string s1, .string t1, .slice a1 i1 u1, .slice b1 j1 p1] 57)).heap[wb.heap.size]? = some (.cells #[.int .i64 k1, .int .i64 v1.kind, .int .i64 v1.n, .string v1.s, .slice none 0 0, .slice none 0 0, .string s1, .string t1, .slice a1 i1 u1, .slice b1 j1 p1] 57 (0, 0)) := heap_alloc_new _ _
   have HF3 : Hid (Fr w (wb.alloc (.cells #[.int .i64 k1, .int .i64 v1.kind, .int .i64 v1.n, .string v1.s, .slice none 0 0, .slice none 0 0, .string s1, .string t1, .slice a1 i1 u1, .slice b1 j1 p1] 57)) (fun c => c = R)) := (HF0.out.trans hFb (fun _ _ e => e)).alloc _
   have HLb : Hid (wa'.heap.size ≤ wb.heap.size) := hfb.size
   have HSc : Hid ((wb.alloc (.cells #[.int .i64 k1, .int .i64 v1.kind, .int .i64 v1.n, .string v1.s, .slice none 0 0, .slice none 0 0, .string s1, .string t1, .slice a1 i1 u1, .slice b1 j1 p1] 57)).heap.size = wb.heap.size + 1) := by
    show _ = _
    simp
   obtain ⟨x0, x1, x2, x3, x4, x5, x6, x7, x8, x9⟩ := cl10 hX
   unfold P.xc
   have HMc : Hid (X.MemD (P.New wa' wb) 6 (wb.alloc (.cells #[.int .i64 k1, .int .i64 v1.kind, .int .i64 v1.n, .string v1.s, .slice none 0 0, .slice none 0 0, .string s1, .string t1, .slice a1 i1 u1, .slice b1 j1 p1] 57)) e (P.xc k1 v1 s1 t1 a1 i1 u1 b1 j1 p1)) := hM.to (fun c hc => heap_alloc_old _ _ hc.2) (fun _ hc => hc)
   have HRc : Hid (P.Rdr R (wb.alloc (.cells #[.int .i64 k1, .int .i64 v1.kind, .int .i64 v1.n, .string v1.s, .slice none 0 0, .slice none 0 0, .string s1, .string t1, .slice a1 i1 u1, .slice b1 j1 p1] 57)) (ts1.drop (n + 1))) := hr2.kept ((Below.refl _ _).alloc (Nat.le_refl _) _)
   have HBK := hide hbk
   have HE := hide (show P.whole (P.okE sm) (P.fc ts1) = _ from hE)
   have hk1 : k1 = e.kind := P.kind_of hM.mem
   clear hfb hFb hAb hX hM hr2 hE hbk hfd HW
   by_cases hk : k1 = 1
   ·have HP : Hid (P.input (P.okE sm) (P.fc (tk :: tl :: ts1)) = some ((V.str tk.2.2, e.v), P.fc ((tk :: tl :: ts1).drop (n + 1 + 2)))) := by
     show _ = _
     unfold P.input
     rw [HE1.out]
     simp only
     rw [HE.out]
     simp only
     rw [if_pos (hk1.symm.trans hk)]
     rfl
    have hkb : (k1 == 1) = true := by simp [hk]
    clear hk1 hk
    obtain ⟨z0, z1, z2, z3, z4, z5⟩ := cl6 hAc
    obtain ⟨f0, f1, f2, f3, f4, f5⟩ := fl6 hAc
    have HAx := hide hAc
    clear hAc
    go_wp2_with fail
    obtain ⟨wz, hwz, hBz, hFz⟩ := P.sf6 HAx.out (.string (V.str tk.2.2)) (.int .i64 v1.kind) (.int .i64 v1.n) (.string v1.s) (.slice none 0 0) (.slice none 0 0)
    rw [← hwz]
    clear hwz
    obtain ⟨r0, r1, r2, r3, r4, r5⟩ := cl6 hBz
    refine bodyPost_ret (v := .tuple #[.agg #[.string (V.str tk.2.2), .int .i64 v1.kind, .int .i64 v1.n, .string v1.s, .slice none 0 0, .slice none 0 0], .nilIface]) (by simp [results, Tryz.results27, go_sem, r0, r1, r2, r3, r4, r5]) rfl ⟨HF3.out.trans hFz (fun c hc e => by omega), .inl ⟨(V.str tk.2.2, e.v), n + 1 + 2, [.string (V.str tk.2.2), .int .i64 v1.kind, .int .i64 v1.n, .string v1.s, .slice none 0 0, .slice none 0 0], HP.out, rfl, ⟨_, _, _, _, rfl⟩, P.BI_of (HMc.out.to (fun c hc => hFz.block c (by have := hc.2; have := HSc.out; omega) (by have := hc.1; have := HLa2.out; omega)) (fun c hc => ⟨by have := hc.1; have := HLa2.out; omega, by have := hc.2; have := HSc.out; have := hFz.size; omega⟩)), by have := HBK.out; have := HNS.out; have := (show V.bulk 6 e.v ≤ X.bulk 6 e from P.bulk_v 5 e); show (V.str tk.2.2).size + V.bulk 6 e.v + 60 * (ts1.drop (n + 1)).length ≤ 60 * (ts1.length + 1 + 1); omega, HRc.out.fr hFz (fun c e => by omega)⟩⟩
   ·have HP : Hid (P.input (P.okE sm) (P.fc (tk :: tl :: ts1)) = none) := by
     show _ = _
     unfold P.input
     rw [HE1.out]
     simp only
     rw [HE.out]
     simp only
     rw [if_neg (fun e2 => hk (hk1.trans e2))]
    have hkb : (k1 == 1) = false := by simp [hk]
    have HFL := hide (failAt_any R (wb.alloc (.cells #[.int .i64 k1, .int .i64 v1.kind, .int .i64 v1.n, .string v1.s, .slice none 0 0, .slice none 0 0, .string s1, .string t1, .slice a1 i1 u1, .slice b1 j1 p1] 57)) (ts1.drop (n + 1)) at_ (.iface 62 (.int .i64 5)) HRc.out)
    have HAc := hide hAc
    have HXc : Hid ((wb.alloc (.cells #[.int .i64 k1, .int .i64 v1.kind, .int .i64 v1.n, .string v1.s, .slice none 0 0, .slice none 0 0, .string s1, .string t1, .slice a1 i1 u1, .slice b1 j1 p1] 57)).heap[wb.heap.size]? = some (.cells #[.int .i64 k1, .int .i64 v1.kind, .int .i64 v1.n, .string v1.s, .slice none 0 0, .slice none 0 0, .string s1, .string t1, .slice a1 i1 u1, .slice b1 j1 p1] 57 (0, 0))) := heap_alloc_new _ _
    have HRB : Hid (R ≠ wb.heap.size) := by
     show _ ≠ _
     have := HLa2.out
     have := HLb.out
     omega
    clear hk1 hk hAc
    go_wp2_with fail
    generalize (wb.alloc (.cells #[.int .i64 k1, .int .i64 v1.kind, .int .i64 v1.n, .string v1.s, .slice none 0 0, .slice none 0 0, .string s1, .string t1, .slice a1 i1 u1, .slice b1 j1 p1] 57)) = wc at *
    refine HFL.out.mono ?_
    rintro r we ⟨rfl, hre, hfe⟩
    have hAe := (hfe.block w.heap.size (blt HAc.out) (by omega)).trans HAc.out
    have hXe := (hfe.block wb.heap.size (blt HXc.out) (fun e => HRB.out e.symm)).trans HXc.out
    have HF4 := hide (HF3.out.trans hfe (fun _ _ e => e))
    have HRe := hide hre
    clear hre hfe HFL x0 x1 x2 x3 x4 x5 x6 x7 x8 x9
    obtain ⟨x0, x1, x2, x3, x4, x5, x6, x7, x8, x9⟩ := cl10 hXe
    clear hXe
    obtain ⟨z0, z1, z2, z3, z4, z5⟩ := cl6 hAe
    obtain ⟨f0, f1, f2, f3, f4, f5⟩ := fl6 hAe
    have HAx := hide hAe
    clear hAe
    go_wp2_with fail
    obtain ⟨wz, hwz, hBz, hFz⟩ := P.sf6 HAx.out (.string (V.str tk.2.2)) (.int .i64 v1.kind) (.int .i64 v1.n) (.string v1.s) (.slice none 0 0) (.slice none 0 0)
    rw [← hwz]
    clear hwz
    obtain ⟨r0, r1, r2, r3, r4, r5⟩ := cl6 hBz
    refine bodyPost_ret (v := .tuple #[.agg #[.string (V.str tk.2.2), .int .i64 v1.kind, .int .i64 v1.n, .string v1.s, .slice none 0 0, .slice none 0 0], .iface 62 (.int .i64 5)]) (by simp [results, Tryz.results27, go_sem, r0, r1, r2, r3, r4, r5]) rfl ⟨HF4.out.trans hFz (fun c hc e => by omega), .inr ⟨HP.out, ⟨[.string (V.str tk.2.2), .int .i64 v1.kind, .int .i64 v1.n, .string v1.s, .slice none 0 0, .slice none 0 0], 5, rfl, ⟨_, _, _, _, rfl⟩⟩, _, HRe.out.fr hFz (fun c e => by omega)⟩⟩
  ·have hFb := HFa2.out.trans hfb (fun _ _ e => e)
   have hAb := (hFb.block w.heap.size (blt HA0.out) (by omega)).trans HA0.out
   have hAc : (wb.alloc (.cells #[.int .i64 k1, .int .i64 v1.kind, .int .i64 v1.n, .string v1.s, .slice none 0 0, .slice none 0 0, .string s1, .string t1, .slice a1 i1 u1, .slice b1 j1 p1] 57)).heap[w.heap.size]? = some (.cells #[.string ⟨#[]⟩, .int .i64 0, .int .i64 0, .string ⟨#[]⟩, .slice none 0 0, .slice none 0 0] 49 (0, 0)) := by
    rw [heap_alloc_old _ _ (blt hAb)]; exact hAb
   have hX : (wb.alloc (.cells #[.int .i64 k1, .int .i64 v1.kind, .int .i64 v1.n, .string v1.s, .slice none 0 0, .slice none 0 0, .string s1, .string t1, .slice a1 i1 u1, .slice b1 j1 p1] 57)).heap[wb.heap.size]? = some (.cells #[.int .i64 k1, .int .i64 v1.kind, .int .i64 v1.n, .string v1.s, .slice none 0 0, .slice none 0 0, .string s1, .string t1, .slice a1 i1 u1, .slice b1 j1 p1] 57 (0, 0)) := heap_alloc_new _ _
   have HF3 : Hid (Fr w (wb.alloc (.cells #[.int .i64 k1, .int .i64 v1.kind, .int .i64 v1.n, .string v1.s, .slice none 0 0, .slice none 0 0, .string s1, .string t1, .slice a1 i1 u1, .slice b1 j1 p1] 57)) (fun c => c = R)) := (HF0.out.trans hFb (fun _ _ e => e)).alloc _
   have HLb : Hid (wa'.heap.size ≤ wb.heap.size) := hfb.size
   have HSc : Hid ((wb.alloc (.cells #[.int .i64 k1, .int .i64 v1.kind, .int .i64 v1.n, .string v1.s, .slice none 0 0, .slice none 0 0, .string s1, .string t1, .slice a1 i1 u1, .slice b1 j1 p1] 57)).heap.size = wb.heap.size + 1) := by
    show _ = _
    simp
   obtain ⟨x0, x1, x2, x3, x4, x5, x6, x7, x8, x9⟩ := cl10 hX
   unfold P.xc
   have HRc : Hid (P.Rdr R (wb.alloc (.cells #[.int .i64 k1, .int .i64 v1.kind, .int .i64 v1.n, .string v1.s, .slice none 0 0, .slice none 0 0, .string s1, .string t1, .slice a1 i1 u1, .slice b1 j1 p1] 57)) ts') := hr2.kept ((Below.refl _ _).alloc (Nat.le_refl _) _)
   have HP : Hid (P.input (P.okE sm) (P.fc (tk :: tl :: ts1)) = none) := by
    show _ = _
    unfold P.input
    rw [HE1.out]
    simp only
    rw [show P.whole (P.okE sm) (P.fc ts1) = _ from hE]
   clear hfb hFb hAb hX hr2 hE hfd HW
   obtain ⟨z0, z1, z2, z3, z4, z5⟩ := cl6 hAc
   obtain ⟨f0, f1, f2, f3, f4, f5⟩ := fl6 hAc
   have HAx := hide hAc
   clear hAc
   go_wp2_with fail
   obtain ⟨wz, hwz, hBz, hFz⟩ := P.sf6 HAx.out (.string (V.str tk.2.2)) (.int .i64 v1.kind) (.int .i64 v1.n) (.string v1.s) (.slice none 0 0) (.slice none 0 0)
   rw [← hwz]
   clear hwz
   obtain ⟨r0, r1, r2, r3, r4, r5⟩ := cl6 hBz
   refine bodyPost_ret (v := .tuple #[.agg #[.string (V.str tk.2.2), .int .i64 v1.kind, .int .i64 v1.n, .string v1.s, .slice none 0 0, .slice none 0 0], .iface 62 (.int .i64 f)]) (by simp [results, Tryz.results27, go_sem, r0, r1, r2, r3, r4, r5]) rfl ⟨HF3.out.trans hFz (fun c hc e => by omega), .inr ⟨HP.out, ⟨[.string (V.str tk.2.2), .int .i64 v1.kind, .int .i64 v1.n, .string v1.s, .slice none 0 0, .slice none 0 0], f, rfl, ⟨_, _, _, _, rfl⟩⟩, _, HRc.out.fr hFz (fun c e => by omega)⟩⟩
 ·have HP : Hid (P.input (P.okE sm) (P.fc ts) = none) := by
   show _ = _
   unfold P.input
   rw [hE1]
  have hAa := (hfa.block w.heap.size (blt HA0.out) (by omega)).trans HA0.out
  have HF3 := hide (HF0.out.trans hfa (fun _ _ e => e))
  have HRa := hide hr1
  clear hfa hr1 hE1 HNQ
  obtain ⟨z0, z1, z2, z3, z4, z5⟩ := cl6 hAa
  obtain ⟨f0, f1, f2, f3, f4, f5⟩ := fl6 hAa
  have HAx := hide hAa
  clear hAa
  go_wp2_with fail
  obtain ⟨wz, hwz, hBz, hFz⟩ := P.sf6 HAx.out (.string ⟨#[]⟩) (.int .i64 0) (.int .i64 0) (.string ⟨#[]⟩) (.slice none 0 0) (.slice none 0 0)
  rw [← hwz]
  clear hwz
  obtain ⟨r0, r1, r2, r3, r4, r5⟩ := cl6 hBz
  refine bodyPost_ret (v := .tuple #[.agg #[.string ⟨#[]⟩, .int .i64 0, .int .i64 0, .string ⟨#[]⟩, .slice none 0 0, .slice none 0 0], .iface 62 (.int .i64 f)]) (by simp [results, Tryz.results27, go_sem, r0, r1, r2, r3, r4, r5]) rfl ⟨HF3.out.trans hFz (fun c hc e => by omega), .inr ⟨HP.out, ⟨[.string ⟨#[]⟩, .int .i64 0, .int .i64 0, .string ⟨#[]⟩, .slice none 0 0, .slice none 0 0], f, rfl, ⟨_, _, _, _, rfl⟩⟩, _, HRa.out.fr hFz (fun c e => by omega)⟩⟩
end Go.Proofs.YtbdbpfcblppnbaaGreatDoor.Vx
