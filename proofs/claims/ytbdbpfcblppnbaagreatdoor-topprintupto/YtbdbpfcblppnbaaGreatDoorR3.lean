/- For TopPrint: signOfTwo. -/
import Derived.Test.YtbdbpfcblppnbaaGreatDoorR2
namespace Go.Proofs.YtbdbpfcblppnbaaGreatDoor.Vx
open Go.RowKit
theorem P.drop_next {ts : List P.K} {n : Nat} {x : P.K} {r : List P.K} (h : ts.drop n = x :: r) : ts.drop (n + 1) = r := by
 rw [← List.drop_drop, h]
 rfl
theorem P.flat_at : ∀ (l : List (Ex × List Value)), (∀ x ∈ l, x.2.length = 10) → ∀ (i : Nat) (x : Ex × List Value), l[i]? = some x → x.2.length = 10 ∧ ∀ j, j < 10 → (l.flatMap (·.2)).toArray[i * 10 + j]? = x.2[j]?
 | [], _, _, _, h => by cases h
 | y :: l, h10, 0, x, h => by
  have e : y = x := by simpa using h
  subst e
  have hy := h10 y (by simp)
  refine ⟨hy, fun j hj => ?_⟩
  rw [List.getElem?_toArray, List.flatMap_cons, Nat.zero_mul, Nat.zero_add, List.getElem?_append_left (by omega)]
 | y :: l, h10, i + 1, x, h => by
  have hy := h10 y (by simp)
  obtain ⟨h1, h2⟩ := P.flat_at l (fun z hz => h10 z (by simp [hz])) i x (by simpa using h)
  refine ⟨h1, fun j hj => ?_⟩
  have := h2 j hj
  rw [List.getElem?_toArray] at this ⊢
  rw [List.flatMap_cons, List.getElem?_append_right (by omega), show (i + 1) * 10 + j - y.2.length = i * 10 + j by omega]
  exact this
theorem P.zero_size : (⟨#[]⟩ : ByteArray).size = 0 := rfl
set_option maxRecDepth 100000 in
set_option maxHeartbeats 3200000 in
theorem pick_any (d R Br Bd : Nat) (w : World) (ts : List P.K) (hd : d ≤ 6) (ih : P.IH d) (h : P.Rdr R w ts) (hi : P.Inn R Br Bd d w) :
  Calls Tryz.prog 83 #[.pointer (some ⟨R, 0, none⟩), .func (.func 80) #[] #[.pointer (some ⟨Br, 0, none⟩), .pointer (some ⟨Bd, 0, none⟩)]] w fun r w' => Fr w w' (fun c => c = R) ∧ P.ExOut (P.pick (P.ex d) (P.fc ts)) (d + 1) R w w' ts r := by
 have hR := h.lt
 have hb0 : Below w.heap.size w (w.alloc (.cells #[.int .i64 0, .int .i64 0, .int .i64 0, .string ⟨#[]⟩, .slice none 0 0, .slice none 0 0, .string ⟨#[]⟩, .string ⟨#[]⟩, .slice none 0 0, .slice none 0 0] 57)) := (Below.refl _ _).alloc (Nat.le_refl _) _
 have hA0 : (w.alloc (.cells #[.int .i64 0, .int .i64 0, .int .i64 0, .string ⟨#[]⟩, .slice none 0 0, .slice none 0 0, .string ⟨#[]⟩, .string ⟨#[]⟩, .slice none 0 0, .slice none 0 0] 57)).heap[w.heap.size]? = some (.cells #[.int .i64 0, .int .i64 0, .int .i64 0, .string ⟨#[]⟩, .slice none 0 0, .slice none 0 0, .string ⟨#[]⟩, .string ⟨#[]⟩, .slice none 0 0, .slice none 0 0] 57 (0, 0)) := heap_alloc_new _ _
 have HN := hide (inner_any d R Br Bd _ ts hd ih (h.kept hb0) (hi.kept hb0))
 have HF0 : Hid (Fr w (w.alloc (.cells #[.int .i64 0, .int .i64 0, .int .i64 0, .string ⟨#[]⟩, .slice none 0 0, .slice none 0 0, .string ⟨#[]⟩, .string ⟨#[]⟩, .slice none 0 0, .slice none 0 0] 57)) (fun c => c = R)) := (P.fr_below hb0).weak (fun _ _ e => e.elim)
 have HA0 := hide hA0
 have HV := hide h.2
 clear h hb0 hA0 hi ih hd
 go_enter Tryz.func83, Tryz.ntmps83
 go_wp2_with fail
 refine HN.out.mono ?_
 rintro r w1 ⟨hf1, ⟨e, n, k, v, s, t, a, i, u, a', i', u', hE, rfl, hM, hbk, hr1⟩ | ⟨hE, ⟨k, v, s, t, a, i, u, a', i', u', f, rfl⟩, ts', hr1⟩⟩
 ·have hs1 := hf1.size
  have hA1 := (hf1.block w.heap.size (by simp) (by omega)).trans HA0.out
  have hlt1 : w.heap.size < w1.heap.size := (blt hA1)
  have hA2 : (w1.alloc (.cells #[.int .i64 k, .int .i64 v.kind, .int .i64 v.n, .string v.s, .slice none 0 0, .slice none 0 0, .string s, .string t, .slice a i u, .slice a' i' u'] 57)).heap[w.heap.size]? = some (.cells #[.int .i64 0, .int .i64 0, .int .i64 0, .string ⟨#[]⟩, .slice none 0 0, .slice none 0 0, .string ⟨#[]⟩, .string ⟨#[]⟩, .slice none 0 0, .slice none 0 0] 57 (0, 0)) := by rw [heap_alloc_old _ _ hlt1]; exact hA1
  have hG2 : (w1.alloc (.cells #[.int .i64 k, .int .i64 v.kind, .int .i64 v.n, .string v.s, .slice none 0 0, .slice none 0 0, .string s, .string t, .slice a i u, .slice a' i' u'] 57)).heap[w1.heap.size]? = some (.cells #[.int .i64 k, .int .i64 v.kind, .int .i64 v.n, .string v.s, .slice none 0 0, .slice none 0 0, .string s, .string t, .slice a i u, .slice a' i' u'] 57 (0, 0)) := heap_alloc_new _ _
  have hF2 : Fr w (w1.alloc (.cells #[.int .i64 k, .int .i64 v.kind, .int .i64 v.n, .string v.s, .slice none 0 0, .slice none 0 0, .string s, .string t, .slice a i u, .slice a' i' u'] 57)) (fun c => c = R) := (HF0.out.trans hf1 (fun _ _ e => e)).alloc _
  have HNM := hide (rname_any R (w1.alloc (.cells #[.int .i64 k, .int .i64 v.kind, .int .i64 v.n, .string v.s, .slice none 0 0, .slice none 0 0, .string s, .string t, .slice a i u, .slice a' i' u'] 57)) (ts.drop (n + 1)) (hr1.kept ((Below.refl _ _).alloc (Nat.le_refl _) _)))
  have HE := hide hE
  have HM := hide hM
  have HBK := hide hbk
  have HF2 := hide hF2
  have HA2 := hide hA2
  have HG2 := hide hG2
  unfold P.xc
  clear hf1 hE hr1 hM hbk HN hA1 hA2 hG2 hF2 hs1
  go_wp2_with fail
  refine HNM.out.mono ?_
  rintro r w2 ⟨hf2, ⟨t', ts', eT, hE2, hn2, rfl, hr2⟩ | ⟨hE2, rfl, hr2⟩⟩
  ·have hA3 := (hf2.block w.heap.size (blt HA2.out) (by omega)).trans HA2.out
   have hG3 := (hf2.block w1.heap.size (blt HG2.out) (by omega)).trans HG2.out
   have hlt2 : w1.heap.size < w2.heap.size := (blt hG3)
   have hA4 : (w2.alloc (.cells #[.int .i64 k, .int .i64 v.kind, .int .i64 v.n, .string v.s, .slice none 0 0, .slice none 0 0, .string s, .string t, .slice a i u, .slice a' i' u'] 57)).heap[w.heap.size]? = some (.cells #[.int .i64 0, .int .i64 0, .int .i64 0, .string ⟨#[]⟩, .slice none 0 0, .slice none 0 0, .string ⟨#[]⟩, .string ⟨#[]⟩, .slice none 0 0, .slice none 0 0] 57 (0, 0)) := by rw [heap_alloc_old _ _ (by omega)]; exact hA3
   have hG4 : (w2.alloc (.cells #[.int .i64 k, .int .i64 v.kind, .int .i64 v.n, .string v.s, .slice none 0 0, .slice none 0 0, .string s, .string t, .slice a i u, .slice a' i' u'] 57)).heap[w2.heap.size]? = some (.cells #[.int .i64 k, .int .i64 v.kind, .int .i64 v.n, .string v.s, .slice none 0 0, .slice none 0 0, .string s, .string t, .slice a i u, .slice a' i' u'] 57 (0, 0)) := heap_alloc_new _ _
   have HF3 : Hid (Fr w (w2.alloc (.cells #[.int .i64 k, .int .i64 v.kind, .int .i64 v.n, .string v.s, .slice none 0 0, .slice none 0 0, .string s, .string t, .slice a i u, .slice a' i' u'] 57)) (fun c => c = R)) := (HF2.out.trans hf2 (fun _ _ e => e)).alloc _
   have HR3 : Hid (P.Rdr R (w2.alloc (.cells #[.int .i64 k, .int .i64 v.kind, .int .i64 v.n, .string v.s, .slice none 0 0, .slice none 0 0, .string s, .string t, .slice a i u, .slice a' i' u'] 57)) (ts.drop (n + 1 + 1))) := by
    show P.Rdr _ _ _
    rw [P.drop_next eT]
    exact hr2.kept ((Below.refl _ _).alloc (Nat.le_refl _) _)
   have HP : Hid (P.pick (P.ex d) (P.fc ts) = some (⟨10, V.zero, V.str t'.2.2, ⟨#[]⟩, [e], []⟩, P.fc (ts.drop (n + 1 + 1)))) := by
    show _ = _
    unfold P.pick
    rw [HE.out]
    simp only
    rw [hE2, P.drop_next eT]
    rfl
   have HBK2 : Hid (X.bulk (d + 1) ⟨10, V.zero, V.str t'.2.2, ⟨#[]⟩, [e], []⟩ + 60 * (ts.drop (n + 1 + 1)).length ≤ 60 * ts.length) := by
    show _ ≤ _
    have l2 : (V.str t'.2.2).size ≤ 40 := by
     rw [← V.length_bl, V.bl_str]
     exact (HV.out t' (List.mem_of_mem_drop (by rw [eT]; simp))).1
    have h1 := HBK.out
    rw [eT] at h1
    rw [P.drop_next eT, X.bulk, V.bulk]
    simp only [V.zero, X.sumA, X.sumN, V.sumL, V.sumF, P.zero_size, List.map_nil, List.map_cons, List.sum_cons, List.sum_nil, List.length_nil, List.length_cons] at h1 ⊢
    omega
   have HK : Hid (∀ c, P.New (w.alloc (.cells #[.int .i64 0, .int .i64 0, .int .i64 0, .string ⟨#[]⟩, .slice none 0 0, .slice none 0 0, .string ⟨#[]⟩, .string ⟨#[]⟩, .slice none 0 0, .slice none 0 0] 57)) w1 c → w.heap.size < c ∧ c < w2.heap.size ∧ (w2.alloc (.cells #[.int .i64 k, .int .i64 v.kind, .int .i64 v.n, .string v.s, .slice none 0 0, .slice none 0 0, .string s, .string t, .slice a i u, .slice a' i' u'] 57)).heap[c]? = w1.heap[c]?) := fun c hc => by
    have h1 := hc.1
    have h2 := hc.2
    have hs2 := hf2.size
    simp at h1 hs2
    refine ⟨by omega, by omega, ?_⟩
    rw [heap_alloc_old _ _ (by omega), hf2.block c (by simp; omega) (by omega), heap_alloc_old _ _ h2]
   have HG4 := hide hG4
   have HLT : Hid (w.heap.size < w2.heap.size) := by show _ < _; omega
   clear hf2 hr2 hE2 hn2 HNM hA3 hG4
   obtain ⟨z0, z1, z2, z3, z4, z5, z6, z7, z8, z9⟩ := cl10 hA4
   obtain ⟨f0, f1, f2, f3, f4, f5, f6, f7, f8, f9⟩ := fl10 hA4
   obtain ⟨y0, y1, y2, y3, y4, y5, y6, y7, y8, y9⟩ := cl10 hG3
   clear hG3
   have HAx := hide hA4
   clear hA4
   go_wp2_with fail
   obtain ⟨wz, hwz, hBz, hFz⟩ := P.sf10 HAx.out (.int .i64 10) (.int .i64 0) (.int .i64 0) (.string ⟨#[]⟩) (.slice none 0 0) (.slice none 0 0) (.string (V.str t'.2.2)) (.string ⟨#[]⟩) (.slice (some ⟨w2.heap.size, 0, none⟩) 1 1) (.slice none 0 0)
   rw [← hwz]
   clear hwz
   obtain ⟨r0, r1, r2, r3, r4, r5, r6, r7, r8, r9⟩ := cl10 hBz
   refine bodyPost_ret (v := .tuple #[.agg #[.int .i64 10, .int .i64 0, .int .i64 0, .string ⟨#[]⟩, .slice none 0 0, .slice none 0 0, .string (V.str t'.2.2), .string ⟨#[]⟩, .slice (some ⟨w2.heap.size, 0, none⟩) 1 1, .slice none 0 0], .nilIface]) (by simp [results, Tryz.results83, go_sem, r0, r1, r2, r3, r4, r5, r6, r7, r8, r9]) rfl ⟨HF3.out.trans hFz (fun c hc e => by omega), .inl ⟨_, n + 1, 10, V.zero, V.str t'.2.2, ⟨#[]⟩, some ⟨w2.heap.size, 0, none⟩, 1, 1, none, 0, 0, HP.out, rfl, P.xnode (l := [(e, (P.xc k v s t a i u a' i' u'))]) (arr := ([(e, (P.xc k v s t a i u a' i' u'))].flatMap (fun x : Ex × List Value => x.2)).toArray) (ty := 57) (fr := (0, 0)) 10 (V.str t'.2.2) ⟨#[]⟩ ((hFz.block w2.heap.size (by simp) (by have := HLT.out; omega)).trans HG4.out) (P.flat_at _ (fun x hx => by
        rw [List.mem_singleton] at hx
        subst hx
        rfl)) (fun x hx => by
        rw [List.mem_singleton] at hx
        subst hx
        exact HM.out.to (fun c hc => by
         obtain ⟨q1, q2, q3⟩ := HK.out c hc
         rw [hFz.block c (by simp; omega) (by omega)]
         exact q3) (fun c hc => by
         obtain ⟨q1, q2, q3⟩ := HK.out c hc
         have := hFz.size
         simp at this
         exact ⟨by omega, by omega⟩)) ⟨by have := HLT.out; omega, by have := hFz.size; simp at this; omega⟩, HBK2.out, HR3.out.fr hFz (fun c e => by omega)⟩⟩
  ·have hA3 := (hf2.block w.heap.size (blt HA2.out) (by omega)).trans HA2.out
   have hG3 := (hf2.block w1.heap.size (blt HG2.out) (by omega)).trans HG2.out
   have hlt2 : w1.heap.size < w2.heap.size := (blt hG3)
   have hA4 : (w2.alloc (.cells #[.int .i64 k, .int .i64 v.kind, .int .i64 v.n, .string v.s, .slice none 0 0, .slice none 0 0, .string s, .string t, .slice a i u, .slice a' i' u'] 57)).heap[w.heap.size]? = some (.cells #[.int .i64 0, .int .i64 0, .int .i64 0, .string ⟨#[]⟩, .slice none 0 0, .slice none 0 0, .string ⟨#[]⟩, .string ⟨#[]⟩, .slice none 0 0, .slice none 0 0] 57 (0, 0)) := by rw [heap_alloc_old _ _ (by omega)]; exact hA3
   have HF3 : Hid (Fr w (w2.alloc (.cells #[.int .i64 k, .int .i64 v.kind, .int .i64 v.n, .string v.s, .slice none 0 0, .slice none 0 0, .string s, .string t, .slice a i u, .slice a' i' u'] 57)) (fun c => c = R)) := (HF2.out.trans hf2 (fun _ _ e => e)).alloc _
   have HR3 : Hid (P.Rdr R (w2.alloc (.cells #[.int .i64 k, .int .i64 v.kind, .int .i64 v.n, .string v.s, .slice none 0 0, .slice none 0 0, .string s, .string t, .slice a i u, .slice a' i' u'] 57)) (ts.drop (n + 1))) := hr2.kept ((Below.refl _ _).alloc (Nat.le_refl _) _)
   have HP : Hid (P.pick (P.ex d) (P.fc ts) = none) := by
    show _ = _
    unfold P.pick
    rw [HE.out]
    simp only
    rw [hE2]
    rfl
   clear hf2 hr2 hE2 HNM hA3
   obtain ⟨z0, z1, z2, z3, z4, z5, z6, z7, z8, z9⟩ := cl10 hA4
   obtain ⟨f0, f1, f2, f3, f4, f5, f6, f7, f8, f9⟩ := fl10 hA4
   obtain ⟨y0, y1, y2, y3, y4, y5, y6, y7, y8, y9⟩ := cl10 hG3
   clear hG3
   have HAx := hide hA4
   clear hA4
   go_wp2_with fail
   obtain ⟨wz, hwz, hBz, hFz⟩ := P.sf10 HAx.out (.int .i64 10) (.int .i64 0) (.int .i64 0) (.string ⟨#[]⟩) (.slice none 0 0) (.slice none 0 0) (.string ⟨#[]⟩) (.string ⟨#[]⟩) (.slice (some ⟨w2.heap.size, 0, none⟩) 1 1) (.slice none 0 0)
   rw [← hwz]
   clear hwz
   obtain ⟨r0, r1, r2, r3, r4, r5, r6, r7, r8, r9⟩ := cl10 hBz
   refine bodyPost_ret (v := .tuple #[.agg #[.int .i64 10, .int .i64 0, .int .i64 0, .string ⟨#[]⟩, .slice none 0 0, .slice none 0 0, .string ⟨#[]⟩, .string ⟨#[]⟩, .slice (some ⟨w2.heap.size, 0, none⟩) 1 1, .slice none 0 0], .iface 62 (.int .i64 5)]) (by simp [results, Tryz.results83, go_sem, r0, r1, r2, r3, r4, r5, r6, r7, r8, r9]) rfl ⟨HF3.out.trans hFz (fun c hc e => by omega), .inr ⟨HP.out, ⟨10, V.zero, ⟨#[]⟩, ⟨#[]⟩, some ⟨w2.heap.size, 0, none⟩, 1, 1, none, 0, 0, 5, rfl⟩, _, HR3.out.fr hFz (fun c e => by omega)⟩⟩
 ·have hA1 := (hf1.block w.heap.size (by simp) (by omega)).trans HA0.out
  have hlt1 : w.heap.size < w1.heap.size := (blt hA1)
  have hA2 : (w1.alloc (.cells #[.int .i64 k, .int .i64 v.kind, .int .i64 v.n, .string v.s, .slice none 0 0, .slice none 0 0, .string s, .string t, .slice a i u, .slice a' i' u'] 57)).heap[w.heap.size]? = some (.cells #[.int .i64 0, .int .i64 0, .int .i64 0, .string ⟨#[]⟩, .slice none 0 0, .slice none 0 0, .string ⟨#[]⟩, .string ⟨#[]⟩, .slice none 0 0, .slice none 0 0] 57 (0, 0)) := by rw [heap_alloc_old _ _ hlt1]; exact hA1
  have HF3 : Hid (Fr w (w1.alloc (.cells #[.int .i64 k, .int .i64 v.kind, .int .i64 v.n, .string v.s, .slice none 0 0, .slice none 0 0, .string s, .string t, .slice a i u, .slice a' i' u'] 57)) (fun c => c = R)) := (HF0.out.trans hf1 (fun _ _ e => e)).alloc _
  have HR3 : Hid (P.Rdr R (w1.alloc (.cells #[.int .i64 k, .int .i64 v.kind, .int .i64 v.n, .string v.s, .slice none 0 0, .slice none 0 0, .string s, .string t, .slice a i u, .slice a' i' u'] 57)) ts') := hr1.kept ((Below.refl _ _).alloc (Nat.le_refl _) _)
  have HP : Hid (P.pick (P.ex d) (P.fc ts) = none) := by
   show _ = _
   unfold P.pick
   rw [hE]
  unfold P.xc
  clear hf1 hr1 hE HN hA1 hlt1
  obtain ⟨z0, z1, z2, z3, z4, z5, z6, z7, z8, z9⟩ := cl10 hA2
  obtain ⟨f0, f1, f2, f3, f4, f5, f6, f7, f8, f9⟩ := fl10 hA2
  have HAx := hide hA2
  clear hA2
  go_wp2_with fail
  obtain ⟨wz, hwz, hBz, hFz⟩ := P.sf10 HAx.out (.int .i64 0) (.int .i64 0) (.int .i64 0) (.string ⟨#[]⟩) (.slice none 0 0) (.slice none 0 0) (.string ⟨#[]⟩) (.string ⟨#[]⟩) (.slice none 0 0) (.slice none 0 0)
  rw [← hwz]
  clear hwz
  obtain ⟨r0, r1, r2, r3, r4, r5, r6, r7, r8, r9⟩ := cl10 hBz
  refine bodyPost_ret (v := .tuple #[.agg #[.int .i64 0, .int .i64 0, .int .i64 0, .string ⟨#[]⟩, .slice none 0 0, .slice none 0 0, .string ⟨#[]⟩, .string ⟨#[]⟩, .slice none 0 0, .slice none 0 0], .iface 62 (.int .i64 f)]) (by simp [results, Tryz.results83, go_sem, r0, r1, r2, r3, r4, r5, r6, r7, r8, r9]) rfl ⟨HF3.out.trans hFz (fun c hc e => by omega), .inr ⟨HP.out, ⟨0, V.zero, ⟨#[]⟩, ⟨#[]⟩, none, 0, 0, none, 0, 0, f, rfl⟩, _, HR3.out.fr hFz (fun c e => by omega)⟩⟩
end Go.Proofs.YtbdbpfcblppnbaaGreatDoor.Vx
namespace Go.Proofs.YtbdbpfcblppnbaaGreatDoor.Vx
open Go.RowKit
theorem look_ok {t e : TypeId} (hu : Tryz.prog.underlying t = some (.map 9 e)) {w : World} {b : Nat} {F : List (ByteArray × Value)} (h : S.Is w b F) (n : ByteArray) {z : Value} (hz : ∀ w, (zeroValue e).run Tryz.prog w = .ok z w) :
  (Instr.lookup t (.map (some b)) (.string n) true).run Tryz.prog w = .ok (.tuple #[(S.get F n).getD z, .bool (S.get F n).isSome]) w := by
 rw [S.look hu h n true hz]
 unfold S.get
 cases S.at_ n F 0 with
 | none => rfl
 | some p => rfl
def P.twoOf (v : Option Int) : List P.K → Option (Int × List P.T)
 | [] => none
 | t :: ts' => if t.1 = 4 then v.map (fun k => (k, P.fc ts')) else none
theorem P.two_eq (ts : List P.K) (v : Option Int) (hv : v = if (P.headT ts).2 = [43] then some 5 else if (P.headT ts).2 = [61, 61] then some 6 else none) : P.two (P.fc ts) = P.twoOf v ts := by
 cases ts with
 | nil => rfl
 | cons t ts' =>
  have hv' : v = if t.2.2 = [43] then some 5 else if t.2.2 = [61, 61] then some 6 else none := hv
  rw [P.fc_cons, P.two, P.twoOf, hv']
  simp only
  split
  ·split
   ·rfl
   ·split <;> rfl
  ·rfl
set_option maxRecDepth 100000 in
set_option maxHeartbeats 3200000 in
theorem two_any (R : Nat) (w : World) (ts : List P.K) (h : P.Rdr R w ts) :
  Calls Tryz.prog 104 #[.pointer (some ⟨R, 0, none⟩)] w fun r w' => Fr w w' (fun c => c = R) ∧
   ((∃ t ts' k, ts = t :: ts' ∧ P.two (P.fc ts) = some (k, P.fc ts') ∧ r = .returned (.tuple #[.int .i64 k, .nilIface]) ∧ P.Rdr R w' ts') ∨ (P.two (P.fc ts) = none ∧ (∃ f : Int, r = .returned (.tuple #[.int .i64 0, .iface 62 (.int .i64 f)])) ∧ P.Rdr R w' ts)) := by
 have hR := h.lt
 have hmm := fun w => run_makeMap (P := Tryz.prog) 153 w
 have hb0 : Below w.heap.size w (w.alloc (.map #[] 0)) := (Below.refl _ _).alloc (Nat.le_refl _) _
 obtain ⟨w0, e0, i0, g0⟩ := S.update (t := 153) (e := 3) Tryz.underlying153 (S.Is.made w) ⟨#[43]⟩ (.int .i64 5)
 obtain ⟨w1, e1, i1, g1⟩ := S.update (t := 153) (e := 3) Tryz.underlying153 i0 ⟨#[61, 61]⟩ (.int .i64 6)
 have hF : Fr w w1 (fun c => w.heap.size = c) := ((((P.fr_below hb0).weak (fun _ _ e => e.elim)).grown g0 (fun c e _ => by simpa using e)).grown g1 (fun c e _ => by simpa using e))
 have hb1 : Below w.heap.size w w1 := hF.below (Nat.le_refl _) (fun c e => by omega)
 have hput : S.put (S.put [] ⟨#[43]⟩ (.int .i64 5)) ⟨#[61, 61]⟩ (.int .i64 6) = [(⟨#[43]⟩, .int .i64 5), (⟨#[61, 61]⟩, .int .i64 6)] := rfl
 rw [hput] at i1
 have HN := hide (next_any R w1 ts (h.kept hb1))
 have H := hide h
 have HB1 := hide hb1
 have HI := hide i1
 clear h hb0 i0 i1 g0 g1 hF hb1 hput
 go_enter Tryz.func104, Tryz.ntmps104
 go_wp2_with fail
 refine HN.out.mono ?_
 rintro r w2 ⟨⟨at_, rfl⟩, hb2⟩
 have hbA : Below w1.heap.size w1 (w2.alloc (.cells #[.int .i64 (P.headT ts).1, .int .i64 at_, .string (Lx.str (P.headT ts).2)] 80)) := hb2.alloc hb2.size _
 have hI2 := HI.out.below hbA (Array.getElem?_eq_some_iff.1 (HI.out.choose_spec.choose_spec.1)).1
 have hbW := HB1.out.trans (hbA.mono HB1.out.size)
 have HRA := hide (H.out.kept hbW)
 have HFA : Hid (Fr w (w2.alloc (.cells #[.int .i64 (P.headT ts).1, .int .i64 at_, .string (Lx.str (P.headT ts).2)] 80)) (fun c => c = R)) := (P.fr_below hbW).weak (fun _ _ e => e.elim)
 have hl := look_ok (t := 153) (e := 3) Tryz.underlying153 hI2 (Lx.str (P.headT ts).2) (z := .int .i64 0) (fun w => by kernel_rfl)
 clear hb2 hbA hI2 hbW HN e0 e1 hmm HI
 obtain ⟨v, hv, hvE⟩ : ∃ o : Option Int, (S.get [(⟨#[43]⟩, .int .i64 5), (⟨#[61, 61]⟩, .int .i64 6)] (Lx.str (P.headT ts).2)) = o.map (Value.int .i64) ∧ (o = if (P.headT ts).2 = [43] then some 5 else if (P.headT ts).2 = [61, 61] then some 6 else none) := by
  simp only [S.get_cons]
  by_cases h0 : (P.headT ts).2 = [43]
  ·rw [h0]
   exact ⟨some 5, rfl, rfl⟩
  rw [show (Lx.str (P.headT ts).2 == (⟨#[43]⟩ : ByteArray)) = false from key_no h0, if_neg (by simp)]
  by_cases h1 : (P.headT ts).2 = [61, 61]
  ·rw [h1]
   exact ⟨some 6, rfl, rfl⟩
  rw [show (Lx.str (P.headT ts).2 == (⟨#[61, 61]⟩ : ByteArray)) = false from key_no h1, if_neg (by simp), if_neg h0, if_neg h1]
  exact ⟨none, rfl, rfl⟩
 rw [hv] at hl
 have HT := hide (P.two_eq ts v hvE)
 have hz : ts = [] → v = none := fun e => by rw [hvE, e]; rfl
 clear hv hvE
 cases v with
 | none =>
  have E : Hid (P.two (P.fc ts) = none) := by
   show _ = _
   rw [HT.out]
   cases ts with
   | nil => rfl
   | cons t ts' => simp [P.twoOf]
  have HA := hide (fail_any R _ ts (.iface 62 (.int .i64 5)) HRA.out)
  have hl' : (Instr.lookup 153 (.map (some w.heap.size)) (.string (Lx.str (P.headT ts).2)) true).run Tryz.prog (w2.alloc (.cells #[.int .i64 (P.headT ts).1, .int .i64 at_, .string (Lx.str (P.headT ts).2)] 80)) = .ok (.tuple #[.int .i64 0, .bool false]) (w2.alloc (.cells #[.int .i64 (P.headT ts).1, .int .i64 at_, .string (Lx.str (P.headT ts).2)] 80)) := hl
  clear hl hz
  go_wp2_with fail
  refine HA.out.mono ?_
  rintro r w3 ⟨rfl, hr2, hf2⟩
  have HR2 := hide hr2
  have HF2 := hide (HFA.out.trans hf2 (fun _ _ e => e))
  clear hr2 hf2 HA
  go_wp2_with fail
  go_ret2
  exact ⟨HF2.out, .inr ⟨E.out, ⟨_, rfl⟩, HR2.out⟩⟩
 | some k =>
  cases ts with
  | nil => cases hz rfl
  | cons t ts' =>
   have hl' : (Instr.lookup 153 (.map (some w.heap.size)) (.string (Lx.str (P.headT (t :: ts')).2)) true).run Tryz.prog (w2.alloc (.cells #[.int .i64 (P.headT (t :: ts')).1, .int .i64 at_, .string (Lx.str (P.headT (t :: ts')).2)] 80)) = .ok (.tuple #[.int .i64 k, .bool true]) (w2.alloc (.cells #[.int .i64 (P.headT (t :: ts')).1, .int .i64 at_, .string (Lx.str (P.headT (t :: ts')).2)] 80)) := hl
   clear hl hz
   by_cases h4 : t.1 = 4
   ·have g4 : (((P.headT (t :: ts')).1 : Int) != 4) = false := by
     have : (P.headT (t :: ts')).1 = 4 := h4
     simp [this]
    have E : Hid (P.two (P.fc (t :: ts')) = some (k, P.fc ts')) := by
     show _ = _
     rw [HT.out]
     simp [P.twoOf, h4]
    have HA := hide (pass_any R _ t ts' HRA.out)
    clear h4
    go_wp2_with fail
    refine HA.out.mono ?_
    rintro r w3 ⟨rfl, hr2, hf2⟩
    have HR2 := hide hr2
    have HF2 := hide (HFA.out.trans hf2 (fun _ _ e => e))
    clear hr2 hf2 HA
    go_wp2_with fail
    go_ret2
    exact ⟨HF2.out, .inl ⟨t, ts', k, rfl, E.out, rfl, HR2.out⟩⟩
   ·have g4 : (((P.headT (t :: ts')).1 : Int) != 4) = true := by
     have : (P.headT (t :: ts')).1 ≠ 4 := h4
     simp
     omega
    have E : Hid (P.two (P.fc (t :: ts')) = none) := by
     show _ = _
     rw [HT.out]
     simp [P.twoOf, h4]
    have HA := hide (fail_any R _ (t :: ts') (.iface 62 (.int .i64 5)) HRA.out)
    clear h4
    go_wp2_with fail
    refine HA.out.mono ?_
    rintro r w3 ⟨rfl, hr2, hf2⟩
    have HR2 := hide hr2
    have HF2 := hide (HFA.out.trans hf2 (fun _ _ e => e))
    clear hr2 hf2 HA
    go_wp2_with fail
    go_ret2
    exact ⟨HF2.out, .inr ⟨E.out, ⟨_, rfl⟩, HR2.out⟩⟩
end Go.Proofs.YtbdbpfcblppnbaaGreatDoor.Vx
