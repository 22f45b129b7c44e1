/- For TopPrint: expression. -/
import Derived.Test.YtbdbpfcblppnbaaGreatDoorRR
namespace Go.Proofs.YtbdbpfcblppnbaaGreatDoor.Vx
open Go.RowKit
theorem P.begins_cases {ts : List P.T} {k : Int} (h : P.begins ts = some k) : k = 1 ∨ k = 2 ∨ k = 3 ∨ k = 4 ∨ k = 10 ∨ k = 8 ∨ k = 9 ∨ k = -1 := by
 cases ts with
 | nil => cases h
 | cons t r =>
  unfold P.begins at h
  repeat' split at h
  all_goals first | (cases h; done) | (have := Option.some.inj h; omega)
set_option maxRecDepth 100000 in
set_option maxHeartbeats 6400000 in
theorem expr_zero : P.IH 0 := by
 intro R w ts h
 generalize hdp : (7 - ((0 : Nat) : Int)) = dp
 have HD7 : Hid (dp = 7) := by
  show _ = _
  omega
 have HP : Hid (P.ex 0 (P.fc ts) = none) := rfl
 clear hdp
 have hR := h.lt
 have hb0 : Below w.heap.size w (((w.alloc (.cells #[.pointer (some ⟨R, 0, none⟩)] 34)).alloc (.cells #[.int .i64 dp] 3)).alloc (.cells #[.int .i64 0, .int .i64 0, .int .i64 0, .string ⟨#[]⟩, .slice none 0 0, .slice none 0 0, .string ⟨#[]⟩, .string ⟨#[]⟩, .slice none 0 0, .slice none 0 0] 57)) := (((Below.refl _ _).alloc (Nat.le_refl _) _).alloc (by simp) _).alloc (by simp <;> omega) _
 have hc1 : (((w.alloc (.cells #[.pointer (some ⟨R, 0, none⟩)] 34)).alloc (.cells #[.int .i64 dp] 3)).alloc (.cells #[.int .i64 0, .int .i64 0, .int .i64 0, .string ⟨#[]⟩, .slice none 0 0, .slice none 0 0, .string ⟨#[]⟩, .string ⟨#[]⟩, .slice none 0 0, .slice none 0 0] 57)).heap[w.heap.size]? = some (.cells #[.pointer (some ⟨R, 0, none⟩)] 34 (0, 0)) := by
  rw [heap_alloc_old _ _ (by simp <;> omega), heap_alloc_old _ _ (by simp)]; exact heap_alloc_new _ _
 have hc2 : (((w.alloc (.cells #[.pointer (some ⟨R, 0, none⟩)] 34)).alloc (.cells #[.int .i64 dp] 3)).alloc (.cells #[.int .i64 0, .int .i64 0, .int .i64 0, .string ⟨#[]⟩, .slice none 0 0, .slice none 0 0, .string ⟨#[]⟩, .string ⟨#[]⟩, .slice none 0 0, .slice none 0 0] 57)).heap[w.heap.size + 1]? = some (.cells #[.int .i64 dp] 3 (0, 0)) := by
  rw [heap_alloc_old _ _ (by simp)]
  have h1 := heap_alloc_new (w.alloc (.cells #[.pointer (some ⟨R, 0, none⟩)] 34)) (.cells #[.int .i64 dp] 3)
  rw [P.size_alloc] at h1
  exact h1
 have hA0 : (((w.alloc (.cells #[.pointer (some ⟨R, 0, none⟩)] 34)).alloc (.cells #[.int .i64 dp] 3)).alloc (.cells #[.int .i64 0, .int .i64 0, .int .i64 0, .string ⟨#[]⟩, .slice none 0 0, .slice none 0 0, .string ⟨#[]⟩, .string ⟨#[]⟩, .slice none 0 0, .slice none 0 0] 57)).heap[w.heap.size + 2]? = some (.cells #[.int .i64 0, .int .i64 0, .int .i64 0, .string ⟨#[]⟩, .slice none 0 0, .slice none 0 0, .string ⟨#[]⟩, .string ⟨#[]⟩, .slice none 0 0, .slice none 0 0] 57 (0, 0)) := by
  have h1 := heap_alloc_new ((w.alloc (.cells #[.pointer (some ⟨R, 0, none⟩)] 34)).alloc (.cells #[.int .i64 dp] 3)) (.cells #[.int .i64 0, .int .i64 0, .int .i64 0, .string ⟨#[]⟩, .slice none 0 0, .slice none 0 0, .string ⟨#[]⟩, .string ⟨#[]⟩, .slice none 0 0, .slice none 0 0] 57)
  rw [P.size_alloc, P.size_alloc] at h1
  exact h1
 have hsz : (((w.alloc (.cells #[.pointer (some ⟨R, 0, none⟩)] 34)).alloc (.cells #[.int .i64 dp] 3)).alloc (.cells #[.int .i64 0, .int .i64 0, .int .i64 0, .string ⟨#[]⟩, .slice none 0 0, .slice none 0 0, .string ⟨#[]⟩, .string ⟨#[]⟩, .slice none 0 0, .slice none 0 0] 57)).heap.size = w.heap.size + 3 := by simp
 have HF0 : Hid (Fr w (((w.alloc (.cells #[.pointer (some ⟨R, 0, none⟩)] 34)).alloc (.cells #[.int .i64 dp] 3)).alloc (.cells #[.int .i64 0, .int .i64 0, .int .i64 0, .string ⟨#[]⟩, .slice none 0 0, .slice none 0 0, .string ⟨#[]⟩, .string ⟨#[]⟩, .slice none 0 0, .slice none 0 0] 57)) (fun c => c = R)) := (P.fr_below hb0).weak (fun _ _ e => e.elim)
 have HNX := hide (next_any R _ ts (h.kept hb0))
 have HR0 := hide (h.kept hb0)
 have HC1 := hide hc1
 have HC2 := hide hc2
 have HA0 := hide hA0
 have HSZ := hide hsz
 have HTV := hide h.2
 have cb1 := cell_of_block hc1 0 _ rfl
 have cb2 := cell_of_block hc2 0 _ rfl
 clear h hb0 hc1 hc2 hA0 hsz
 go_enter Tryz.func62, Tryz.ntmps62
 go_wp2_with fail
 generalize (((w.alloc (.cells #[.pointer (some ⟨R, 0, none⟩)] 34)).alloc (.cells #[.int .i64 dp] 3)).alloc (.cells #[.int .i64 0, .int .i64 0, .int .i64 0, .string ⟨#[]⟩, .slice none 0 0, .slice none 0 0, .string ⟨#[]⟩, .string ⟨#[]⟩, .slice none 0 0, .slice none 0 0] 57)) = w0 at *
 refine HNX.out.mono ?_
 rintro r wa ⟨⟨at_, rfl⟩, hba⟩
 have HBG := hide (beginning_any ts at_ wa HTV.out)
 have HFa : Hid (Fr w0 wa (fun c => c = R)) := (P.fr_below hba).weak (fun _ _ e => e.elim)
 have HRa := hide (HR0.out.kept hba)
 clear hba cb1 cb2 HNX HR0
 go_wp2_with fail
 refine HBG.out.mono ?_
 rintro r wb ⟨hbb, hbg⟩
 have HFb : Hid (Fr w0 wb (fun c => c = R)) := HFa.out.trans (P.fr_below hbb) (fun _ _ e => e.elim)
 have HRb := hide (HRa.out.kept hbb)
 have hB1 : wb.heap[w.heap.size]? = some (.cells #[.pointer (some ⟨R, 0, none⟩)] 34 (0, 0)) := (HFb.out.block _ (blt HC1.out) (by omega)).trans HC1.out
 have hB2 : wb.heap[w.heap.size + 1]? = some (.cells #[.int .i64 dp] 3 (0, 0)) := (HFb.out.block _ (blt HC2.out) (by omega)).trans HC2.out
 have hBA : wb.heap[w.heap.size + 2]? = some (.cells #[.int .i64 0, .int .i64 0, .int .i64 0, .string ⟨#[]⟩, .slice none 0 0, .slice none 0 0, .string ⟨#[]⟩, .string ⟨#[]⟩, .slice none 0 0, .slice none 0 0] 57 (0, 0)) := (HFb.out.block _ (blt HA0.out) (by omega)).trans HA0.out
 have HFw : Hid (Fr w wb (fun c => c = R)) := HF0.out.trans HFb.out (fun _ _ e => e)
 have cb1 := cell_of_block hB1 0 _ rfl
 have cb2 := cell_of_block hB2 0 _ rfl
 have HB1 := hide hB1
 have HB2 := hide hB2
 have HBA := hide hBA
 have HLB : Hid (w.heap.size + 3 ≤ wb.heap.size) := by
  show _ ≤ _
  have := HFb.out.size
  have := HSZ.out
  omega
 clear hbb hB1 hB2 hBA HFa HRa HBG HFb HC1 HC2 HA0 HF0
 cases hb : P.begins (P.fc ts) with
 | none =>
  rw [hb] at hbg
  obtain ⟨n, f, rfl⟩ := hbg
  clear hb
  have HFL := hide (fail_any R wb ts (.iface 62 (.int .i64 f)) HRb.out)
  go_wp2_with fail
  refine HFL.out.mono ?_
  rintro r wc ⟨rfl, hrc, hfc⟩
  have hAc := (hfc.block (w.heap.size + 2) (blt HBA.out) (by omega)).trans HBA.out
  have HF3 := hide (HFw.out.trans hfc (fun _ _ e => e))
  have HR3 := hide hrc
  clear hrc hfc HFL cb1 cb2
  obtain ⟨z0, z1, z2, z3, z4, z5, z6, z7, z8, z9⟩ := cl10 hAc
  obtain ⟨f0, f1, f2, f3, f4, f5, f6, f7, f8, f9⟩ := fl10 hAc
  have HAx := hide hAc
  clear hAc
  go_wp2_with fail
  obtain ⟨wz, hwz, hBz, hFz⟩ := P.sf10 HAx.out (.int .i64 0) (.int .i64 0) (.int .i64 0) (.string ⟨#[]⟩) (.slice none 0 0) (.slice none 0 0) (.string ⟨#[]⟩) (.string ⟨#[]⟩) (.slice none 0 0) (.slice none 0 0)
  rw [← hwz]
  clear hwz
  obtain ⟨r0, r1, r2, r3, r4, r5, r6, r7, r8, r9⟩ := cl10 hBz
  refine bodyPost_ret (v := .tuple #[.agg #[.int .i64 0, .int .i64 0, .int .i64 0, .string ⟨#[]⟩, .slice none 0 0, .slice none 0 0, .string ⟨#[]⟩, .string ⟨#[]⟩, .slice none 0 0, .slice none 0 0], .iface 62 (.int .i64 f)]) (by simp [results, Tryz.results62, go_sem, r0, r1, r2, r3, r4, r5, r6, r7, r8, r9]) rfl ⟨HF3.out.trans hFz (fun c hc e => by omega), .inr ⟨HP.out, ⟨0, V.zero, ⟨#[]⟩, ⟨#[]⟩, none, 0, 0, none, 0, 0, f, rfl⟩, _, HR3.out.fr hFz (fun c e => by omega)⟩⟩
 | some k =>
  rw [hb] at hbg
  have hbg2 : r = .returned (.tuple #[.int .i64 k, .nilIface]) := hbg
  clear hbg
  subst hbg2
  have hd7 := HD7.out
  subst hd7
  clear hb
  have HFL := hide (fail_any R wb ts (.iface 62 (.int .i64 2)) HRb.out)
  go_wp2_with fail
  refine HFL.out.mono ?_
  rintro r wc ⟨rfl, hrc, hfc⟩
  have hAc := (hfc.block (w.heap.size + 2) (blt HBA.out) (by omega)).trans HBA.out
  have HF3 := hide (HFw.out.trans hfc (fun _ _ e => e))
  have HR3 := hide hrc
  clear hrc hfc HFL cb1 cb2
  obtain ⟨z0, z1, z2, z3, z4, z5, z6, z7, z8, z9⟩ := cl10 hAc
  obtain ⟨f0, f1, f2, f3, f4, f5, f6, f7, f8, f9⟩ := fl10 hAc
  have HAx := hide hAc
  clear hAc
  go_wp2_with fail
  obtain ⟨wz, hwz, hBz, hFz⟩ := P.sf10 HAx.out (.int .i64 0) (.int .i64 0) (.int .i64 0) (.string ⟨#[]⟩) (.slice none 0 0) (.slice none 0 0) (.string ⟨#[]⟩) (.string ⟨#[]⟩) (.slice none 0 0) (.slice none 0 0)
  rw [← hwz]
  clear hwz
  obtain ⟨r0, r1, r2, r3, r4, r5, r6, r7, r8, r9⟩ := cl10 hBz
  refine bodyPost_ret (v := .tuple #[.agg #[.int .i64 0, .int .i64 0, .int .i64 0, .string ⟨#[]⟩, .slice none 0 0, .slice none 0 0, .string ⟨#[]⟩, .string ⟨#[]⟩, .slice none 0 0, .slice none 0 0], .iface 62 (.int .i64 2)]) (by simp [results, Tryz.results62, go_sem, r0, r1, r2, r3, r4, r5, r6, r7, r8, r9]) rfl ⟨HF3.out.trans hFz (fun c hc e => by omega), .inr ⟨HP.out, ⟨0, V.zero, ⟨#[]⟩, ⟨#[]⟩, none, 0, 0, none, 0, 0, 2, rfl⟩, _, HR3.out.fr hFz (fun c e => by omega)⟩⟩
set_option maxRecDepth 100000 in
set_option maxHeartbeats 25600000 in
theorem expr_succ (d : Nat) (hd : d ≤ 6) (ih : P.IH d) : P.IH (d + 1) := by
 intro R w ts h
 generalize hdp : (7 - ((d + 1 : Nat) : Int)) = dp
 have HDP : Hid (dp = 6 - (d : Int)) := by
  show _ = _
  omega
 have hd6 : dp ≤ 6 := by omega
 clear hdp
 have hR := h.lt
 have hb0 : Below w.heap.size w (((w.alloc (.cells #[.pointer (some ⟨R, 0, none⟩)] 34)).alloc (.cells #[.int .i64 dp] 3)).alloc (.cells #[.int .i64 0, .int .i64 0, .int .i64 0, .string ⟨#[]⟩, .slice none 0 0, .slice none 0 0, .string ⟨#[]⟩, .string ⟨#[]⟩, .slice none 0 0, .slice none 0 0] 57)) := (((Below.refl _ _).alloc (Nat.le_refl _) _).alloc (by simp) _).alloc (by simp <;> omega) _
 have hc1 : (((w.alloc (.cells #[.pointer (some ⟨R, 0, none⟩)] 34)).alloc (.cells #[.int .i64 dp] 3)).alloc (.cells #[.int .i64 0, .int .i64 0, .int .i64 0, .string ⟨#[]⟩, .slice none 0 0, .slice none 0 0, .string ⟨#[]⟩, .string ⟨#[]⟩, .slice none 0 0, .slice none 0 0] 57)).heap[w.heap.size]? = some (.cells #[.pointer (some ⟨R, 0, none⟩)] 34 (0, 0)) := by
  rw [heap_alloc_old _ _ (by simp <;> omega), heap_alloc_old _ _ (by simp)]; exact heap_alloc_new _ _
 have hc2 : (((w.alloc (.cells #[.pointer (some ⟨R, 0, none⟩)] 34)).alloc (.cells #[.int .i64 dp] 3)).alloc (.cells #[.int .i64 0, .int .i64 0, .int .i64 0, .string ⟨#[]⟩, .slice none 0 0, .slice none 0 0, .string ⟨#[]⟩, .string ⟨#[]⟩, .slice none 0 0, .slice none 0 0] 57)).heap[w.heap.size + 1]? = some (.cells #[.int .i64 dp] 3 (0, 0)) := by
  rw [heap_alloc_old _ _ (by simp)]
  have h1 := heap_alloc_new (w.alloc (.cells #[.pointer (some ⟨R, 0, none⟩)] 34)) (.cells #[.int .i64 dp] 3)
  rw [P.size_alloc] at h1
  exact h1
 have hA0 : (((w.alloc (.cells #[.pointer (some ⟨R, 0, none⟩)] 34)).alloc (.cells #[.int .i64 dp] 3)).alloc (.cells #[.int .i64 0, .int .i64 0, .int .i64 0, .string ⟨#[]⟩, .slice none 0 0, .slice none 0 0, .string ⟨#[]⟩, .string ⟨#[]⟩, .slice none 0 0, .slice none 0 0] 57)).heap[w.heap.size + 2]? = some (.cells #[.int .i64 0, .int .i64 0, .int .i64 0, .string ⟨#[]⟩, .slice none 0 0, .slice none 0 0, .string ⟨#[]⟩, .string ⟨#[]⟩, .slice none 0 0, .slice none 0 0] 57 (0, 0)) := by
  have h1 := heap_alloc_new ((w.alloc (.cells #[.pointer (some ⟨R, 0, none⟩)] 34)).alloc (.cells #[.int .i64 dp] 3)) (.cells #[.int .i64 0, .int .i64 0, .int .i64 0, .string ⟨#[]⟩, .slice none 0 0, .slice none 0 0, .string ⟨#[]⟩, .string ⟨#[]⟩, .slice none 0 0, .slice none 0 0] 57)
  rw [P.size_alloc, P.size_alloc] at h1
  exact h1
 have hsz : (((w.alloc (.cells #[.pointer (some ⟨R, 0, none⟩)] 34)).alloc (.cells #[.int .i64 dp] 3)).alloc (.cells #[.int .i64 0, .int .i64 0, .int .i64 0, .string ⟨#[]⟩, .slice none 0 0, .slice none 0 0, .string ⟨#[]⟩, .string ⟨#[]⟩, .slice none 0 0, .slice none 0 0] 57)).heap.size = w.heap.size + 3 := by simp
 have HF0 : Hid (Fr w (((w.alloc (.cells #[.pointer (some ⟨R, 0, none⟩)] 34)).alloc (.cells #[.int .i64 dp] 3)).alloc (.cells #[.int .i64 0, .int .i64 0, .int .i64 0, .string ⟨#[]⟩, .slice none 0 0, .slice none 0 0, .string ⟨#[]⟩, .string ⟨#[]⟩, .slice none 0 0, .slice none 0 0] 57)) (fun c => c = R)) := (P.fr_below hb0).weak (fun _ _ e => e.elim)
 have HNX := hide (next_any R _ ts (h.kept hb0))
 have HR0 := hide (h.kept hb0)
 have HC1 := hide hc1
 have HC2 := hide hc2
 have HA0 := hide hA0
 have HSZ := hide hsz
 have HTV := hide h.2
 have cb1 := cell_of_block hc1 0 _ rfl
 have cb2 := cell_of_block hc2 0 _ rfl
 clear h hb0 hc1 hc2 hA0 hsz
 go_enter Tryz.func62, Tryz.ntmps62
 go_wp2_with fail
 generalize (((w.alloc (.cells #[.pointer (some ⟨R, 0, none⟩)] 34)).alloc (.cells #[.int .i64 dp] 3)).alloc (.cells #[.int .i64 0, .int .i64 0, .int .i64 0, .string ⟨#[]⟩, .slice none 0 0, .slice none 0 0, .string ⟨#[]⟩, .string ⟨#[]⟩, .slice none 0 0, .slice none 0 0] 57)) = w0 at *
 refine HNX.out.mono ?_
 rintro r wa ⟨⟨at_, rfl⟩, hba⟩
 have HBG := hide (beginning_any ts at_ wa HTV.out)
 have HFa : Hid (Fr w0 wa (fun c => c = R)) := (P.fr_below hba).weak (fun _ _ e => e.elim)
 have HRa := hide (HR0.out.kept hba)
 clear hba cb1 cb2 HNX HR0
 go_wp2_with fail
 refine HBG.out.mono ?_
 rintro r wb ⟨hbb, hbg⟩
 have HFb : Hid (Fr w0 wb (fun c => c = R)) := HFa.out.trans (P.fr_below hbb) (fun _ _ e => e.elim)
 have HRb := hide (HRa.out.kept hbb)
 have hB1 : wb.heap[w.heap.size]? = some (.cells #[.pointer (some ⟨R, 0, none⟩)] 34 (0, 0)) := (HFb.out.block _ (blt HC1.out) (by omega)).trans HC1.out
 have hB2 : wb.heap[w.heap.size + 1]? = some (.cells #[.int .i64 dp] 3 (0, 0)) := (HFb.out.block _ (blt HC2.out) (by omega)).trans HC2.out
 have hBA : wb.heap[w.heap.size + 2]? = some (.cells #[.int .i64 0, .int .i64 0, .int .i64 0, .string ⟨#[]⟩, .slice none 0 0, .slice none 0 0, .string ⟨#[]⟩, .string ⟨#[]⟩, .slice none 0 0, .slice none 0 0] 57 (0, 0)) := (HFb.out.block _ (blt HA0.out) (by omega)).trans HA0.out
 have HFw : Hid (Fr w wb (fun c => c = R)) := HF0.out.trans HFb.out (fun _ _ e => e)
 have cb1 := cell_of_block hB1 0 _ rfl
 have cb2 := cell_of_block hB2 0 _ rfl
 have HB1 := hide hB1
 have HB2 := hide hB2
 have HBA := hide hBA
 have HLB : Hid (w.heap.size + 3 ≤ wb.heap.size) := by
  show _ ≤ _
  have := HFb.out.size
  have := HSZ.out
  omega
 clear hbb hB1 hB2 hBA HFa HRa HBG HFb HC1 HC2 HA0 HF0
 cases hb : P.begins (P.fc ts) with
 | none =>
  rw [hb] at hbg
  obtain ⟨n, f, rfl⟩ := hbg
  have HP : Hid (P.ex (d + 1) (P.fc ts) = none) := by
   show _ = _
   rw [P.ex, hb]
  clear hb
  have HFL := hide (fail_any R wb ts (.iface 62 (.int .i64 f)) HRb.out)
  go_wp2_with fail
  refine HFL.out.mono ?_
  rintro r wc ⟨rfl, hrc, hfc⟩
  have hAc := (hfc.block (w.heap.size + 2) (blt HBA.out) (by omega)).trans HBA.out
  have HF3 := hide (HFw.out.trans hfc (fun _ _ e => e))
  have HR3 := hide hrc
  clear hrc hfc HFL cb1 cb2
  obtain ⟨z0, z1, z2, z3, z4, z5, z6, z7, z8, z9⟩ := cl10 hAc
  obtain ⟨f0, f1, f2, f3, f4, f5, f6, f7, f8, f9⟩ := fl10 hAc
  have HAx := hide hAc
  clear hAc
  go_wp2_with fail
  obtain ⟨wz, hwz, hBz, hFz⟩ := P.sf10 HAx.out (.int .i64 0) (.int .i64 0) (.int .i64 0) (.string ⟨#[]⟩) (.slice none 0 0) (.slice none 0 0) (.string ⟨#[]⟩) (.string ⟨#[]⟩) (.slice none 0 0) (.slice none 0 0)
  rw [← hwz]
  clear hwz
  obtain ⟨r0, r1, r2, r3, r4, r5, r6, r7, r8, r9⟩ := cl10 hBz
  refine bodyPost_ret (v := .tuple #[.agg #[.int .i64 0, .int .i64 0, .int .i64 0, .string ⟨#[]⟩, .slice none 0 0, .slice none 0 0, .string ⟨#[]⟩, .string ⟨#[]⟩, .slice none 0 0, .slice none 0 0], .iface 62 (.int .i64 f)]) (by simp [results, Tryz.results62, go_sem, r0, r1, r2, r3, r4, r5, r6, r7, r8, r9]) rfl ⟨HF3.out.trans hFz (fun c hc e => by omega), .inr ⟨HP.out, ⟨0, V.zero, ⟨#[]⟩, ⟨#[]⟩, none, 0, 0, none, 0, 0, f, rfl⟩, _, HR3.out.fr hFz (fun c e => by omega)⟩⟩
 | some k =>
  rw [hb] at hbg
  have hbg2 : r = .returned (.tuple #[.int .i64 k, .nilIface]) := hbg
  clear hbg
  subst hbg2
  cases ts with
  | nil => cases hb
  | cons t ts1 =>
   rcases P.begins_cases hb with rfl | rfl | rfl | rfl | rfl | rfl | rfl | rfl
   ·have HCL := hide (literal_any d R wb t ts1 HRb.out)
    have HLQ : Hid (w.heap.size + 3 ≤ wb.heap.size) := HLB.out
    go_wp2_with fail
    refine HCL.out.mono ?_
    rintro r wc ⟨hfq, ⟨e, n, k1, v1, s1, t1, a1, i1, u1, b1, j1, p1, hE, rfl, hM, hbk, hr⟩ | ⟨hE, ⟨k1, v1, s1, t1, a1, i1, u1, b1, j1, p1, f, rfl⟩, ts', hr⟩⟩
    ·have hAq := (hfq.block (w.heap.size + 2) (blt HBA.out) (by omega)).trans HBA.out
     have HF3 := hide (HFw.out.trans hfq (fun _ _ e => e))
     have HRq := hide hr
     have HM := hide hM
     have HP : Hid (P.ex (d + 1) (P.fc (t :: ts1)) = some (e, P.fc ((t :: ts1).drop (n + 1)))) := by
      show _ = _
      rw [P.ex, hb]
      simp only
      rw [if_pos (by decide)]
      exact hE
     have HBK : Hid (X.bulk (d + 1) e + 60 * ((t :: ts1).drop (n + 1)).length ≤ 60 * (t :: ts1).length) := by
      show _ ≤ _
      simp only [List.length_drop, List.length_cons] at hbk ⊢
      omega
     unfold P.xc
     clear hfq hr hM hbk hE HCL cb1 cb2
     obtain ⟨z0, z1, z2, z3, z4, z5, z6, z7, z8, z9⟩ := cl10 hAq
     obtain ⟨f0, f1, f2, f3, f4, f5, f6, f7, f8, f9⟩ := fl10 hAq
     have HAx := hide hAq
     clear hAq
     go_wp2_with fail
     obtain ⟨wz, hwz, hBz, hFz⟩ := P.sf10 HAx.out (.int .i64 k1) (.int .i64 v1.kind) (.int .i64 v1.n) (.string v1.s) (.slice none 0 0) (.slice none 0 0) (.string s1) (.string t1) (.slice a1 i1 u1) (.slice b1 j1 p1)
     rw [← hwz]
     clear hwz
     obtain ⟨r0, r1, r2, r3, r4, r5, r6, r7, r8, r9⟩ := cl10 hBz
     refine bodyPost_ret (v := .tuple #[.agg #[.int .i64 k1, .int .i64 v1.kind, .int .i64 v1.n, .string v1.s, .slice none 0 0, .slice none 0 0, .string s1, .string t1, .slice a1 i1 u1, .slice b1 j1 p1], .nilIface]) (by simp [results, Tryz.results62, go_sem, r0, r1, r2, r3, r4, r5, r6, r7, r8, r9]) rfl ⟨HF3.out.trans hFz (fun c hc e => by omega), .inl ⟨e, n, k1, v1, s1, t1, a1, i1, u1, b1, j1, p1, HP.out, rfl, HM.out.to (fun c hc => hFz.block c hc.2 (by have := hc.1; have := HLQ.out; omega)) (fun c hc => ⟨by have := hc.1; have := HLQ.out; omega, by have := hc.2; have := hFz.size; omega⟩), HBK.out, HRq.out.fr hFz (fun c e => by omega)⟩⟩
    ·have hAq := (hfq.block (w.heap.size + 2) (blt HBA.out) (by omega)).trans HBA.out
     have HF3 := hide (HFw.out.trans hfq (fun _ _ e => e))
     have HRq := hide hr
     have HP : Hid (P.ex (d + 1) (P.fc (t :: ts1)) = none) := by
      show _ = _
      rw [P.ex, hb]
      simp only
      rw [if_pos (by decide)]
      exact hE
     unfold P.xc
     clear hfq hr hE HCL cb1 cb2
     obtain ⟨z0, z1, z2, z3, z4, z5, z6, z7, z8, z9⟩ := cl10 hAq
     obtain ⟨f0, f1, f2, f3, f4, f5, f6, f7, f8, f9⟩ := fl10 hAq
     have HAx := hide hAq
     clear hAq
     go_wp2_with fail
     obtain ⟨wz, hwz, hBz, hFz⟩ := P.sf10 HAx.out (.int .i64 k1) (.int .i64 v1.kind) (.int .i64 v1.n) (.string v1.s) (.slice none 0 0) (.slice none 0 0) (.string s1) (.string t1) (.slice a1 i1 u1) (.slice b1 j1 p1)
     rw [← hwz]
     clear hwz
     obtain ⟨r0, r1, r2, r3, r4, r5, r6, r7, r8, r9⟩ := cl10 hBz
     refine bodyPost_ret (v := .tuple #[.agg #[.int .i64 k1, .int .i64 v1.kind, .int .i64 v1.n, .string v1.s, .slice none 0 0, .slice none 0 0, .string s1, .string t1, .slice a1 i1 u1, .slice b1 j1 p1], .iface 62 (.int .i64 f)]) (by simp [results, Tryz.results62, go_sem, r0, r1, r2, r3, r4, r5, r6, r7, r8, r9]) rfl ⟨HF3.out.trans hFz (fun c hc e => by omega), .inr ⟨HP.out, ⟨k1, v1, s1, t1, a1, i1, u1, b1, j1, p1, f, rfl⟩, _, HRq.out.fr hFz (fun c e => by omega)⟩⟩
   ·have HPS := hide (pass_any R wb t ts1 HRb.out)
    go_wp2_with fail
    refine HPS.out.mono ?_
    rintro r wc ⟨rfl, hrc, hfc⟩
    have HRc := hide hrc
    have hB1 := (hfc.block _ (blt HB1.out) (by omega)).trans HB1.out
    have hB2 := (hfc.block _ (blt HB2.out) (by omega)).trans HB2.out
    have HBAc : Hid (wc.heap[w.heap.size + 2]? = some (.cells #[.int .i64 0, .int .i64 0, .int .i64 0, .string ⟨#[]⟩, .slice none 0 0, .slice none 0 0, .string ⟨#[]⟩, .string ⟨#[]⟩, .slice none 0 0, .slice none 0 0] 57 (0, 0))) := (hfc.block _ (blt HBA.out) (by omega)).trans HBA.out
    have HLQ : Hid (w.heap.size + 3 ≤ wc.heap.size) := by
     show _ ≤ _
     have := HLB.out
     have := hfc.size
     omega
    have HIN : Hid (P.Inn R w.heap.size (w.heap.size + 1) d wc) := ⟨cell_of_block hB1 0 _ rfl, by rw [← HDP.out]; exact cell_of_block hB2 0 _ rfl, hR, by omega⟩
    have HFq := hide (HFw.out.trans hfc (fun _ _ e => e))
    clear HFw cb1 cb2
    have HFw := HFq
    have cb1 := cell_of_block hB1 0 _ rfl
    have cb2 := cell_of_block hB2 0 _ rfl
    clear hrc hfc hB1 hB2 HPS HBA HB1 HB2 HRb HLB
    have HCL := hide (dot_any R wc ts1 HRc.out)
    go_wp2_with fail
    refine HCL.out.mono ?_
    rintro r wd ⟨hfq, ⟨t1, t2, ts', eT, hE, hnm, rfl, hr⟩ | ⟨hE, ⟨s, f, rfl⟩, ts', hr⟩⟩
    ·have hAq := (hfq.block (w.heap.size + 2) (blt HBAc.out) (by omega)).trans HBAc.out
     have HF3 := hide (HFw.out.trans hfq (fun _ _ e => e))
     have HRq := hide hr
     have HP : Hid (P.ex (d + 1) (P.fc (t :: ts1)) = some (⟨2, V.zero, V.str t2.2.2, ⟨#[]⟩, [], []⟩, P.fc ((t :: ts1).drop (2 + 1)))) := by
      show _ = _
      rw [P.ex, hb]
      simp only
      rw [if_neg (by decide), if_pos (by decide), show P.dot ((P.fc (t :: ts1)).drop 1) = _ from hE, eT]
      rfl
     have HBK : Hid (X.bulk (d + 1) ⟨2, V.zero, V.str t2.2.2, ⟨#[]⟩, [], []⟩ + 60 * ((t :: ts1).drop (2 + 1)).length ≤ 60 * (t :: ts1).length) := by
      show _ ≤ _
      have l2 : (V.str t2.2.2).size ≤ 40 := by
       rw [← V.length_bl, V.bl_str]
       exact (HTV.out t2 (by rw [eT]; simp)).1
      rw [eT, X.bulk, V.bulk]
      simp only [V.zero, X.sumA, X.sumN, V.sumL, V.sumF, P.zero_size, List.map_nil, List.sum_nil, List.length_nil, List.length_cons, List.drop_succ_cons, List.drop_zero]
      omega
     have HRd : Hid (P.Rdr R wd ((t :: ts1).drop (2 + 1))) := by
      show P.Rdr _ _ _
      rw [eT]
      exact hr
     generalize V.str t2.2.2 = sn at *
     clear hfq hr hE HCL hnm eT cb1 cb2
     obtain ⟨z0, z1, z2, z3, z4, z5, z6, z7, z8, z9⟩ := cl10 hAq
     obtain ⟨f0, f1, f2, f3, f4, f5, f6, f7, f8, f9⟩ := fl10 hAq
     have HAx := hide hAq
     clear hAq
     go_wp2_with fail
     obtain ⟨wz, hwz, hBz, hFz⟩ := P.sf10 HAx.out (.int .i64 2) (.int .i64 0) (.int .i64 0) (.string ⟨#[]⟩) (.slice none 0 0) (.slice none 0 0) (.string sn) (.string ⟨#[]⟩) (.slice none 0 0) (.slice none 0 0)
     rw [← hwz]
     clear hwz
     obtain ⟨r0, r1, r2, r3, r4, r5, r6, r7, r8, r9⟩ := cl10 hBz
     refine bodyPost_ret (v := .tuple #[.agg #[.int .i64 2, .int .i64 0, .int .i64 0, .string ⟨#[]⟩, .slice none 0 0, .slice none 0 0, .string sn, .string ⟨#[]⟩, .slice none 0 0, .slice none 0 0], .nilIface]) (by simp [results, Tryz.results62, go_sem, r0, r1, r2, r3, r4, r5, r6, r7, r8, r9]) rfl ⟨HF3.out.trans hFz (fun c hc e => by omega), .inl ⟨_, 2, 2, V.zero, sn, ⟨#[]⟩, none, 0, 0, none, 0, 0, HP.out, rfl, fun w2 _ => ⟨_, _, _, _, _, _, _, rfl, P.vmem d w2 0 0 ⟨#[]⟩, V.Row.zero _ _ _, V.Row.zero _ _ _⟩, HBK.out, HRd.out.fr hFz (fun c e => by omega)⟩⟩
    ·have hAq := (hfq.block (w.heap.size + 2) (blt HBAc.out) (by omega)).trans HBAc.out
     have HF3 := hide (HFw.out.trans hfq (fun _ _ e => e))
     have HRq := hide hr
     have HP : Hid (P.ex (d + 1) (P.fc (t :: ts1)) = none) := by
      show _ = _
      rw [P.ex, hb]
      simp only
      rw [if_neg (by decide), if_pos (by decide), show P.dot ((P.fc (t :: ts1)).drop 1) = _ from hE]
      rfl
     clear hfq hr hE HCL cb1 cb2
     obtain ⟨z0, z1, z2, z3, z4, z5, z6, z7, z8, z9⟩ := cl10 hAq
     obtain ⟨f0, f1, f2, f3, f4, f5, f6, f7, f8, f9⟩ := fl10 hAq
     have HAx := hide hAq
     clear hAq
     go_wp2_with fail
     obtain ⟨wz, hwz, hBz, hFz⟩ := P.sf10 HAx.out (.int .i64 2) (.int .i64 0) (.int .i64 0) (.string ⟨#[]⟩) (.slice none 0 0) (.slice none 0 0) (.string s) (.string ⟨#[]⟩) (.slice none 0 0) (.slice none 0 0)
     rw [← hwz]
     clear hwz
     obtain ⟨r0, r1, r2, r3, r4, r5, r6, r7, r8, r9⟩ := cl10 hBz
     refine bodyPost_ret (v := .tuple #[.agg #[.int .i64 2, .int .i64 0, .int .i64 0, .string ⟨#[]⟩, .slice none 0 0, .slice none 0 0, .string s, .string ⟨#[]⟩, .slice none 0 0, .slice none 0 0], .iface 62 (.int .i64 f)]) (by simp [results, Tryz.results62, go_sem, r0, r1, r2, r3, r4, r5, r6, r7, r8, r9]) rfl ⟨HF3.out.trans hFz (fun c hc e => by omega), .inr ⟨HP.out, ⟨2, V.zero, s, ⟨#[]⟩, none, 0, 0, none, 0, 0, f, rfl⟩, _, HRq.out.fr hFz (fun c e => by omega)⟩⟩
   ·have HPS := hide (pass_any R wb t ts1 HRb.out)
    go_wp2_with fail
    refine HPS.out.mono ?_
    rintro r wc ⟨rfl, hrc, hfc⟩
    have HRc := hide hrc
    have hB1 := (hfc.block _ (blt HB1.out) (by omega)).trans HB1.out
    have hB2 := (hfc.block _ (blt HB2.out) (by omega)).trans HB2.out
    have HBAc : Hid (wc.heap[w.heap.size + 2]? = some (.cells #[.int .i64 0, .int .i64 0, .int .i64 0, .string ⟨#[]⟩, .slice none 0 0, .slice none 0 0, .string ⟨#[]⟩, .string ⟨#[]⟩, .slice none 0 0, .slice none 0 0] 57 (0, 0))) := (hfc.block _ (blt HBA.out) (by omega)).trans HBA.out
    have HLQ : Hid (w.heap.size + 3 ≤ wc.heap.size) := by
     show _ ≤ _
     have := HLB.out
     have := hfc.size
     omega
    have HIN : Hid (P.Inn R w.heap.size (w.heap.size + 1) d wc) := ⟨cell_of_block hB1 0 _ rfl, by rw [← HDP.out]; exact cell_of_block hB2 0 _ rfl, hR, by omega⟩
    have HFq := hide (HFw.out.trans hfc (fun _ _ e => e))
    clear HFw cb1 cb2
    have HFw := HFq
    have cb1 := cell_of_block hB1 0 _ rfl
    have cb2 := cell_of_block hB2 0 _ rfl
    clear hrc hfc hB1 hB2 HPS HBA HB1 HB2 HRb HLB
    have HCL := hide (twoNames_any d R wc ts1 3 HRc.out)
    go_wp2_with fail
    refine HCL.out.mono ?_
    rintro r wd ⟨hfq, ⟨e, n, k1, v1, s1, t1, a1, i1, u1, b1, j1, p1, hE, rfl, hM, hbk, hr⟩ | ⟨hE, ⟨k1, v1, s1, t1, a1, i1, u1, b1, j1, p1, f, rfl⟩, ts', hr⟩⟩
    ·have hAq := (hfq.block (w.heap.size + 2) (blt HBAc.out) (by omega)).trans HBAc.out
     have HF3 := hide (HFw.out.trans hfq (fun _ _ e => e))
     have HRq := hide hr
     have HM := hide hM
     have HP : Hid (P.ex (d + 1) (P.fc (t :: ts1)) = some (e, P.fc ((t :: ts1).drop (n + 1 + 1)))) := by
      show _ = _
      rw [P.ex, hb]
      simp only
      rw [if_neg (by decide), if_neg (by decide), if_pos (by decide)]
      exact hE
     have HBK : Hid (X.bulk (d + 1) e + 60 * ((t :: ts1).drop (n + 1 + 1)).length ≤ 60 * (t :: ts1).length) := by
      show _ ≤ _
      simp only [List.length_drop, List.length_cons] at hbk ⊢
      omega
     unfold P.xc
     clear hfq hr hM hbk hE HCL cb1 cb2
     obtain ⟨z0, z1, z2, z3, z4, z5, z6, z7, z8, z9⟩ := cl10 hAq
     obtain ⟨f0, f1, f2, f3, f4, f5, f6, f7, f8, f9⟩ := fl10 hAq
     have HAx := hide hAq
     clear hAq
     go_wp2_with fail
     obtain ⟨wz, hwz, hBz, hFz⟩ := P.sf10 HAx.out (.int .i64 k1) (.int .i64 v1.kind) (.int .i64 v1.n) (.string v1.s) (.slice none 0 0) (.slice none 0 0) (.string s1) (.string t1) (.slice a1 i1 u1) (.slice b1 j1 p1)
     rw [← hwz]
     clear hwz
     obtain ⟨r0, r1, r2, r3, r4, r5, r6, r7, r8, r9⟩ := cl10 hBz
     refine bodyPost_ret (v := .tuple #[.agg #[.int .i64 k1, .int .i64 v1.kind, .int .i64 v1.n, .string v1.s, .slice none 0 0, .slice none 0 0, .string s1, .string t1, .slice a1 i1 u1, .slice b1 j1 p1], .nilIface]) (by simp [results, Tryz.results62, go_sem, r0, r1, r2, r3, r4, r5, r6, r7, r8, r9]) rfl ⟨HF3.out.trans hFz (fun c hc e => by omega), .inl ⟨e, n + 1, k1, v1, s1, t1, a1, i1, u1, b1, j1, p1, HP.out, rfl, HM.out.to (fun c hc => hFz.block c hc.2 (by have := hc.1; have := HLQ.out; omega)) (fun c hc => ⟨by have := hc.1; have := HLQ.out; omega, by have := hc.2; have := hFz.size; omega⟩), HBK.out, HRq.out.fr hFz (fun c e => by omega)⟩⟩
    ·have hAq := (hfq.block (w.heap.size + 2) (blt HBAc.out) (by omega)).trans HBAc.out
     have HF3 := hide (HFw.out.trans hfq (fun _ _ e => e))
     have HRq := hide hr
     have HP : Hid (P.ex (d + 1) (P.fc (t :: ts1)) = none) := by
      show _ = _
      rw [P.ex, hb]
      simp only
      rw [if_neg (by decide), if_neg (by decide), if_pos (by decide)]
      exact hE
     unfold P.xc
     clear hfq hr hE HCL cb1 cb2
     obtain ⟨z0, z1, z2, z3, z4, z5, z6, z7, z8, z9⟩ := cl10 hAq
     obtain ⟨f0, f1, f2, f3, f4, f5, f6, f7, f8, f9⟩ := fl10 hAq
     have HAx := hide hAq
     clear hAq
     go_wp2_with fail
     obtain ⟨wz, hwz, hBz, hFz⟩ := P.sf10 HAx.out (.int .i64 k1) (.int .i64 v1.kind) (.int .i64 v1.n) (.string v1.s) (.slice none 0 0) (.slice none 0 0) (.string s1) (.string t1) (.slice a1 i1 u1) (.slice b1 j1 p1)
     rw [← hwz]
     clear hwz
     obtain ⟨r0, r1, r2, r3, r4, r5, r6, r7, r8, r9⟩ := cl10 hBz
     refine bodyPost_ret (v := .tuple #[.agg #[.int .i64 k1, .int .i64 v1.kind, .int .i64 v1.n, .string v1.s, .slice none 0 0, .slice none 0 0, .string s1, .string t1, .slice a1 i1 u1, .slice b1 j1 p1], .iface 62 (.int .i64 f)]) (by simp [results, Tryz.results62, go_sem, r0, r1, r2, r3, r4, r5, r6, r7, r8, r9]) rfl ⟨HF3.out.trans hFz (fun c hc e => by omega), .inr ⟨HP.out, ⟨k1, v1, s1, t1, a1, i1, u1, b1, j1, p1, f, rfl⟩, _, HRq.out.fr hFz (fun c e => by omega)⟩⟩
   ·have HPS := hide (pass_any R wb t ts1 HRb.out)
    go_wp2_with fail
    refine HPS.out.mono ?_
    rintro r wc ⟨rfl, hrc, hfc⟩
    have HRc := hide hrc
    have hB1 := (hfc.block _ (blt HB1.out) (by omega)).trans HB1.out
    have hB2 := (hfc.block _ (blt HB2.out) (by omega)).trans HB2.out
    have HBAc : Hid (wc.heap[w.heap.size + 2]? = some (.cells #[.int .i64 0, .int .i64 0, .int .i64 0, .string ⟨#[]⟩, .slice none 0 0, .slice none 0 0, .string ⟨#[]⟩, .string ⟨#[]⟩, .slice none 0 0, .slice none 0 0] 57 (0, 0))) := (hfc.block _ (blt HBA.out) (by omega)).trans HBA.out
    have HLQ : Hid (w.heap.size + 3 ≤ wc.heap.size) := by
     show _ ≤ _
     have := HLB.out
     have := hfc.size
     omega
    have HIN : Hid (P.Inn R w.heap.size (w.heap.size + 1) d wc) := ⟨cell_of_block hB1 0 _ rfl, by rw [← HDP.out]; exact cell_of_block hB2 0 _ rfl, hR, by omega⟩
    have HFq := hide (HFw.out.trans hfc (fun _ _ e => e))
    clear HFw cb1 cb2
    have HFw := HFq
    have cb1 := cell_of_block hB1 0 _ rfl
    have cb2 := cell_of_block hB2 0 _ rfl
    clear hrc hfc hB1 hB2 HPS HBA HB1 HB2 HRb HLB
    have HCL := hide (twoNames_any d R wc ts1 4 HRc.out)
    go_wp2_with fail
    refine HCL.out.mono ?_
    rintro r wd ⟨hfq, ⟨e, n, k1, v1, s1, t1, a1, i1, u1, b1, j1, p1, hE, rfl, hM, hbk, hr⟩ | ⟨hE, ⟨k1, v1, s1, t1, a1, i1, u1, b1, j1, p1, f, rfl⟩, ts', hr⟩⟩
    ·have hAq := (hfq.block (w.heap.size + 2) (blt HBAc.out) (by omega)).trans HBAc.out
     have HF3 := hide (HFw.out.trans hfq (fun _ _ e => e))
     have HRq := hide hr
     have HM := hide hM
     have HP : Hid (P.ex (d + 1) (P.fc (t :: ts1)) = some (e, P.fc ((t :: ts1).drop (n + 1 + 1)))) := by
      show _ = _
      rw [P.ex, hb]
      simp only
      rw [if_neg (by decide), if_neg (by decide), if_pos (by decide)]
      exact hE
     have HBK : Hid (X.bulk (d + 1) e + 60 * ((t :: ts1).drop (n + 1 + 1)).length ≤ 60 * (t :: ts1).length) := by
      show _ ≤ _
      simp only [List.length_drop, List.length_cons] at hbk ⊢
      omega
     unfold P.xc
     clear hfq hr hM hbk hE HCL cb1 cb2
     obtain ⟨z0, z1, z2, z3, z4, z5, z6, z7, z8, z9⟩ := cl10 hAq
     obtain ⟨f0, f1, f2, f3, f4, f5, f6, f7, f8, f9⟩ := fl10 hAq
     have HAx := hide hAq
     clear hAq
     go_wp2_with fail
     obtain ⟨wz, hwz, hBz, hFz⟩ := P.sf10 HAx.out (.int .i64 k1) (.int .i64 v1.kind) (.int .i64 v1.n) (.string v1.s) (.slice none 0 0) (.slice none 0 0) (.string s1) (.string t1) (.slice a1 i1 u1) (.slice b1 j1 p1)
     rw [← hwz]
     clear hwz
     obtain ⟨r0, r1, r2, r3, r4, r5, r6, r7, r8, r9⟩ := cl10 hBz
     refine bodyPost_ret (v := .tuple #[.agg #[.int .i64 k1, .int .i64 v1.kind, .int .i64 v1.n, .string v1.s, .slice none 0 0, .slice none 0 0, .string s1, .string t1, .slice a1 i1 u1, .slice b1 j1 p1], .nilIface]) (by simp [results, Tryz.results62, go_sem, r0, r1, r2, r3, r4, r5, r6, r7, r8, r9]) rfl ⟨HF3.out.trans hFz (fun c hc e => by omega), .inl ⟨e, n + 1, k1, v1, s1, t1, a1, i1, u1, b1, j1, p1, HP.out, rfl, HM.out.to (fun c hc => hFz.block c hc.2 (by have := hc.1; have := HLQ.out; omega)) (fun c hc => ⟨by have := hc.1; have := HLQ.out; omega, by have := hc.2; have := hFz.size; omega⟩), HBK.out, HRq.out.fr hFz (fun c e => by omega)⟩⟩
    ·have hAq := (hfq.block (w.heap.size + 2) (blt HBAc.out) (by omega)).trans HBAc.out
     have HF3 := hide (HFw.out.trans hfq (fun _ _ e => e))
     have HRq := hide hr
     have HP : Hid (P.ex (d + 1) (P.fc (t :: ts1)) = none) := by
      show _ = _
      rw [P.ex, hb]
      simp only
      rw [if_neg (by decide), if_neg (by decide), if_pos (by decide)]
      exact hE
     unfold P.xc
     clear hfq hr hE HCL cb1 cb2
     obtain ⟨z0, z1, z2, z3, z4, z5, z6, z7, z8, z9⟩ := cl10 hAq
     obtain ⟨f0, f1, f2, f3, f4, f5, f6, f7, f8, f9⟩ := fl10 hAq
     have HAx := hide hAq
     clear hAq
     go_wp2_with fail
     obtain ⟨wz, hwz, hBz, hFz⟩ := P.sf10 HAx.out (.int .i64 k1) (.int .i64 v1.kind) (.int .i64 v1.n) (.string v1.s) (.slice none 0 0) (.slice none 0 0) (.string s1) (.string t1) (.slice a1 i1 u1) (.slice b1 j1 p1)
     rw [← hwz]
     clear hwz
     obtain ⟨r0, r1, r2, r3, r4, r5, r6, r7, r8, r9⟩ := cl10 hBz
     refine bodyPost_ret (v := .tuple #[.agg #[.int .i64 k1, .int .i64 v1.kind, .int .i64 v1.n, .string v1.s, .slice none 0 0, .slice none 0 0, .string s1, .string t1, .slice a1 i1 u1, .slice b1 j1 p1], .iface 62 (.int .i64 f)]) (by simp [results, Tryz.results62, go_sem, r0, r1, r2, r3, r4, r5, r6, r7, r8, r9]) rfl ⟨HF3.out.trans hFz (fun c hc e => by omega), .inr ⟨HP.out, ⟨k1, v1, s1, t1, a1, i1, u1, b1, j1, p1, f, rfl⟩, _, HRq.out.fr hFz (fun c e => by omega)⟩⟩
   ·have HPS := hide (pass_any R wb t ts1 HRb.out)
    go_wp2_with fail
    refine HPS.out.mono ?_
    rintro r wc ⟨rfl, hrc, hfc⟩
    have HRc := hide hrc
    have hB1 := (hfc.block _ (blt HB1.out) (by omega)).trans HB1.out
    have hB2 := (hfc.block _ (blt HB2.out) (by omega)).trans HB2.out
    have HBAc : Hid (wc.heap[w.heap.size + 2]? = some (.cells #[.int .i64 0, .int .i64 0, .int .i64 0, .string ⟨#[]⟩, .slice none 0 0, .slice none 0 0, .string ⟨#[]⟩, .string ⟨#[]⟩, .slice none 0 0, .slice none 0 0] 57 (0, 0))) := (hfc.block _ (blt HBA.out) (by omega)).trans HBA.out
    have HLQ : Hid (w.heap.size + 3 ≤ wc.heap.size) := by
     show _ ≤ _
     have := HLB.out
     have := hfc.size
     omega
    have HIN : Hid (P.Inn R w.heap.size (w.heap.size + 1) d wc) := ⟨cell_of_block hB1 0 _ rfl, by rw [← HDP.out]; exact cell_of_block hB2 0 _ rfl, hR, by omega⟩
    have HFq := hide (HFw.out.trans hfc (fun _ _ e => e))
    clear HFw cb1 cb2
    have HFw := HFq
    have cb1 := cell_of_block hB1 0 _ rfl
    have cb2 := cell_of_block hB2 0 _ rfl
    clear hrc hfc hB1 hB2 HPS HBA HB1 HB2 HRb HLB
    have HCL := hide (pick_any d R w.heap.size (w.heap.size + 1) wc ts1 hd ih HRc.out HIN.out)
    go_wp2_with fail
    refine HCL.out.mono ?_
    rintro r wd ⟨hfq, ⟨e, n, k1, v1, s1, t1, a1, i1, u1, b1, j1, p1, hE, rfl, hM, hbk, hr⟩ | ⟨hE, ⟨k1, v1, s1, t1, a1, i1, u1, b1, j1, p1, f, rfl⟩, ts', hr⟩⟩
    ·have hAq := (hfq.block (w.heap.size + 2) (blt HBAc.out) (by omega)).trans HBAc.out
     have HF3 := hide (HFw.out.trans hfq (fun _ _ e => e))
     have HRq := hide hr
     have HM := hide hM
     have HP : Hid (P.ex (d + 1) (P.fc (t :: ts1)) = some (e, P.fc ((t :: ts1).drop (n + 1 + 1)))) := by
      show _ = _
      rw [P.ex, hb]
      simp only
      rw [if_neg (by decide), if_neg (by decide), if_neg (by decide), if_pos (by decide)]
      exact hE
     have HBK : Hid (X.bulk (d + 1) e + 60 * ((t :: ts1).drop (n + 1 + 1)).length ≤ 60 * (t :: ts1).length) := by
      show _ ≤ _
      simp only [List.length_drop, List.length_cons] at hbk ⊢
      omega
     unfold P.xc
     clear hfq hr hM hbk hE HCL cb1 cb2
     obtain ⟨z0, z1, z2, z3, z4, z5, z6, z7, z8, z9⟩ := cl10 hAq
     obtain ⟨f0, f1, f2, f3, f4, f5, f6, f7, f8, f9⟩ := fl10 hAq
     have HAx := hide hAq
     clear hAq
     go_wp2_with fail
     obtain ⟨wz, hwz, hBz, hFz⟩ := P.sf10 HAx.out (.int .i64 k1) (.int .i64 v1.kind) (.int .i64 v1.n) (.string v1.s) (.slice none 0 0) (.slice none 0 0) (.string s1) (.string t1) (.slice a1 i1 u1) (.slice b1 j1 p1)
     rw [← hwz]
     clear hwz
     obtain ⟨r0, r1, r2, r3, r4, r5, r6, r7, r8, r9⟩ := cl10 hBz
     refine bodyPost_ret (v := .tuple #[.agg #[.int .i64 k1, .int .i64 v1.kind, .int .i64 v1.n, .string v1.s, .slice none 0 0, .slice none 0 0, .string s1, .string t1, .slice a1 i1 u1, .slice b1 j1 p1], .nilIface]) (by simp [results, Tryz.results62, go_sem, r0, r1, r2, r3, r4, r5, r6, r7, r8, r9]) rfl ⟨HF3.out.trans hFz (fun c hc e => by omega), .inl ⟨e, n + 1, k1, v1, s1, t1, a1, i1, u1, b1, j1, p1, HP.out, rfl, HM.out.to (fun c hc => hFz.block c hc.2 (by have := hc.1; have := HLQ.out; omega)) (fun c hc => ⟨by have := hc.1; have := HLQ.out; omega, by have := hc.2; have := hFz.size; omega⟩), HBK.out, HRq.out.fr hFz (fun c e => by omega)⟩⟩
    ·have hAq := (hfq.block (w.heap.size + 2) (blt HBAc.out) (by omega)).trans HBAc.out
     have HF3 := hide (HFw.out.trans hfq (fun _ _ e => e))
     have HRq := hide hr
     have HP : Hid (P.ex (d + 1) (P.fc (t :: ts1)) = none) := by
      show _ = _
      rw [P.ex, hb]
      simp only
      rw [if_neg (by decide), if_neg (by decide), if_neg (by decide), if_pos (by decide)]
      exact hE
     unfold P.xc
     clear hfq hr hE HCL cb1 cb2
     obtain ⟨z0, z1, z2, z3, z4, z5, z6, z7, z8, z9⟩ := cl10 hAq
     obtain ⟨f0, f1, f2, f3, f4, f5, f6, f7, f8, f9⟩ := fl10 hAq
     have HAx := hide hAq
     clear hAq
     go_wp2_with fail
     obtain ⟨wz, hwz, hBz, hFz⟩ := P.sf10 HAx.out (.int .i64 k1) (.int .i64 v1.kind) (.int .i64 v1.n) (.string v1.s) (.slice none 0 0) (.slice none 0 0) (.string s1) (.string t1) (.slice a1 i1 u1) (.slice b1 j1 p1)
     rw [← hwz]
     clear hwz
     obtain ⟨r0, r1, r2, r3, r4, r5, r6, r7, r8, r9⟩ := cl10 hBz
     refine bodyPost_ret (v := .tuple #[.agg #[.int .i64 k1, .int .i64 v1.kind, .int .i64 v1.n, .string v1.s, .slice none 0 0, .slice none 0 0, .string s1, .string t1, .slice a1 i1 u1, .slice b1 j1 p1], .iface 62 (.int .i64 f)]) (by simp [results, Tryz.results62, go_sem, r0, r1, r2, r3, r4, r5, r6, r7, r8, r9]) rfl ⟨HF3.out.trans hFz (fun c hc e => by omega), .inr ⟨HP.out, ⟨k1, v1, s1, t1, a1, i1, u1, b1, j1, p1, f, rfl⟩, _, HRq.out.fr hFz (fun c e => by omega)⟩⟩
   ·have HPS := hide (pass_any R wb t ts1 HRb.out)
    go_wp2_with fail
    refine HPS.out.mono ?_
    rintro r wc ⟨rfl, hrc, hfc⟩
    have HRc := hide hrc
    have hB1 := (hfc.block _ (blt HB1.out) (by omega)).trans HB1.out
    have hB2 := (hfc.block _ (blt HB2.out) (by omega)).trans HB2.out
    have HBAc : Hid (wc.heap[w.heap.size + 2]? = some (.cells #[.int .i64 0, .int .i64 0, .int .i64 0, .string ⟨#[]⟩, .slice none 0 0, .slice none 0 0, .string ⟨#[]⟩, .string ⟨#[]⟩, .slice none 0 0, .slice none 0 0] 57 (0, 0))) := (hfc.block _ (blt HBA.out) (by omega)).trans HBA.out
    have HLQ : Hid (w.heap.size + 3 ≤ wc.heap.size) := by
     show _ ≤ _
     have := HLB.out
     have := hfc.size
     omega
    have HIN : Hid (P.Inn R w.heap.size (w.heap.size + 1) d wc) := ⟨cell_of_block hB1 0 _ rfl, by rw [← HDP.out]; exact cell_of_block hB2 0 _ rfl, hR, by omega⟩
    have HFq := hide (HFw.out.trans hfc (fun _ _ e => e))
    clear HFw cb1 cb2
    have HFw := HFq
    have cb1 := cell_of_block hB1 0 _ rfl
    have cb2 := cell_of_block hB2 0 _ rfl
    clear hrc hfc hB1 hB2 HPS HBA HB1 HB2 HRb HLB
    have HCL := hide (items_any d R w.heap.size (w.heap.size + 1) wc ts1 hd ih HRc.out HIN.out)
    go_wp2_with fail
    refine HCL.out.mono ?_
    rintro r wd ⟨hfq, ⟨e, n, k1, v1, s1, t1, a1, i1, u1, b1, j1, p1, hE, rfl, hM, hbk, hr⟩ | ⟨hE, ⟨k1, v1, s1, t1, a1, i1, u1, b1, j1, p1, f, rfl⟩, ts', hr⟩⟩
    ·have hAq := (hfq.block (w.heap.size + 2) (blt HBAc.out) (by omega)).trans HBAc.out
     have HF3 := hide (HFw.out.trans hfq (fun _ _ e => e))
     have HRq := hide hr
     have HM := hide hM
     have HP : Hid (P.ex (d + 1) (P.fc (t :: ts1)) = some (e, P.fc ((t :: ts1).drop (n + 1 + 1)))) := by
      show _ = _
      rw [P.ex, hb]
      simp only
      rw [if_neg (by decide), if_neg (by decide), if_neg (by decide), if_neg (by decide), if_pos (by decide)]
      exact hE
     have HBK : Hid (X.bulk (d + 1) e + 60 * ((t :: ts1).drop (n + 1 + 1)).length ≤ 60 * (t :: ts1).length) := by
      show _ ≤ _
      simp only [List.length_drop, List.length_cons] at hbk ⊢
      omega
     unfold P.xc
     clear hfq hr hM hbk hE HCL cb1 cb2
     obtain ⟨z0, z1, z2, z3, z4, z5, z6, z7, z8, z9⟩ := cl10 hAq
     obtain ⟨f0, f1, f2, f3, f4, f5, f6, f7, f8, f9⟩ := fl10 hAq
     have HAx := hide hAq
     clear hAq
     go_wp2_with fail
     obtain ⟨wz, hwz, hBz, hFz⟩ := P.sf10 HAx.out (.int .i64 k1) (.int .i64 v1.kind) (.int .i64 v1.n) (.string v1.s) (.slice none 0 0) (.slice none 0 0) (.string s1) (.string t1) (.slice a1 i1 u1) (.slice b1 j1 p1)
     rw [← hwz]
     clear hwz
     obtain ⟨r0, r1, r2, r3, r4, r5, r6, r7, r8, r9⟩ := cl10 hBz
     refine bodyPost_ret (v := .tuple #[.agg #[.int .i64 k1, .int .i64 v1.kind, .int .i64 v1.n, .string v1.s, .slice none 0 0, .slice none 0 0, .string s1, .string t1, .slice a1 i1 u1, .slice b1 j1 p1], .nilIface]) (by simp [results, Tryz.results62, go_sem, r0, r1, r2, r3, r4, r5, r6, r7, r8, r9]) rfl ⟨HF3.out.trans hFz (fun c hc e => by omega), .inl ⟨e, n + 1, k1, v1, s1, t1, a1, i1, u1, b1, j1, p1, HP.out, rfl, HM.out.to (fun c hc => hFz.block c (hc.resolve_left id).2 (by have := (hc.resolve_left id).1; have := HLQ.out; omega)) (fun c hc => ⟨by have := (hc.resolve_left id).1; have := HLQ.out; omega, by have := (hc.resolve_left id).2; have := hFz.size; omega⟩), HBK.out, HRq.out.fr hFz (fun c e => by omega)⟩⟩
    ·have hAq := (hfq.block (w.heap.size + 2) (blt HBAc.out) (by omega)).trans HBAc.out
     have HF3 := hide (HFw.out.trans hfq (fun _ _ e => e))
     have HRq := hide hr
     have HP : Hid (P.ex (d + 1) (P.fc (t :: ts1)) = none) := by
      show _ = _
      rw [P.ex, hb]
      simp only
      rw [if_neg (by decide), if_neg (by decide), if_neg (by decide), if_neg (by decide), if_pos (by decide)]
      exact hE
     unfold P.xc
     clear hfq hr hE HCL cb1 cb2
     obtain ⟨z0, z1, z2, z3, z4, z5, z6, z7, z8, z9⟩ := cl10 hAq
     obtain ⟨f0, f1, f2, f3, f4, f5, f6, f7, f8, f9⟩ := fl10 hAq
     have HAx := hide hAq
     clear hAq
     go_wp2_with fail
     obtain ⟨wz, hwz, hBz, hFz⟩ := P.sf10 HAx.out (.int .i64 k1) (.int .i64 v1.kind) (.int .i64 v1.n) (.string v1.s) (.slice none 0 0) (.slice none 0 0) (.string s1) (.string t1) (.slice a1 i1 u1) (.slice b1 j1 p1)
     rw [← hwz]
     clear hwz
     obtain ⟨r0, r1, r2, r3, r4, r5, r6, r7, r8, r9⟩ := cl10 hBz
     refine bodyPost_ret (v := .tuple #[.agg #[.int .i64 k1, .int .i64 v1.kind, .int .i64 v1.n, .string v1.s, .slice none 0 0, .slice none 0 0, .string s1, .string t1, .slice a1 i1 u1, .slice b1 j1 p1], .iface 62 (.int .i64 f)]) (by simp [results, Tryz.results62, go_sem, r0, r1, r2, r3, r4, r5, r6, r7, r8, r9]) rfl ⟨HF3.out.trans hFz (fun c hc e => by omega), .inr ⟨HP.out, ⟨k1, v1, s1, t1, a1, i1, u1, b1, j1, p1, f, rfl⟩, _, HRq.out.fr hFz (fun c e => by omega)⟩⟩
   ·have HPS := hide (pass_any R wb t ts1 HRb.out)
    go_wp2_with fail
    refine HPS.out.mono ?_
    rintro r wc ⟨rfl, hrc, hfc⟩
    have HRc := hide hrc
    have hB1 := (hfc.block _ (blt HB1.out) (by omega)).trans HB1.out
    have hB2 := (hfc.block _ (blt HB2.out) (by omega)).trans HB2.out
    have HBAc : Hid (wc.heap[w.heap.size + 2]? = some (.cells #[.int .i64 0, .int .i64 0, .int .i64 0, .string ⟨#[]⟩, .slice none 0 0, .slice none 0 0, .string ⟨#[]⟩, .string ⟨#[]⟩, .slice none 0 0, .slice none 0 0] 57 (0, 0))) := (hfc.block _ (blt HBA.out) (by omega)).trans HBA.out
    have HLQ : Hid (w.heap.size + 3 ≤ wc.heap.size) := by
     show _ ≤ _
     have := HLB.out
     have := hfc.size
     omega
    have HIN : Hid (P.Inn R w.heap.size (w.heap.size + 1) d wc) := ⟨cell_of_block hB1 0 _ rfl, by rw [← HDP.out]; exact cell_of_block hB2 0 _ rfl, hR, by omega⟩
    have HFq := hide (HFw.out.trans hfc (fun _ _ e => e))
    clear HFw cb1 cb2
    have HFw := HFq
    have cb1 := cell_of_block hB1 0 _ rfl
    have cb2 := cell_of_block hB2 0 _ rfl
    clear hrc hfc hB1 hB2 HPS HBA HB1 HB2 HRb HLB
    have HCL := hide (fields_any80 (P.ex d) 4000 d R w.heap.size (w.heap.size + 1) wc ts1 HRc.out (fun W tsW hf hr => inner_ev d R w.heap.size (w.heap.size + 1) W tsW hd ih hr (HIN.out.fr hf)))
    go_wp2_with fail
    refine HCL.out.mono ?_
    rintro r wd ⟨hfq, ⟨acc, m, an, capn, ao, cap, N, L, hE, rfl, e1, e2, hG, hbk, hlt, hr⟩ | ⟨hE, ⟨an, n1, capn, ao, n2, cap, f, rfl⟩, ts', hr⟩⟩
    ·have hAq := (hfq.block (w.heap.size + 2) (blt HBAc.out) (by omega)).trans HBAc.out
     have HF3 := hide (HFw.out.trans hfq (fun _ _ e => e))
     have HRq := hide hr
     have HM := hide (P.growF_node hG 9 ⟨#[]⟩ ⟨#[]⟩)
     have HP : Hid (P.ex (d + 1) (P.fc (t :: ts1)) = some (⟨9, V.zero, ⟨#[]⟩, ⟨#[]⟩, L.map (·.1), N⟩, P.fc ((t :: ts1).drop (m + 1 + 1)))) := by
      show _ = _
      rw [P.ex, hb]
      simp only
      rw [if_neg (by decide), if_neg (by decide), if_neg (by decide), if_neg (by decide), if_neg (by decide), if_pos (by decide), show P.fields 4000 (P.ex d) ((P.fc (t :: ts1)).drop 1) = _ from hE, ← e1, ← e2]
      rfl
     have HBK : Hid (X.bulk (d + 1) ⟨9, V.zero, ⟨#[]⟩, ⟨#[]⟩, L.map (·.1), N⟩ + 60 * ((t :: ts1).drop (m + 1 + 1)).length ≤ 60 * (t :: ts1).length) := by
      show _ ≤ _
      rw [← e1, ← e2, X.bulk, V.bulk]
      simp only [V.zero, X.sumA, X.sumN, V.sumL, V.sumF, P.zero_size, List.map_nil, List.sum_nil, List.length_nil, List.length_cons, List.length_map, List.drop_succ_cons] at hbk ⊢
      omega
     clear hfq hr hE HCL cb1 cb2 hG hbk hlt e1 e2
     obtain ⟨z0, z1, z2, z3, z4, z5, z6, z7, z8, z9⟩ := cl10 hAq
     obtain ⟨f0, f1, f2, f3, f4, f5, f6, f7, f8, f9⟩ := fl10 hAq
     have HAx := hide hAq
     clear hAq
     go_wp2_with fail
     obtain ⟨wz, hwz, hBz, hFz⟩ := P.sf10 HAx.out (.int .i64 9) (.int .i64 0) (.int .i64 0) (.string ⟨#[]⟩) (.slice none 0 0) (.slice none 0 0) (.string ⟨#[]⟩) (.string ⟨#[]⟩) (.slice ao L.length cap) (.slice an N.length capn)
     rw [← hwz]
     clear hwz
     obtain ⟨r0, r1, r2, r3, r4, r5, r6, r7, r8, r9⟩ := cl10 hBz
     refine bodyPost_ret (v := .tuple #[.agg #[.int .i64 9, .int .i64 0, .int .i64 0, .string ⟨#[]⟩, .slice none 0 0, .slice none 0 0, .string ⟨#[]⟩, .string ⟨#[]⟩, .slice ao L.length cap, .slice an N.length capn], .nilIface]) (by simp [results, Tryz.results62, go_sem, r0, r1, r2, r3, r4, r5, r6, r7, r8, r9]) rfl ⟨HF3.out.trans hFz (fun c hc e => by omega), .inl ⟨_, m + 1, 9, V.zero, ⟨#[]⟩, ⟨#[]⟩, ao, L.length, cap, an, N.length, capn, HP.out, rfl, HM.out.to (fun c hc => hFz.block c hc.2 (by have := hc.1; have := HLQ.out; omega)) (fun c hc => ⟨by have := hc.1; have := HLQ.out; omega, by have := hc.2; have := hFz.size; omega⟩), HBK.out, HRq.out.fr hFz (fun c e => by omega)⟩⟩
    ·have hAq := (hfq.block (w.heap.size + 2) (blt HBAc.out) (by omega)).trans HBAc.out
     have HF3 := hide (HFw.out.trans hfq (fun _ _ e => e))
     have HRq := hide hr
     have HP : Hid (P.ex (d + 1) (P.fc (t :: ts1)) = none) := by
      show _ = _
      rw [P.ex, hb]
      simp only
      rw [if_neg (by decide), if_neg (by decide), if_neg (by decide), if_neg (by decide), if_neg (by decide), if_pos (by decide), show P.fields 4000 (P.ex d) ((P.fc (t :: ts1)).drop 1) = _ from hE]
      rfl
     clear hfq hr hE HCL cb1 cb2
     obtain ⟨z0, z1, z2, z3, z4, z5, z6, z7, z8, z9⟩ := cl10 hAq
     obtain ⟨f0, f1, f2, f3, f4, f5, f6, f7, f8, f9⟩ := fl10 hAq
     have HAx := hide hAq
     clear hAq
     go_wp2_with fail
     obtain ⟨wz, hwz, hBz, hFz⟩ := P.sf10 HAx.out (.int .i64 9) (.int .i64 0) (.int .i64 0) (.string ⟨#[]⟩) (.slice none 0 0) (.slice none 0 0) (.string ⟨#[]⟩) (.string ⟨#[]⟩) (.slice ao n2 cap) (.slice an n1 capn)
     rw [← hwz]
     clear hwz
     obtain ⟨r0, r1, r2, r3, r4, r5, r6, r7, r8, r9⟩ := cl10 hBz
     refine bodyPost_ret (v := .tuple #[.agg #[.int .i64 9, .int .i64 0, .int .i64 0, .string ⟨#[]⟩, .slice none 0 0, .slice none 0 0, .string ⟨#[]⟩, .string ⟨#[]⟩, .slice ao n2 cap, .slice an n1 capn], .iface 62 (.int .i64 f)]) (by simp [results, Tryz.results62, go_sem, r0, r1, r2, r3, r4, r5, r6, r7, r8, r9]) rfl ⟨HF3.out.trans hFz (fun c hc e => by omega), .inr ⟨HP.out, ⟨9, V.zero, ⟨#[]⟩, ⟨#[]⟩, ao, n2, cap, an, n1, capn, f, rfl⟩, _, HRq.out.fr hFz (fun c e => by omega)⟩⟩
   ·have HPS := hide (pass_any R wb t ts1 HRb.out)
    go_wp2_with fail
    refine HPS.out.mono ?_
    rintro r wc ⟨rfl, hrc, hfc⟩
    have HRc := hide hrc
    have hB1 := (hfc.block _ (blt HB1.out) (by omega)).trans HB1.out
    have hB2 := (hfc.block _ (blt HB2.out) (by omega)).trans HB2.out
    have HBAc : Hid (wc.heap[w.heap.size + 2]? = some (.cells #[.int .i64 0, .int .i64 0, .int .i64 0, .string ⟨#[]⟩, .slice none 0 0, .slice none 0 0, .string ⟨#[]⟩, .string ⟨#[]⟩, .slice none 0 0, .slice none 0 0] 57 (0, 0))) := (hfc.block _ (blt HBA.out) (by omega)).trans HBA.out
    have HLQ : Hid (w.heap.size + 3 ≤ wc.heap.size) := by
     show _ ≤ _
     have := HLB.out
     have := hfc.size
     omega
    have HIN : Hid (P.Inn R w.heap.size (w.heap.size + 1) d wc) := ⟨cell_of_block hB1 0 _ rfl, by rw [← HDP.out]; exact cell_of_block hB2 0 _ rfl, hR, by omega⟩
    have HFq := hide (HFw.out.trans hfc (fun _ _ e => e))
    clear HFw cb1 cb2
    have HFw := HFq
    have cb1 := cell_of_block hB1 0 _ rfl
    have cb2 := cell_of_block hB2 0 _ rfl
    clear hrc hfc hB1 hB2 HPS HBA HB1 HB2 HRb HLB
    have HCL := hide (group_any d R w.heap.size (w.heap.size + 1) wc ts1 hd ih HRc.out HIN.out)
    go_wp2_with fail
    refine HCL.out.mono ?_
    rintro r wd ⟨hfq, ⟨e, n, k1, v1, s1, t1, a1, i1, u1, b1, j1, p1, hE, rfl, hM, hbk, hr⟩ | ⟨hE, ⟨k1, v1, s1, t1, a1, i1, u1, b1, j1, p1, f, rfl⟩, ts', hr⟩⟩
    ·have hAq := (hfq.block (w.heap.size + 2) (blt HBAc.out) (by omega)).trans HBAc.out
     have HF3 := hide (HFw.out.trans hfq (fun _ _ e => e))
     have HRq := hide hr
     have HM := hide hM
     have HP : Hid (P.ex (d + 1) (P.fc (t :: ts1)) = some (e, P.fc ((t :: ts1).drop (n + 1 + 1)))) := by
      show _ = _
      rw [P.ex, hb]
      simp only
      rw [if_neg (by decide), if_neg (by decide), if_neg (by decide), if_neg (by decide), if_neg (by decide), if_neg (by decide)]
      exact hE
     have HBK : Hid (X.bulk (d + 1) e + 60 * ((t :: ts1).drop (n + 1 + 1)).length ≤ 60 * (t :: ts1).length) := by
      show _ ≤ _
      simp only [List.length_drop, List.length_cons] at hbk ⊢
      omega
     unfold P.xc
     clear hfq hr hM hbk hE HCL cb1 cb2
     obtain ⟨z0, z1, z2, z3, z4, z5, z6, z7, z8, z9⟩ := cl10 hAq
     obtain ⟨f0, f1, f2, f3, f4, f5, f6, f7, f8, f9⟩ := fl10 hAq
     have HAx := hide hAq
     clear hAq
     go_wp2_with fail
     obtain ⟨wz, hwz, hBz, hFz⟩ := P.sf10 HAx.out (.int .i64 k1) (.int .i64 v1.kind) (.int .i64 v1.n) (.string v1.s) (.slice none 0 0) (.slice none 0 0) (.string s1) (.string t1) (.slice a1 i1 u1) (.slice b1 j1 p1)
     rw [← hwz]
     clear hwz
     obtain ⟨r0, r1, r2, r3, r4, r5, r6, r7, r8, r9⟩ := cl10 hBz
     refine bodyPost_ret (v := .tuple #[.agg #[.int .i64 k1, .int .i64 v1.kind, .int .i64 v1.n, .string v1.s, .slice none 0 0, .slice none 0 0, .string s1, .string t1, .slice a1 i1 u1, .slice b1 j1 p1], .nilIface]) (by simp [results, Tryz.results62, go_sem, r0, r1, r2, r3, r4, r5, r6, r7, r8, r9]) rfl ⟨HF3.out.trans hFz (fun c hc e => by omega), .inl ⟨e, n + 1, k1, v1, s1, t1, a1, i1, u1, b1, j1, p1, HP.out, rfl, HM.out.to (fun c hc => hFz.block c hc.2 (by have := hc.1; have := HLQ.out; omega)) (fun c hc => ⟨by have := hc.1; have := HLQ.out; omega, by have := hc.2; have := hFz.size; omega⟩), HBK.out, HRq.out.fr hFz (fun c e => by omega)⟩⟩
    ·have hAq := (hfq.block (w.heap.size + 2) (blt HBAc.out) (by omega)).trans HBAc.out
     have HF3 := hide (HFw.out.trans hfq (fun _ _ e => e))
     have HRq := hide hr
     have HP : Hid (P.ex (d + 1) (P.fc (t :: ts1)) = none) := by
      show _ = _
      rw [P.ex, hb]
      simp only
      rw [if_neg (by decide), if_neg (by decide), if_neg (by decide), if_neg (by decide), if_neg (by decide), if_neg (by decide)]
      exact hE
     unfold P.xc
     clear hfq hr hE HCL cb1 cb2
     obtain ⟨z0, z1, z2, z3, z4, z5, z6, z7, z8, z9⟩ := cl10 hAq
     obtain ⟨f0, f1, f2, f3, f4, f5, f6, f7, f8, f9⟩ := fl10 hAq
     have HAx := hide hAq
     clear hAq
     go_wp2_with fail
     obtain ⟨wz, hwz, hBz, hFz⟩ := P.sf10 HAx.out (.int .i64 k1) (.int .i64 v1.kind) (.int .i64 v1.n) (.string v1.s) (.slice none 0 0) (.slice none 0 0) (.string s1) (.string t1) (.slice a1 i1 u1) (.slice b1 j1 p1)
     rw [← hwz]
     clear hwz
     obtain ⟨r0, r1, r2, r3, r4, r5, r6, r7, r8, r9⟩ := cl10 hBz
     refine bodyPost_ret (v := .tuple #[.agg #[.int .i64 k1, .int .i64 v1.kind, .int .i64 v1.n, .string v1.s, .slice none 0 0, .slice none 0 0, .string s1, .string t1, .slice a1 i1 u1, .slice b1 j1 p1], .iface 62 (.int .i64 f)]) (by simp [results, Tryz.results62, go_sem, r0, r1, r2, r3, r4, r5, r6, r7, r8, r9]) rfl ⟨HF3.out.trans hFz (fun c hc e => by omega), .inr ⟨HP.out, ⟨k1, v1, s1, t1, a1, i1, u1, b1, j1, p1, f, rfl⟩, _, HRq.out.fr hFz (fun c e => by omega)⟩⟩
theorem expr_all : ∀ d, d ≤ 7 → P.IH d
 | 0, _ => expr_zero
 | d + 1, h => expr_succ d (by omega) (expr_all d (by omega))
end Go.Proofs.YtbdbpfcblppnbaaGreatDoor.Vx
