/- For TopPrint: fields in memory. -/
import Derived.Test.YtbdbpfcblppnbaaGreatDoorRM
namespace Go.Proofs.YtbdbpfcblppnbaaGreatDoor.Vx
open Go.RowKit
set_option maxRecDepth 100000 in
set_option maxHeartbeats 6400000 in
theorem items_any (d R Br Bd : Nat) (w : World) (ts : List P.K) (hd : d ≤ 6) (ih : P.IH d) (h : P.Rdr R w ts) (hi : P.Inn R Br Bd d w) :
  Calls Tryz.prog 84 #[.pointer (some ⟨R, 0, none⟩), .func (.func 80) #[] #[.pointer (some ⟨Br, 0, none⟩), .pointer (some ⟨Bd, 0, none⟩)]] w fun r w' => Fr w w' (fun c => c = R) ∧ P.ChOut (fun _ => False) 60 ((P.rows [93] (P.ex d) (P.fc ts)).map (fun p => ((⟨8, V.zero, ⟨#[]⟩, ⟨#[]⟩, p.1, []⟩ : Ex), p.2))) (d + 1) R w w' ts r := by
 have hR := h.lt
 have hBr : Br < w.heap.size := World.block_lt_of_cell? w _ hi.c1
 have hBd : Bd < w.heap.size := World.block_lt_of_cell? w _ hi.c2
 have hb1 : Below w.heap.size w (((w.alloc (.cells #[.func (.func 80) #[] #[.pointer (some ⟨Br, 0, none⟩), .pointer (some ⟨Bd, 0, none⟩)]] 113)).alloc (.cells #[.int .i64 0, .int .i64 0, .int .i64 0, .string ⟨#[]⟩, .slice none 0 0, .slice none 0 0, .string ⟨#[]⟩, .string ⟨#[]⟩, .slice none 0 0, .slice none 0 0] 57)).alloc (.cells #[.int .i64 8, .int .i64 0, .int .i64 0, .string ⟨#[]⟩, .slice none 0 0, .slice none 0 0, .string ⟨#[]⟩, .string ⟨#[]⟩, .slice none 0 0, .slice none 0 0] 57)) := (((Below.refl _ _).alloc (Nat.le_refl _) _).alloc (by simp) _).alloc (by simp; omega) _
 have hA1 : (((w.alloc (.cells #[.func (.func 80) #[] #[.pointer (some ⟨Br, 0, none⟩), .pointer (some ⟨Bd, 0, none⟩)]] 113)).alloc (.cells #[.int .i64 0, .int .i64 0, .int .i64 0, .string ⟨#[]⟩, .slice none 0 0, .slice none 0 0, .string ⟨#[]⟩, .string ⟨#[]⟩, .slice none 0 0, .slice none 0 0] 57)).alloc (.cells #[.int .i64 8, .int .i64 0, .int .i64 0, .string ⟨#[]⟩, .slice none 0 0, .slice none 0 0, .string ⟨#[]⟩, .string ⟨#[]⟩, .slice none 0 0, .slice none 0 0] 57)).heap[w.heap.size]? = some (.cells #[.func (.func 80) #[] #[.pointer (some ⟨Br, 0, none⟩), .pointer (some ⟨Bd, 0, none⟩)]] 113 (0, 0)) := by
  rw [heap_alloc_old _ _ (by simp; omega), heap_alloc_old _ _ (by simp)]; exact heap_alloc_new _ _
 have hG1 : (((w.alloc (.cells #[.func (.func 80) #[] #[.pointer (some ⟨Br, 0, none⟩), .pointer (some ⟨Bd, 0, none⟩)]] 113)).alloc (.cells #[.int .i64 0, .int .i64 0, .int .i64 0, .string ⟨#[]⟩, .slice none 0 0, .slice none 0 0, .string ⟨#[]⟩, .string ⟨#[]⟩, .slice none 0 0, .slice none 0 0] 57)).alloc (.cells #[.int .i64 8, .int .i64 0, .int .i64 0, .string ⟨#[]⟩, .slice none 0 0, .slice none 0 0, .string ⟨#[]⟩, .string ⟨#[]⟩, .slice none 0 0, .slice none 0 0] 57)).heap[w.heap.size + 1]? = some (.cells #[.int .i64 0, .int .i64 0, .int .i64 0, .string ⟨#[]⟩, .slice none 0 0, .slice none 0 0, .string ⟨#[]⟩, .string ⟨#[]⟩, .slice none 0 0, .slice none 0 0] 57 (0, 0)) := by
  rw [heap_alloc_old _ _ (by simp), show w.heap.size + 1 = (w.alloc (.cells #[.func (.func 80) #[] #[.pointer (some ⟨Br, 0, none⟩), .pointer (some ⟨Bd, 0, none⟩)]] 113)).heap.size by simp]; exact heap_alloc_new _ _
 have hB1 : (((w.alloc (.cells #[.func (.func 80) #[] #[.pointer (some ⟨Br, 0, none⟩), .pointer (some ⟨Bd, 0, none⟩)]] 113)).alloc (.cells #[.int .i64 0, .int .i64 0, .int .i64 0, .string ⟨#[]⟩, .slice none 0 0, .slice none 0 0, .string ⟨#[]⟩, .string ⟨#[]⟩, .slice none 0 0, .slice none 0 0] 57)).alloc (.cells #[.int .i64 8, .int .i64 0, .int .i64 0, .string ⟨#[]⟩, .slice none 0 0, .slice none 0 0, .string ⟨#[]⟩, .string ⟨#[]⟩, .slice none 0 0, .slice none 0 0] 57)).heap[w.heap.size + 2]? = some (P.iblk none 0 0) := by
  rw [show w.heap.size + 2 = ((w.alloc (.cells #[.func (.func 80) #[] #[.pointer (some ⟨Br, 0, none⟩), .pointer (some ⟨Bd, 0, none⟩)]] 113)).alloc (.cells #[.int .i64 0, .int .i64 0, .int .i64 0, .string ⟨#[]⟩, .slice none 0 0, .slice none 0 0, .string ⟨#[]⟩, .string ⟨#[]⟩, .slice none 0 0, .slice none 0 0] 57)).heap.size by simp]; exact heap_alloc_new _ _
 have hsz : (((w.alloc (.cells #[.func (.func 80) #[] #[.pointer (some ⟨Br, 0, none⟩), .pointer (some ⟨Bd, 0, none⟩)]] 113)).alloc (.cells #[.int .i64 0, .int .i64 0, .int .i64 0, .string ⟨#[]⟩, .slice none 0 0, .slice none 0 0, .string ⟨#[]⟩, .string ⟨#[]⟩, .slice none 0 0, .slice none 0 0] 57)).alloc (.cells #[.int .i64 8, .int .i64 0, .int .i64 0, .string ⟨#[]⟩, .slice none 0 0, .slice none 0 0, .string ⟨#[]⟩, .string ⟨#[]⟩, .slice none 0 0, .slice none 0 0] 57)).heap.size = w.heap.size + 3 := by simp
 have hr1 := h.kept hb1
 have hi1 := hi.kept hb1
 have HF1 := hide (P.fr_below hb1)
 have HPI : Hid (P.rowsS [93] (P.oneI d) [] (P.fc ts) = P.rows [93] (P.ex d) (P.fc ts)) := P.rowsI d [93] (P.fc ts)
 have HL := hide h.len
 have HIT : Hid (P.It (((w.alloc (.cells #[.func (.func 80) #[] #[.pointer (some ⟨Br, 0, none⟩), .pointer (some ⟨Bd, 0, none⟩)]] 113)).alloc (.cells #[.int .i64 0, .int .i64 0, .int .i64 0, .string ⟨#[]⟩, .slice none 0 0, .slice none 0 0, .string ⟨#[]⟩, .string ⟨#[]⟩, .slice none 0 0, .slice none 0 0] 57)).alloc (.cells #[.int .i64 8, .int .i64 0, .int .i64 0, .string ⟨#[]⟩, .slice none 0 0, .slice none 0 0, .string ⟨#[]⟩, .string ⟨#[]⟩, .slice none 0 0, .slice none 0 0] 57)) R (w.heap.size + 2) d (60 * ts.length) ts [] (((w.alloc (.cells #[.func (.func 80) #[] #[.pointer (some ⟨Br, 0, none⟩), .pointer (some ⟨Bd, 0, none⟩)]] 113)).alloc (.cells #[.int .i64 0, .int .i64 0, .int .i64 0, .string ⟨#[]⟩, .slice none 0 0, .slice none 0 0, .string ⟨#[]⟩, .string ⟨#[]⟩, .slice none 0 0, .slice none 0 0] 57)).alloc (.cells #[.int .i64 8, .int .i64 0, .int .i64 0, .string ⟨#[]⟩, .slice none 0 0, .slice none 0 0, .string ⟨#[]⟩, .string ⟨#[]⟩, .slice none 0 0, .slice none 0 0] 57))) :=
  ⟨Fr.refl _ _, hr1, ⟨none, 0, [], rfl, hB1, P.Grow.nil _ _ _⟩, by simp, by have := HL.out; simp; omega⟩
 have HRW := hide (row_any102 (P.oneI d) (P.It (((w.alloc (.cells #[.func (.func 80) #[] #[.pointer (some ⟨Br, 0, none⟩), .pointer (some ⟨Bd, 0, none⟩)]] 113)).alloc (.cells #[.int .i64 0, .int .i64 0, .int .i64 0, .string ⟨#[]⟩, .slice none 0 0, .slice none 0 0, .string ⟨#[]⟩, .string ⟨#[]⟩, .slice none 0 0, .slice none 0 0] 57)).alloc (.cells #[.int .i64 8, .int .i64 0, .int .i64 0, .string ⟨#[]⟩, .slice none 0 0, .slice none 0 0, .string ⟨#[]⟩, .string ⟨#[]⟩, .slice none 0 0, .slice none 0 0] 57)) R (w.heap.size + 2) d (60 * ts.length)) (P.It (((w.alloc (.cells #[.func (.func 80) #[] #[.pointer (some ⟨Br, 0, none⟩), .pointer (some ⟨Bd, 0, none⟩)]] 113)).alloc (.cells #[.int .i64 0, .int .i64 0, .int .i64 0, .string ⟨#[]⟩, .slice none 0 0, .slice none 0 0, .string ⟨#[]⟩, .string ⟨#[]⟩, .slice none 0 0, .slice none 0 0] 57)).alloc (.cells #[.int .i64 8, .int .i64 0, .int .i64 0, .string ⟨#[]⟩, .slice none 0 0, .slice none 0 0, .string ⟨#[]⟩, .string ⟨#[]⟩, .slice none 0 0, .slice none 0 0] 57)) R (w.heap.size + 2) d (60 * ts.length + 1)) (P.ItBad (((w.alloc (.cells #[.func (.func 80) #[] #[.pointer (some ⟨Br, 0, none⟩), .pointer (some ⟨Bd, 0, none⟩)]] 113)).alloc (.cells #[.int .i64 0, .int .i64 0, .int .i64 0, .string ⟨#[]⟩, .slice none 0 0, .slice none 0 0, .string ⟨#[]⟩, .string ⟨#[]⟩, .slice none 0 0, .slice none 0 0] 57)).alloc (.cells #[.int .i64 8, .int .i64 0, .int .i64 0, .string ⟨#[]⟩, .slice none 0 0, .slice none 0 0, .string ⟨#[]⟩, .string ⟨#[]⟩, .slice none 0 0, .slice none 0 0] 57)) R (w.heap.size + 2)) R w.heap.size (w.heap.size + 2) ⟨#[93]⟩
  (fun _ _ _ h => h.rdr) (fun _ _ _ h => h.rdr) (fun _ _ _ _ _ h hf hl hr => h.move (by omega) (by omega) hf hl hr) (fun _ _ _ _ _ h hf hl hr => h.comma (by omega) (by omega) hf hl hr) (fun _ _ _ _ h hf hr => h.move (by omega) (by omega) hf (Nat.le_refl _) hr)
  (fun _ _ _ _ _ h hf hr => h.bad (by omega) hf hr)
  (fun ts acc w' h => items1_any d R Br Bd w.heap.size (w.heap.size + 2) (60 * _) _ hd ih hA1 (by omega) (by omega) (by omega) (by omega) (by omega) hi1 (by omega) (by omega) ts acc w' h) _ ts [] HIT.out)
 have HG1 := hide hG1
 have HSZ := hide hsz
 have HB1 := hide hB1
 clear h hb1 hA1 hG1 hB1 hsz hr1 hi1 ih hi hBr hBd HIT
 go_enter Tryz.func84, Tryz.ntmps84
 go_wp2_with fail
 generalize (((w.alloc (.cells #[.func (.func 80) #[] #[.pointer (some ⟨Br, 0, none⟩), .pointer (some ⟨Bd, 0, none⟩)]] 113)).alloc (.cells #[.int .i64 0, .int .i64 0, .int .i64 0, .string ⟨#[]⟩, .slice none 0 0, .slice none 0 0, .string ⟨#[]⟩, .string ⟨#[]⟩, .slice none 0 0, .slice none 0 0] 57)).alloc (.cells #[.int .i64 8, .int .i64 0, .int .i64 0, .string ⟨#[]⟩, .slice none 0 0, .slice none 0 0, .string ⟨#[]⟩, .string ⟨#[]⟩, .slice none 0 0, .slice none 0 0] 57)) = w1 at *
 refine HRW.out.mono ?_
 rintro r w2 ⟨ev, rfl, ⟨acc, m, hE, rfl, hlt, hI⟩ | ⟨hE, ⟨f, rfl⟩, hI⟩⟩
 ·obtain ⟨ao, cap, L, rfl, hb2, hG⟩ := hI.row
  have hF2 := hI.fr
  have hA2 := (hF2.block (w.heap.size + 1) (blt HG1.out) (by omega)).trans HG1.out
  have HF3 : Hid (Fr w w2 (fun c => c = R)) := (HF1.out.weak (fun _ _ e => e.elim)).trans hF2 (fun c hc e => e.elim id (fun e => by omega))
  have HR3 := hide hI.rdr
  have HP : Hid (((P.rows [93] (P.ex d) (P.fc ts)).map (fun p => ((⟨8, V.zero, ⟨#[]⟩, ⟨#[]⟩, p.1, []⟩ : Ex), p.2))) = some (⟨8, V.zero, ⟨#[]⟩, ⟨#[]⟩, L.map (fun x => x.1), []⟩, P.fc (ts.drop (m + 1)))) := by
   show _ = _
   rw [← HPI.out, show P.rowsS [93] (P.oneI d) [] (P.fc ts) = _ from hE]
   rfl
  have HBK2 : Hid (X.bulk (d + 1) ⟨8, V.zero, ⟨#[]⟩, ⟨#[]⟩, L.map (fun x => x.1), []⟩ + 60 * (ts.drop (m + 1)).length ≤ 60 * ts.length + 60) := by
   show _ ≤ _
   have h1 := hI.bulk
   rw [X.bulk, V.bulk]
   simp only [V.zero, X.sumA, X.sumN, V.sumL, V.sumF, P.zero_size, List.map_nil, List.sum_nil, List.length_nil] at h1 ⊢
   omega
  have HM3 := hide (P.grow_node hG 8 ⟨#[]⟩ ⟨#[]⟩)
  have HS2 : Hid (w1.heap.size ≤ w2.heap.size) := hF2.size
  clear hE hlt hI hG hF2 HRW HPI
  have k1 := hb2
  unfold P.iblk at k1
  obtain ⟨y0, y1, y2, y3, y4, y5, y6, y7, y8, y9⟩ := cl10 k1
  clear k1
  clear hb2
  obtain ⟨z0, z1, z2, z3, z4, z5, z6, z7, z8, z9⟩ := cl10 hA2
  obtain ⟨f0, f1, f2, f3, f4, f5, f6, f7, f8, f9⟩ := fl10 hA2
  have HAx := hide hA2
  clear hA2
  go_wp2_with fail
  obtain ⟨wz, hwz, hBz, hFz⟩ := P.sf10 HAx.out (.int .i64 8) (.int .i64 0) (.int .i64 0) (.string ⟨#[]⟩) (.slice none 0 0) (.slice none 0 0) (.string ⟨#[]⟩) (.string ⟨#[]⟩) (.slice ao L.length cap) (.slice none 0 0)
  rw [← hwz]
  clear hwz
  obtain ⟨r0, r1, r2, r3, r4, r5, r6, r7, r8, r9⟩ := cl10 hBz
  refine bodyPost_ret (v := .tuple #[.agg #[.int .i64 8, .int .i64 0, .int .i64 0, .string ⟨#[]⟩, .slice none 0 0, .slice none 0 0, .string ⟨#[]⟩, .string ⟨#[]⟩, .slice ao L.length cap, .slice none 0 0], .nilIface]) (by simp [results, Tryz.results84, go_sem, r0, r1, r2, r3, r4, r5, r6, r7, r8, r9]) rfl ⟨HF3.out.trans hFz (fun c hc e => by omega), .inl ⟨_, m, 8, V.zero, ⟨#[]⟩, ⟨#[]⟩, ao, L.length, cap, none, 0, 0, HP.out, rfl, HM3.out.to (fun c hc => hFz.block c hc.2 (by have := hc.1; have := HSZ.out; omega)) (fun c hc => .inr ⟨by have := hc.1; have := HSZ.out; omega, by have := hc.2; have := hFz.size; omega⟩), HBK2.out, HR3.out.fr hFz (fun c e => by omega)⟩⟩
 ·obtain ⟨hF2, ⟨ts', hr⟩, ao, n, cap, hb2⟩ := hI
  have hA2 := (hF2.block (w.heap.size + 1) (blt HG1.out) (by omega)).trans HG1.out
  have HF3 : Hid (Fr w w2 (fun c => c = R)) := (HF1.out.weak (fun _ _ e => e.elim)).trans hF2 (fun c hc e => e.elim id (fun e => by omega))
  have HR3 := hide hr
  have HP : Hid (((P.rows [93] (P.ex d) (P.fc ts)).map (fun p => ((⟨8, V.zero, ⟨#[]⟩, ⟨#[]⟩, p.1, []⟩ : Ex), p.2))) = none) := by
   show _ = _
   rw [← HPI.out, show P.rowsS [93] (P.oneI d) [] (P.fc ts) = _ from hE]
   rfl
  clear hE hr hF2 HRW HPI
  have k1 := hb2
  unfold P.iblk at k1
  obtain ⟨y0, y1, y2, y3, y4, y5, y6, y7, y8, y9⟩ := cl10 k1
  clear k1
  clear hb2
  obtain ⟨z0, z1, z2, z3, z4, z5, z6, z7, z8, z9⟩ := cl10 hA2
  obtain ⟨f0, f1, f2, f3, f4, f5, f6, f7, f8, f9⟩ := fl10 hA2
  have HAx := hide hA2
  clear hA2
  go_wp2_with fail
  obtain ⟨wz, hwz, hBz, hFz⟩ := P.sf10 HAx.out (.int .i64 8) (.int .i64 0) (.int .i64 0) (.string ⟨#[]⟩) (.slice none 0 0) (.slice none 0 0) (.string ⟨#[]⟩) (.string ⟨#[]⟩) (.slice ao n cap) (.slice none 0 0)
  rw [← hwz]
  clear hwz
  obtain ⟨r0, r1, r2, r3, r4, r5, r6, r7, r8, r9⟩ := cl10 hBz
  refine bodyPost_ret (v := .tuple #[.agg #[.int .i64 8, .int .i64 0, .int .i64 0, .string ⟨#[]⟩, .slice none 0 0, .slice none 0 0, .string ⟨#[]⟩, .string ⟨#[]⟩, .slice ao n cap, .slice none 0 0], .iface 62 (.int .i64 f)]) (by simp [results, Tryz.results84, go_sem, r0, r1, r2, r3, r4, r5, r6, r7, r8, r9]) rfl ⟨HF3.out.trans hFz (fun c hc e => by omega), .inr ⟨HP.out, ⟨8, V.zero, ⟨#[]⟩, ⟨#[]⟩, ao, n, cap, none, 0, 0, f, rfl⟩, _, HR3.out.fr hFz (fun c e => by omega)⟩⟩
end Go.Proofs.YtbdbpfcblppnbaaGreatDoor.Vx
namespace Go.Proofs.YtbdbpfcblppnbaaGreatDoor.Vx
open Go.RowKit
namespace P
/-- One field, gathered. -/
def oneF (most : Nat) (one : List T → Option (Ex × List T)) (acc : List (ByteArray × Ex)) (ts : List T) : Option (List (ByteArray × Ex) × List T) :=
 match name ts with
 | none => none
 | some (s, t1) =>
  if acc.length = most then none
  else if above (acc.getLast?.map (·.1)) s = false then none
  else
   match found 4 [58] t1 with
   | none => none
   | some t2 => (one t2).map (fun p => (acc ++ [(s, p.1)], p.2))
theorem rowF (most : Nat) (one : List T → Option (Ex × List T)) : ∀ (n : Nat) (acc : List (ByteArray × Ex)) (ts : List T), rowS [125] (oneF most one) n acc ts = (fieldRow most one n (acc.getLast?.map (·.1)) acc.length ts).map (fun p => (acc ++ p.1, p.2))
 | 0, _, _ => rfl
 | n + 1, acc, ts => by
  rw [rowS, fieldRow, oneF]
  cases h : name ts with
  | none => rfl
  | some p =>
   obtain ⟨s, t1⟩ := p
   simp only
   by_cases h1 : acc.length = most
   ·rw [if_pos h1, if_pos h1]
    rfl
   rw [if_neg h1, if_neg h1]
   by_cases h2 : above (acc.getLast?.map (·.1)) s = false
   ·rw [if_pos h2, if_pos h2]
    rfl
   rw [if_neg h2, if_neg h2]
   cases h3 : found 4 [58] t1 with
   | none => rfl
   | some t2 =>
    simp only
    cases h4 : one t2 with
    | none => rfl
    | some q =>
     obtain ⟨x, t3⟩ := q
     simp only [Option.map_some]
     cases h5 : found 4 [44] t3 with
     | none =>
      simp only
      cases found 4 [125] t3 <;> rfl
     | some t4 =>
      simp only
      rw [rowF most one n, List.getLast?_append, List.length_append]
      simp only [List.getLast?_singleton, Option.some_or, Option.map_some, List.length_cons, List.length_nil]
      cases fieldRow most one n (some s) (acc.length + (0 + 1)) t4 with
      | none => rfl
      | some q => simp
theorem rowsF (most : Nat) (one : List T → Option (Ex × List T)) (ts : List T) : rowsS [125] (oneF most one) [] ts = fields most one ts := by
 unfold rowsS fields
 cases found 4 [125] ts with
 | some r => rfl
 | none =>
  simp only
  rw [rowF]
  cases h : fieldRow most one ts.length (([] : List (ByteArray × Ex)).getLast?.map (·.1)) ([] : List (ByteArray × Ex)).length ts with
  | none =>
   simp at h
   rw [h]
   rfl
  | some q =>
   simp at h
   rw [h]
   simp
/-- Two rows that grow beside each other: names, and expressions with their memory apart from both. -/
structure GrowF (base d : Nat) (w : World) (vn v : Value) (N : List ByteArray) (L : List (Ex × List Value)) : Prop where
 ten : ∀ x ∈ L, x.2.length = 10
 ownN : w.ownsRow base 9 1 vn N.length (N.map Value.string)
 own : w.ownsRow base 57 10 v L.length (L.flatMap (fun x => x.2))
 mem : ∀ x ∈ L, X.MemD (fun c => base ≤ c ∧ c < w.heap.size ∧ v.ownBlock ≠ some c ∧ vn.ownBlock ≠ some c) d w x.1 x.2
theorem GrowF.nil (base d : Nat) (w : World) : GrowF base d w (.slice none 0 0) (.slice none 0 0) [] [] := ⟨fun _ h => absurd h (by simp), World.ownsRow_nil _ _ _ _, World.ownsRow_nil _ _ _ _, fun _ h => absurd h (by simp)⟩
theorem GrowF.fr {base d : Nat} {w w' : World} {vn v : Value} {N : List ByteArray} {L : List (Ex × List Value)} {ex : Nat → Prop} (h : GrowF base d w vn v N L) (hf : Fr w w' ex) (hx : ∀ c, ex c → c < base) : GrowF base d w' vn v N L :=
 ⟨h.ten, owns_fr h.ownN hf (fun c hc e => by have := hx c e; have := (h.ownN.lt c hc).1; omega), owns_fr h.own hf (fun c hc e => by have := hx c e; have := (h.own.lt c hc).1; omega),
  fun x hxm => (h.mem x hxm).to (fun c hc => hf.block c hc.2.1 (fun e => by have := hx c e; have := hc.1; omega)) (fun c hc => ⟨hc.1, by have := hf.size; have := hc.2.1; omega, hc.2.2.1, hc.2.2.2⟩)⟩
theorem owns_two {w : World} {base base' n n' z z' : Nat} {t t' : TypeId} {v v' : Value} {xs xs' : List Value} (h : w.ownsRow base t z v n xs) (h' : w.ownsRow base' t' z' v' n' xs') (ht : t ≠ t') : ∀ c, v.ownBlock = some c → v'.ownBlock ≠ some c := by
 intro c hc hc'
 rcases h.2 with ⟨rfl, _⟩ | ⟨g, cap, cur, rfl, _, hg, _⟩
 ·simp [Value.ownBlock] at hc
 ·rcases h'.2 with ⟨rfl, _⟩ | ⟨g', cap', cur', rfl, _, hg', _⟩
  ·simp [Value.ownBlock] at hc'
  ·have e1 : g = c := Option.some.inj hc
   have e2 : g' = c := Option.some.inj hc'
   subst e1
   subst e2
   rw [hg] at hg'
   have := Option.some.inj hg'
   simp only [Obj.cells.injEq] at this
   exact ht this.2.1
end P
end Go.Proofs.YtbdbpfcblppnbaaGreatDoor.Vx
namespace Go.Proofs.YtbdbpfcblppnbaaGreatDoor.Vx
open Go.RowKit
namespace P
theorem nrow {base cap : Nat} {w w2 : World} {an : Option Addr} {N : List ByteArray} (h : w.ownsRow base 9 1 (.slice an N.length cap) N.length (N.map Value.string)) (hw : ∀ c, base ≤ c ∧ c < w.heap.size → w2.heap[c]? = w.heap[c]?) :
  V.Row w2 (.slice an N.length cap) N.length 1 (fun i c => ∃ x, N[i]? = some x ∧ c = [.string x]) := by
 rcases h.2 with ⟨hv, hn⟩ | ⟨g, cap', cur, hv, hg, hh, hnc, _, hcs, htk⟩
 ·exact ⟨_, _, rfl, .inl hn⟩
 ·simp only [Value.slice.injEq, true_and] at hv
  obtain ⟨rfl, rfl⟩ := hv
  have hlt := (blt hh)
  have hg2 := (hw g ⟨hg, hlt⟩).trans hh
  refine ⟨_, _, rfl, .inr ⟨g, 0, rfl, fun i hi => ⟨[.string N[i]], rfl, fun j hj => ?_, N[i], List.getElem?_eq_getElem hi, rfl⟩⟩⟩
  have hj0 : j = 0 := by omega
  subst hj0
  rw [cell_of_row w2 g _ cur 9 (0, 0) hg2]
  have h3 : (N.map Value.string)[i]? = some (.string N[i]) := by rw [List.getElem?_map, List.getElem?_eq_getElem hi]; rfl
  rw [← htk, List.getElem?_take, if_pos (by omega), Array.getElem?_toList] at h3
  rw [show 0 + i * 1 + 0 = i by omega, h3]
  rfl
theorem arow {base d cap : Nat} {D : Nat → Prop} {w w2 : World} {ao : Option Addr} {L : List (Ex × List Value)} (ten : ∀ x ∈ L, x.2.length = 10) (own : w.ownsRow base 57 10 (.slice ao L.length cap) L.length (L.flatMap (fun x => x.2)))
  (hD : ∀ c, base ≤ c ∧ c < w.heap.size → D c) (mem : ∀ x ∈ L, X.MemD D d w x.1 x.2) (hw : ∀ c, D c → w2.heap[c]? = w.heap[c]?) :
  V.Row w2 (.slice ao L.length cap) (L.map (·.1)).length 10 (fun i c => ∃ x, (L.map (·.1))[i]? = some x ∧ X.Mem d w2 x c) := by
 rcases own.2 with ⟨hv, hn⟩ | ⟨g, cap', cur, hv, hg, hh, hnc, _, hcs, htk⟩
 ·have hL : L = [] := List.length_eq_zero_iff.1 hn
  subst hL
  exact ⟨_, _, rfl, .inl rfl⟩
 ·simp only [Value.slice.injEq, true_and] at hv
  obtain ⟨rfl, rfl⟩ := hv
  have hlt := (blt hh)
  refine X.rowD (l := L) hh (fun i x hx => ?_) mem (hD g ⟨hg, hlt⟩) hw
  obtain ⟨h1, h2⟩ := flat_at L ten i x hx
  refine ⟨h1, fun j hj => ?_⟩
  have hi : i < L.length := (List.getElem?_eq_some_iff.1 hx).1
  have h3 := h2 j hj
  rw [← htk, List.getElem?_toArray, List.getElem?_take, if_pos (by omega), Array.getElem?_toList] at h3
  exact h3
theorem growF_node {base d : Nat} {w : World} {an ao : Option Addr} {capn cap : Nat} {N : List ByteArray} {L : List (Ex × List Value)} (h : GrowF base d w (.slice an N.length capn) (.slice ao L.length cap) N L) (k : Int) (s t : ByteArray) :
  X.MemD (fun c => base ≤ c ∧ c < w.heap.size) (d + 1) w ⟨k, V.zero, s, t, L.map (·.1), N⟩ (xc k V.zero s t ao L.length cap an N.length capn) :=
 fun w2 hw => ⟨_, _, _, _, _, _, _, rfl, vmem d w2 0 0 ⟨#[]⟩, arow h.ten h.own (fun _ h => h) (fun x hx => (h.mem x hx).to (fun _ _ => rfl) (fun _ hc => ⟨hc.1, hc.2.1⟩)) hw, nrow h.ownN hw⟩
def nbox (an : Option Addr) (n cap : Nat) : Obj := .cells #[.slice an n cap] 55 (0, 0)
def lbox (ao : Option Addr) (n cap : Nat) : Obj := .cells #[.slice ao n cap] 54 (0, 0)
structure ItF (w1 : World) (R Bn Bl d M : Nat) (ts : List K) (acc : List (ByteArray × Ex)) (w : World) : Prop where
 fr : Fr w1 w (fun c => c = R ∨ c = Bn ∨ c = Bl)
 rdr : Rdr R w ts
 row : ∃ an capn ao cap N L, acc.map (·.1) = N ∧ acc.map (·.2) = L.map (fun x : Ex × List Value => x.1) ∧ w.heap[Bn]? = some (nbox an N.length capn) ∧ w.heap[Bl]? = some (lbox ao L.length cap) ∧
  GrowF w1.heap.size d w (.slice an N.length capn) (.slice ao L.length cap) N L
 bulk : 2 * acc.length + X.sumN (acc.map (·.1)) + X.sumA (X.bulk d) (acc.map (·.2)) + 60 * ts.length ≤ M
 len : acc.length + ts.length ≤ 4200
def ItFBad (w1 : World) (R Bn Bl : Nat) (w : World) : Prop := Fr w1 w (fun c => c = R ∨ c = Bn ∨ c = Bl) ∧ (∃ ts', Rdr R w ts') ∧ (∃ an n cap, w.heap[Bn]? = some (nbox an n cap)) ∧ ∃ ao n cap, w.heap[Bl]? = some (lbox ao n cap)
theorem ItF.move {w1 : World} {R Bn Bl d M : Nat} {ts ts' : List K} {acc : List (ByteArray × Ex)} {w w' : World} (h : ItF w1 R Bn Bl d M ts acc w) (hR : R < w1.heap.size) (hBn : Bn ≠ R) (hBl : Bl ≠ R) (hf : Fr w w' (fun c => c = R)) (hl : ts'.length ≤ ts.length) (hr : Rdr R w' ts') : ItF w1 R Bn Bl d M ts' acc w' := by
 obtain ⟨an, capn, ao, cap, N, L, e1, e2, hb1, hb2, hg⟩ := h.row
 exact ⟨h.fr.trans hf (fun _ _ e => .inl e), hr, ⟨an, capn, ao, cap, N, L, e1, e2, (hf.block Bn (blt hb1) hBn).trans hb1, (hf.block Bl (blt hb2) hBl).trans hb2, hg.fr hf (fun c e => by omega)⟩, by have := h.bulk; omega, by have := h.len; omega⟩
theorem ItF.bad {w1 : World} {R Bn Bl d M : Nat} {ts ts' : List K} {acc : List (ByteArray × Ex)} {w w' : World} (h : ItF w1 R Bn Bl d M ts acc w) (hBn : Bn ≠ R) (hBl : Bl ≠ R) (hf : Fr w w' (fun c => c = R)) (hr : Rdr R w' ts') : ItFBad w1 R Bn Bl w' := by
 obtain ⟨an, capn, ao, cap, N, L, e1, e2, hb1, hb2, hg⟩ := h.row
 exact ⟨h.fr.trans hf (fun _ _ e => .inl e), ⟨_, hr⟩, ⟨an, _, capn, (hf.block Bn (blt hb1) hBn).trans hb1⟩, ⟨ao, _, cap, (hf.block Bl (blt hb2) hBl).trans hb2⟩⟩
end P
end Go.Proofs.YtbdbpfcblppnbaaGreatDoor.Vx
