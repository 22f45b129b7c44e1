/- StateSays: TE TH TI. -/
import Derived.Test.YtcekcfjabhlheaaGreatDoorTC
import Derived.Test.YtcekcfjabhlheaaGreatDoorUO
import Derived.Test.YtcekcfjabhlheaaGreatDoorTB
import Derived.Test.YtcekcfjabhlheaaGreatDoorTG
import Derived.Test.YtcekcfjabhlheaaGreatDoorUD
import Derived.Test.YtcekcfjabhlheaaGreatDoorUC
set_option maxRecDepth 100000
set_option maxHeartbeats 12800000
namespace Go.Proofs.YtcekcfjabhlheaaGreatDoor.Vx
open Go.RowKit
theorem heldFault_any (m : Nat) (w : World) (h : Hd) (a0 a1 a2 a3 a4 : Value) (hm : V.Mem m w h.v [a0, a1, a2, a3, a4]) (hbk : V.bulk m h.v <= 2000000) (hn : h.name.size <= maxLen) (hk : h.kind.size <= maxLen) :
  Calls Tryz.prog 31 #[.agg #[.string h.name, .string h.kind, .int .i64 h.id, a0, a1, a2, a3, a4]] w fun o w' => o = .returned (.int .i64 (S.faultH m h)) /\ Below w.heap.size w w' := by
 obtain ⟨al, ll, cl, af, lf, cf, hcs⟩ := S.Mem.form hm;obtain ⟨rfl, rfl, rfl, rfl, rfl⟩ := ij5 hcs;have hb0 : Below w.heap.size w (w.alloc (.cells #[.string h.name, .string h.kind, .int .i64 h.id, .int .i64 h.v.kind, .int .i64 h.v.n, .string h.v.s, .slice al ll cl, .slice af lf cf] 63)) := ba;have hA := heap_alloc_new w (.cells #[.string h.name, .string h.kind, .int .i64 h.id, .int .i64 h.v.kind, .int .i64 h.v.n, .string h.v.s, .slice al ll cl, .slice af lf cf] 63);have HB0 := hide hb0;have HCK := hide (fault_any m _ h.v _ _ _ _ _ (V.Mem.kept m hm hb0) hbk);have HF : Hid (S.faultH m h = if V.name (V.bl h.name) = true /\ V.name (V.bl h.kind) = true /\ 0 <= h.id /\ h.v.kind = 5 then V.fault m h.v else 3) := rfl;obtain ⟨x0, x1, x2, x3, x4, x5, x6, x7⟩ := cl8 hA;have f0 := free_of_block hA;clear hA hb0 hm hbk;have HN1 := hide (fun w => nameMay_any h.name w hn);have HN2 := hide (fun w => nameMay_any h.kind w hk);clear hn hk;go_enter Tryz.func31, Tryz.ntmps31;go_wp2_with fail;refine (HN1.out _).mono ?_;rintro e w1 ⟨rfl, hw⟩;rw [hw];clear hw;go_wp2_with fail;refine (HN2.out _).mono ?_;rintro e w2 ⟨rfl, hw⟩;rw [hw];clear hw;cases hn1 : V.name (V.bl h.name)
 ·have E : Hid (S.faultH m h = 3) := HF.out.trans (if_neg (fun e => by rw [hn1] at e; exact absurd e.1 (by decide)));clear HF hn1 HN1 HN2 HCK;cases V.name (V.bl h.kind)
  ·go_wp2_with fail;go_ret;exact ⟨ret_val (by rw [E.out]; rfl), HB0.out⟩
  ·go_wp2_with fail;go_ret;exact ⟨ret_val (by rw [E.out]; rfl), HB0.out⟩
 ·cases hn2 : V.name (V.bl h.kind)
  ·have E : Hid (S.faultH m h = 3) := HF.out.trans (if_neg (fun e => by rw [hn2] at e; exact absurd e.2.1 (by decide)));clear HF hn1 hn2 HN1 HN2 HCK;go_wp2_with fail;go_ret;exact ⟨ret_val (by rw [E.out]; rfl), HB0.out⟩
  ·by_cases hid : h.id < 0
   ·have E : Hid (S.faultH m h = 3) := HF.out.trans (if_neg (fun e => by omega));clear HF hn1 hn2 HN1 HN2 HCK;go_wp2_with fail;go_ret;exact ⟨ret_val (by rw [E.out]; rfl), HB0.out⟩
   ·by_cases hkd : h.v.kind = 5
    ·have E : Hid (S.faultH m h = V.fault m h.v) := HF.out.trans (if_pos ⟨hn1, hn2, by omega, hkd⟩);clear HF hn1 hn2 HN1 HN2;have hd : (h.v.kind != 5) = false := by simp [hkd]
     clear hkd;go_wp2_with fail;refine HCK.out.mono ?_;rintro e w3 ⟨rfl, hb⟩;have HB3 := bt HB0 hb;clear hb;go_wp2_with fail;go_ret;exact ⟨ret_val (by rw [E.out]; rfl), HB3.out⟩
    ·have E : Hid (S.faultH m h = 3) := HF.out.trans (if_neg (fun e => hkd e.2.2.2));have hd : (h.v.kind != 5) = true := by simp [hkd]
     clear HF hn1 hn2 HN1 HN2 HCK hkd;go_wp2_with fail;go_ret;exact ⟨ret_val (by rw [E.out]; rfl), HB0.out⟩
theorem decPos_any (n : Int) (w : World) (h0 : 0 <= n) (h1 : n < 9223372036854775808) :
  Calls Tryz.prog 38 #[.int .i64 n] w fun e w' => (∃ s : ByteArray, e = .returned (.string s) /\ s = V.str (Lib.itoa n) /\ s.size <= 21) /\ Below w.heap.size w w' := by
 obtain ⟨k, rfl⟩ : ∃ k : Nat, n = k := ⟨n.toNat, by omega⟩
 refine (decAll_any k w (by omega)).mono ?_;rintro e w' ⟨⟨s, rfl, hs, hz⟩, hb⟩;exact ⟨⟨s, rfl, by rw [hs, Lib.itoa, if_neg (by omega)]; rfl, hz⟩, hb⟩
theorem refHeldText_any (m : Nat) (w : World) (h : Hd) (a0 a1 a2 a3 a4 : Value) (hm : V.Mem m w h.v [a0, a1, a2, a3, a4]) (hs : S.Small m h) (hi0 : 0 <= h.id) (hi1 : h.id < 9223372036854775808) (hf : V.fault m h.v = 0) :
  Calls Tryz.prog 39 #[.agg #[.string h.name, .string h.kind, .int .i64 h.id, a0, a1, a2, a3, a4]] w fun o w' => o = .returned (.string (V.str (S.heldText m h))) /\ Below w.heap.size w w' := by
 obtain ⟨al, ll, cl, af, lf, cf, hcs⟩ := S.Mem.form hm;obtain ⟨rfl, rfl, rfl, rfl, rfl⟩ := ij5 hcs;obtain ⟨s1, s2, s3⟩ := hs;have hb0 : Below w.heap.size w (w.alloc (.cells #[.string h.name, .string h.kind, .int .i64 h.id, .int .i64 h.v.kind, .int .i64 h.v.n, .string h.v.s, .slice al ll cl, .slice af lf cf] 63)) := ba;have hA := heap_alloc_new w (.cells #[.string h.name, .string h.kind, .int .i64 h.id, .int .i64 h.v.kind, .int .i64 h.v.n, .string h.v.s, .slice al ll cl, .slice af lf cf] 63);have hlt := (blt hA)
 have htl := fault_text hf s3;have hC1 : ∀ W : World, Below w.heap.size w W -> W.heap[w.heap.size]? = some (.cells #[.string h.name, .string h.kind, .int .i64 h.id, .int .i64 h.v.kind, .int .i64 h.v.n, .string h.v.s, .slice al ll cl, .slice af lf cf] 63 (0, 0)) -> Calls Tryz.prog 38 #[.int .i64 h.id] W fun e w3 =>
   (∃ t, e = .returned (.string t) /\ Hid (t = V.str (Lib.itoa h.id)) /\ t.size <= 25) /\ (w3.cell? ⟨w.heap.size, 0, none⟩ = some (.string h.name) /\ w3.cell? ⟨w.heap.size, 1, none⟩ = some (.string h.kind) /\ w3.cell? ⟨w.heap.size, 2, none⟩ = some (.int .i64 h.id) /\ w3.cell? ⟨w.heap.size, 3, none⟩ = some (.int .i64 h.v.kind) /\ w3.cell? ⟨w.heap.size, 4, none⟩ = some (.int .i64 h.v.n) /\ w3.cell? ⟨w.heap.size, 5, none⟩ = some (.string h.v.s) /\ w3.cell? ⟨w.heap.size, 6, none⟩ = some (.slice al ll cl) /\ w3.cell? ⟨w.heap.size, 7, none⟩ = some (.slice af lf cf)) /\ Hid (w3.heap[w.heap.size]? = some (.cells #[.string h.name, .string h.kind, .int .i64 h.id, .int .i64 h.v.kind, .int .i64 h.v.n, .string h.v.s, .slice al ll cl, .slice af lf cf] 63 (0, 0))) /\ Hid (Below w.heap.size w w3) := fun W hB hblk => by
  refine (decPos_any h.id W hi0 hi1).mono ?_;rintro e w3 ⟨⟨s, rfl, hse, hsz⟩, hb⟩;have hblk3 := (hb.block w.heap.size (blt hblk)).trans hblk;exact ⟨⟨_, rfl, hse, by omega⟩, ⟨cell_of_block hblk3 0 _ rfl, cell_of_block hblk3 1 _ rfl, cell_of_block hblk3 2 _ rfl, cell_of_block hblk3 3 _ rfl, cell_of_block hblk3 4 _ rfl, cell_of_block hblk3 5 _ rfl, cell_of_block hblk3 6 _ rfl, cell_of_block hblk3 7 _ rfl⟩, hblk3, hB.trans (hb.mono hB.size)⟩
 have hC2 : ∀ W : World, Below w.heap.size w W -> W.heap[w.heap.size]? = some (.cells #[.string h.name, .string h.kind, .int .i64 h.id, .int .i64 h.v.kind, .int .i64 h.v.n, .string h.v.s, .slice al ll cl, .slice af lf cf] 63 (0, 0)) -> Calls Tryz.prog 40 #[.agg #[.int .i64 h.v.kind, .int .i64 h.v.n, .string h.v.s, .slice al ll cl, .slice af lf cf]] W fun e w3 =>
   (∃ t, e = .returned (.string t) /\ Hid (t = V.str (V.text m h.v)) /\ t.size <= 80000000) /\ (w3.cell? ⟨w.heap.size, 0, none⟩ = some (.string h.name) /\ w3.cell? ⟨w.heap.size, 1, none⟩ = some (.string h.kind) /\ w3.cell? ⟨w.heap.size, 2, none⟩ = some (.int .i64 h.id) /\ w3.cell? ⟨w.heap.size, 3, none⟩ = some (.int .i64 h.v.kind) /\ w3.cell? ⟨w.heap.size, 4, none⟩ = some (.int .i64 h.v.n) /\ w3.cell? ⟨w.heap.size, 5, none⟩ = some (.string h.v.s) /\ w3.cell? ⟨w.heap.size, 6, none⟩ = some (.slice al ll cl) /\ w3.cell? ⟨w.heap.size, 7, none⟩ = some (.slice af lf cf)) /\ Hid (w3.heap[w.heap.size]? = some (.cells #[.string h.name, .string h.kind, .int .i64 h.id, .int .i64 h.v.kind, .int .i64 h.v.n, .string h.v.s, .slice al ll cl, .slice af lf cf] 63 (0, 0))) /\ Hid (Below w.heap.size w w3) := fun W hB hblk => by
  refine (refText_any m W h.v _ _ _ _ _ (V.Mem.kept m hm hB) (V.fault_ok m h.v hf) s3).mono ?_;rintro e w3 ⟨rfl, hb⟩;have hblk3 := (hb.block w.heap.size (blt hblk)).trans hblk;exact ⟨⟨_, rfl, rfl, by rw [str_size2]; exact htl⟩, ⟨cell_of_block hblk3 0 _ rfl, cell_of_block hblk3 1 _ rfl, cell_of_block hblk3 2 _ rfl, cell_of_block hblk3 3 _ rfl, cell_of_block hblk3 4 _ rfl, cell_of_block hblk3 5 _ rfl, cell_of_block hblk3 6 _ rfl, cell_of_block hblk3 7 _ rfl⟩, hblk3, hB.trans (hb.mono hB.size)⟩
 have HC1 := hide (fun k => hC1 ((w.alloc (.cells #[.string h.name, .string h.kind, .int .i64 h.id, .int .i64 h.v.kind, .int .i64 h.v.n, .string h.v.s, .slice al ll cl, .slice af lf cf] 63)).drewN k) (below_drewN hb0 k) hA);have HC2 := hide hC2;obtain ⟨x0, x1, x2, x3, x4, x5, x6, x7⟩ := cl8 hA;have q1 : ¬ 9223372036854775807 < h.kind.size + 1 := by omega
 have hs1 : (h.kind ++ (⟨#[32]⟩ : ByteArray)).size = h.kind.size + 1 := by rw [ByteArray.size_append]; rfl
 have q2 : ¬ 9223372036854775807 < h.kind.size + 1 + h.name.size := by omega
 have hs2 : (h.kind ++ (⟨#[32]⟩ : ByteArray) ++ h.name).size = h.kind.size + 1 + h.name.size := by rw [ByteArray.size_append, hs1]
 have q3 : ¬ 9223372036854775807 < h.kind.size + 1 + h.name.size + 1 := by omega
 have hs3 : (h.kind ++ (⟨#[32]⟩ : ByteArray) ++ h.name ++ (⟨#[32]⟩ : ByteArray)).size = h.kind.size + 1 + h.name.size + 1 := by rw [ByteArray.size_append, hs2]; rfl
 clear hC1 hC2 hA hb0 hm hf hi0 hi1 htl hlt;go_enter Tryz.func39, Tryz.ntmps39;go_wp2_with fail;generalize (w.alloc _) = wa at *;go_region_held3 (fun W => W.cell? ⟨w.heap.size, 0, none⟩ = some (.string h.name) /\ W.cell? ⟨w.heap.size, 1, none⟩ = some (.string h.kind) /\ W.cell? ⟨w.heap.size, 2, none⟩ = some (.int .i64 h.id) /\ W.cell? ⟨w.heap.size, 3, none⟩ = some (.int .i64 h.v.kind) /\ W.cell? ⟨w.heap.size, 4, none⟩ = some (.int .i64 h.v.n) /\ W.cell? ⟨w.heap.size, 5, none⟩ = some (.string h.v.s) /\ W.cell? ⟨w.heap.size, 6, none⟩ = some (.slice al ll cl) /\ W.cell? ⟨w.heap.size, 7, none⟩ = some (.slice af lf cf)) (go_keep)
  (first
   | (go_at_call 38; refine Calls.mono (HC1.out _) ?_; rintro e w3 ⟨⟨t, rfl, ht, htz⟩, ⟨t0, t1, t2, t3, t4, t5, t6, t7⟩, HK3', HB3⟩; have q4 : ¬ 9223372036854775807 < h.kind.size + 1 + h.name.size + 1 + t.size := (by omega); have hs4 : (h.kind ++ (⟨#[32]⟩ : ByteArray) ++ h.name ++ (⟨#[32]⟩ : ByteArray) ++ t).size = h.kind.size + 1 + h.name.size + 1 + t.size := (by rw [ByteArray.size_append, hs3]); have q5 : ¬ 9223372036854775807 < h.kind.size + 1 + h.name.size + 1 + t.size + 1 := (by omega); have hs5 : (h.kind ++ (⟨#[32]⟩ : ByteArray) ++ h.name ++ (⟨#[32]⟩ : ByteArray) ++ t ++ (⟨#[32]⟩ : ByteArray)).size = h.kind.size + 1 + h.name.size + 1 + t.size + 1 := (by rw [ByteArray.size_append, hs4]; rfl))
   | (go_at_call 40; refine Calls.mono (HC2.out _ HB3.out HK3'.out) ?_; rintro e w4 ⟨⟨u, rfl, hu, huz⟩, ⟨t0, t1, t2, t3, t4, t5, t6, t7⟩, HK4, HB4⟩; have q6 : ¬ 9223372036854775807 < h.kind.size + 1 + h.name.size + 1 + t.size + 1 + u.size := (by omega)))
 all_goals
  have E : Hid (h.kind ++ (⟨#[32]⟩ : ByteArray) ++ h.name ++ (⟨#[32]⟩ : ByteArray) ++ t ++ (⟨#[32]⟩ : ByteArray) ++ u = V.str (S.heldText m h)) := by
   show _ = _;refine bl_ext ?_;simp only [bl_append];rw [ht.out, hu.out, V.bl_str, V.bl_str, V.bl_str, S.heldText];simp [V.bl]
  have HB4' := hide HB4.out;clear t0 t1 t2 t3 t4 t5 t6 t7 q1 q2 q3 q4 q5 q6;go_wp2_with fail;go_ret;exact ⟨ret_val (by rw [<- E.out]; rfl), HB4'.out⟩
theorem byte_cases (c : UInt8) : (Dx.N.byte c = true /\ 97 <= c.toNat /\ c.toNat <= 122) \/ (Dx.N.byte c = true /\ 48 <= c.toNat /\ c.toNat <= 57) \/ (Dx.N.byte c = true /\ c.toNat = 46) \/ (Dx.N.byte c = false /\ c.toNat < 48 /\ c.toNat ≠ 46) \/ (Dx.N.byte c = false /\ 57 < c.toNat /\ c.toNat < 97) \/ (Dx.N.byte c = false /\ 122 < c.toNat) := by
 unfold Dx.N.byte Dx.N.letter Dx.N.digit;by_cases h1 : 97 <= c.toNat
 ·by_cases h2 : c.toNat <= 122
  ·exact .inl ⟨by simp [h1, h2], h1, h2⟩
  ·refine .inr (.inr (.inr (.inr (.inr ⟨?_, by omega⟩))));simp;omega
 ·by_cases h3 : 48 <= c.toNat
  ·by_cases h4 : c.toNat <= 57
   ·exact .inr (.inl ⟨by simp [h3, h4], h3, h4⟩)
   ·refine .inr (.inr (.inr (.inr (.inl ⟨?_, by omega, by omega⟩))));simp;omega
  ·by_cases h5 : c.toNat = 46
   ·exact .inr (.inr (.inl ⟨by simp [h5], h5⟩))
   ·refine .inr (.inr (.inr (.inl ⟨?_, by omega, h5⟩)));simp;omega
theorem stateFault_any (m : Nat) (w : World) (s : St) (c0 c1 c2 c3 : Value) (h : S.Mem m w s [c0, c1, c2, c3]) (hf : S.Few m s) :
  Calls Tryz.prog 14 #[.agg #[c0, c1, c2, c3]] w fun o w' => o = .returned (.int .i64 (S.fault m s)) /\ Below w.heap.size w w' := by
 obtain ⟨hv, iv, ov, hcs, hh, hi, ho, h64⟩ := h;obtain ⟨rfl, rfl, rfl, rfl⟩ := ij4 hcs;obtain ⟨ah, ch, rfl⟩ := V.Row.shape hh;obtain ⟨ai, ci, rfl⟩ := V.Row.shape hi;obtain ⟨ao, co, rfl⟩ := V.Row.shape ho;have hb0 : Below w.heap.size w (w.alloc (.cells #[.int .i64 s.serial, .slice ah s.held.length ch, .slice ai s.its.length ci, .slice ao s.outs.length co] 26)) := ba;have hA := heap_alloc_new w (.cells #[.int .i64 s.serial, .slice ah s.held.length ch, .slice ai s.its.length ci, .slice ao s.outs.length co] 26);have HLT := hide (blt hA);obtain ⟨HB0, HA⟩ := hd2 hb0 hA;have HE : Hid (S.fault m s = if s.serial < 0 \/ 1000000000 < s.serial then 1 else if 16 < s.held.length \/ 8 < s.its.length \/ 8 < s.outs.length then 2
  else if S.heldFault m s.held ≠ 0 then S.heldFault m s.held else if S.itFault m s.its ≠ 0 then S.itFault m s.its else S.outFault m s.outs) := rfl
 have HEH : Hid (S.heldFault m s.held = X.firstErr ((List.range s.held.length).map (S.heldF m s.held))) := rfl;have HEI : Hid (S.itFault m s.its = X.firstErr ((List.range s.its.length).map (S.itF m s.its))) := rfl;have HEO : Hid (S.outFault m s.outs = X.firstErr ((List.range s.outs.length).map (S.outF m s.outs))) := rfl;have HH := hide (S.HRow.kept hh hb0);have HI := hide (S.IRow.kept hi hb0);have HO := hide (S.ORow.kept ho hb0);obtain ⟨HSH, HSI, HSO⟩ := hd3 hf.held hf.its hf.outs;have f0 := free_of_block hA;obtain ⟨x0, x1, x2, x3⟩ := cl4 hA;generalize S.fault m s = F at *;generalize S.heldFault m s.held = FH at *;generalize S.itFault m s.its = FI at *;generalize S.outFault m s.outs = FO at *;clear hh hi ho hf hb0 hA h64;by_cases s1 : s.serial < 0
 ·have E : Hid (F = 1) := HE.out.trans (if_pos (.inl s1));clear HE;go_enter Tryz.func14, Tryz.ntmps14;go_wp2_with fail;go_ret;exact ⟨ret_val (by rw [E.out]; rfl), HB0.out⟩
 by_cases s2 : 1000000000 < s.serial
 ·have E : Hid (F = 1) := HE.out.trans (if_pos (.inr s2));clear HE;go_enter Tryz.func14, Tryz.ntmps14;go_wp2_with fail;go_ret;exact ⟨ret_val (by rw [E.out]; rfl), HB0.out⟩
 have HE2 := hide (HE.out.trans (if_neg (by omega)));clear HE;by_cases l1 : 16 < s.held.length
 ·have E : Hid (F = 2) := HE2.out.trans (if_pos (.inl l1));clear HE2;go_enter Tryz.func14, Tryz.ntmps14;go_wp2_with fail;go_ret;exact ⟨ret_val (by rw [E.out]; rfl), HB0.out⟩
 by_cases l2 : 8 < s.its.length
 ·have E : Hid (F = 2) := HE2.out.trans (if_pos (.inr (.inl l2)));clear HE2;go_enter Tryz.func14, Tryz.ntmps14;go_wp2_with fail;go_ret;exact ⟨ret_val (by rw [E.out]; rfl), HB0.out⟩
 by_cases l3 : 8 < s.outs.length
 ·have E : Hid (F = 2) := HE2.out.trans (if_pos (.inr (.inr l3)));clear HE2;go_enter Tryz.func14, Tryz.ntmps14;go_wp2_with fail;go_ret;exact ⟨ret_val (by rw [E.out]; rfl), HB0.out⟩
 have HE3 := hide (HE2.out.trans (if_neg (by omega)));clear HE2;go_enter Tryz.func14, Tryz.ntmps14;go_wp2_with fail;generalize (w.alloc _) = wa at *;have HR0 : Hid (Below wa.heap.size wa wa) := Below.refl _ _;go_loopw [3, 4] (fun vi _ wr => ∃ k : Nat, k <= s.held.length /\ vi = .int .i64 k /\ (∀ j, j < k -> S.heldF m s.held j = 0) /\ Below wa.heap.size wa wr)
  (fun vi _ _ => s.held.length - (intOf vi).toNat)
 case atStart => exact ⟨0, Nat.zero_le _, rfl, fun j hj => absurd hj (by omega), HR0.out⟩
 case round =>
  clear HR0 x0 x1 x2 x3 f0;obtain ⟨k, hk, rfl, hok, hB⟩ := hrel;obtain ⟨HOK, HB⟩ := hd2 hok hB;have hAr := (hB.block w.heap.size HLT.out).trans HA.out;have f0 := free_of_block hAr;have x1 := cell_of_block hAr 1 _ rfl;have x2 := cell_of_block hAr 2 _ rfl;have x3 := cell_of_block hAr 3 _ rfl;clear hok hAr;by_cases hlt : k < s.held.length
  ·obtain ⟨b, off, cap', x, a0, a1, a2, a3, a4, e1, hx, hm, hid64, y0, y1, y2, y3, y4, y5, y6, y7⟩ := S.elemH (HH.out.kept hB) k hlt;obtain ⟨rfl, _, rfl⟩ := Value.slice.inj e1;obtain ⟨z1, z2, z3⟩ := HSH.out x (List.mem_of_getElem? hx);obtain ⟨al, ll, cl, af, lf, cf, hcs⟩ := S.Mem.form hm;obtain ⟨rfl, rfl, rfl, rfl, rfl⟩ := ij5 hcs;have HCK := hide (heldFault_any m wr x _ _ _ _ _ hm z3 (by unfold maxLen; omega) (by unfold maxLen; omega));have HF : Hid (S.heldF m s.held k = if S.faultH m x ≠ 0 then S.faultH m x else if x.id = 0 \/ (k ≠ 0 /\ S.after (s.held[k - 1]?.map (·.name)) x.name = false) then 3 else 0) := by
    show _ = _;rw [S.heldF, hx]
   have HX := hide hx;clear hm hB hx hid64 z1 z2 z3;go_wp2_with fail;refine HCK.out.mono ?_;rintro o w2 ⟨rfl, hb2⟩;have HB2 := bt HB hb2;have HW2 := hide (HB0.out.trans (HB2.out.mono HB0.out.size));clear HCK hb2 x1 x2 x3 f0 y0 y1 y2 y3 y4 y5 y6 y7;obtain ⟨b2, off2, cap2, x', _, _, _, _, _, e2, hx', _, _, y0, _, y2, _⟩ := S.elemH (HH.out.kept HB2.out) k hlt;simp only [Value.slice.injEq, Option.some.injEq, Addr.mk.injEq] at e2;obtain ⟨⟨rfl, rfl, _⟩, _, rfl⟩ := e2;have hxx : x' = x := Option.some.inj (hx'.symm.trans HX.out);subst hxx;have hA2 := (HB2.out.block w.heap.size HLT.out).trans HA.out;have f0 := free_of_block hA2;have x1 := cell_of_block hA2 1 _ rfl;generalize S.faultH m x' = G at *;clear hA2 hx';by_cases hG : G = 0
   ·subst hG;have hF := HF.out;rw [if_neg (fun h => h rfl)] at hF;have HF2 := hide hF;clear hF HF;by_cases h0 : x'.id = 0
    ·have hd : (x'.id == 0) = true := by simp [h0]
     have EH : Hid (FH = 3) := HEH.out.trans (X.firstErr_at (k := k) (fun j hj => by rw [X.faults_get (by omega), HOK.out j hj]) (by rw [X.faults_get hlt, HF2.out, if_pos (.inl h0)]) (by decide));have E : Hid (F = 3) := by show _ = _; rw [HE3.out, EH.out]; rfl
     clear h0 HF2;go_wp2_with fail;go_quiet (fail)
     all_goals
      go_wp2_with fail;go_ret;exact ⟨ret_val (by rw [E.out]; rfl), below_drewN HW2.out _⟩
    ·have hd : (x'.id == 0) = false := by simp [h0]
     by_cases hk0 : k = 0
     ·have hF0 : S.heldF m s.held k = 0 := by rw [HF2.out, if_neg (fun h => h.elim h0 (fun h => h.1 hk0))]
      have HF0 := hide hF0;clear h0 HF2 hF0;subst hk0;simp only [Nat.zero_mul, Nat.add_zero] at y0 y2;go_wp2_with fail;go_quiet (fail)
      all_goals
       go_wp2_with fail;go_roundw
       case rel => exact ⟨1, by omega, by go_num, fun j hj => by rw [show j = 0 by omega]; exact HF0.out, below_drewN HB2.out _⟩
       case measure => simp [intOf]; omega
     ·obtain ⟨k', rfl⟩ : ∃ k', k = k' + 1 := ⟨k - 1, by omega⟩
      obtain ⟨b', off', cap', y, _, _, _, _, _, e1, hy, _, _, zn, _⟩ := S.elemH (HH.out.kept HB2.out) k' (by omega);simp only [Value.slice.injEq, Option.some.injEq, Addr.mk.injEq] at e1;obtain ⟨⟨rfl, rfl, _⟩, _, rfl⟩ := e1;have hF := HF2.out;rw [show k' + 1 - 1 = k' from rfl, hy] at hF;have gk : decide (0 < ((k' + 1 : Nat) : Int)) = true := decide_eq_true (by omega);have hfl := less_flip (V.bl x'.name) (V.bl y.name);clear hy HF2;cases hls : Op.bytesLess (V.bl y.name) (V.bl x'.name)
      ·have EH : Hid (FH = 3) := HEH.out.trans (X.firstErr_at (k := k' + 1) (fun j hj => by rw [X.faults_get (by omega), HOK.out j hj]) (by rw [X.faults_get hlt, hF, if_pos (.inr ⟨by omega, hls⟩)]) (by decide));have E : Hid (F = 3) := by show _ = _; rw [HE3.out, EH.out]; rfl
       rw [hls, <- V.toList_bl, <- V.toList_bl] at hfl;clear hF hls h0;go_wp2_with fail;go_quiet (fail)
       all_goals
        go_wp2_with fail;go_ret;exact ⟨ret_val (by rw [E.out]; rfl), below_drewN HW2.out _⟩
      ·have hF0 : S.heldF m s.held (k' + 1) = 0 := by
        rw [hF, if_neg (fun h => h.elim h0 (fun h => by have h2 : Op.bytesLess (V.bl y.name) (V.bl x'.name) = false := h.2; rw [hls] at h2; exact absurd h2 (by decide)))]
       have HF0 := hide hF0;rw [hls, <- V.toList_bl, <- V.toList_bl] at hfl;clear hF hF0 hls h0;go_wp2_with fail;go_quiet (fail)
       all_goals
        go_wp2_with fail;go_roundw
        case rel =>
         refine ⟨k' + 1 + 1, by omega, by go_num, fun j hj => ?_, below_drewN HB2.out _⟩;by_cases e : j = k' + 1
         ·rw [e]; exact HF0.out
         ·exact HOK.out j (by omega)
        case measure => simp [intOf]; omega
   ·have EH : Hid (FH = G) := HEH.out.trans (X.firstErr_at (k := k) (fun j hj => by rw [X.faults_get (by omega), HOK.out j hj]) (by rw [X.faults_get hlt, HF.out, if_pos hG]) hG);have E : Hid (F = G) := by show _ = _; rw [HE3.out, EH.out, if_pos hG]
    have gG : decide ((0 : Int) < (G : Int)) = true := decide_eq_true (by omega);clear HF;go_wp2_with fail;go_ret;exact ⟨ret_val (by rw [E.out]; rfl), HW2.out⟩
  ·have EH : Hid (FH = 0) := HEH.out.trans (X.firstErr_none (fun j hj => by
    have hj' : j < s.held.length := by simpa using hj
    rw [X.faults_get hj', HOK.out j (by omega)]))
   have HE4 : Hid (F = if FI ≠ 0 then FI else FO) := by show _ = _; rw [HE3.out, if_neg (fun h => h EH.out)]
   clear hB HE3 EH HEH HOK HH HSH;go_wp2_with fail;go_loopw [5, 6, 7, 8, 9] (fun vi _ _ _ _ wr => ∃ k : Nat, k <= s.its.length /\ vi = .int .i64 k /\ (∀ j, j < k -> S.itF m s.its j = 0) /\ Below wa.heap.size wa wr)
    (fun vi _ _ _ _ _ => s.its.length - (intOf vi).toNat)
   case atStart => exact ⟨0, Nat.zero_le _, rfl, fun j hj => absurd hj (by omega), HB.out⟩
   case round =>
    clear HB x1 x2 x3 f0 hlt hk;obtain ⟨k, hk, rfl, hok, hB⟩ := hrel;obtain ⟨HOK, HB⟩ := hd2 hok hB;have hAr := (hB.block w.heap.size HLT.out).trans HA.out;have f0 := free_of_block hAr;have x2 := cell_of_block hAr 2 _ rfl;have x3 := cell_of_block hAr 3 _ rfl;clear hok hAr;by_cases hlt : k < s.its.length
    ·obtain ⟨b, off, cap', x, a0, a1, a2, a3, a4, e1, hx, hm, hid64, ho64, y0, y1, y2, y3, y4, y5, y6, y7, y8, y9⟩ := S.elemI (HI.out.kept hB) k hlt;obtain ⟨rfl, _, rfl⟩ := Value.slice.inj e1;obtain ⟨⟨z1, z2, z3⟩, z4⟩ := HSI.out x (List.mem_of_getElem? hx);obtain ⟨al, ll, cl, af, lf, cf, hcs⟩ := S.Mem.form hm;obtain ⟨rfl, rfl, rfl, rfl, rfl⟩ := ij5 hcs;have HCK := hide (heldFault_any m wr x.h _ _ _ _ _ hm z3 (by unfold maxLen; omega) (by unfold maxLen; omega));have HF : Hid (S.itF m s.its k = if S.faultH m x.h ≠ 0 then S.faultH m x.h else if x.op < 1 \/ 3 < x.op \/ Dx.N.upto 36 x.token = false then 3 else 0) := by
      show _ = _;rw [S.itF, hx]
     obtain ⟨HX, HZ4⟩ := hd2 hx z4;clear hm hB hx hid64 ho64 z1 z2 z3 z4;go_wp2_with fail;refine HCK.out.mono ?_;rintro o w2 ⟨rfl, hb2⟩;have HB2 := bt HB hb2;have HW2 := hide (HB0.out.trans (HB2.out.mono HB0.out.size));clear HCK hb2 x2 x3 f0 y0 y1 y2 y3 y4 y5 y6 y7 y8 y9;obtain ⟨b2, off2, cap2, x', _, _, _, _, _, e2, hx', _, _, _, y0, _, _, _, _, _, _, _, _, y9⟩ := S.elemI (HI.out.kept HB2.out) k hlt;simp only [Value.slice.injEq, Option.some.injEq, Addr.mk.injEq] at e2;obtain ⟨⟨rfl, rfl, _⟩, _, rfl⟩ := e2;have hxx : x' = x := Option.some.inj (hx'.symm.trans HX.out);subst hxx;have hA2 := (HB2.out.block w.heap.size HLT.out).trans HA.out;have f0 := free_of_block hA2;have x2 := cell_of_block hA2 2 _ rfl;generalize S.faultH m x'.h = G at *;clear hA2 hx';by_cases hG : G = 0
     ·subst hG;have hF := HF.out;rw [if_neg (fun h => h rfl)] at hF;have HF2 := hide hF;clear hF HF;have hz4 := HZ4.out;by_cases ht0 : x'.token.size = 0
      ·have EH : Hid (FI = 3) := HEI.out.trans (X.firstErr_at (k := k) (fun j hj => by rw [X.faults_get (by omega), HOK.out j hj]) (by rw [X.faults_get hlt, HF2.out, if_pos (.inr (.inr (by rw [Dx.N.upto, decide_eq_false (by omega : ¬ 1 <= x'.token.size)]; rfl)))]) (by decide));have E : Hid (F = 3) := by show _ = _; rw [HE4.out, EH.out]; rfl
       clear HF2;go_wp2_with fail;go_loop [9, 8] (fun vi vok => vi = .int .i64 (0 : Nat) /\ vok = .bool false) (fun _ _ => 0)
       case atStart => exact ⟨rfl, rfl⟩
       case round =>
        obtain ⟨rfl, rfl⟩ := hrel;go_wp2_with fail;go_ret;exact ⟨ret_val (by rw [E.out]; rfl), HW2.out⟩
      ·have HU0 : Hid (Dx.N.upto 36 x'.token = (decide (x'.token.size <= 36) && Dx.N.from_ ((Dx.N.bl x'.token).drop 0))) := by
        show _ = _;rw [Dx.N.upto, decide_eq_true (by omega : 1 <= x'.token.size)];rfl
       have gt0 : decide ((0 : Int) < (x'.token.size : Int)) = true := decide_eq_true (by omega);have ge : decide ((x'.token.size : Int) <= 36) = decide (x'.token.size <= 36) := decide_eq_decide.2 (by omega);go_wp2_with fail;go_loop [9, 8] (fun vi vok => ∃ (j : Nat) (b : Bool), j <= x'.token.size /\ vi = .int .i64 j /\ vok = .bool b /\ Dx.N.upto 36 x'.token = (b && Dx.N.from_ ((Dx.N.bl x'.token).drop j))) (fun vi _ => x'.token.size - (intOf vi).toNat)
       case atStart => exact ⟨0, _, Nat.zero_le _, rfl, rfl, HU0.out⟩
       case round =>
        clear HU0 ge gt0;obtain ⟨j, bb, hj, rfl, rfl, hq⟩ := hrel;by_cases hjt : j < x'.token.size
        ·rw [Dx.N.bl_drop x'.token j hjt, Dx.N.from_] at hq;cases bb with
         | false =>
          have HQ := hide hq;clear hq;go_wp2_with fail;go_round
          case rel => exact ⟨j + 1, false, by omega, by go_num, rfl, HQ.out⟩
          case measure => simp [intOf]; omega
         | true =>
          rcases byte_cases x'.token[j] with ⟨hc, d1, d2⟩ | ⟨hc, d1, d2⟩ | ⟨hc, d1⟩ | ⟨hc, d1, d2⟩ | ⟨hc, d1, d2⟩ | ⟨hc, d1⟩
          ·rw [hc] at hq;have HQ := hide hq;clear hq hc;go_wp2_with fail;go_round
           case rel => exact ⟨j + 1, true, by omega, by go_num, rfl, HQ.out⟩
           case measure => simp [intOf]; omega
          ·rw [hc] at hq;have HQ := hide hq;clear hq hc;go_wp2_with fail;go_round
           case rel => exact ⟨j + 1, true, by omega, by go_num, rfl, HQ.out⟩
           case measure => simp [intOf]; omega
          ·rw [hc] at hq;have HQ := hide hq;have gk : ((x'.token[j].toNat : Int) == 46) = true := by simp; omega
           have gd1 : decide ((97 : Int) <= (x'.token[j].toNat : Int)) = false := by simp; omega
           have gd2 : decide ((48 : Int) <= (x'.token[j].toNat : Int)) = false := by simp; omega
           clear hq hc d1;go_wp2_with fail;go_round
           case rel => exact ⟨j + 1, true, by omega, by go_num, rfl, HQ.out⟩
           case measure => simp [intOf]; omega
          ·rw [hc] at hq;have HQ := hide hq;have gk : ((x'.token[j].toNat : Int) == 46) = false := by simp; omega
           have gd1 : decide ((97 : Int) <= (x'.token[j].toNat : Int)) = false := by simp; omega
           have gd2 : decide ((48 : Int) <= (x'.token[j].toNat : Int)) = false := by simp; omega
           clear hq hc d1 d2;go_wp2_with fail;go_round
           case rel => exact ⟨j + 1, false, by omega, by go_num, rfl, HQ.out⟩
           case measure => simp [intOf]; omega
          ·rw [hc] at hq;have HQ := hide hq;have gk : ((x'.token[j].toNat : Int) == 46) = false := by simp; omega
           have gd1 : decide ((97 : Int) <= (x'.token[j].toNat : Int)) = false := by simp; omega
           have gd2 : decide ((48 : Int) <= (x'.token[j].toNat : Int)) = true := by simp; omega
           have gd3 : decide ((x'.token[j].toNat : Int) <= 57) = false := by simp; omega
           clear hq hc d1 d2;go_wp2_with fail;go_round
           case rel => exact ⟨j + 1, false, by omega, by go_num, rfl, HQ.out⟩
           case measure => simp [intOf]; omega
          ·rw [hc] at hq;have HQ := hide hq;have gk : ((x'.token[j].toNat : Int) == 46) = false := by simp; omega
           have gd1 : decide ((97 : Int) <= (x'.token[j].toNat : Int)) = true := by simp; omega
           have gd4 : decide ((x'.token[j].toNat : Int) <= 122) = false := by simp; omega
           have gd2 : decide ((48 : Int) <= (x'.token[j].toNat : Int)) = true := by simp; omega
           have gd3 : decide ((x'.token[j].toNat : Int) <= 57) = false := by simp; omega
           clear hq hc d1;go_wp2_with fail;go_round
           case rel => exact ⟨j + 1, false, by omega, by go_num, rfl, HQ.out⟩
           case measure => simp [intOf]; omega
        ·rw [Dx.N.bl_drop_end x'.token j hjt, Dx.N.from_, Bool.and_true] at hq;cases bb with
         | false =>
          have EH : Hid (FI = 3) := HEI.out.trans (X.firstErr_at (k := k) (fun j hj => by rw [X.faults_get (by omega), HOK.out j hj]) (by rw [X.faults_get hlt, HF2.out, if_pos (.inr (.inr hq))]) (by decide));have E : Hid (F = 3) := by show _ = _; rw [HE4.out, EH.out]; rfl
          clear HF2 hq;go_wp2_with fail;go_ret;exact ⟨ret_val (by rw [E.out]; rfl), HW2.out⟩
         | true =>
          by_cases h1 : x'.op < 1
          ·have EH : Hid (FI = 3) := HEI.out.trans (X.firstErr_at (k := k) (fun j hj => by rw [X.faults_get (by omega), HOK.out j hj]) (by rw [X.faults_get hlt, HF2.out, if_pos (.inl h1)]) (by decide));have E : Hid (F = 3) := by show _ = _; rw [HE4.out, EH.out]; rfl
           clear HF2 hq;go_wp2_with fail;go_ret;exact ⟨ret_val (by rw [E.out]; rfl), HW2.out⟩
          ·by_cases h3 : 3 < x'.op
           ·have EH : Hid (FI = 3) := HEI.out.trans (X.firstErr_at (k := k) (fun j hj => by rw [X.faults_get (by omega), HOK.out j hj]) (by rw [X.faults_get hlt, HF2.out, if_pos (.inr (.inl h3))]) (by decide));have E : Hid (F = 3) := by show _ = _; rw [HE4.out, EH.out]; rfl
            clear HF2 hq;go_wp2_with fail;go_ret;exact ⟨ret_val (by rw [E.out]; rfl), HW2.out⟩
           ·have hF0 : S.itF m s.its k = 0 := by rw [HF2.out, if_neg (fun h => h.elim h1 (fun h => h.elim h3 (fun h => by rw [hq] at h; exact absurd h (by decide))))]
            have HF0 := hide hF0;clear HF2 hF0 hq;go_wp2_with fail;go_roundw
            case rel =>
             refine ⟨k + 1, by omega, by go_num, fun j hj => ?_, HB2.out⟩;by_cases e : j = k
             ·rw [e]; exact HF0.out
             ·exact HOK.out j (by omega)
            case measure => simp [intOf]; omega
     ·have EH : Hid (FI = G) := HEI.out.trans (X.firstErr_at (k := k) (fun j hj => by rw [X.faults_get (by omega), HOK.out j hj]) (by rw [X.faults_get hlt, HF.out, if_pos hG]) hG);have E : Hid (F = G) := by show _ = _; rw [HE4.out, EH.out, if_pos hG]
      have gG : decide ((0 : Int) < (G : Int)) = true := decide_eq_true (by omega);clear HF;go_wp2_with fail;go_ret;exact ⟨ret_val (by rw [E.out]; rfl), HW2.out⟩
    ·have EH : Hid (FI = 0) := HEI.out.trans (X.firstErr_none (fun j hj => by
      have hj' : j < s.its.length := by simpa using hj
      rw [X.faults_get hj', HOK.out j (by omega)]))
     have HE5 : Hid (F = FO) := by show _ = _; rw [HE4.out, if_neg (fun h => h EH.out)]
     clear hB HE4 EH HEI HOK HI HSI;go_wp2_with fail;go_loopw [10, 11, 12] (fun vi _ _ wr => ∃ k : Nat, k <= s.outs.length /\ vi = .int .i64 k /\ (∀ j, j < k -> S.outF m s.outs j = 0) /\ Below wa.heap.size wa wr)
      (fun vi _ _ _ => s.outs.length - (intOf vi).toNat)
     case atStart => exact ⟨0, Nat.zero_le _, rfl, fun j hj => absurd hj (by omega), HB.out⟩
     case round =>
      clear HB x2 x3 f0 hlt hk;obtain ⟨k, hk, rfl, hok, hB⟩ := hrel;obtain ⟨HOK, HB⟩ := hd2 hok hB;have HWR := hide (HB0.out.trans (HB.out.mono HB0.out.size));have hAr := (hB.block w.heap.size HLT.out).trans HA.out;have f0 := free_of_block hAr;have x3 := cell_of_block hAr 3 _ rfl;clear hok hAr;by_cases hlt : k < s.outs.length
      ·obtain ⟨b, off, cap', x, a0, a1, a2, a3, a4, e1, hx, hm, y0, y1, y2, y3, y4, y5⟩ := S.elemO (HO.out.kept hB) k hlt;obtain ⟨rfl, _, rfl⟩ := Value.slice.inj e1;obtain ⟨z1, z3⟩ := HSO.out x (List.mem_of_getElem? hx);obtain ⟨al, ll, cl, af, lf, cf, hcs⟩ := S.Mem.form hm;obtain ⟨rfl, rfl, rfl, rfl, rfl⟩ := ij5 hcs;have HCK := hide (fun n => fault_any m (wr.drewN n) x.2 _ _ _ _ _ (V.Mem.kept m hm (below_drewN (Below.refl _ _) n)) z3);have HNC := hide (fun w => nameMay_any x.1 w (by unfold maxLen; omega));have HF : Hid (S.outF m s.outs k = if V.name (V.bl x.1) = false \/ (k ≠ 0 /\ S.after (s.outs[k - 1]?.map (·.1)) x.1 = false) then 3 else V.fault m x.2) := by
        show _ = _;rw [S.outF, hx]
       clear hm hx z1 z3;generalize V.fault m x.2 = G at *;go_wp2_with fail;refine (HNC.out _).mono ?_;rintro o w2 ⟨rfl, hw2⟩;rw [hw2];clear hw2;cases hn : V.name (V.bl x.1)
       ·have EH : Hid (FO = 3) := HEO.out.trans (X.firstErr_at (k := k) (fun j hj => by rw [X.faults_get (by omega), HOK.out j hj]) (by rw [X.faults_get hlt, HF.out, if_pos (.inl hn)]) (by decide));have E : Hid (F = 3) := HE5.out.trans EH.out;clear hn HF HCK hB;go_wp2_with fail;go_quiet (fail)
        all_goals
         go_wp2_with fail;go_ret;exact ⟨ret_val (by rw [E.out]; rfl), below_drewN HWR.out _⟩
       ·by_cases hk0 : k = 0
        ·have hF0 : S.outF m s.outs k = G := by rw [HF.out, if_neg (fun h => h.elim (fun h => by rw [hn] at h; exact absurd h (by decide)) (fun h => h.1 hk0))]
         have HF0 := hide hF0;clear hn HF hF0 hB;subst hk0;simp only [Nat.zero_mul, Nat.add_zero] at y0 y1 y2 y3 y4 y5;by_cases hG : G = 0
         ·subst hG;go_wp2_with fail;go_quiet (fail)
          all_goals
           go_wp2_with fail;refine (HCK.out _).mono ?_;rintro o w2 ⟨rfl, hb2⟩;have HB2 := hide (HB.out.trans (((below_drewN (Below.refl _ _) _).trans hb2).mono HB.out.size));clear hb2;go_wp2_with fail;go_roundw
           case rel =>
            refine ⟨(0) + 1, by omega, by go_num, fun j hj => ?_, HB2.out⟩;by_cases e : j = (0)
            ·rw [e]; exact HF0.out
            ·exact HOK.out j (by omega)
           case measure => simp [intOf]; omega
         ·have EH : Hid (FO = G) := HEO.out.trans (X.firstErr_at (k := 0) (fun j hj => by rw [X.faults_get (by omega), HOK.out j hj]) (by rw [X.faults_get hlt, HF0.out]) hG);have E : Hid (F = G) := HE5.out.trans EH.out;have gG : decide ((0 : Int) < (G : Int)) = true := decide_eq_true (by omega);go_wp2_with fail;go_quiet (fail)
          all_goals
           go_wp2_with fail;refine (HCK.out _).mono ?_;rintro o w2 ⟨rfl, hb2⟩;have HB2 := hide (HWR.out.trans (((below_drewN (Below.refl _ _) _).trans hb2).mono HWR.out.size));clear hb2;go_wp2_with fail;go_ret;exact ⟨ret_val (by rw [E.out]; rfl), HB2.out⟩
        ·obtain ⟨k', rfl⟩ : ∃ k', k = k' + 1 := ⟨k - 1, by omega⟩
         obtain ⟨b', off', cap', y, _, _, _, _, _, e1, hy, _, zn, _⟩ := S.elemO (HO.out.kept hB) k' (by omega);simp only [Value.slice.injEq, Option.some.injEq, Addr.mk.injEq] at e1;obtain ⟨⟨rfl, rfl, _⟩, _, rfl⟩ := e1;have hF := HF.out;rw [show k' + 1 - 1 = k' from rfl, hy] at hF;have gk : decide (0 < ((k' + 1 : Nat) : Int)) = true := decide_eq_true (by omega);have hfl := less_flip (V.bl x.1) (V.bl y.1);clear hy HF hB;cases hls : Op.bytesLess (V.bl y.1) (V.bl x.1)
         ·have EH : Hid (FO = 3) := HEO.out.trans (X.firstErr_at (k := k' + 1) (fun j hj => by rw [X.faults_get (by omega), HOK.out j hj]) (by rw [X.faults_get hlt, hF, if_pos (.inr ⟨by omega, hls⟩)]) (by decide));have E : Hid (F = 3) := HE5.out.trans EH.out;rw [hls, <- V.toList_bl, <- V.toList_bl] at hfl;clear hF hls hn HCK;go_wp2_with fail;go_quiet (fail)
          all_goals
           go_wp2_with fail;go_ret;exact ⟨ret_val (by rw [E.out]; rfl), below_drewN HWR.out _⟩
         ·have hF0 : S.outF m s.outs (k' + 1) = G := by
           rw [hF, if_neg (fun h => h.elim (fun h => by rw [hn] at h; exact absurd h (by decide)) (fun h => by have h2 : Op.bytesLess (V.bl y.1) (V.bl x.1) = false := h.2; rw [hls] at h2; exact absurd h2 (by decide)))]
          have HF0 := hide hF0;rw [hls, <- V.toList_bl, <- V.toList_bl] at hfl;clear hF hF0 hls hn;by_cases hG : G = 0
          ·subst hG;go_wp2_with fail;go_quiet (fail)
           all_goals
            go_wp2_with fail;refine (HCK.out _).mono ?_;rintro o w2 ⟨rfl, hb2⟩;have HB2 := hide (HB.out.trans (((below_drewN (Below.refl _ _) _).trans hb2).mono HB.out.size));clear hb2;go_wp2_with fail;go_roundw
            case rel =>
             refine ⟨(k' + 1) + 1, by omega, by go_num, fun j hj => ?_, HB2.out⟩;by_cases e : j = (k' + 1)
             ·rw [e]; exact HF0.out
             ·exact HOK.out j (by omega)
            case measure => simp [intOf]; omega
          ·have EH : Hid (FO = G) := HEO.out.trans (X.firstErr_at (k := k' + 1) (fun j hj => by rw [X.faults_get (by omega), HOK.out j hj]) (by rw [X.faults_get hlt, HF0.out]) hG);have E : Hid (F = G) := HE5.out.trans EH.out;have gG : decide ((0 : Int) < (G : Int)) = true := decide_eq_true (by omega);go_wp2_with fail;go_quiet (fail)
           all_goals
            go_wp2_with fail;refine (HCK.out _).mono ?_;rintro o w2 ⟨rfl, hb2⟩;have HB2 := hide (HWR.out.trans (((below_drewN (Below.refl _ _) _).trans hb2).mono HWR.out.size));clear hb2;go_wp2_with fail;go_ret;exact ⟨ret_val (by rw [E.out]; rfl), HB2.out⟩
      ·have EH : Hid (FO = 0) := HEO.out.trans (X.firstErr_none (fun j hj => by
        have hj' : j < s.outs.length := by simpa using hj
        rw [X.faults_get hj', HOK.out j (by omega)]))
       have E : Hid (F = 0) := HE5.out.trans EH.out;clear hB;go_wp2_with fail;go_ret;exact ⟨ret_val (by rw [E.out]; rfl), HWR.out⟩
end Go.Proofs.YtcekcfjabhlheaaGreatDoor.Vx
