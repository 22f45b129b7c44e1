/- TopState: UX1. -/
import Derived.Test.YtcekcfjabhlheaaGreatDoorUS
import Derived.Test.YtcekcfjabhlheaaGreatDoorUW
set_option maxRecDepth 100000
set_option maxHeartbeats 6400000
namespace Go.Proofs.YtcekcfjabhlheaaGreatDoor.Vx
open Go.RowKit
theorem readSerial_any (i : Int) {base B : Nat} {D : Nat -> Prop} {w : World} {s : St} {hv iv ov : Value} {LH : List (Hd × List Value)} {LI : List (It × List Value)} {LO : List ((ByteArray × Val) × List Value)} (hR : S.Rd base B D w s hv iv ov LH LI LO) (h0 : 0 <= i) (h1 : i <= 1000000000) :
  Calls Tryz.prog 74 #[.pointer (some ⟨B, 0, none⟩), .string (V.str (S.Ln.bare 6 (.inl i)))] w fun r w' => r = .returned .nilIface /\ (∃ D', S.Rd base B D' w' { s with serial := i } hv iv ov LH LI LO) /\ Fr w w' (fun c => c = B \/ base <= c) := by
 have hin : S.in64 i := ⟨by omega, by omega⟩
 have hil := itoa_len2 i hin
 have HCUT : Hid (Calls Tryz.prog 90 #[.string (V.str (S.Ln.bare 6 (.inl i))), .string ⟨#[32]⟩] w fun e w' => e = .returned (.tuple #[.string ⟨#[115, 101, 114, 105, 97, 108]⟩, .string (V.str (Lib.itoa i)), .bool true]) /\ ∃ nn, w' = w.drewN nn) := cut_any S.kSerial (Lib.itoa i) 32 (S.word_off (.inl i) (.inl rfl)) (by rw [List.length_append, List.length_cons]; show 6 + _ <= _; omega) w
 have HAT : Hid (∀ w : World, Calls Tryz.prog 91 #[.string (V.str (Lib.itoa i))] w fun e w' => e = .returned (.tuple #[.int .i64 i, .nilIface]) /\ Below w.heap.size w w') := fun w => by
  refine (sh_strconv_Atoi_ok (V.str (Lib.itoa i)) (by rw [str_size2]; omega) i (by
   have : (V.str (Lib.itoa i)).data.toList = Lib.itoa i := V.bl_str _
   rw [this]
   exact S.atoi_itoa i h0 hin.2) w).mono ?_
  rintro e w' ⟨he, hw⟩
  refine ⟨he, ?_⟩
  rcases hw with rfl | ⟨t, rfl⟩
  ·exact Below.refl _ _
  ·exact bytes_below _ _ _
 have HR := hide hR
 generalize V.str (S.Ln.bare 6 (.inl i)) = tx at *
 generalize V.str (Lib.itoa i) = ty at *
 clear hR hil hin h0 h1
 go_enter Tryz.func74, Tryz.ntmps74
 go_wp2_with fail
 refine HCUT.out.mono ?_
 rintro r w1 ⟨rfl, nn, hw1⟩
 rw [hw1]
 clear hw1 HCUT
 have HB1 : Hid (Below w.heap.size w (w.drewN nn)) := below_drewN (Below.refl _ _) nn
 generalize w.drewN nn = w2 at *
 go_wp2_with fail
 refine (HAT.out w2).mono ?_
 rintro r w3 ⟨rfl, hb3⟩
 have hb : Below w.heap.size w w3 := HB1.out.trans (hb3.mono HB1.out.size)
 have hR3 := HR.out.more hb
 obtain ⟨HB3, HR3⟩ := hd2 hb hR3
 have x0 := cell_of_block hR3.blk 0 _ rfl
 have f0 := free_of_block hR3.blk 0
 clear hb3 hb hR3 HAT HB1 HR
 go_wp2_with fail
 exact bodyPost_ret (v := .nilIface) (by simp [results, Tryz.results74, go_sem]) rfl ⟨rfl, ⟨_, HR3.out.serial i⟩, ((show Fr w w3 (fun c => c = B \/ base <= c) from ⟨HB3.out.os, HB3.out.tape, HB3.out.output, HB3.out.size, fun c hc _ => HB3.out.block c hc⟩).set ⟨B, 0, none⟩ _ (fun _ => .inl rfl))⟩
theorem info63' : (Tryz.prog.info? 63).map (fun i => (i.zero, i.size, i.bytes)) = some (some (.agg #[.string ⟨#[]⟩, .string ⟨#[]⟩, .int .i64 0, .int .i64 0, .int .i64 0, .string ⟨#[]⟩, .slice none 0 0, .slice none 0 0]), 8, 120) := by kernel_rfl
theorem readLineH_any (x : Hd) {base B : Nat} {D : Nat -> Prop} {w : World} {s : St} {hv iv ov : Value} {LH : List (Hd × List Value)} {LI : List (It × List Value)} {LO : List ((ByteArray × Val) × List Value)} (hR : S.Rd base B D w s hv iv ov LH LI LO) (hfit : S.Ln.Fit (.inr (.inl x))) (hlen : (S.Ln.bare 6 (.inr (.inl x))).length <= 4000) (hfew : LH.length <= 1000) :
  Calls Tryz.prog 74 #[.pointer (some ⟨B, 0, none⟩), .string (V.str (S.Ln.bare 6 (.inr (.inl x))))] w fun r w' => r = .returned .nilIface /\ (∃ D' v' cs, S.Rd base B D' w' { s with held := s.held ++ [x] } v' iv ov (LH ++ [(x, cs)]) LI LO) /\ Fr w w' (fun c => c = B \/ base <= c) := by
 obtain ⟨i0, hi0, hz0, hz1, hz2⟩ := info_parts info63'
 have hlr : (S.heldText 6 x).length <= 4000 := by
  have h1 : (S.Ln.bare 6 (.inr (.inl x))).length = (S.kHeld).length + ((S.heldText 6 x).length + 1) := by
   show ((S.kHeld) ++ 32 :: (S.heldText 6 x)).length = _
   rw [List.length_append, List.length_cons]
  omega
 have HCUT : Hid (∀ w : World, Calls Tryz.prog 90 #[.string (V.str (S.Ln.bare 6 (.inr (.inl x)))), .string ⟨#[32]⟩] w fun e w' => e = .returned (.tuple #[.string ⟨#[104, 101, 108, 100]⟩, .string (V.str (S.heldText 6 x)), .bool true]) /\ ∃ nn, w' = w.drewN nn) := fun w => cut_any S.kHeld (S.heldText 6 x) 32 (S.word_off (.inr (.inl x)) (.inl rfl)) (by show (S.Ln.bare 6 (.inr (.inl x))).length <= _; omega) w
 have HRD := hide (fun w => readHeld_any x w (S.name_off hfit.2.1 (.inl rfl)) (S.name_off hfit.1 (.inl rfl)) hfit.2.2.1 hfit.2.2.2.1 hfit.2.2.2.2.2.1 hfit.2.2.2.2.1 hfit.2.2.2.2.2.2 hlr)
 have HR := hide hR
 have hsh := own_shape hR.hH.own
 obtain ⟨av, cv, hve⟩ := hsh
 generalize V.str (S.Ln.bare 6 (.inr (.inl x))) = tx at *
 generalize V.str (S.heldText 6 x) = ty at *
 clear hR hlr hlen hfit
 go_enter Tryz.func74, Tryz.ntmps74
 go_wp2_with fail
 refine (HCUT.out w).mono ?_
 rintro r w1 ⟨rfl, nn, hw1⟩
 rw [hw1]
 clear hw1 HCUT
 have HB1 : Hid (Below w.heap.size w (w.drewN nn)) := below_drewN (Below.refl _ _) nn
 generalize w.drewN nn = w2 at *
 have hba : Below w2.heap.size w2 (w2.alloc (.cells #[.string ⟨#[]⟩, .string ⟨#[]⟩, .int .i64 0, .int .i64 0, .int .i64 0, .string ⟨#[]⟩, .slice none 0 0, .slice none 0 0] 63)) := (Below.refl _ _).alloc (Nat.le_refl _) _
 have hA := heap_alloc_new w2 (.cells #[.string ⟨#[]⟩, .string ⟨#[]⟩, .int .i64 0, .int .i64 0, .int .i64 0, .string ⟨#[]⟩, .slice none 0 0, .slice none 0 0] 63)
 have HSA : Hid ((w2.alloc (.cells #[.string ⟨#[]⟩, .string ⟨#[]⟩, .int .i64 0, .int .i64 0, .int .i64 0, .string ⟨#[]⟩, .slice none 0 0, .slice none 0 0] 63)).heap.size = w2.heap.size + 1) := by
  show _ = _
  simp
 obtain ⟨HBA, HA⟩ := hd2 hba hA
 clear hba hA
 go_wp2_with fail
 generalize (w2.alloc _) = wa at *
 refine (HRD.out wa).mono ?_
 rintro r w3 ⟨⟨es, rfl, ⟨k, n, s9, d1, n1, q1, d2, n2, q2, rfl⟩, hK⟩, hb3⟩
 have hA3 := (hb3.block w2.heap.size (by have := HSA.out; omega)).trans HA.out
 obtain ⟨HA3, HK, HB3⟩ := hd3 hA3 hK hb3
 have hs0 := HB1.out.size
 have HS3 : Hid (w.heap.size <= w2.heap.size /\ wa.heap.size <= w3.heap.size) := ⟨hs0, hb3.size⟩
 obtain ⟨mm0, mm1, mm2, mm3, mm4, mm5, mm6, mm7⟩ := cl8 hA3
 obtain ⟨f0, f1, f2, f3, f4, f5, f6, f7⟩ := fl8 hA3
 clear hK hb3 hs0 HRD HA hA3
 go_wp2_with fail
 have hFz : Fr w3 _ (fun c => c = w2.heap.size) := (((((((((Fr.refl w3 (fun c => c = w2.heap.size)).set ⟨w2.heap.size, 0, none⟩ (.string x.name) (fun _ => rfl)).set ⟨w2.heap.size, 1, none⟩ (.string x.kind) (fun _ => rfl)).set ⟨w2.heap.size, 2, none⟩ (.int .i64 x.id) (fun _ => rfl)).set ⟨w2.heap.size, 3, none⟩ (.int .i64 k) (fun _ => rfl)).set ⟨w2.heap.size, 4, none⟩ (.int .i64 n) (fun _ => rfl)).set ⟨w2.heap.size, 5, none⟩ (.string s9) (fun _ => rfl)).set ⟨w2.heap.size, 6, none⟩ (.slice d1 n1 q1) (fun _ => rfl)).set ⟨w2.heap.size, 7, none⟩ (.slice d2 n2 q2) (fun _ => rfl))
 have hBz : ((((((((w3.setCell ⟨w2.heap.size, 0, none⟩ (.string x.name)).setCell ⟨w2.heap.size, 1, none⟩ (.string x.kind)).setCell ⟨w2.heap.size, 2, none⟩ (.int .i64 x.id)).setCell ⟨w2.heap.size, 3, none⟩ (.int .i64 k)).setCell ⟨w2.heap.size, 4, none⟩ (.int .i64 n)).setCell ⟨w2.heap.size, 5, none⟩ (.string s9)).setCell ⟨w2.heap.size, 6, none⟩ (.slice d1 n1 q1)).setCell ⟨w2.heap.size, 7, none⟩ (.slice d2 n2 q2)).heap[w2.heap.size]? = some (.cells #[.string x.name, .string x.kind, .int .i64 x.id, .int .i64 k, .int .i64 n, .string s9, .slice d1 n1 q1, .slice d2 n2 q2] 63 (0, 0)) := by
  have bq0 : (w3.setCell ⟨w2.heap.size, 0, none⟩ (.string x.name)).heap[w2.heap.size]? = _ := block_set (i := 0) HA3.out (.string x.name)
  have bq1 := block_set (i := 1) bq0 (.string x.kind)
  have bq2 := block_set (i := 2) bq1 (.int .i64 x.id)
  have bq3 := block_set (i := 3) bq2 (.int .i64 k)
  have bq4 := block_set (i := 4) bq3 (.int .i64 n)
  have bq5 := block_set (i := 5) bq4 (.string s9)
  have bq6 := block_set (i := 6) bq5 (.slice d1 n1 q1)
  exact block_set (i := 7) bq6 (.slice d2 n2 q2)
 generalize ((((((((w3.setCell _ _).setCell _ _).setCell _ _).setCell _ _).setCell _ _).setCell _ _).setCell _ _).setCell _ _) = wz at *
 obtain ⟨r0, r1, r2, r3, r4, r5, r6, r7⟩ := cl8 hBz
 have hBw : Below w.heap.size w wz := by
  have h1 : Below w2.heap.size w2 w3 := HBA.out.trans (HB3.out.mono HBA.out.size)
  have h2 : Below w2.heap.size w2 wz := h1.trans (hFz.below h1.size (fun c e => by omega))
  exact HB1.out.trans (h2.mono HB1.out.size)
 have hRz : S.Rd base B (fun c => D c \/ P.New wa w3 c) wz s hv iv ov LH LI LO := HR.out.to hBw (fun _ h => .inl h) (fun c h => h.imp id (fun h => by
  have h1 := h.1
  have h2 := h.2
  have h3 := HSA.out
  have h4 := HS3.out
  have h5 := hFz.size
  exact ⟨by omega, by omega⟩))
 have HKz : Hid (P.KM (P.BH 6) (fun c => D c \/ P.New wa w3 c) wz x [.string x.name, .string x.kind, .int .i64 x.id, .int .i64 k, .int .i64 n, .string s9, .slice d1 n1 q1, .slice d2 n2 q2]) := HK.out.to (fun c hc => hFz.block c hc.2 (by have h1 := hc.1; have h3 := HSA.out; omega)) (fun _ h => .inr h)
 obtain ⟨HBW, HRZ, HBK⟩ := hd3 hBw hRz hRz.blk
 have hOz := hRz.hH.own
 rw [hve] at hOz
 have hgB := hRz.blk
 rw [hve] at hgB
 have y1 := cell_of_block hgB 1 _ rfl
 have y1c : (wz.alloc (.cells #[.string x.name, .string x.kind, .int .i64 x.id, .int .i64 k, .int .i64 n, .string s9, .slice d1 n1 q1, .slice d2 n2 q2] 63)).cell? ⟨B, 1, none⟩ = some (.slice av LH.length cv) := kept_cell ((Below.refl _ _).alloc (Nat.le_refl _) _) y1
 have y1d : (wz.alloc (.cells #[.string x.name, .string x.kind, .int .i64 x.id, .int .i64 k, .int .i64 n, .string s9, .slice d1 n1 q1, .slice d2 n2 q2] 63)).drew.cell? ⟨B, 1, none⟩ = some (.slice av LH.length cv) := y1c
 obtain ⟨HO, HGB, HBB, HSW⟩ := hd4 hOz hgB hRz.bB hRz.bw
 clear hBw hRz hOz hgB hFz hBz HA3 HK HB3 HS3 HBA HSA HB1 HR
 go_wp2_with fail
 go_region_law
  (first
   | (refine step_append_lies _ ?_ (.tmp 40) (.tmp 42) 22 ?_ base 63 i0 (.agg #[.string ⟨#[]⟩, .string ⟨#[]⟩, .int .i64 0, .int .i64 0, .int .i64 0, .string ⟨#[]⟩, .slice none 0 0, .slice none 0 0]) 8 120 Tryz.underlying22 hi0 hz0 hz1 hz2 rfl (by decide) (.slice av LH.length cv) LH.length (LH.flatMap (fun x => x.2)) ?_ ?_ ⟨wz.heap.size, 0, none⟩ 1 1 [.string x.name, .string x.kind, .int .i64 x.id, .int .i64 k, .int .i64 n, .string s9, .slice d1 n1 q1, .slice d2 n2 q2] ?_ rfl ?_ ?_ Nat.one_pos ?_ ?_ ?_ _ rfl ?_; rfl; rfl; rfl; exact (HO.out.alloc _).drew; rfl; exact news_alloc_drew wz #[.string x.name, .string x.kind, .int .i64 x.id, .int .i64 k, .int .i64 n, .string s9, .slice d1 n1 q1, .slice d2 n2 q2] 63 _ rfl; simp [Value.oneCell']; (unfold maxLen; omega); omega; (have := HSW.out; simp; omega); intro g4 cap4 w4 hown4 hgrow hat hlt4; have h4 := ((P.grown_alloc_drew hgrow).block B (by have := HSW.out; have := HBB.out; omega) (fun e => by have := (HO.out.lt _ e.symm).1; have := HBB.out; omega)).trans HGB.out; have y1b := cell_of_block h4 1 _ rfl; have f1b := free_of_block h4 1))
 all_goals
  have hg := P.grown_alloc_drew hgrow
  have hRN := S.Rd.addH (g := g4) (cap := cap4) HRZ.out rfl HKz.out hown4 (by rw [hve]; exact hg) (by
   rw [hve]
   rcases hat with h | h
   ·exact .inl h
   ·exact .inr (by rw [h]; simp))
  have HRN := hide hRN
  have HFN : Hid (Fr w (w4.setCell ⟨B, 1, none⟩ (.slice (some ⟨g4, 0, none⟩) (LH.length + 1) cap4)) (fun c => c = B \/ base <= c)) := (show Fr w w4 (fun c => c = B \/ base <= c) from ⟨hg.os.trans HBW.out.os, hg.tape.trans HBW.out.tape, hg.output.trans HBW.out.output, Nat.le_trans HBW.out.size hg.size, fun c hc he => (hg.block c (Nat.lt_of_lt_of_le hc HBW.out.size) (fun e => he (.inr (HO.out.lt c e.symm).1))).trans (HBW.out.block c hc)⟩).set ⟨B, 1, none⟩ _ (fun _ => .inl rfl)
  clear hg hRN hown4 hgrow hat hlt4 h4 y1b f1b
  go_wp2_with fail
  exact bodyPost_ret (v := .nilIface) (by simp [results, Tryz.results74, go_sem]) rfl ⟨rfl, ⟨_, _, _, HRN.out⟩, HFN.out⟩
theorem info66' : (Tryz.prog.info? 66).map (fun i => (i.zero, i.size, i.bytes)) = some (some (.agg #[.int .i64 0, .string ⟨#[]⟩, .string ⟨#[]⟩, .int .i64 0, .int .i64 0, .int .i64 0, .string ⟨#[]⟩, .slice none 0 0, .slice none 0 0, .string ⟨#[]⟩]), 10, 144) := by kernel_rfl
theorem readLineI_any (x : It) {base B : Nat} {D : Nat -> Prop} {w : World} {s : St} {hv iv ov : Value} {LH : List (Hd × List Value)} {LI : List (It × List Value)} {LO : List ((ByteArray × Val) × List Value)} (hR : S.Rd base B D w s hv iv ov LH LI LO) (hfit : S.Ln.Fit (.inr (.inr (.inl x)))) (hlen : (S.Ln.bare 6 (.inr (.inr (.inl x)))).length <= 4000) (hfew : LI.length <= 1000) :
  Calls Tryz.prog 74 #[.pointer (some ⟨B, 0, none⟩), .string (V.str (S.Ln.bare 6 (.inr (.inr (.inl x)))))] w fun r w' => r = .returned .nilIface /\ (∃ D' v' cs, S.Rd base B D' w' { s with its := s.its ++ [x] } hv v' ov LH (LI ++ [(x, cs)]) LO) /\ Fr w w' (fun c => c = B \/ base <= c) := by
 obtain ⟨i0, hi0, hz0, hz1, hz2⟩ := info_parts info66'
 have hlr : (S.words [Lib.itoa x.op, V.bl x.token] (S.heldText 6 x.h)).length <= 4000 := by
  have h1 : (S.Ln.bare 6 (.inr (.inr (.inl x)))).length = (S.kIntent).length + ((S.words [Lib.itoa x.op, V.bl x.token] (S.heldText 6 x.h)).length + 1) := by
   show ((S.kIntent) ++ 32 :: (S.words [Lib.itoa x.op, V.bl x.token] (S.heldText 6 x.h))).length = _
   rw [List.length_append, List.length_cons]
  omega
 have HCUT : Hid (∀ w : World, Calls Tryz.prog 90 #[.string (V.str (S.Ln.bare 6 (.inr (.inr (.inl x))))), .string ⟨#[32]⟩] w fun e w' => e = .returned (.tuple #[.string ⟨#[105, 110, 116, 101, 110, 116]⟩, .string (V.str (S.words [Lib.itoa x.op, V.bl x.token] (S.heldText 6 x.h))), .bool true]) /\ ∃ nn, w' = w.drewN nn) := fun w => cut_any S.kIntent (S.words [Lib.itoa x.op, V.bl x.token] (S.heldText 6 x.h)) 32 (S.word_off (.inr (.inr (.inl x))) (.inl rfl)) (by show (S.Ln.bare 6 (.inr (.inr (.inl x)))).length <= _; omega) w
 have HRD := hide (fun w => readIntent_any x w (S.upto_off hfit.2.2.2.2.2.2.2.2.2 (.inl rfl)) (S.name_off hfit.2.1 (.inl rfl)) (S.name_off hfit.1 (.inl rfl)) hfit.2.2.1 hfit.2.2.2.1 (by have := hfit.2.2.2.2.2.2.2.1; omega) ⟨by have := hfit.2.2.2.2.2.2.2.1; omega, by have := hfit.2.2.2.2.2.2.2.2.1; omega⟩ hfit.2.2.2.2.2.1 hfit.2.2.2.2.1 hfit.2.2.2.2.2.2.1 hlr)
 have HR := hide hR
 have hsh := own_shape hR.hI.own
 obtain ⟨av, cv, hve⟩ := hsh
 generalize V.str (S.Ln.bare 6 (.inr (.inr (.inl x)))) = tx at *
 generalize V.str (S.words [Lib.itoa x.op, V.bl x.token] (S.heldText 6 x.h)) = ty at *
 clear hR hlr hlen hfit
 go_enter Tryz.func74, Tryz.ntmps74
 go_wp2_with fail
 refine (HCUT.out w).mono ?_
 rintro r w1 ⟨rfl, nn, hw1⟩
 rw [hw1]
 clear hw1 HCUT
 have HB1 : Hid (Below w.heap.size w (w.drewN nn)) := below_drewN (Below.refl _ _) nn
 generalize w.drewN nn = w2 at *
 have hba : Below w2.heap.size w2 (w2.alloc (.cells #[.int .i64 0, .string ⟨#[]⟩, .string ⟨#[]⟩, .int .i64 0, .int .i64 0, .int .i64 0, .string ⟨#[]⟩, .slice none 0 0, .slice none 0 0, .string ⟨#[]⟩] 66)) := (Below.refl _ _).alloc (Nat.le_refl _) _
 have hA := heap_alloc_new w2 (.cells #[.int .i64 0, .string ⟨#[]⟩, .string ⟨#[]⟩, .int .i64 0, .int .i64 0, .int .i64 0, .string ⟨#[]⟩, .slice none 0 0, .slice none 0 0, .string ⟨#[]⟩] 66)
 have HSA : Hid ((w2.alloc (.cells #[.int .i64 0, .string ⟨#[]⟩, .string ⟨#[]⟩, .int .i64 0, .int .i64 0, .int .i64 0, .string ⟨#[]⟩, .slice none 0 0, .slice none 0 0, .string ⟨#[]⟩] 66)).heap.size = w2.heap.size + 1) := by
  show _ = _
  simp
 obtain ⟨HBA, HA⟩ := hd2 hba hA
 clear hba hA
 go_wp2_with fail
 generalize (w2.alloc _) = wa at *
 refine (HRD.out wa).mono ?_
 rintro r w3 ⟨⟨es, rfl, ⟨k, n, s9, d1, n1, q1, d2, n2, q2, rfl⟩, hK⟩, hb3⟩
 have hA3 := (hb3.block w2.heap.size (by have := HSA.out; omega)).trans HA.out
 obtain ⟨HA3, HK, HB3⟩ := hd3 hA3 hK hb3
 have hs0 := HB1.out.size
 have HS3 : Hid (w.heap.size <= w2.heap.size /\ wa.heap.size <= w3.heap.size) := ⟨hs0, hb3.size⟩
 obtain ⟨mm0, mm1, mm2, mm3, mm4, mm5, mm6, mm7, mm8, mm9⟩ := cl10 hA3
 obtain ⟨f0, f1, f2, f3, f4, f5, f6, f7, f8, f9⟩ := fl10 hA3
 clear hK hb3 hs0 HRD HA hA3
 go_wp2_with fail
 have hFz : Fr w3 _ (fun c => c = w2.heap.size) := (((((((((((Fr.refl w3 (fun c => c = w2.heap.size)).set ⟨w2.heap.size, 0, none⟩ (.int .i64 x.op) (fun _ => rfl)).set ⟨w2.heap.size, 1, none⟩ (.string x.h.name) (fun _ => rfl)).set ⟨w2.heap.size, 2, none⟩ (.string x.h.kind) (fun _ => rfl)).set ⟨w2.heap.size, 3, none⟩ (.int .i64 x.h.id) (fun _ => rfl)).set ⟨w2.heap.size, 4, none⟩ (.int .i64 k) (fun _ => rfl)).set ⟨w2.heap.size, 5, none⟩ (.int .i64 n) (fun _ => rfl)).set ⟨w2.heap.size, 6, none⟩ (.string s9) (fun _ => rfl)).set ⟨w2.heap.size, 7, none⟩ (.slice d1 n1 q1) (fun _ => rfl)).set ⟨w2.heap.size, 8, none⟩ (.slice d2 n2 q2) (fun _ => rfl)).set ⟨w2.heap.size, 9, none⟩ (.string x.token) (fun _ => rfl))
 have hBz : ((((((((((w3.setCell ⟨w2.heap.size, 0, none⟩ (.int .i64 x.op)).setCell ⟨w2.heap.size, 1, none⟩ (.string x.h.name)).setCell ⟨w2.heap.size, 2, none⟩ (.string x.h.kind)).setCell ⟨w2.heap.size, 3, none⟩ (.int .i64 x.h.id)).setCell ⟨w2.heap.size, 4, none⟩ (.int .i64 k)).setCell ⟨w2.heap.size, 5, none⟩ (.int .i64 n)).setCell ⟨w2.heap.size, 6, none⟩ (.string s9)).setCell ⟨w2.heap.size, 7, none⟩ (.slice d1 n1 q1)).setCell ⟨w2.heap.size, 8, none⟩ (.slice d2 n2 q2)).setCell ⟨w2.heap.size, 9, none⟩ (.string x.token)).heap[w2.heap.size]? = some (.cells #[.int .i64 x.op, .string x.h.name, .string x.h.kind, .int .i64 x.h.id, .int .i64 k, .int .i64 n, .string s9, .slice d1 n1 q1, .slice d2 n2 q2, .string x.token] 66 (0, 0)) := P.set10 HA3.out _ _ _ _ _ _ _ _ _ _
 generalize ((((((((((w3.setCell _ _).setCell _ _).setCell _ _).setCell _ _).setCell _ _).setCell _ _).setCell _ _).setCell _ _).setCell _ _).setCell _ _) = wz at *
 obtain ⟨r0, r1, r2, r3, r4, r5, r6, r7, r8, r9⟩ := cl10 hBz
 have hBw : Below w.heap.size w wz := by
  have h1 : Below w2.heap.size w2 w3 := HBA.out.trans (HB3.out.mono HBA.out.size)
  have h2 : Below w2.heap.size w2 wz := h1.trans (hFz.below h1.size (fun c e => by omega))
  exact HB1.out.trans (h2.mono HB1.out.size)
 have hRz : S.Rd base B (fun c => D c \/ P.New wa w3 c) wz s hv iv ov LH LI LO := HR.out.to hBw (fun _ h => .inl h) (fun c h => h.imp id (fun h => by
  have h1 := h.1
  have h2 := h.2
  have h3 := HSA.out
  have h4 := HS3.out
  have h5 := hFz.size
  exact ⟨by omega, by omega⟩))
 have HKz : Hid (P.KM (P.BI 6) (fun c => D c \/ P.New wa w3 c) wz x [.int .i64 x.op, .string x.h.name, .string x.h.kind, .int .i64 x.h.id, .int .i64 k, .int .i64 n, .string s9, .slice d1 n1 q1, .slice d2 n2 q2, .string x.token]) := HK.out.to (fun c hc => hFz.block c hc.2 (by have h1 := hc.1; have h3 := HSA.out; omega)) (fun _ h => .inr h)
 obtain ⟨HBW, HRZ, HBK⟩ := hd3 hBw hRz hRz.blk
 have hOz := hRz.hI.own
 rw [hve] at hOz
 have hgB := hRz.blk
 rw [hve] at hgB
 have y1 := cell_of_block hgB 2 _ rfl
 have y1c : (wz.alloc (.cells #[.int .i64 x.op, .string x.h.name, .string x.h.kind, .int .i64 x.h.id, .int .i64 k, .int .i64 n, .string s9, .slice d1 n1 q1, .slice d2 n2 q2, .string x.token] 66)).cell? ⟨B, 2, none⟩ = some (.slice av LI.length cv) := kept_cell ((Below.refl _ _).alloc (Nat.le_refl _) _) y1
 have y1d : (wz.alloc (.cells #[.int .i64 x.op, .string x.h.name, .string x.h.kind, .int .i64 x.h.id, .int .i64 k, .int .i64 n, .string s9, .slice d1 n1 q1, .slice d2 n2 q2, .string x.token] 66)).drew.cell? ⟨B, 2, none⟩ = some (.slice av LI.length cv) := y1c
 obtain ⟨HO, HGB, HBB, HSW⟩ := hd4 hOz hgB hRz.bB hRz.bw
 clear hBw hRz hOz hgB hFz hBz HA3 HK HB3 HS3 HBA HSA HB1 HR
 go_wp2_with fail
 go_region_law
  (first
   | (refine step_append_lies _ ?_ (.tmp 57) (.tmp 59) 23 ?_ base 66 i0 (.agg #[.int .i64 0, .string ⟨#[]⟩, .string ⟨#[]⟩, .int .i64 0, .int .i64 0, .int .i64 0, .string ⟨#[]⟩, .slice none 0 0, .slice none 0 0, .string ⟨#[]⟩]) 10 144 Tryz.underlying23 hi0 hz0 hz1 hz2 rfl (by decide) (.slice av LI.length cv) LI.length (LI.flatMap (fun x => x.2)) ?_ ?_ ⟨wz.heap.size, 0, none⟩ 1 1 [.int .i64 x.op, .string x.h.name, .string x.h.kind, .int .i64 x.h.id, .int .i64 k, .int .i64 n, .string s9, .slice d1 n1 q1, .slice d2 n2 q2, .string x.token] ?_ rfl ?_ ?_ Nat.one_pos ?_ ?_ ?_ _ rfl ?_; rfl; rfl; rfl; exact (HO.out.alloc _).drew; rfl; exact news_alloc_drew wz #[.int .i64 x.op, .string x.h.name, .string x.h.kind, .int .i64 x.h.id, .int .i64 k, .int .i64 n, .string s9, .slice d1 n1 q1, .slice d2 n2 q2, .string x.token] 66 _ rfl; simp [Value.oneCell']; (unfold maxLen; omega); omega; (have := HSW.out; simp; omega); intro g4 cap4 w4 hown4 hgrow hat hlt4; have h4 := ((P.grown_alloc_drew hgrow).block B (by have := HSW.out; have := HBB.out; omega) (fun e => by have := (HO.out.lt _ e.symm).1; have := HBB.out; omega)).trans HGB.out; have y1b := cell_of_block h4 2 _ rfl; have f1b := free_of_block h4 2))
 all_goals
  have hg := P.grown_alloc_drew hgrow
  have hRN := S.Rd.addI (g := g4) (cap := cap4) HRZ.out rfl HKz.out hown4 (by rw [hve]; exact hg) (by
   rw [hve]
   rcases hat with h | h
   ·exact .inl h
   ·exact .inr (by rw [h]; simp))
  have HRN := hide hRN
  have HFN : Hid (Fr w (w4.setCell ⟨B, 2, none⟩ (.slice (some ⟨g4, 0, none⟩) (LI.length + 1) cap4)) (fun c => c = B \/ base <= c)) := (show Fr w w4 (fun c => c = B \/ base <= c) from ⟨hg.os.trans HBW.out.os, hg.tape.trans HBW.out.tape, hg.output.trans HBW.out.output, Nat.le_trans HBW.out.size hg.size, fun c hc he => (hg.block c (Nat.lt_of_lt_of_le hc HBW.out.size) (fun e => he (.inr (HO.out.lt c e.symm).1))).trans (HBW.out.block c hc)⟩).set ⟨B, 2, none⟩ _ (fun _ => .inl rfl)
  clear hg hRN hown4 hgrow hat hlt4 h4 y1b f1b
  go_wp2_with fail
  exact bodyPost_ret (v := .nilIface) (by simp [results, Tryz.results74, go_sem]) rfl ⟨rfl, ⟨_, _, _, HRN.out⟩, HFN.out⟩
end Go.Proofs.YtcekcfjabhlheaaGreatDoor.Vx
