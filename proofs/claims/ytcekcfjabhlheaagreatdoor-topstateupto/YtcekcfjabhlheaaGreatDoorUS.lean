/- TopState: US. -/
import Derived.Test.YtcekcfjabhlheaaGreatDoorUC
import Derived.Test.YtcekcfjabhlheaaGreatDoorUV
set_option maxRecDepth 100000
set_option maxHeartbeats 3200000
namespace Go.Proofs.YtcekcfjabhlheaaGreatDoor.Vx
open Go.RowKit
namespace P
def OutR (w w' : World) (x : ByteArray × Val) (cs : List Value) : Prop := (∃ nm k n s9 d1 n1 q1 d2 n2 q2, cs = [.string nm, .int .i64 k, .int .i64 n, .string s9, .slice d1 n1 q1, .slice d2 n2 q2]) /\ KM (BF 6) (New w w') w' x cs
end P
theorem readOut_any (nm : List UInt8) (v : Val) (w : World) (hn : (32 : UInt8) ∉ nm) (hv : P.Lay 6 v) (hf : V.fault 6 v = 0) (hb : V.bulk 6 v <= 2000000) (hlen : (nm ++ 32 :: V.text 6 v).length <= 4000) :
  Calls Tryz.prog 94 #[.string (V.str (nm ++ 32 :: V.text 6 v))] w fun r w' => (∃ cs, r = .returned (.tuple #[.agg cs.toArray, .nilIface]) /\ P.OutR w w' (V.str nm, v) cs) /\ Below w.heap.size w w' := by
 have hb0 : Below w.heap.size w (w.alloc (.cells #[.string ⟨#[]⟩, .int .i64 0, .int .i64 0, .string ⟨#[]⟩, .slice none 0 0, .slice none 0 0] 68)) := (Below.refl _ _).alloc (Nat.le_refl _) _
 have hA0 := heap_alloc_new w (.cells #[.string ⟨#[]⟩, .int .i64 0, .int .i64 0, .string ⟨#[]⟩, .slice none 0 0, .slice none 0 0] 68)
 have HS0 : Hid ((w.alloc (.cells #[.string ⟨#[]⟩, .int .i64 0, .int .i64 0, .string ⟨#[]⟩, .slice none 0 0, .slice none 0 0] 68)).heap.size = w.heap.size + 1) := by
  show _ = _
  simp
 have HCUT := hide (cut_any nm (V.text 6 v) 32 hn (by omega) (w.alloc (.cells #[.string ⟨#[]⟩, .int .i64 0, .int .i64 0, .string ⟨#[]⟩, .slice none 0 0, .slice none 0 0] 68)))
 have HV := hide (fun w => value_one v w hv hf hb (by rw [List.length_append, List.length_cons] at hlen; omega))
 obtain ⟨HB0, HA0⟩ := hd2 hb0 hA0
 generalize V.str (nm ++ 32 :: V.text 6 v) = tx at *
 generalize V.str (V.text 6 v) = ty at *
 generalize hnm : V.str nm = nb at *
 clear hn hv hf hb hlen hb0 hA0 hnm
 go_enter Tryz.func94, Tryz.ntmps94
 go_wp2_with fail
 generalize (w.alloc _) = w0 at *
 refine HCUT.out.mono ?_
 rintro r w1 ⟨rfl, nn, hw1⟩
 rw [hw1]
 clear hw1 HCUT
 have hbd : Below w0.heap.size w0 (w0.drewN nn) := below_drewN (Below.refl _ _) nn
 have HB1 := hide (HB0.out.trans (hbd.mono HB0.out.size))
 have HA1 := hide ((hbd.block w.heap.size (by have := HS0.out; omega)).trans HA0.out)
 have HS1 : Hid (w.heap.size + 1 <= (w0.drewN nn).heap.size) := by
  show _ <= _
  have := HS0.out
  have := hbd.size
  omega
 clear hbd HB0 HA0
 generalize w0.drewN nn = w2 at *
 go_wp2_with fail
 refine (HV.out w2).mono ?_
 rintro r w3 ⟨⟨es, rfl, ⟨k, n, s9, d1, n1, q1, d2, n2, q2, rfl⟩, hK⟩, hb3⟩
 have hbx : Below w3.heap.size w3 (w3.alloc (.cells #[.int .i64 k, .int .i64 n, .string s9, .slice d1 n1 q1, .slice d2 n2 q2] 61)) := (Below.refl _ _).alloc (Nat.le_refl _) _
 have hX := heap_alloc_new w3 (.cells #[.int .i64 k, .int .i64 n, .string s9, .slice d1 n1 q1, .slice d2 n2 q2] 61)
 have hb4 : Below w2.heap.size w2 (w3.alloc (.cells #[.int .i64 k, .int .i64 n, .string s9, .slice d1 n1 q1, .slice d2 n2 q2] 61)) := hb3.trans (hbx.mono hb3.size)
 have hA4 := (hb4.block w.heap.size (by have := HS1.out; omega)).trans HA1.out
 have HA4 := hide hA4
 have HB4 := hide (HB1.out.trans (hb4.mono HB1.out.size))
 have HS4 : Hid (w2.heap.size <= w3.heap.size /\ (w3.alloc (.cells #[.int .i64 k, .int .i64 n, .string s9, .slice d1 n1 q1, .slice d2 n2 q2] 61)).heap.size = w3.heap.size + 1) := ⟨hb3.size, by simp⟩
 have HK : Hid (P.KM (P.BV 6) (P.New w2 w3) (w3.alloc (.cells #[.int .i64 k, .int .i64 n, .string s9, .slice d1 n1 q1, .slice d2 n2 q2] 61)) v [.int .i64 k, .int .i64 n, .string s9, .slice d1 n1 q1, .slice d2 n2 q2]) := hK.to (fun c hc => hbx.block c hc.2) (fun _ h => h)
 obtain ⟨x0, x1, x2, x3, x4⟩ := cl5 hX
 obtain ⟨mm0, mm1, mm2, mm3, mm4, mm5⟩ := cl6 hA4
 obtain ⟨f0, f1, f2, f3, f4, f5⟩ := fl6 hA4
 clear hK hb3 hbx hX hb4 HV
 go_wp2_with fail
 generalize (w3.alloc _) = w4 at *
 have hFz : Fr w4 _ (fun c => c = w.heap.size) := (((((((Fr.refl w4 (fun c => c = w.heap.size)).set ⟨w.heap.size, 0, none⟩ (.string nb) (fun _ => rfl)).set ⟨w.heap.size, 1, none⟩ (.int .i64 k) (fun _ => rfl)).set ⟨w.heap.size, 2, none⟩ (.int .i64 n) (fun _ => rfl)).set ⟨w.heap.size, 3, none⟩ (.string s9) (fun _ => rfl)).set ⟨w.heap.size, 4, none⟩ (.slice d1 n1 q1) (fun _ => rfl)).set ⟨w.heap.size, 5, none⟩ (.slice d2 n2 q2) (fun _ => rfl))
 have hBz : ((((((w4.setCell ⟨w.heap.size, 0, none⟩ (.string nb)).setCell ⟨w.heap.size, 1, none⟩ (.int .i64 k)).setCell ⟨w.heap.size, 2, none⟩ (.int .i64 n)).setCell ⟨w.heap.size, 3, none⟩ (.string s9)).setCell ⟨w.heap.size, 4, none⟩ (.slice d1 n1 q1)).setCell ⟨w.heap.size, 5, none⟩ (.slice d2 n2 q2)).heap[w.heap.size]? = some (.cells #[.string nb, .int .i64 k, .int .i64 n, .string s9, .slice d1 n1 q1, .slice d2 n2 q2] 68 (0, 0)) := by
  have bq0 : (w4.setCell ⟨w.heap.size, 0, none⟩ (.string nb)).heap[w.heap.size]? = _ := block_set (i := 0) HA4.out (.string nb)
  have bq1 := block_set (i := 1) bq0 (.int .i64 k)
  have bq2 := block_set (i := 2) bq1 (.int .i64 n)
  have bq3 := block_set (i := 3) bq2 (.string s9)
  have bq4 := block_set (i := 4) bq3 (.slice d1 n1 q1)
  exact block_set (i := 5) bq4 (.slice d2 n2 q2)
 generalize ((((((w4.setCell _ _).setCell _ _).setCell _ _).setCell _ _).setCell _ _).setCell _ _) = wz at *
 obtain ⟨r0, r1, r2, r3, r4, r5⟩ := cl6 hBz
 have hs1 := HS1.out
 have hs4 := HS4.out
 refine bodyPost_ret (v := .tuple #[.agg #[.string nb, .int .i64 k, .int .i64 n, .string s9, .slice d1 n1 q1, .slice d2 n2 q2], .nilIface]) (by simp [results, Tryz.results94, go_sem, r0, r1, r2, r3, r4, r5]) rfl ⟨⟨[.string nb, .int .i64 k, .int .i64 n, .string s9, .slice d1 n1 q1, .slice d2 n2 q2], rfl, ⟨nb, k, n, s9, d1, n1, q1, d2, n2, q2, rfl⟩, fun w9 hw9 => ⟨_, rfl, HK.out w9 (fun c hc => ?_)⟩⟩, HB4.out.trans (hFz.below HB4.out.size (fun c e => by omega))⟩
 have h1 := hc.1
 have h2 := hc.2
 have h3 := hFz.size
 rw [hw9 c ⟨by omega, by omega⟩, hFz.block c (by omega) (by omega)]
namespace P
def HeldR (w w' : World) (h : Hd) (cs : List Value) : Prop := (∃ k n s9 d1 n1 q1 d2 n2 q2, cs = [.string h.name, .string h.kind, .int .i64 h.id, .int .i64 k, .int .i64 n, .string s9, .slice d1 n1 q1, .slice d2 n2 q2]) /\ KM (BH 6) (New w w') w' h cs
end P
theorem readHeld_any (h : Hd) (w : World) (hk : (32 : UInt8) ∉ V.bl h.kind) (hn : (32 : UInt8) ∉ V.bl h.name) (hi : 0 <= h.id) (hi2 : S.in64 h.id) (hv : P.Lay 6 h.v) (hf : V.fault 6 h.v = 0) (hb : V.bulk 6 h.v <= 2000000) (hlen : (S.heldText 6 h).length <= 4000) :
  Calls Tryz.prog 92 #[.string (V.str (S.heldText 6 h))] w fun r w' => (∃ cs, r = .returned (.tuple #[.agg cs.toArray, .nilIface]) /\ P.HeldR w w' h cs) /\ Below w.heap.size w w' := by
 have hb0 : Below w.heap.size w (w.alloc (.cells #[.string ⟨#[]⟩, .string ⟨#[]⟩, .int .i64 0, .int .i64 0, .int .i64 0, .string ⟨#[]⟩, .slice none 0 0, .slice none 0 0] 63)) := (Below.refl _ _).alloc (Nat.le_refl _) _
 have hA0 := heap_alloc_new w (.cells #[.string ⟨#[]⟩, .string ⟨#[]⟩, .int .i64 0, .int .i64 0, .int .i64 0, .string ⟨#[]⟩, .slice none 0 0, .slice none 0 0] 63)
 have HS0 : Hid ((w.alloc (.cells #[.string ⟨#[]⟩, .string ⟨#[]⟩, .int .i64 0, .int .i64 0, .int .i64 0, .string ⟨#[]⟩, .slice none 0 0, .slice none 0 0] 63)).heap.size = w.heap.size + 1) := by
  show _ = _
  simp
 have hwd : S.heldText 6 h = S.words [V.bl h.kind, V.bl h.name, Lib.itoa h.id] (V.text 6 h.v) := rfl
 have htl : (V.text 6 h.v).length <= 4000 := by
  have : (V.text 6 h.v).length <= (S.heldText 6 h).length := by
   unfold S.heldText
   simp only [List.length_append, List.length_cons]
   omega
  omega
 have HSP : Hid (∀ w0 : World, Calls Tryz.prog 110 #[.string (V.str (S.heldText 6 h)), .string ⟨#[32]⟩, .int .i64 4] w0 fun e w' => e = .returned (.slice (some ⟨w0.heap.size, 0, none⟩) 4 4) /\ w' = (w0.alloc (.cells #[.string h.kind, .string h.name, .string (V.str (Lib.itoa h.id)), .string (V.str (V.text 6 h.v))] 9))) := fun w0 => by
  have := splitN_any [V.bl h.kind, V.bl h.name, Lib.itoa h.id] (V.text 6 h.v) (by
   intro a ha
   simp only [List.mem_cons, List.not_mem_nil, or_false] at ha
   rcases ha with rfl | rfl | rfl
   ·exact hk
   ·exact hn
   ·exact S.itoa_off _ (.inl rfl)) (by simp) (by simp) (by rw [<- hwd]; omega) w0
  rw [<- hwd] at this
  simpa [V.str_bl] using this
 have HAT : Hid (∀ w : World, Calls Tryz.prog 91 #[.string (V.str (Lib.itoa h.id))] w fun e w' => e = .returned (.tuple #[.int .i64 h.id, .nilIface]) /\ Below w.heap.size w w') := fun w => by
  refine (sh_strconv_Atoi_ok (V.str (Lib.itoa h.id)) (by rw [str_size2]; have := itoa_len2 h.id hi2; omega) h.id (by
   have : (V.str (Lib.itoa h.id)).data.toList = Lib.itoa h.id := V.bl_str _
   rw [this]
   exact S.atoi_itoa h.id hi hi2.2) w).mono ?_
  rintro e w' ⟨he, hw⟩
  refine ⟨he, ?_⟩
  rcases hw with rfl | ⟨t, rfl⟩
  ·exact Below.refl _ _
  ·exact bytes_below _ _ _
 have HV := hide (fun w => value_one h.v w hv hf hb htl)
 obtain ⟨HB0, HA0, HI2⟩ := hd3 hb0 hA0 hi2
 generalize V.str (S.heldText 6 h) = tt at *
 generalize V.str (V.text 6 h.v) = tx at *
 generalize V.str (Lib.itoa h.id) = di at *
 clear hk hn hi hi2 hv hf hb hlen htl hwd hb0 hA0
 go_enter Tryz.func92, Tryz.ntmps92
 go_wp2_with fail
 generalize (w.alloc _) = w0 at *
 refine (HSP.out w0).mono ?_
 rintro r w1 ⟨rfl, hw1⟩
 have hb1 : Below w0.heap.size w0 w1 := by
  rw [hw1]
  exact (Below.refl _ _).alloc (Nat.le_refl _) _
 have hC1 : w1.heap[w0.heap.size]? = some (.cells #[.string h.kind, .string h.name, .string di, .string tx] 9 (0, 0)) := by
  rw [hw1]
  exact heap_alloc_new _ _
 have HA1 := hide ((hb1.block w.heap.size (by have := HS0.out; omega)).trans HA0.out)
 have HB1 := hide (HB0.out.trans (hb1.mono HB0.out.size))
 have HC1 := hide hC1
 have HS1 : Hid (w0.heap.size + 1 <= w1.heap.size) := (blt hC1)
 have y2 := cell_of_block hC1 2 _ rfl
 clear hw1 hb1 hC1 HSP HA0 HB0
 go_wp2_with fail
 refine (HAT.out w1).mono ?_
 rintro r w2 ⟨rfl, hb2⟩
 have hC2 := (hb2.block w0.heap.size (by have := HS1.out; omega)).trans HC1.out
 have HA2 := hide ((hb2.block w.heap.size (by have := HS0.out; have := HS1.out; omega)).trans HA1.out)
 have HB2 := hide (HB1.out.trans (hb2.mono HB1.out.size))
 have HC2 := hide hC2
 have HS2 : Hid (w0.heap.size + 1 <= w2.heap.size) := (blt hC2)
 have y3 := cell_of_block hC2 3 _ rfl
 clear hb2 hC2 HAT HA1 HB1 HC1 y2
 go_wp2_with fail
 refine (HV.out w2).mono ?_
 rintro r w3 ⟨⟨es, rfl, ⟨k, n, s9, d1, n1, q1, d2, n2, q2, rfl⟩, hK⟩, hb3⟩
 have hbx : Below w3.heap.size w3 (w3.alloc (.cells #[.int .i64 k, .int .i64 n, .string s9, .slice d1 n1 q1, .slice d2 n2 q2] 61)) := (Below.refl _ _).alloc (Nat.le_refl _) _
 have hX := heap_alloc_new w3 (.cells #[.int .i64 k, .int .i64 n, .string s9, .slice d1 n1 q1, .slice d2 n2 q2] 61)
 have hb4 : Below w2.heap.size w2 (w3.alloc (.cells #[.int .i64 k, .int .i64 n, .string s9, .slice d1 n1 q1, .slice d2 n2 q2] 61)) := hb3.trans (hbx.mono hb3.size)
 have hA4 := (hb4.block w.heap.size (by have := HS0.out; have := HS2.out; omega)).trans HA2.out
 have hC4 := (hb4.block w0.heap.size (by have := HS2.out; omega)).trans HC2.out
 have HA4 := hide hA4
 have HB4 := hide (HB2.out.trans (hb4.mono HB2.out.size))
 have HS4 : Hid (w2.heap.size <= w3.heap.size /\ (w3.alloc (.cells #[.int .i64 k, .int .i64 n, .string s9, .slice d1 n1 q1, .slice d2 n2 q2] 61)).heap.size = w3.heap.size + 1) := ⟨hb3.size, by simp⟩
 have HK : Hid (P.KM (P.BV 6) (P.New w2 w3) (w3.alloc (.cells #[.int .i64 k, .int .i64 n, .string s9, .slice d1 n1 q1, .slice d2 n2 q2] 61)) h.v [.int .i64 k, .int .i64 n, .string s9, .slice d1 n1 q1, .slice d2 n2 q2]) := hK.to (fun c hc => hbx.block c hc.2) (fun _ h => h)
 obtain ⟨x0, x1, x2, x3, x4⟩ := cl5 hX
 obtain ⟨mm0, mm1, mm2, mm3, mm4, mm5, mm6, mm7⟩ := cl8 hA4
 obtain ⟨f0, f1, f2, f3, f4, f5, f6, f7⟩ := fl8 hA4
 have y0 := cell_of_block hC4 0 _ rfl
 have y1 := cell_of_block hC4 1 _ rfl
 clear hK hb3 hbx hX hb4 hA4 hC4 HV y3
 go_wp2_with fail
 generalize (w3.alloc _) = w4 at *
 go_region
 go_wp2_with fail
 have hFz : Fr w4 _ (fun c => c = w.heap.size) := (((((((((Fr.refl w4 (fun c => c = w.heap.size)).set ⟨w.heap.size, 0, none⟩ (.string h.name) (fun _ => rfl)).set ⟨w.heap.size, 1, none⟩ (.string h.kind) (fun _ => rfl)).set ⟨w.heap.size, 2, none⟩ (.int .i64 h.id) (fun _ => rfl)).set ⟨w.heap.size, 3, none⟩ (.int .i64 k) (fun _ => rfl)).set ⟨w.heap.size, 4, none⟩ (.int .i64 n) (fun _ => rfl)).set ⟨w.heap.size, 5, none⟩ (.string s9) (fun _ => rfl)).set ⟨w.heap.size, 6, none⟩ (.slice d1 n1 q1) (fun _ => rfl)).set ⟨w.heap.size, 7, none⟩ (.slice d2 n2 q2) (fun _ => rfl))
 have hBz : ((((((((w4.setCell ⟨w.heap.size, 0, none⟩ (.string h.name)).setCell ⟨w.heap.size, 1, none⟩ (.string h.kind)).setCell ⟨w.heap.size, 2, none⟩ (.int .i64 h.id)).setCell ⟨w.heap.size, 3, none⟩ (.int .i64 k)).setCell ⟨w.heap.size, 4, none⟩ (.int .i64 n)).setCell ⟨w.heap.size, 5, none⟩ (.string s9)).setCell ⟨w.heap.size, 6, none⟩ (.slice d1 n1 q1)).setCell ⟨w.heap.size, 7, none⟩ (.slice d2 n2 q2)).heap[w.heap.size]? = some (.cells #[.string h.name, .string h.kind, .int .i64 h.id, .int .i64 k, .int .i64 n, .string s9, .slice d1 n1 q1, .slice d2 n2 q2] 63 (0, 0)) := by
  have bq0 : (w4.setCell ⟨w.heap.size, 0, none⟩ (.string h.name)).heap[w.heap.size]? = _ := block_set (i := 0) HA4.out (.string h.name)
  have bq1 := block_set (i := 1) bq0 (.string h.kind)
  have bq2 := block_set (i := 2) bq1 (.int .i64 h.id)
  have bq3 := block_set (i := 3) bq2 (.int .i64 k)
  have bq4 := block_set (i := 4) bq3 (.int .i64 n)
  have bq5 := block_set (i := 5) bq4 (.string s9)
  have bq6 := block_set (i := 6) bq5 (.slice d1 n1 q1)
  exact block_set (i := 7) bq6 (.slice d2 n2 q2)
 generalize ((((((((w4.setCell _ _).setCell _ _).setCell _ _).setCell _ _).setCell _ _).setCell _ _).setCell _ _).setCell _ _) = wz at *
 obtain ⟨r0, r1, r2, r3, r4, r5, r6, r7⟩ := cl8 hBz
 have hs0 := HS0.out
 have hs2 := HS2.out
 have hs4 := HS4.out
 refine bodyPost_ret (v := .tuple #[.agg #[.string h.name, .string h.kind, .int .i64 h.id, .int .i64 k, .int .i64 n, .string s9, .slice d1 n1 q1, .slice d2 n2 q2], .nilIface]) (by simp [results, Tryz.results92, go_sem, r0, r1, r2, r3, r4, r5, r6, r7]) rfl ⟨⟨[.string h.name, .string h.kind, .int .i64 h.id, .int .i64 k, .int .i64 n, .string s9, .slice d1 n1 q1, .slice d2 n2 q2], rfl, ⟨k, n, s9, d1, n1, q1, d2, n2, q2, rfl⟩, fun w9 hw9 => ⟨_, _, _, _, _, rfl, HK.out w9 (fun c hc => ?_), HI2.out⟩⟩, HB4.out.trans (hFz.drew.below HB4.out.size (fun c e => by omega))⟩
 have h1 := hc.1
 have h2 := hc.2
 have h3 := hFz.size
 have h4 : wz.drew.heap.size = wz.heap.size := rfl
 have h5 : wz.drew.heap[c]? = wz.heap[c]? := rfl
 rw [hw9 c ⟨by omega, by omega⟩, h5, hFz.block c (by omega) (by omega)]
namespace P
def ItR (w w' : World) (x : Vx.It) (cs : List Value) : Prop := (∃ k n s9 d1 n1 q1 d2 n2 q2, cs = [.int .i64 x.op, .string x.h.name, .string x.h.kind, .int .i64 x.h.id, .int .i64 k, .int .i64 n, .string s9, .slice d1 n1 q1, .slice d2 n2 q2, .string x.token]) /\ KM (BI 6) (New w w') w' x cs
end P
theorem readIntent_any (x : It) (w : World) (ht : (32 : UInt8) ∉ V.bl x.token) (hk : (32 : UInt8) ∉ V.bl x.h.kind) (hn : (32 : UInt8) ∉ V.bl x.h.name) (hi : 0 <= x.h.id) (hi2 : S.in64 x.h.id) (ho : 0 <= x.op) (ho2 : S.in64 x.op) (hv : P.Lay 6 x.h.v) (hf : V.fault 6 x.h.v = 0) (hb : V.bulk 6 x.h.v <= 2000000) (hlen : (S.words [Lib.itoa x.op, V.bl x.token] (S.heldText 6 x.h)).length <= 4000) :
  Calls Tryz.prog 93 #[.string (V.str (S.words [Lib.itoa x.op, V.bl x.token] (S.heldText 6 x.h)))] w fun r w' => (∃ cs, r = .returned (.tuple #[.agg cs.toArray, .nilIface]) /\ P.ItR w w' x cs) /\ Below w.heap.size w w' := by
 have hb0 : Below w.heap.size w (w.alloc (.cells #[.int .i64 0, .string ⟨#[]⟩, .string ⟨#[]⟩, .int .i64 0, .int .i64 0, .int .i64 0, .string ⟨#[]⟩, .slice none 0 0, .slice none 0 0, .string ⟨#[]⟩] 66)) := (Below.refl _ _).alloc (Nat.le_refl _) _
 have hA0 := heap_alloc_new w (.cells #[.int .i64 0, .string ⟨#[]⟩, .string ⟨#[]⟩, .int .i64 0, .int .i64 0, .int .i64 0, .string ⟨#[]⟩, .slice none 0 0, .slice none 0 0, .string ⟨#[]⟩] 66)
 have HS0 : Hid ((w.alloc (.cells #[.int .i64 0, .string ⟨#[]⟩, .string ⟨#[]⟩, .int .i64 0, .int .i64 0, .int .i64 0, .string ⟨#[]⟩, .slice none 0 0, .slice none 0 0, .string ⟨#[]⟩] 66)).heap.size = w.heap.size + 1) := by
  show _ = _
  simp
 have htl : (S.heldText 6 x.h).length <= 4000 := by
  simp only [S.words, List.length_append, List.length_cons] at hlen
  omega
 have HSP : Hid (∀ w0 : World, Calls Tryz.prog 110 #[.string (V.str (S.words [Lib.itoa x.op, V.bl x.token] (S.heldText 6 x.h))), .string ⟨#[32]⟩, .int .i64 3] w0 fun e w' => e = .returned (.slice (some ⟨w0.heap.size, 0, none⟩) 3 3) /\ w' = (w0.alloc (.cells #[.string (V.str (Lib.itoa x.op)), .string x.token, .string (V.str (S.heldText 6 x.h))] 9))) := fun w0 => by
  have := splitN_any [Lib.itoa x.op, V.bl x.token] (S.heldText 6 x.h) (by
   intro a ha
   simp only [List.mem_cons, List.not_mem_nil, or_false] at ha
   rcases ha with rfl | rfl
   ·exact S.itoa_off _ (.inl rfl)
   ·exact ht) (by simp) (by simp) (by omega) w0
  simpa [V.str_bl] using this
 have HAT : Hid (∀ w : World, Calls Tryz.prog 91 #[.string (V.str (Lib.itoa x.op))] w fun e w' => e = .returned (.tuple #[.int .i64 x.op, .nilIface]) /\ Below w.heap.size w w') := fun w => by
  refine (sh_strconv_Atoi_ok (V.str (Lib.itoa x.op)) (by rw [str_size2]; have := itoa_len2 x.op ho2; omega) x.op (by
   have : (V.str (Lib.itoa x.op)).data.toList = Lib.itoa x.op := V.bl_str _
   rw [this]
   exact S.atoi_itoa x.op ho ho2.2) w).mono ?_
  rintro e w' ⟨he, hw⟩
  refine ⟨he, ?_⟩
  rcases hw with rfl | ⟨t, rfl⟩
  ·exact Below.refl _ _
  ·exact bytes_below _ _ _
 have HV := hide (fun w => readHeld_any x.h w hk hn hi hi2 hv hf hb htl)
 obtain ⟨HB0, HA0, HO2⟩ := hd3 hb0 hA0 ho2
 generalize V.str (S.words [Lib.itoa x.op, V.bl x.token] (S.heldText 6 x.h)) = tt at *
 generalize V.str (S.heldText 6 x.h) = tx at *
 generalize V.str (Lib.itoa x.op) = di at *
 clear hk hn hi hi2 ho ho2 ht hv hf hb hlen htl hb0 hA0
 go_enter Tryz.func93, Tryz.ntmps93
 go_wp2_with fail
 generalize (w.alloc _) = w0 at *
 refine (HSP.out w0).mono ?_
 rintro r w1 ⟨rfl, hw1⟩
 have hb1 : Below w0.heap.size w0 w1 := by
  rw [hw1]
  exact (Below.refl _ _).alloc (Nat.le_refl _) _
 have hC1 : w1.heap[w0.heap.size]? = some (.cells #[.string di, .string x.token, .string tx] 9 (0, 0)) := by
  rw [hw1]
  exact heap_alloc_new _ _
 have HA1 := hide ((hb1.block w.heap.size (by have := HS0.out; omega)).trans HA0.out)
 have HB1 := hide (HB0.out.trans (hb1.mono HB0.out.size))
 have HC1 := hide hC1
 have HS1 : Hid (w0.heap.size + 1 <= w1.heap.size) := (blt hC1)
 have y0 := cell_of_block hC1 0 _ rfl
 clear hw1 hb1 hC1 HSP HA0 HB0
 go_wp2_with fail
 refine (HAT.out w1).mono ?_
 rintro r w2 ⟨rfl, hb2⟩
 have hC2 := (hb2.block w0.heap.size (by have := HS1.out; omega)).trans HC1.out
 have HA2 := hide ((hb2.block w.heap.size (by have := HS0.out; have := HS1.out; omega)).trans HA1.out)
 have HB2 := hide (HB1.out.trans (hb2.mono HB1.out.size))
 have HC2 := hide hC2
 have HS2 : Hid (w0.heap.size + 1 <= w2.heap.size) := (blt hC2)
 have y2 := cell_of_block hC2 2 _ rfl
 clear hb2 hC2 HAT HA1 HB1 HC1 y0
 go_wp2_with fail
 refine (HV.out w2).mono ?_
 rintro r w3 ⟨⟨es, rfl, ⟨k, n, s9, d1, n1, q1, d2, n2, q2, rfl⟩, hK⟩, hb3⟩
 have hbx : Below w3.heap.size w3 (w3.alloc (.cells #[.string x.h.name, .string x.h.kind, .int .i64 x.h.id, .int .i64 k, .int .i64 n, .string s9, .slice d1 n1 q1, .slice d2 n2 q2] 63)) := (Below.refl _ _).alloc (Nat.le_refl _) _
 have hX := heap_alloc_new w3 (.cells #[.string x.h.name, .string x.h.kind, .int .i64 x.h.id, .int .i64 k, .int .i64 n, .string s9, .slice d1 n1 q1, .slice d2 n2 q2] 63)
 have hb4 : Below w2.heap.size w2 (w3.alloc (.cells #[.string x.h.name, .string x.h.kind, .int .i64 x.h.id, .int .i64 k, .int .i64 n, .string s9, .slice d1 n1 q1, .slice d2 n2 q2] 63)) := hb3.trans (hbx.mono hb3.size)
 have hA4 := (hb4.block w.heap.size (by have := HS0.out; have := HS2.out; omega)).trans HA2.out
 have hC4 := (hb4.block w0.heap.size (by have := HS2.out; omega)).trans HC2.out
 have HA4 := hide hA4
 have HB4 := hide (HB2.out.trans (hb4.mono HB2.out.size))
 have HS4 : Hid (w2.heap.size <= w3.heap.size /\ (w3.alloc (.cells #[.string x.h.name, .string x.h.kind, .int .i64 x.h.id, .int .i64 k, .int .i64 n, .string s9, .slice d1 n1 q1, .slice d2 n2 q2] 63)).heap.size = w3.heap.size + 1) := ⟨hb3.size, by simp⟩
 have HK : Hid (P.KM (P.BH 6) (P.New w2 w3) (w3.alloc (.cells #[.string x.h.name, .string x.h.kind, .int .i64 x.h.id, .int .i64 k, .int .i64 n, .string s9, .slice d1 n1 q1, .slice d2 n2 q2] 63)) x.h [.string x.h.name, .string x.h.kind, .int .i64 x.h.id, .int .i64 k, .int .i64 n, .string s9, .slice d1 n1 q1, .slice d2 n2 q2]) := hK.to (fun c hc => hbx.block c hc.2) (fun _ h => h)
 obtain ⟨x0, x1, x2, x3, x4, x5, x6, x7⟩ := cl8 hX
 obtain ⟨mm0, mm1, mm2, mm3, mm4, mm5, mm6, mm7, mm8, mm9⟩ := cl10 hA4
 obtain ⟨f0, f1, f2, f3, f4, f5, f6, f7, f8, f9⟩ := fl10 hA4
 have y1 := cell_of_block hC4 1 _ rfl
 clear hK hb3 hbx hX hb4 hA4 hC4 HV y2
 go_wp2_with fail
 generalize (w3.alloc _) = w4 at *
 go_region
 go_wp2_with fail
 have hFz : Fr w4 _ (fun c => c = w.heap.size) := (((((((((((Fr.refl w4 (fun c => c = w.heap.size)).set ⟨w.heap.size, 0, none⟩ (.int .i64 x.op) (fun _ => rfl)).set ⟨w.heap.size, 1, none⟩ (.string x.h.name) (fun _ => rfl)).set ⟨w.heap.size, 2, none⟩ (.string x.h.kind) (fun _ => rfl)).set ⟨w.heap.size, 3, none⟩ (.int .i64 x.h.id) (fun _ => rfl)).set ⟨w.heap.size, 4, none⟩ (.int .i64 k) (fun _ => rfl)).set ⟨w.heap.size, 5, none⟩ (.int .i64 n) (fun _ => rfl)).set ⟨w.heap.size, 6, none⟩ (.string s9) (fun _ => rfl)).set ⟨w.heap.size, 7, none⟩ (.slice d1 n1 q1) (fun _ => rfl)).set ⟨w.heap.size, 8, none⟩ (.slice d2 n2 q2) (fun _ => rfl)).set ⟨w.heap.size, 9, none⟩ (.string x.token) (fun _ => rfl))
 have hBz : ((((((((((w4.setCell ⟨w.heap.size, 0, none⟩ (.int .i64 x.op)).setCell ⟨w.heap.size, 1, none⟩ (.string x.h.name)).setCell ⟨w.heap.size, 2, none⟩ (.string x.h.kind)).setCell ⟨w.heap.size, 3, none⟩ (.int .i64 x.h.id)).setCell ⟨w.heap.size, 4, none⟩ (.int .i64 k)).setCell ⟨w.heap.size, 5, none⟩ (.int .i64 n)).setCell ⟨w.heap.size, 6, none⟩ (.string s9)).setCell ⟨w.heap.size, 7, none⟩ (.slice d1 n1 q1)).setCell ⟨w.heap.size, 8, none⟩ (.slice d2 n2 q2)).setCell ⟨w.heap.size, 9, none⟩ (.string x.token)).heap[w.heap.size]? = some (.cells #[.int .i64 x.op, .string x.h.name, .string x.h.kind, .int .i64 x.h.id, .int .i64 k, .int .i64 n, .string s9, .slice d1 n1 q1, .slice d2 n2 q2, .string x.token] 66 (0, 0)) := P.set10 HA4.out _ _ _ _ _ _ _ _ _ _
 generalize ((((((((((w4.setCell _ _).setCell _ _).setCell _ _).setCell _ _).setCell _ _).setCell _ _).setCell _ _).setCell _ _).setCell _ _).setCell _ _) = wz at *
 obtain ⟨r0, r1, r2, r3, r4, r5, r6, r7, r8, r9⟩ := cl10 hBz
 have hs0 := HS0.out
 have hs2 := HS2.out
 have hs4 := HS4.out
 refine bodyPost_ret (v := .tuple #[.agg #[.int .i64 x.op, .string x.h.name, .string x.h.kind, .int .i64 x.h.id, .int .i64 k, .int .i64 n, .string s9, .slice d1 n1 q1, .slice d2 n2 q2, .string x.token], .nilIface]) (by simp [results, Tryz.results93, go_sem, r0, r1, r2, r3, r4, r5, r6, r7, r8, r9]) rfl ⟨⟨[.int .i64 x.op, .string x.h.name, .string x.h.kind, .int .i64 x.h.id, .int .i64 k, .int .i64 n, .string s9, .slice d1 n1 q1, .slice d2 n2 q2, .string x.token], rfl, ⟨k, n, s9, d1, n1, q1, d2, n2, q2, rfl⟩, fun w9 hw9 => ?_⟩, HB4.out.trans (hFz.drew.below HB4.out.size (fun c e => by omega))⟩
 obtain ⟨a0, a1, a2, a3, a4, e, hM, hI⟩ := HK.out w9 (fun c hc => by
  have h1 := hc.1
  have h2 := hc.2
  have h3 := hFz.size
  have h4 : wz.drew.heap.size = wz.heap.size := rfl
  have h5 : wz.drew.heap[c]? = wz.heap[c]? := rfl
  rw [hw9 c ⟨by omega, by omega⟩, h5, hFz.block c (by omega) (by omega)])
 simp only [List.cons.injEq, and_true, true_and] at e
 obtain ⟨rfl, rfl, rfl, rfl, rfl⟩ := e
 exact ⟨_, _, _, _, _, rfl, hM, hI, HO2.out⟩
end Go.Proofs.YtcekcfjabhlheaaGreatDoor.Vx
