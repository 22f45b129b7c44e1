/- For TopPrint: each (resources, outputs). -/
import Derived.Test.YtbdbpfcblppnbaaGreatDoorR8
import Derived.Test.YtbdbpfcblppnbaaGreatDoorV4
namespace Go.Proofs.YtbdbpfcblppnbaaGreatDoor.Vx
open Go.RowKit
set_option maxRecDepth 100000 in
theorem info53 : (Tryz.prog.info? 53).map (fun i => (i.zero, i.size, i.bytes)) = some (some (.agg #[.string ⟨#[]⟩, .string ⟨#[]⟩, .slice none 0 0]), 3, 56) := by kernel_rfl
set_option maxRecDepth 100000 in
set_option maxHeartbeats 6400000 in
theorem each_any28 {α : Type} (B : P.Base α) (blk : α → Nat) (p : List P.T → Option (α × List P.T)) (R : Nat) (word : ByteArray) (most : Nat) (hm : most ≤ 100)
  (hone : ∀ w ts, P.Rdr R w ts → Calls Tryz.prog 29 #[.pointer (some ⟨R, 0, none⟩)] w fun r w' => Fr w w' (fun c => c = R) ∧ P.OneK B blk P.ShR p R w w' ts r) (w : World) (ts : List P.K) (h : P.Rdr R w ts) :
  Calls Tryz.prog 28 #[.pointer (some ⟨R, 0, none⟩), .string word, .int .i64 most, .func (.func 29) #[.pointer (some ⟨R, 0, none⟩)] #[]] w fun r w' => Fr w w' (fun c => c = R) ∧ P.EachK B blk 3 (P.each (V.bl word) most p (ts.length + 1) 0 (P.fc ts)) R w w' ts r := by
 have hR := h.lt
 have HRlt := hide hR
 have HU : Hid (Tryz.prog.underlying 38 = some (.slice 53)) := Tryz.underlying38
 obtain ⟨i0, hi0, hz0, hz1, hz2⟩ := info_parts info53
 have HF0 := hide (Fr.refl w (fun c => c = R))
 have HO := hide hone
 have H := hide h
 have HM := hide hm
 clear h hone hR hm
 go_enter Tryz.func28, Tryz.ntmps28
 go_wp2_with fail
 go_loopg [10, 11, 12, 13] (ts.length + 1) (fun gk vl _ _ _ wr => ∃ (L : List (α × List Value)) (m : Nat) (ao : Option Addr) (cap : Nat), vl = .slice ao L.length cap ∧ P.GrowK B 53 3 w.heap.size wr (.slice ao L.length cap) L ∧ Fr w wr (fun c => c = R) ∧ P.Rdr R wr (ts.drop m) ∧ (ts.drop m).length < gk ∧ L.length ≤ most ∧
   ((L.map (fun x => blk x.1)).sum + L.length + 60 * (ts.drop m).length ≤ 60 * ts.length) ∧ P.each (V.bl word) most p (ts.length + 1) 0 (P.fc ts) = (P.each (V.bl word) most p gk L.length (P.fc (ts.drop m))).map (fun q => (L.map (fun x => x.1) ++ q.1, q.2)))
 case atStart =>
  refine ⟨[], 0, none, 0, rfl, P.GrowK.nil _ _ _ _ _, HF0.out, H.out, by simp, by simp, by simp, ?_⟩
  simp
 case round =>
  obtain ⟨L, m, ao, cap, rfl, hG, hf, hr, hl, hLm, hbk, hq⟩ := hrel
  have HNX := hide (next_any R wr (ts.drop m) hr)
  have HG := hide hG
  have HFr := hide hf
  have HRr := hide hr
  have HL := hide hl
  have HLM := hide hLm
  have HBK := hide hbk
  have HQ := hide hq
  clear hG hf hr hl hLm hbk hq H HF0
  go_wp2_with fail
  refine HNX.out.mono ?_
  rintro r wa ⟨⟨at_, rfl⟩, hba⟩
  have hfd := field_at (.int .i64 (P.headT (ts.drop m)).1) (.int .i64 at_) (.string (Lx.str (P.headT (ts.drop m)).2)) wa
  have HFa : Hid (Fr w wa (fun c => c = R)) := HFr.out.trans ((P.fr_below hba).weak (ex1 := fun c => c = R) (fun _ _ e => e.elim)) (fun _ _ e => e)
  have HGa : Hid (P.GrowK B 53 3 w.heap.size wa (.slice ao L.length cap) L) := HG.out.fr (P.fr_below hba) (fun c e => e.elim)
  have HFD := hide (found_any R wa (ts.drop m) 1 word (by decide) (HRr.out.kept hba))
  clear hba HNX HG HFr HRr
  go_wp2_with fail
  refine HFD.out.mono ?_
  rintro r wb ⟨hfb, ⟨t, ts1, eT, hE, rfl, hrb⟩ | ⟨hE, rfl, hrb⟩⟩
  ·have e1 : ts.drop (m + 1) = ts1 := P.drop_next eT
   have hlen : (ts.drop m).length = ts1.length + 1 := by rw [eT, List.length_cons]
   obtain ⟨g, hg⟩ : ∃ g, gk = g + 1 := ⟨gk - 1, by have := HL.out; omega⟩
   have HE : Hid (P.found 1 (V.bl word) (P.fc (ts.drop m)) = some (P.fc ts1)) := hE
   have HFb := hide (HFa.out.trans hfb (fun _ _ e => e))
   have HGb := hide (HGa.out.fr hfb (fun c e => by have := HRlt.out; omega))
   have HBB : Hid (w.heap.size ≤ wb.heap.size) := HFb.out.size
   by_cases hmost : L.length = most
   ·have HP : Hid (P.each (V.bl word) most p (ts.length + 1) 0 (P.fc ts) = none) := by
     show _ = _
     rw [HQ.out, hg, P.each, HE.out]
     simp only
     rw [if_pos hmost]
     rfl
    have HFL := hide (failAt_any R wb ts1 at_ (.iface 62 (.int .i64 2)) hrb)
    have hcmp : (((L.length : Nat) : Int) == (most : Int)) = true := by simp [hmost]
    clear hfb hE hrb eT e1 hlen hg hmost HFD HE HQ HFa hfd
    go_wp2_with fail
    refine HFL.out.mono ?_
    rintro r wc ⟨rfl, hrc, hfc⟩
    have HFc := hide (HFb.out.trans hfc (fun _ _ e => e))
    have HRc := hide hrc
    clear hrc hfc HFL
    go_wp2_with fail
    exact bodyPost_ret (v := .tuple #[.slice none 0 0, .iface 62 (.int .i64 2)]) (by simp [results, Tryz.results28, go_sem]) rfl ⟨HFc.out, _, _, rfl, .inr ⟨HP.out, ⟨2, rfl⟩, rfl, _, HRc.out⟩⟩
   ·have hcmp : (((L.length : Nat) : Int) == (most : Int)) = false := by
     rw [beq_eq_false_iff_ne]
     omega
    have HLM2 : Hid (L.length + 1 ≤ most) := by
     show _ ≤ _
     have := HLM.out
     omega
    have HON := hide (HO.out wb ts1 hrb)
    have HQ2 : Hid (P.each (V.bl word) most p (ts.length + 1) 0 (P.fc ts) = (P.eachGo (V.bl word) most p g (L.length + 1) (p (P.fc ts1))).map (fun q => (L.map (fun x => x.1) ++ q.1, q.2))) := by
     show _ = _
     rw [HQ.out, hg, P.each_next HE.out hmost]
    have HGK : Hid (ts1.length < g ∧ g < gk) := by
     have := HL.out
     exact ⟨by omega, by omega⟩
    have HE1 := hide e1
    have HLN := hide hlen
    clear hfb hE hrb eT e1 hlen hg hmost HFD HE HQ HFa hfd HL HLM
    go_wp2_with fail
    refine HON.out.mono ?_
    rintro r wc ⟨hfc, ⟨x, n, cs, hE2, rfl, ⟨y1, y2, y3, y4, y5, rfl⟩, hM, hbk2, hrc⟩ | ⟨hE2, ⟨cs, f, rfl, ⟨y1, y2, y3, y4, y5, rfl⟩⟩, ts', hrc⟩⟩
    ·have HFc := hide (HFb.out.trans hfc (fun _ _ e => e))
     have HGc : Hid (P.GrowK B 53 3 w.heap.size wc (.slice ao L.length cap) L) := HGb.out.fr hfc (fun c e => by have := HRlt.out; omega)
     have HG2 : Hid (P.GrowK B 53 3 w.heap.size ((wc.alloc (.cells #[.string y1, .string y2, .slice y3 y4 y5] 53)).alloc (.cells #[.string y1, .string y2, .slice y3 y4 y5] 53)) (.slice ao L.length cap) L) := HGc.out.fr (ex := fun _ => False) (((Fr.refl wc _).alloc _).alloc _) (fun c e => e.elim)
     have HOW := hide HG2.out.own
     have HF2 : Hid (Fr w ((wc.alloc (.cells #[.string y1, .string y2, .slice y3 y4 y5] 53)).alloc (.cells #[.string y1, .string y2, .slice y3 y4 y5] 53)) (fun c => c = R)) := (HFc.out.alloc _).alloc _
     have HBC : Hid (wb.heap.size ≤ wc.heap.size) := hfc.size
     have HM2 : Hid (P.KM B (fun c => w.heap.size ≤ c ∧ c < ((wc.alloc (.cells #[.string y1, .string y2, .slice y3 y4 y5] 53)).alloc (.cells #[.string y1, .string y2, .slice y3 y4 y5] 53)).heap.size ∧ (Value.slice ao L.length cap).ownBlock ≠ some c) ((wc.alloc (.cells #[.string y1, .string y2, .slice y3 y4 y5] 53)).alloc (.cells #[.string y1, .string y2, .slice y3 y4 y5] 53)) x [.string y1, .string y2, .slice y3 y4 y5]) := by
      refine hM.to (fun c hc => ?_) (fun c hc => ?_)
      ·rw [heap_alloc_old _ _ (by simp; have := hc.2; omega), heap_alloc_old _ _ hc.2]
      ·refine ⟨?_, ?_, fun e => ?_⟩
       ·have := hc.1
        have := HBB.out
        omega
       ·have := hc.2
        simp
        omega
       ·have := (HGb.out.own.lt c e).2
        have := hc.1
        omega
     have HR2 : Hid (P.Rdr R ((wc.alloc (.cells #[.string y1, .string y2, .slice y3 y4 y5] 53)).alloc (.cells #[.string y1, .string y2, .slice y3 y4 y5] 53)) (ts1.drop n)) := (hrc.kept ((Below.refl _ _).alloc (Nat.le_refl _) _)).kept ((Below.refl _ _).alloc (Nat.le_refl _) _)
     have hX : (wc.alloc (.cells #[.string y1, .string y2, .slice y3 y4 y5] 53)).heap[wc.heap.size]? = some (.cells #[.string y1, .string y2, .slice y3 y4 y5] 53 (0, 0)) := heap_alloc_new _ _
     obtain ⟨x0, x1, x2⟩ := cl3 hX
     have HWS : Hid ((wc.alloc (.cells #[.string y1, .string y2, .slice y3 y4 y5] 53)).heap.size = wc.heap.size + 1) := by
      show _ = _
      simp
     have H1 : Hid (∀ u ∈ ([.string y1, .string y2, .slice y3 y4 y5] : List Value), u.oneCell' = true) := by
      show ∀ u ∈ _, _
      simp [Value.oneCell']
     have HE2 := hide hE2
     have HBK2 := hide hbk2
     have hL100 : L.length + 1 ≤ 100 := by
      have := HLM2.out
      have := HM.out
      omega
     clear hfc hX hM hrc hE2 hbk2 HON HFc HGc HGb HFb
     go_wp2_with (at_builtin; go_must (refine wpList_append_lies _ rfl (.tmp 38) (.tmp 40) 38 rfl w.heap.size 53 i0 (.agg #[.string ⟨#[]⟩, .string ⟨#[]⟩, .slice none 0 0]) 3 56 HU.out hi0 hz0 hz1 hz2 rfl (by decide) (.slice ao L.length cap) L.length (L.flatMap (fun x => x.2)) rfl HOW.out ⟨wc.heap.size + 1, 0, none⟩ 1 1 [.string y1, .string y2, .slice y3 y4 y5] rfl rfl (news_alloc _ #[.string y1, .string y2, .slice y3 y4 y5] _ _ HWS.out) H1.out (by decide) (by unfold maxLen; omega) (by omega) (by have := HBB.out; have := HBC.out; simp; omega) _ rfl ?_); intro gA capA wA hownA hgrow hat hltA)
     have HGA := hide (HG2.out.app rfl HM2.out hownA hgrow hat)
     have HFA : Hid (Fr w wA (fun c => c = R)) := HF2.out.grown hgrow (fun c e hc => by have := (HOW.out.lt c e).1; omega)
     have HRA : Hid (P.Rdr R wA (ts1.drop n)) := HR2.out.fr (ex := fun c => (Value.slice ao L.length cap).ownBlock = some c) ((Fr.refl _ _).grown hgrow (fun c e _ => e)) (fun c e => by have := (HOW.out.lt c e).1; have := HRlt.out; omega)
     clear hownA hgrow hat hltA
     go_wp2_with fail
     go_roundg g
     case measure => exact HGK.out.2
     case rel =>
      refine ⟨L ++ [(x, [.string y1, .string y2, .slice y3 y4 y5])], m + 1 + n, some ⟨gA, 0, none⟩, capA, by simp, HGA.out, HFA.out, ?_, ?_, ?_, ?_, ?_⟩
      ·rw [← List.drop_drop, HE1.out]
       exact HRA.out
      ·rw [← List.drop_drop, HE1.out]
       have := HGK.out.1
       simp only [List.length_drop]
       omega
      ·rw [List.length_append]
       exact HLM2.out
      ·rw [← List.drop_drop, HE1.out]
       have h1 := HBK2.out
       have h2 := HBK.out
       have h3 := HLN.out
       simp only [List.map_append, List.sum_append, List.map_cons, List.map_nil, List.sum_cons, List.sum_nil, List.length_append, List.length_cons, List.length_nil]
       omega
      ·rw [HQ2.out, HE2.out, ← List.drop_drop, HE1.out]
       unfold P.eachGo
       simp only
       rw [List.length_append, List.length_singleton]
       cases P.each (V.bl word) most p g (L.length + 1) (P.fc (ts1.drop n)) <;> simp
    ·have HFc : Hid (Fr w (wc.alloc (.cells #[.string y1, .string y2, .slice y3 y4 y5] 53)) (fun c => c = R)) := (HFb.out.trans hfc (fun _ _ e => e)).alloc _
     have HRc : Hid (P.Rdr R (wc.alloc (.cells #[.string y1, .string y2, .slice y3 y4 y5] 53)) ts') := hrc.kept ((Below.refl _ _).alloc (Nat.le_refl _) _)
     have HP : Hid (P.each (V.bl word) most p (ts.length + 1) 0 (P.fc ts) = none) := by
      show _ = _
      rw [HQ2.out, hE2]
      rfl
     clear hfc hrc hE2 HON HQ2
     go_wp2_with fail
     exact bodyPost_ret (v := .tuple #[.slice none 0 0, .iface 62 (.int .i64 f)]) (by simp [results, Tryz.results28, go_sem]) rfl ⟨HFc.out, _, _, rfl, .inr ⟨HP.out, ⟨f, rfl⟩, rfl, _, HRc.out⟩⟩
  ·have HP : Hid (P.each (V.bl word) most p (ts.length + 1) 0 (P.fc ts) = some (L.map (fun x => x.1), P.fc (ts.drop m))) := by
    show _ = _
    obtain ⟨g, hg⟩ : ∃ g, gk = g + 1 := ⟨gk - 1, by have := HL.out; omega⟩
    rw [HQ.out, hg, P.each, hE]
    simp
   have HFb := hide (HFa.out.trans hfb (fun _ _ e => e))
   have HGb := hide (HGa.out.fr hfb (fun c e => by have := HRlt.out; omega))
   have HRb := hide hrb
   have HSP : Hid (∃ ao' cap', Value.slice ao L.length cap = .slice ao' (L.map (fun x => x.1)).length cap') := ⟨ao, cap, by rw [List.length_map]⟩
   have HBK3 : Hid (((L.map (fun x => x.1)).map blk).sum + (L.map (fun x => x.1)).length + 60 * (ts.drop m).length ≤ 60 * ts.length) := by
    show _ ≤ _
    rw [List.map_map, List.length_map]
    exact HBK.out
   clear hfb hE hrb HFD HQ HFa hfd HBK
   go_wp2_with fail
   exact bodyPost_ret (v := .tuple #[.slice ao L.length cap, .nilIface]) (by simp [results, Tryz.results28, go_sem]) rfl ⟨HFb.out, _, _, rfl, .inl ⟨_, m, HP.out, rfl, HGb.out.row, HSP.out, HBK3.out, HRb.out⟩⟩
set_option maxRecDepth 100000 in
theorem info61 : (Tryz.prog.info? 61).map (fun i => (i.zero, i.size, i.bytes)) = some (some (.agg #[.string ⟨#[]⟩, .int .i64 0, .int .i64 0, .int .i64 0, .string ⟨#[]⟩, .slice none 0 0, .slice none 0 0, .string ⟨#[]⟩, .string ⟨#[]⟩, .slice none 0 0, .slice none 0 0]), 11, 184) := by kernel_rfl
set_option maxRecDepth 100000 in
set_option maxHeartbeats 6400000 in
theorem each_any30 {α : Type} (B : P.Base α) (blk : α → Nat) (p : List P.T → Option (α × List P.T)) (R : Nat) (word : ByteArray) (most : Nat) (hm : most ≤ 100)
  (hone : ∀ w ts, P.Rdr R w ts → Calls Tryz.prog 31 #[.pointer (some ⟨R, 0, none⟩)] w fun r w' => Fr w w' (fun c => c = R) ∧ P.OneK B blk P.ShO p R w w' ts r) (w : World) (ts : List P.K) (h : P.Rdr R w ts) :
  Calls Tryz.prog 30 #[.pointer (some ⟨R, 0, none⟩), .string word, .int .i64 most, .func (.func 31) #[.pointer (some ⟨R, 0, none⟩)] #[]] w fun r w' => Fr w w' (fun c => c = R) ∧ P.EachK B blk 11 (P.each (V.bl word) most p (ts.length + 1) 0 (P.fc ts)) R w w' ts r := by
 have hR := h.lt
 have HRlt := hide hR
 have HU : Hid (Tryz.prog.underlying 39 = some (.slice 61)) := Tryz.underlying39
 obtain ⟨i0, hi0, hz0, hz1, hz2⟩ := info_parts info61
 have HF0 := hide (Fr.refl w (fun c => c = R))
 have HO := hide hone
 have H := hide h
 have HM := hide hm
 clear h hone hR hm
 go_enter Tryz.func30, Tryz.ntmps30
 go_wp2_with fail
 go_loopg [10, 11, 12, 13] (ts.length + 1) (fun gk vl _ _ _ wr => ∃ (L : List (α × List Value)) (m : Nat) (ao : Option Addr) (cap : Nat), vl = .slice ao L.length cap ∧ P.GrowK B 61 11 w.heap.size wr (.slice ao L.length cap) L ∧ Fr w wr (fun c => c = R) ∧ P.Rdr R wr (ts.drop m) ∧ (ts.drop m).length < gk ∧ L.length ≤ most ∧
   ((L.map (fun x => blk x.1)).sum + L.length + 60 * (ts.drop m).length ≤ 60 * ts.length) ∧ P.each (V.bl word) most p (ts.length + 1) 0 (P.fc ts) = (P.each (V.bl word) most p gk L.length (P.fc (ts.drop m))).map (fun q => (L.map (fun x => x.1) ++ q.1, q.2)))
 case atStart =>
  refine ⟨[], 0, none, 0, rfl, P.GrowK.nil _ _ _ _ _, HF0.out, H.out, by simp, by simp, by simp, ?_⟩
  simp
 case round =>
  obtain ⟨L, m, ao, cap, rfl, hG, hf, hr, hl, hLm, hbk, hq⟩ := hrel
  have HNX := hide (next_any R wr (ts.drop m) hr)
  have HG := hide hG
  have HFr := hide hf
  have HRr := hide hr
  have HL := hide hl
  have HLM := hide hLm
  have HBK := hide hbk
  have HQ := hide hq
  clear hG hf hr hl hLm hbk hq H HF0
  go_wp2_with fail
  refine HNX.out.mono ?_
  rintro r wa ⟨⟨at_, rfl⟩, hba⟩
  have hfd := field_at (.int .i64 (P.headT (ts.drop m)).1) (.int .i64 at_) (.string (Lx.str (P.headT (ts.drop m)).2)) wa
  have HFa : Hid (Fr w wa (fun c => c = R)) := HFr.out.trans ((P.fr_below hba).weak (ex1 := fun c => c = R) (fun _ _ e => e.elim)) (fun _ _ e => e)
  have HGa : Hid (P.GrowK B 61 11 w.heap.size wa (.slice ao L.length cap) L) := HG.out.fr (P.fr_below hba) (fun c e => e.elim)
  have HFD := hide (found_any R wa (ts.drop m) 1 word (by decide) (HRr.out.kept hba))
  clear hba HNX HG HFr HRr
  go_wp2_with fail
  refine HFD.out.mono ?_
  rintro r wb ⟨hfb, ⟨t, ts1, eT, hE, rfl, hrb⟩ | ⟨hE, rfl, hrb⟩⟩
  ·have e1 : ts.drop (m + 1) = ts1 := P.drop_next eT
   have hlen : (ts.drop m).length = ts1.length + 1 := by rw [eT, List.length_cons]
   obtain ⟨g, hg⟩ : ∃ g, gk = g + 1 := ⟨gk - 1, by have := HL.out; omega⟩
   have HE : Hid (P.found 1 (V.bl word) (P.fc (ts.drop m)) = some (P.fc ts1)) := hE
   have HFb := hide (HFa.out.trans hfb (fun _ _ e => e))
   have HGb := hide (HGa.out.fr hfb (fun c e => by have := HRlt.out; omega))
   have HBB : Hid (w.heap.size ≤ wb.heap.size) := HFb.out.size
   by_cases hmost : L.length = most
   ·have HP : Hid (P.each (V.bl word) most p (ts.length + 1) 0 (P.fc ts) = none) := by
     show _ = _
     rw [HQ.out, hg, P.each, HE.out]
     simp only
     rw [if_pos hmost]
     rfl
    have HFL := hide (failAt_any R wb ts1 at_ (.iface 62 (.int .i64 2)) hrb)
    have hcmp : (((L.length : Nat) : Int) == (most : Int)) = true := by simp [hmost]
    clear hfb hE hrb eT e1 hlen hg hmost HFD HE HQ HFa hfd
    go_wp2_with fail
    refine HFL.out.mono ?_
    rintro r wc ⟨rfl, hrc, hfc⟩
    have HFc := hide (HFb.out.trans hfc (fun _ _ e => e))
    have HRc := hide hrc
    clear hrc hfc HFL
    go_wp2_with fail
    exact bodyPost_ret (v := .tuple #[.slice none 0 0, .iface 62 (.int .i64 2)]) (by simp [results, Tryz.results30, go_sem]) rfl ⟨HFc.out, _, _, rfl, .inr ⟨HP.out, ⟨2, rfl⟩, rfl, _, HRc.out⟩⟩
   ·have hcmp : (((L.length : Nat) : Int) == (most : Int)) = false := by
     rw [beq_eq_false_iff_ne]
     omega
    have HLM2 : Hid (L.length + 1 ≤ most) := by
     show _ ≤ _
     have := HLM.out
     omega
    have HON := hide (HO.out wb ts1 hrb)
    have HQ2 : Hid (P.each (V.bl word) most p (ts.length + 1) 0 (P.fc ts) = (P.eachGo (V.bl word) most p g (L.length + 1) (p (P.fc ts1))).map (fun q => (L.map (fun x => x.1) ++ q.1, q.2))) := by
     show _ = _
     rw [HQ.out, hg, P.each_next HE.out hmost]
    have HGK : Hid (ts1.length < g ∧ g < gk) := by
     have := HL.out
     exact ⟨by omega, by omega⟩
    have HE1 := hide e1
    have HLN := hide hlen
    clear hfb hE hrb eT e1 hlen hg hmost HFD HE HQ HFa hfd HL HLM
    go_wp2_with fail
    refine HON.out.mono ?_
    rintro r wc ⟨hfc, ⟨x, n, cs, hE2, rfl, ⟨y1, y2, y3, y4, y5, y6, y7, y8, z6, z7, z8, rfl⟩, hM, hbk2, hrc⟩ | ⟨hE2, ⟨cs, f, rfl, ⟨y1, y2, y3, y4, y5, y6, y7, y8, z6, z7, z8, rfl⟩⟩, ts', hrc⟩⟩
    ·have HFc := hide (HFb.out.trans hfc (fun _ _ e => e))
     have HGc : Hid (P.GrowK B 61 11 w.heap.size wc (.slice ao L.length cap) L) := HGb.out.fr hfc (fun c e => by have := HRlt.out; omega)
     have HG2 : Hid (P.GrowK B 61 11 w.heap.size ((wc.alloc (.cells #[.string y1, .int .i64 y2, .int .i64 y3.kind, .int .i64 y3.n, .string y3.s, .slice none 0 0, .slice none 0 0, .string y4, .string y5, .slice y6 y7 y8, .slice z6 z7 z8] 61)).alloc (.cells #[.string y1, .int .i64 y2, .int .i64 y3.kind, .int .i64 y3.n, .string y3.s, .slice none 0 0, .slice none 0 0, .string y4, .string y5, .slice y6 y7 y8, .slice z6 z7 z8] 61)) (.slice ao L.length cap) L) := HGc.out.fr (ex := fun _ => False) (((Fr.refl wc _).alloc _).alloc _) (fun c e => e.elim)
     have HOW := hide HG2.out.own
     have HF2 : Hid (Fr w ((wc.alloc (.cells #[.string y1, .int .i64 y2, .int .i64 y3.kind, .int .i64 y3.n, .string y3.s, .slice none 0 0, .slice none 0 0, .string y4, .string y5, .slice y6 y7 y8, .slice z6 z7 z8] 61)).alloc (.cells #[.string y1, .int .i64 y2, .int .i64 y3.kind, .int .i64 y3.n, .string y3.s, .slice none 0 0, .slice none 0 0, .string y4, .string y5, .slice y6 y7 y8, .slice z6 z7 z8] 61)) (fun c => c = R)) := (HFc.out.alloc _).alloc _
     have HBC : Hid (wb.heap.size ≤ wc.heap.size) := hfc.size
     have HM2 : Hid (P.KM B (fun c => w.heap.size ≤ c ∧ c < ((wc.alloc (.cells #[.string y1, .int .i64 y2, .int .i64 y3.kind, .int .i64 y3.n, .string y3.s, .slice none 0 0, .slice none 0 0, .string y4, .string y5, .slice y6 y7 y8, .slice z6 z7 z8] 61)).alloc (.cells #[.string y1, .int .i64 y2, .int .i64 y3.kind, .int .i64 y3.n, .string y3.s, .slice none 0 0, .slice none 0 0, .string y4, .string y5, .slice y6 y7 y8, .slice z6 z7 z8] 61)).heap.size ∧ (Value.slice ao L.length cap).ownBlock ≠ some c) ((wc.alloc (.cells #[.string y1, .int .i64 y2, .int .i64 y3.kind, .int .i64 y3.n, .string y3.s, .slice none 0 0, .slice none 0 0, .string y4, .string y5, .slice y6 y7 y8, .slice z6 z7 z8] 61)).alloc (.cells #[.string y1, .int .i64 y2, .int .i64 y3.kind, .int .i64 y3.n, .string y3.s, .slice none 0 0, .slice none 0 0, .string y4, .string y5, .slice y6 y7 y8, .slice z6 z7 z8] 61)) x [.string y1, .int .i64 y2, .int .i64 y3.kind, .int .i64 y3.n, .string y3.s, .slice none 0 0, .slice none 0 0, .string y4, .string y5, .slice y6 y7 y8, .slice z6 z7 z8]) := by
      refine hM.to (fun c hc => ?_) (fun c hc => ?_)
      ·rw [heap_alloc_old _ _ (by simp; have := hc.2; omega), heap_alloc_old _ _ hc.2]
      ·refine ⟨?_, ?_, fun e => ?_⟩
       ·have := hc.1
        have := HBB.out
        omega
       ·have := hc.2
        simp
        omega
       ·have := (HGb.out.own.lt c e).2
        have := hc.1
        omega
     have HR2 : Hid (P.Rdr R ((wc.alloc (.cells #[.string y1, .int .i64 y2, .int .i64 y3.kind, .int .i64 y3.n, .string y3.s, .slice none 0 0, .slice none 0 0, .string y4, .string y5, .slice y6 y7 y8, .slice z6 z7 z8] 61)).alloc (.cells #[.string y1, .int .i64 y2, .int .i64 y3.kind, .int .i64 y3.n, .string y3.s, .slice none 0 0, .slice none 0 0, .string y4, .string y5, .slice y6 y7 y8, .slice z6 z7 z8] 61)) (ts1.drop n)) := (hrc.kept ((Below.refl _ _).alloc (Nat.le_refl _) _)).kept ((Below.refl _ _).alloc (Nat.le_refl _) _)
     have hX : (wc.alloc (.cells #[.string y1, .int .i64 y2, .int .i64 y3.kind, .int .i64 y3.n, .string y3.s, .slice none 0 0, .slice none 0 0, .string y4, .string y5, .slice y6 y7 y8, .slice z6 z7 z8] 61)).heap[wc.heap.size]? = some (.cells #[.string y1, .int .i64 y2, .int .i64 y3.kind, .int .i64 y3.n, .string y3.s, .slice none 0 0, .slice none 0 0, .string y4, .string y5, .slice y6 y7 y8, .slice z6 z7 z8] 61 (0, 0)) := heap_alloc_new _ _
     obtain ⟨x0, x1, x2, x3, x4, x5, x6, x7, x8, x9, x10⟩ := cl11 hX
     have HWS : Hid ((wc.alloc (.cells #[.string y1, .int .i64 y2, .int .i64 y3.kind, .int .i64 y3.n, .string y3.s, .slice none 0 0, .slice none 0 0, .string y4, .string y5, .slice y6 y7 y8, .slice z6 z7 z8] 61)).heap.size = wc.heap.size + 1) := by
      show _ = _
      simp
     have H1 : Hid (∀ u ∈ ([.string y1, .int .i64 y2, .int .i64 y3.kind, .int .i64 y3.n, .string y3.s, .slice none 0 0, .slice none 0 0, .string y4, .string y5, .slice y6 y7 y8, .slice z6 z7 z8] : List Value), u.oneCell' = true) := by
      show ∀ u ∈ _, _
      simp [Value.oneCell']
     have HE2 := hide hE2
     have HBK2 := hide hbk2
     have hL100 : L.length + 1 ≤ 100 := by
      have := HLM2.out
      have := HM.out
      omega
     clear hfc hX hM hrc hE2 hbk2 HON HFc HGc HGb HFb
     go_wp2_with (at_builtin; go_must (refine wpList_append_lies _ rfl (.tmp 38) (.tmp 40) 39 rfl w.heap.size 61 i0 (.agg #[.string ⟨#[]⟩, .int .i64 0, .int .i64 0, .int .i64 0, .string ⟨#[]⟩, .slice none 0 0, .slice none 0 0, .string ⟨#[]⟩, .string ⟨#[]⟩, .slice none 0 0, .slice none 0 0]) 11 184 HU.out hi0 hz0 hz1 hz2 rfl (by decide) (.slice ao L.length cap) L.length (L.flatMap (fun x => x.2)) rfl HOW.out ⟨wc.heap.size + 1, 0, none⟩ 1 1 [.string y1, .int .i64 y2, .int .i64 y3.kind, .int .i64 y3.n, .string y3.s, .slice none 0 0, .slice none 0 0, .string y4, .string y5, .slice y6 y7 y8, .slice z6 z7 z8] rfl rfl (news_alloc _ #[.string y1, .int .i64 y2, .int .i64 y3.kind, .int .i64 y3.n, .string y3.s, .slice none 0 0, .slice none 0 0, .string y4, .string y5, .slice y6 y7 y8, .slice z6 z7 z8] _ _ HWS.out) H1.out (by decide) (by unfold maxLen; omega) (by omega) (by have := HBB.out; have := HBC.out; simp; omega) _ rfl ?_); intro gA capA wA hownA hgrow hat hltA)
     have HGA := hide (HG2.out.app rfl HM2.out hownA hgrow hat)
     have HFA : Hid (Fr w wA (fun c => c = R)) := HF2.out.grown hgrow (fun c e hc => by have := (HOW.out.lt c e).1; omega)
     have HRA : Hid (P.Rdr R wA (ts1.drop n)) := HR2.out.fr (ex := fun c => (Value.slice ao L.length cap).ownBlock = some c) ((Fr.refl _ _).grown hgrow (fun c e _ => e)) (fun c e => by have := (HOW.out.lt c e).1; have := HRlt.out; omega)
     clear hownA hgrow hat hltA
     go_wp2_with fail
     go_roundg g
     case measure => exact HGK.out.2
     case rel =>
      refine ⟨L ++ [(x, [.string y1, .int .i64 y2, .int .i64 y3.kind, .int .i64 y3.n, .string y3.s, .slice none 0 0, .slice none 0 0, .string y4, .string y5, .slice y6 y7 y8, .slice z6 z7 z8])], m + 1 + n, some ⟨gA, 0, none⟩, capA, by simp, HGA.out, HFA.out, ?_, ?_, ?_, ?_, ?_⟩
      ·rw [← List.drop_drop, HE1.out]
       exact HRA.out
      ·rw [← List.drop_drop, HE1.out]
       have := HGK.out.1
       simp only [List.length_drop]
       omega
      ·rw [List.length_append]
       exact HLM2.out
      ·rw [← List.drop_drop, HE1.out]
       have h1 := HBK2.out
       have h2 := HBK.out
       have h3 := HLN.out
       simp only [List.map_append, List.sum_append, List.map_cons, List.map_nil, List.sum_cons, List.sum_nil, List.length_append, List.length_cons, List.length_nil]
       omega
      ·rw [HQ2.out, HE2.out, ← List.drop_drop, HE1.out]
       unfold P.eachGo
       simp only
       rw [List.length_append, List.length_singleton]
       cases P.each (V.bl word) most p g (L.length + 1) (P.fc (ts1.drop n)) <;> simp
    ·have HFc : Hid (Fr w (wc.alloc (.cells #[.string y1, .int .i64 y2, .int .i64 y3.kind, .int .i64 y3.n, .string y3.s, .slice none 0 0, .slice none 0 0, .string y4, .string y5, .slice y6 y7 y8, .slice z6 z7 z8] 61)) (fun c => c = R)) := (HFb.out.trans hfc (fun _ _ e => e)).alloc _
     have HRc : Hid (P.Rdr R (wc.alloc (.cells #[.string y1, .int .i64 y2, .int .i64 y3.kind, .int .i64 y3.n, .string y3.s, .slice none 0 0, .slice none 0 0, .string y4, .string y5, .slice y6 y7 y8, .slice z6 z7 z8] 61)) ts') := hrc.kept ((Below.refl _ _).alloc (Nat.le_refl _) _)
     have HP : Hid (P.each (V.bl word) most p (ts.length + 1) 0 (P.fc ts) = none) := by
      show _ = _
      rw [HQ2.out, hE2]
      rfl
     clear hfc hrc hE2 HON HQ2
     go_wp2_with fail
     exact bodyPost_ret (v := .tuple #[.slice none 0 0, .iface 62 (.int .i64 f)]) (by simp [results, Tryz.results30, go_sem]) rfl ⟨HFc.out, _, _, rfl, .inr ⟨HP.out, ⟨f, rfl⟩, rfl, _, HRc.out⟩⟩
  ·have HP : Hid (P.each (V.bl word) most p (ts.length + 1) 0 (P.fc ts) = some (L.map (fun x => x.1), P.fc (ts.drop m))) := by
    show _ = _
    obtain ⟨g, hg⟩ : ∃ g, gk = g + 1 := ⟨gk - 1, by have := HL.out; omega⟩
    rw [HQ.out, hg, P.each, hE]
    simp
   have HFb := hide (HFa.out.trans hfb (fun _ _ e => e))
   have HGb := hide (HGa.out.fr hfb (fun c e => by have := HRlt.out; omega))
   have HRb := hide hrb
   have HSP : Hid (∃ ao' cap', Value.slice ao L.length cap = .slice ao' (L.map (fun x => x.1)).length cap') := ⟨ao, cap, by rw [List.length_map]⟩
   have HBK3 : Hid (((L.map (fun x => x.1)).map blk).sum + (L.map (fun x => x.1)).length + 60 * (ts.drop m).length ≤ 60 * ts.length) := by
    show _ ≤ _
    rw [List.map_map, List.length_map]
    exact HBK.out
   clear hfb hE hrb HFD HQ HFa hfd HBK
   go_wp2_with fail
   exact bodyPost_ret (v := .tuple #[.slice ao L.length cap, .nilIface]) (by simp [results, Tryz.results30, go_sem]) rfl ⟨HFb.out, _, _, rfl, .inl ⟨_, m, HP.out, rfl, HGb.out.row, HSP.out, HBK3.out, HRb.out⟩⟩
end Go.Proofs.YtbdbpfcblppnbaaGreatDoor.Vx
