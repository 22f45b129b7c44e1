/- For TopPrint: Print. -/
import Derived.Test.YtbdbpfcblppnbaaGreatDoorT2
import Derived.Test.YtbdbpfcblppnbaaGreatDoorPG
namespace Go.Proofs.YtbdbpfcblppnbaaGreatDoor.Vx
open Go.RowKit
namespace P
/-- What Print tells: an error's number. -/
def printErr (sm : Val → Val → Bool) (m : Nat) (l : List Sk) : Nat :=
 if 8 < l.length then 2 else if X.firstErr (l.map (X.skFault sm m)) ≠ 0 then X.firstErr (l.map (X.skFault sm m)) else if 4000 < (l.flatMap (skText 6)).length then 2 else 0
end P
set_option maxRecDepth 100000 in
set_option maxHeartbeats 3200000 in
theorem print_any (sm : Val → Val → Bool) (hsm : V.Says sm) (m : Nat) (hm : 6 ≤ m) (w : World) (v : Value) (l : List Sk) (h : X.Stks (m + 1) w v l) (hbk : X.sumS (m + 1) l ≤ 2000000) (htab : Lib.TabIs Tryz.prog w "internal/strconv.uint64pow10" .u64 Lib.pow10Tab) :
  Calls Tryz.prog 6 #[v] w fun r w' => Below w.heap.size w w' ∧ ∃ t, r = .returned (.tuple #[.string t, V.errOf (P.printErr sm (m + 1) l)]) ∧ (P.printErr sm (m + 1) l = 0 → t = V.str (l.flatMap (P.skText 6))) := by
 obtain ⟨av, cv, rfl⟩ := V.Row.shape h
 by_cases h8 : 8 < l.length
 ·have HE : Hid (P.printErr sm (m + 1) l = 2) := by
   show _ = _
   unfold P.printErr
   rw [if_pos h8]
  have hgt : decide ((8 : Int) < (l.length : Int)) = true := decide_eq_true (by omega)
  clear h hbk htab h8
  go_enter Tryz.func6, Tryz.ntmps6
  go_wp2_with fail
  exact bodyPost_ret (v := .tuple #[.string ⟨#[]⟩, .iface 62 (.int .i64 2)]) (by simp [results, Tryz.results6, go_sem]) rfl ⟨Below.refl _ _, _, by rw [HE.out]; rfl, fun e => by rw [HE.out] at e; cases e⟩
 have hgt : decide ((8 : Int) < (l.length : Int)) = false := decide_eq_false (by omega)
 have HE : Hid (P.printErr sm (m + 1) l = if X.firstErr (l.map (X.skFault sm (m + 1))) ≠ 0 then X.firstErr (l.map (X.skFault sm (m + 1))) else if 4000 < (l.flatMap (P.skText 6)).length then 2 else 0) := by
  show _ = _
  unfold P.printErr
  rw [if_neg h8]
 have HL8 : Hid (l.length ≤ 8) := by
  show _ ≤ _
  omega
 have hbl : Below w.heap.size w (w.alloc (.cells #[.pointer none, .slice none 0 0] 66)) := (Below.refl _ _).alloc (Nat.le_refl _) _
 have HF := hide (Lib.fresh_isBuilder 66 5 w)
 have HBL := hide hbl
 have H := hide h
 have HBK := hide hbk
 have HTAB := hide htab
 generalize hpe : P.printErr sm (m + 1) l = PE at *
 clear h hbk htab h8 hbl hpe
 go_enter Tryz.func6, Tryz.ntmps6
 go_wp2_with fail
 go_loopw [13, 5, 6] (fun vi _ _ wr => ∃ k : Nat, k ≤ l.length ∧ vi = .int .i64 k ∧ (∀ (j : Nat) (y : Sk), j < k → l[j]? = some y → X.skFault sm (m + 1) y = 0) ∧ Lib.IsBuilder 66 5 w.heap.size w.heap.size (Lib.byteCells ((l.take k).flatMap (P.skText 6))) wr ∧ Below w.heap.size w wr)
  (fun vi _ _ _ => l.length - (intOf vi).toNat)
 case atStart => exact ⟨0, Nat.zero_le _, rfl, fun j _ hj => absurd hj (by omega), HF.out, HBL.out⟩
 case round =>
  clear HF HBL
  obtain ⟨k, hk, rfl, hok, hib, hB⟩ := hrel
  by_cases hlt : k < l.length
  ·obtain ⟨b, off, cap, x, ai, ci, ar, cr, ao, co, e1, hx, hI, hR, hO, y0, y1, y2, y3⟩ := X.elemS H.out k hlt
   simp only [Value.slice.injEq] at e1
   obtain ⟨rfl, _, rfl⟩ := e1
   have hxb := X.sumS_mem (List.mem_of_getElem? hx) HBK.out
   replace y0 := kept_cell hB y0
   replace y1 := kept_cell hB y1
   replace y2 := kept_cell hB y2
   replace y3 := kept_cell hB y3
   have HCK := hide (checkStack_any sm hsm m wr x _ _ _ (hI.kept hB) (hR.kept hB) (hO.kept hB) hxb)
   have HIS := hide hI
   have HRS := hide hR
   have HOS := hide hO
   have HX := hide hx
   have HOK := hide hok
   have HIB := hide hib
   have HB := hide hB
   have HXB := hide hxb
   have HLT := hide hlt
   clear hx hI hR hO hxb hok hib hB hk
   by_cases hf : X.skFault sm (m + 1) x = 0
   ·have HSV := hide (P.sv_of hsm (show 7 ≤ m + 1 by omega) hf)
    rw [hf] at HCK
    have HCK2 : Hid (Calls Tryz.prog 15 #[.agg #[.string x.name, .slice ai x.ins.length ci, .slice ar x.res.length cr, .slice ao x.outs.length co]] wr fun o w' => o = .returned .nilIface ∧ Below wr.heap.size wr w') := HCK.out
    have HFX := hide hf
    clear hf HCK
    go_wp2_with fail
    refine HCK2.out.mono ?_
    rintro r wa ⟨rfl, hba⟩
    have hB1 := HB.out.trans (hba.mono HB.out.size)
    have hlen : ((l.take k).flatMap (P.skText 6)).length + (P.skText 6 x).length ≤ 1000000000 := by
     have h1 : ∀ y ∈ l.take k ++ [x], (P.skText 6 y).length ≤ 300 * X.bulkS (m + 1) y + 20 := fun y hy => by
      rcases List.mem_append.1 hy with hy | hy
      ·obtain ⟨j, hj⟩ := List.getElem?_of_mem hy
       have hjk : j < k := by
        have := (List.getElem?_eq_some_iff.1 hj).1
        simp only [List.length_take] at this
        omega
       rw [List.getElem?_take, if_pos hjk] at hj
       exact P.sk_len (by omega) (P.sv_of hsm (show 7 ≤ m + 1 by omega) (HOK.out j y hjk hj))
      ·rw [List.mem_singleton] at hy
       subst hy
       exact P.sk_len (by omega) HSV.out
     have h2 := P.sum300 (l.take k ++ [x]) (fun y => (P.skText 6 y).length) (X.bulkS (m + 1)) 20 h1
     have h3 : l.take k ++ [x] = l.take (k + 1) := by rw [List.take_add_one, HX.out]; rfl
     have h4 : ((l.take k ++ [x]).map (X.bulkS (m + 1))).sum ≤ X.sumS (m + 1) l := by
      rw [h3]
      unfold X.sumS
      have : (l.map (X.bulkS (m + 1))).sum = ((l.take (k + 1)).map (X.bulkS (m + 1))).sum + ((l.drop (k + 1)).map (X.bulkS (m + 1))).sum := by
       rw [← List.sum_append, ← List.map_append, List.take_append_drop]
      omega
     have h5 := HBK.out
     have h6 := HL8.out
     have h7 : (l.take k ++ [x]).length ≤ 9 := by
      simp only [List.length_append, List.length_take, List.length_cons, List.length_nil]
      omega
     rw [P.flat_sum]
     simp only [List.map_append, List.sum_append, List.map_cons, List.map_nil, List.sum_cons, List.sum_nil] at h2
     have h8 : 20 * (l.take k ++ [x]).length ≤ 180 := by omega
     simp only [List.map_append, List.sum_append, List.map_cons, List.map_nil, List.sum_cons, List.sum_nil] at h4
     omega
    have HPS := hide (printStack_any (P.okE sm) m w w.heap.size ((l.take k).flatMap (P.skText 6)) wa x ai ci ar cr ao co HIS.out HRS.out HOS.out HSV.out HXB.out hlen HTAB.out hB1 (isb_kept HIB.out hba))
    replace y0 := kept_cell hba y0
    replace y1 := kept_cell hba y1
    replace y2 := kept_cell hba y2
    replace y3 := kept_cell hba y3
    clear hba hB1 hlen HCK2 HIB HB
    go_wp2_with fail
    refine HPS.out.mono ?_
    rintro r wb ⟨rfl, hib, hbb⟩
    have HIB2 : Hid (Lib.IsBuilder 66 5 w.heap.size w.heap.size (Lib.byteCells ((l.take (k + 1)).flatMap (P.skText 6))) wb) := by
     show Lib.IsBuilder _ _ _ _ _ _
     rw [P.flat_take (P.skText 6) l k x HX.out]
     exact hib
    have HBB := hide hbb
    have HOK2 : Hid (∀ (j : Nat) (y : Sk), j < k + 1 → l[j]? = some y → X.skFault sm (m + 1) y = 0) := V.so_farN HOK.out HX.out HFX.out
    have hl8 : k < 8 := Nat.lt_of_lt_of_le HLT.out HL8.out
    clear hib hbb HPS y0 y1 y2 y3
    go_wp2_with fail
    go_roundw
    case rel => exact ⟨k + 1, HLT.out, by go_num, HOK2.out, HIB2.out, HBB.out⟩
    case measure =>
     have h1 := HLT.out
     simp [intOf]
     omega
   ·have hfe := X.firstErr_map HOK.out HX.out hf
    have HPE : Hid (PE = X.skFault sm (m + 1) x) := by
     show _ = _
     rw [HE.out, hfe, if_pos hf]
    have HCK2 : Hid (Calls Tryz.prog 15 #[.agg #[.string x.name, .slice ai x.ins.length ci, .slice ar x.res.length cr, .slice ao x.outs.length co]] wr fun o w' => o = .returned (.iface 62 (.int .i64 (X.skFault sm (m + 1) x))) ∧ Below wr.heap.size wr w') := by
     have := HCK.out
     rw [err_ne _ hf] at this
     exact this
    have HNE : Hid (X.skFault sm (m + 1) x ≠ 0) := hf
    clear hf hfe HCK
    generalize X.skFault sm (m + 1) x = f at *
    go_wp2_with fail
    refine HCK2.out.mono ?_
    rintro r wa ⟨rfl, hba⟩
    have HB1 := hide (HB.out.trans (hba.mono HB.out.size))
    clear hba HCK2 y0 y1 y2 y3
    go_wp2_with fail
    exact bodyPost_ret (v := .tuple #[.string ⟨#[]⟩, .iface 62 (.int .i64 f)]) (by simp [results, Tryz.results6, go_sem]) rfl ⟨HB1.out, _, by rw [HPE.out, err_ne _ HNE.out], fun e => absurd (HPE.out.symm.trans e) HNE.out⟩
  ·have hkk : k = l.length := by omega
   subst hkk
   rw [List.take_length] at hib
   have hf0 : X.firstErr (l.map (X.skFault sm (m + 1))) = 0 := X.firstErr_all (fun j y hj => hok j y (List.getElem?_eq_some_iff.1 hj).1 hj)
   have HPE : Hid (PE = if 4000 < (l.flatMap (P.skText 6)).length then 2 else 0) := by
    show _ = _
    rw [HE.out, hf0, if_neg (by simp)]
   have HLE := hide (sh_Builder_Len w.heap.size w.heap.size _ wr hib)
   have HST := hide (string_any w.heap.size w.heap.size _ wr hib hB.size)
   have HB := hide hB
   rw [Lib.byteCells_length] at HLE
   clear hib hok hB hk hf0 HE
   by_cases h4 : 4000 < (l.flatMap (P.skText 6)).length
   ·have HPE2 : Hid (PE = 2) := HPE.out.trans (if_pos h4)
    have hg4 : decide ((4000 : Int) < (((l.flatMap (P.skText 6)).length : Nat) : Int)) = true := decide_eq_true (by omega)
    clear h4 HPE
    generalize (l.flatMap (P.skText 6)).length = n at *
    go_wp2_with fail
    refine HLE.out.mono ?_
    rintro r wa ⟨rfl, hw⟩
    rw [hw]
    clear hw wa
    go_wp2_with fail
    exact bodyPost_ret (v := .tuple #[.string ⟨#[]⟩, .iface 62 (.int .i64 2)]) (by simp [results, Tryz.results6, go_sem]) rfl ⟨HB.out, _, by rw [HPE2.out]; rfl, fun e => by rw [HPE2.out] at e; cases e⟩
   ·have HPE2 : Hid (PE = 0) := HPE.out.trans (if_neg h4)
    have hg4 : decide ((4000 : Int) < (((l.flatMap (P.skText 6)).length : Nat) : Int)) = false := decide_eq_false (by omega)
    clear h4 HPE
    generalize (l.flatMap (P.skText 6)).length = n at *
    go_wp2_with fail
    refine HLE.out.mono ?_
    rintro r wa ⟨rfl, hw⟩
    rw [hw]
    clear hw wa
    go_wp2_with fail
    refine HST.out.mono ?_
    rintro r wa ⟨rfl, hba⟩
    have HB1 := hide (HB.out.trans hba)
    clear hba HST
    go_wp2_with fail
    exact bodyPost_ret (v := .tuple #[.string (V.str (l.flatMap (P.skText 6))), .nilIface]) (by simp [results, Tryz.results6, go_sem]) rfl ⟨HB1.out, _, by rw [HPE2.out]; rfl, fun _ => rfl⟩
end Go.Proofs.YtbdbpfcblppnbaaGreatDoor.Vx
