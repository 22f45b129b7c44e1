/- For TopPrint: the law's walk. -/
import Derived.Test.YtbdbpfcblppnbaaGreatDoorTG
import Derived.Test.YtbdbpfcblppnbaaGreatDoorPH
import Derived.Test.YtbdbpfcblppnbaaGreatDoorX4
namespace Go.Proofs.YtbdbpfcblppnbaaGreatDoor.Vx
open Go.RowKit
namespace P
theorem printErr_of {sm : Val → Val → Bool} {m : Nat} {l : List Sk} (h8 : l.length ≤ 8) (h : ∀ x ∈ l, X.skFault sm m x = 0) : printErr sm m l = if 4000 < (l.flatMap (skText 6)).length then 2 else 0 := by
 have hf : X.firstErr (l.map (X.skFault sm m)) = 0 := firstErr_of (fun x hx => by
  obtain ⟨y, hy, rfl⟩ := List.mem_map.1 hx
  exact h y hy)
 unfold printErr
 rw [if_neg (by omega), hf, if_neg (by simp)]
theorem printErr_zero {sm : Val → Val → Bool} {m : Nat} {l : List Sk} (h : printErr sm m l = 0) : l.length ≤ 8 ∧ (∀ x ∈ l, X.skFault sm m x = 0) ∧ (l.flatMap (skText 6)).length ≤ 4000 := by
 unfold printErr at h
 by_cases h8 : 8 < l.length
 ·rw [if_pos h8] at h
  cases h
 ·rw [if_neg h8] at h
  by_cases hf : X.firstErr (l.map (X.skFault sm m)) ≠ 0
  ·rw [if_pos hf] at h
   exact absurd h hf
  ·rw [if_neg hf] at h
   by_cases h4 : 4000 < (l.flatMap (skText 6)).length
   ·rw [if_pos h4] at h
    cases h
   ·exact ⟨by omega, firstErr_zero (Classical.not_not.1 hf), by omega⟩
theorem read_print {sm : Val → Val → Bool} (hsm : V.Says sm) {m : Nat} (hm : 7 ≤ m) {l : List Sk} (h8 : l.length ≤ 8) (h : ∀ x ∈ l, X.skFault sm m x = 0) (h4 : (l.flatMap (skText 6)).length ≤ 4000) : readS (okE sm) (V.bl (V.str (l.flatMap (skText 6)))) = some l := by
 obtain ⟨r, h1, h2⟩ := print_read (ok := okE sm) h8 (fun s hs => sv_of hsm hm (h s hs)) h4
 unfold readS
 rw [V.bl_str, h1]
 exact h2
theorem parts_few {sm : Val → Val → Bool} {m : Nat} {l : List Sk} (h : ∀ x ∈ l, X.skFault sm m x = 0) : ∀ x ∈ l, ∀ r ∈ x.res, r.parts.length ≤ 2000000 := fun x hx r hr => by
 have := (resFault_split ((skFault_split (h x hx)).2.2.2.1 r hr)).2.2.1
 omega
end P
theorem read_some (sm : Val → Val → Bool) (hsm : V.Says sm) (s : ByteArray) (w : World) (l : List Sk) (hp : P.readS (P.okE sm) (V.bl s) = some l) :
  Calls Tryz.prog 4 #[.string s] w fun r w' => Below w.heap.size w w' ∧ ∃ ao cap at_, r = .returned (.tuple #[.slice ao l.length cap, .int .i64 at_, .nilIface]) ∧ X.Stks 6 w' (.slice ao l.length cap) l ∧ X.sumS 6 l + l.length ≤ 240000 := by
 refine (read_any sm hsm s w).mono ?_
 rintro r w' ⟨hb, v, at_, ev, rfl, ⟨l', h1, rfl, ⟨ao, cap, rfl⟩, hK, hbk⟩ | ⟨h1, _⟩⟩
 ·rw [hp] at h1
  cases h1
  exact ⟨hb, ao, cap, at_, rfl, hK.stks w' (fun _ _ => rfl), hbk⟩
 ·rw [hp] at h1
  cases h1
theorem read_none (sm : Val → Val → Bool) (hsm : V.Says sm) (s : ByteArray) (w : World) (hp : P.readS (P.okE sm) (V.bl s) = none) :
  Calls Tryz.prog 4 #[.string s] w fun r w' => Below w.heap.size w w' ∧ ∃ at_ f, r = .returned (.tuple #[.slice none 0 0, .int .i64 at_, .iface 62 (.int .i64 f)]) := by
 refine (read_any sm hsm s w).mono ?_
 rintro r w' ⟨hb, v, at_, ev, rfl, ⟨l', h1, _⟩ | ⟨h1, ⟨f, rfl⟩, rfl⟩⟩
 ·rw [hp] at h1
  cases h1
 ·exact ⟨hb, at_, f, rfl⟩
theorem print_some (sm : Val → Val → Bool) (hsm : V.Says sm) (m : Nat) (hm : 6 ≤ m) (w : World) (v : Value) (l : List Sk) (h : X.Stks (m + 1) w v l) (hbk : X.sumS (m + 1) l ≤ 2000000) (htab : Lib.TabIs Tryz.prog w "internal/strconv.uint64pow10" .u64 Lib.pow10Tab) (h0 : P.printErr sm (m + 1) l = 0) :
  Calls Tryz.prog 6 #[v] w fun r w' => Below w.heap.size w w' ∧ r = .returned (.tuple #[.string (V.str (l.flatMap (P.skText 6))), .nilIface]) := by
 refine (print_any sm hsm m hm w v l h hbk htab).mono ?_
 rintro r w' ⟨hb, t, rfl, ht⟩
 rw [ht h0, h0]
 exact ⟨hb, rfl⟩
theorem print_none (sm : Val → Val → Bool) (hsm : V.Says sm) (m : Nat) (hm : 6 ≤ m) (w : World) (v : Value) (l : List Sk) (h : X.Stks (m + 1) w v l) (hbk : X.sumS (m + 1) l ≤ 2000000) (htab : Lib.TabIs Tryz.prog w "internal/strconv.uint64pow10" .u64 Lib.pow10Tab) (h0 : P.printErr sm (m + 1) l ≠ 0) :
  Calls Tryz.prog 6 #[v] w fun r w' => Below w.heap.size w w' ∧ ∃ t, r = .returned (.tuple #[.string t, .iface 62 (.int .i64 (P.printErr sm (m + 1) l))]) := by
 refine (print_any sm hsm m hm w v l h hbk htab).mono ?_
 rintro r w' ⟨hb, t, rfl, _⟩
 rw [err_ne _ h0]
 exact ⟨hb, t, rfl⟩
set_option maxRecDepth 100000 in
set_option maxHeartbeats 3200000 in
theorem topPrint_any (sm : Val → Val → Bool) (hsm : V.Says sm) (m : Nat) (hm : 6 ≤ m) (w : World) (v : Value) (l : List Sk) (s : ByteArray) (h : X.Stks (m + 1) w v l) (hbk : X.sumS (m + 1) l + l.length ≤ 1100000) (htab : Lib.TabIs Tryz.prog w "internal/strconv.uint64pow10" .u64 Lib.pow10Tab) (hsz : s.size ≤ 1100000) :
  Calls Tryz.prog 3 #[v, .string s] w fun r w' => r = .returned (.bool true) ∧ Below w.heap.size w w' := by
 obtain ⟨av, cv, rfl⟩ := V.Row.shape h
 obtain ⟨x1, hx1⟩ := P.first_read sm
 have HR0 := hide (read_some sm hsm ⟨#[115, 116, 97, 99, 107, 32, 97]⟩ w [x1] hx1)
 have H := hide h
 have HTAB := hide htab
 have HBK : Hid (X.sumS (m + 1) l ≤ 2000000) := by
  show _ ≤ _
  omega
 have HLL : Hid (l.length ≤ 2000000) := by
  show _ ≤ _
  omega
 clear h htab hbk hx1
 go_enter Tryz.func3, Tryz.ntmps3
 go_wp2_with fail
 refine HR0.out.mono ?_
 rintro r wa ⟨hba, a0, c0, at0, rfl, _, _⟩
 have HBA := hide hba
 have HLS := hide (lightStacks_any (m + 1) l _ wa (H.out.kept hba) (fun x hx => X.sumS_mem hx HBK.out))
 have hl1 : ([x1] : List Sk).length = 1 := rfl
 rw [hl1]
 clear hba HR0 hl1
 go_wp2_with fail
 refine HLS.out.mono ?_
 rintro r wb ⟨⟨b, rfl⟩, hbb⟩
 have HBB := hide (HBA.out.trans (hbb.mono HBA.out.size))
 clear hbb HLS HBA
 cases b
 ·go_wp2_with fail
  go_ret
  exact ⟨rfl, HBB.out⟩
 ·by_cases h45 : 4500 < s.size
  ·have hg : decide ((4500 : Int) < (s.size : Int)) = true := decide_eq_true (by omega)
   clear h45
   go_wp2_with fail
   go_ret
   exact ⟨rfl, HBB.out⟩
  ·have hg : decide ((4500 : Int) < (s.size : Int)) = false := decide_eq_false (by omega)
   clear h45
   by_cases hpe : P.printErr sm (m + 1) l = 0
   ·have HPR := hide (print_some sm hsm m hm wb _ l (H.out.kept HBB.out) HBK.out (tab_below HTAB.out HBB.out) hpe)
    obtain ⟨h8, hf, h4⟩ := P.printErr_zero hpe
    have HRP := hide (P.read_print hsm (show 7 ≤ m + 1 by omega) h8 hf h4)
    have HLF := hide hf
    clear hpe h8 hf h4
    generalize V.str (l.flatMap (P.skText 6)) = u at *
    go_wp2_with fail
    refine HPR.out.mono ?_
    rintro r wc ⟨hb, rfl⟩
    have HBC := hide (HBB.out.trans (hb.mono HBB.out.size))
    have HR1 := hide (read_some sm hsm u wc l HRP.out)
    clear hb HPR HBB
    go_wp2_with fail
    refine HR1.out.mono ?_
    rintro r wd ⟨hb, ax, cx, at1, rfl, hsx, _⟩
    have HBD := hide (HBC.out.trans (hb.mono HBC.out.size))
    have HSS := hide (sameStacks_same sm hsm (m + 1) wd l _ _ (X.Stks.le (by omega) hsx) (H.out.kept HBD.out) (fun x hx => X.sumS_mem hx HBK.out) (P.parts_few HLF.out) HLL.out)
    clear hb hsx HR1 HBC
    go_wp2_with fail
    refine HSS.out.mono ?_
    rintro r wx ⟨rfl, hb⟩
    have HBX := hide (HBD.out.trans (hb.mono HBD.out.size))
    clear hb HSS HBD HRP
    go_wp2_with fail
    cases hrs : P.readS (P.okE sm) (V.bl s) with
    | none =>
     have HR := hide (read_none sm hsm s wx hrs)
     clear hrs
     go_wp2_with fail
     refine HR.out.mono ?_
     rintro r wy ⟨hb, at2, f2, rfl⟩
     have HBY := hide (HBX.out.trans (hb.mono HBX.out.size))
     clear hb HR
     go_wp2_with fail
     go_ret
     exact ⟨rfl, HBY.out⟩
    | some ly =>
     have HR := hide (read_some sm hsm s wx ly hrs)
     have HRS := hide hrs
     clear hrs
     go_wp2_with fail
     refine HR.out.mono ?_
     rintro r wy ⟨hb, ay, cy, at2, rfl, hst, hbky⟩
     have hBY := HBX.out.trans (hb.mono HBX.out.size)
     obtain ⟨hy8, hyf⟩ := P.readS_mem HRS.out (P.sdp_of hst)
     have hb7 : X.sumS 7 ly ≤ 2000000 := by
      rw [P.stks_bulk hst]
      omega
     have hpe := P.printErr_of hy8 hyf
     have HBY := hide hBY
     have HST := hide hst
     have HYF := hide hyf
     have HBK6 : Hid (∀ x ∈ ly, X.bulkS 6 x ≤ 2000000) := fun x hx => X.sumS_mem hx (by omega)
     have HL2 : Hid (ly.length ≤ 2000000) := by
      show _ ≤ _
      omega
     by_cases h4 : 4000 < (ly.flatMap (P.skText 6)).length
     ·rw [if_pos h4] at hpe
      have HPR := hide (print_none sm hsm 6 (by decide) wy _ ly (X.Stks.up hst) hb7 (tab_below HTAB.out hBY) (by rw [hpe]; decide))
      rw [show P.printErr sm (6 + 1) ly = 2 from hpe] at HPR
      clear hb hBY hst hbky hy8 hyf hb7 hpe h4 HR
      go_wp2_with fail
      refine HPR.out.mono ?_
      rintro r wz ⟨hb, t2, rfl⟩
      have HBZ := hide (HBY.out.trans (hb.mono HBY.out.size))
      have HNB := hide (number_err 2 wz)
      clear hb HPR
      go_wp2_with fail
      refine HNB.out.mono ?_
      rintro r wq ⟨rfl, hw⟩
      rw [hw]
      clear hw wq HNB
      go_wp2_with fail
      go_ret
      exact ⟨rfl, HBZ.out⟩
     ·rw [if_neg h4] at hpe
      have HPR := hide (print_some sm hsm 6 (by decide) wy _ ly (X.Stks.up hst) hb7 (tab_below HTAB.out hBY) hpe)
      have HRP := hide (P.read_print hsm (show 7 ≤ 7 by decide) hy8 hyf (by omega))
      clear hb hBY hst hbky hy8 hyf hb7 hpe h4 HR
      generalize V.str (ly.flatMap (P.skText 6)) = u at *
      go_wp2_with fail
      refine HPR.out.mono ?_
      rintro r wz ⟨hb, rfl⟩
      have HSZ := hide (HST.out.kept hb)
      have HBZ := hide (HBY.out.trans (hb.mono HBY.out.size))
      have HR3 := hide (read_some sm hsm u wz ly HRP.out)
      clear hb HPR HBY HST
      go_wp2_with fail
      refine HR3.out.mono ?_
      rintro r wq ⟨hb, az, cz, at3, rfl, hsz, _⟩
      have HBQ := hide (HBZ.out.trans (hb.mono HBZ.out.size))
      have HSS := hide (sameStacks_same sm hsm 6 wq ly _ _ hsz (HSZ.out.kept hb) HBK6.out (P.parts_few HYF.out) HL2.out)
      clear hb hsz HR3 HBZ HSZ
      go_wp2_with fail
      refine HSS.out.mono ?_
      rintro r we ⟨rfl, hb⟩
      have HBE := hide (HBQ.out.trans (hb.mono HBQ.out.size))
      clear hb HSS
      go_wp2_with fail
      go_ret
      exact ⟨rfl, HBE.out⟩
   ·have HPR := hide (print_none sm hsm m hm wb _ l (H.out.kept HBB.out) HBK.out (tab_below HTAB.out HBB.out) hpe)
    clear hpe
    generalize P.printErr sm (m + 1) l = f at *
    go_wp2_with fail
    refine HPR.out.mono ?_
    rintro r wx ⟨hb, t, rfl⟩
    have HBX := hide (HBB.out.trans (hb.mono HBB.out.size))
    clear hb HPR HBB
    go_wp2_with fail
    cases hrs : P.readS (P.okE sm) (V.bl s) with
    | none =>
     have HR := hide (read_none sm hsm s wx hrs)
     clear hrs
     go_wp2_with fail
     refine HR.out.mono ?_
     rintro r wy ⟨hb, at2, f2, rfl⟩
     have HBY := hide (HBX.out.trans (hb.mono HBX.out.size))
     clear hb HR
     go_wp2_with fail
     go_ret
     exact ⟨rfl, HBY.out⟩
    | some ly =>
     have HR := hide (read_some sm hsm s wx ly hrs)
     have HRS := hide hrs
     clear hrs
     go_wp2_with fail
     refine HR.out.mono ?_
     rintro r wy ⟨hb, ay, cy, at2, rfl, hst, hbky⟩
     have hBY := HBX.out.trans (hb.mono HBX.out.size)
     obtain ⟨hy8, hyf⟩ := P.readS_mem HRS.out (P.sdp_of hst)
     have hb7 : X.sumS 7 ly ≤ 2000000 := by
      rw [P.stks_bulk hst]
      omega
     have hpe := P.printErr_of hy8 hyf
     have HBY := hide hBY
     have HST := hide hst
     have HYF := hide hyf
     have HBK6 : Hid (∀ x ∈ ly, X.bulkS 6 x ≤ 2000000) := fun x hx => X.sumS_mem hx (by omega)
     have HL2 : Hid (ly.length ≤ 2000000) := by
      show _ ≤ _
      omega
     by_cases h4 : 4000 < (ly.flatMap (P.skText 6)).length
     ·rw [if_pos h4] at hpe
      have HPR := hide (print_none sm hsm 6 (by decide) wy _ ly (X.Stks.up hst) hb7 (tab_below HTAB.out hBY) (by rw [hpe]; decide))
      rw [show P.printErr sm (6 + 1) ly = 2 from hpe] at HPR
      clear hb hBY hst hbky hy8 hyf hb7 hpe h4 HR
      go_wp2_with fail
      refine HPR.out.mono ?_
      rintro r wz ⟨hb, t2, rfl⟩
      have HBZ := hide (HBY.out.trans (hb.mono HBY.out.size))
      have HNB := hide (number_err 2 wz)
      clear hb HPR
      go_wp2_with fail
      refine HNB.out.mono ?_
      rintro r wq ⟨rfl, hw⟩
      rw [hw]
      clear hw wq HNB
      go_wp2_with fail
      go_ret
      exact ⟨rfl, HBZ.out⟩
     ·rw [if_neg h4] at hpe
      have HPR := hide (print_some sm hsm 6 (by decide) wy _ ly (X.Stks.up hst) hb7 (tab_below HTAB.out hBY) hpe)
      have HRP := hide (P.read_print hsm (show 7 ≤ 7 by decide) hy8 hyf (by omega))
      clear hb hBY hst hbky hy8 hyf hb7 hpe h4 HR
      generalize V.str (ly.flatMap (P.skText 6)) = u at *
      go_wp2_with fail
      refine HPR.out.mono ?_
      rintro r wz ⟨hb, rfl⟩
      have HSZ := hide (HST.out.kept hb)
      have HBZ := hide (HBY.out.trans (hb.mono HBY.out.size))
      have HR3 := hide (read_some sm hsm u wz ly HRP.out)
      clear hb HPR HBY HST
      go_wp2_with fail
      refine HR3.out.mono ?_
      rintro r wq ⟨hb, az, cz, at3, rfl, hsz, _⟩
      have HBQ := hide (HBZ.out.trans (hb.mono HBZ.out.size))
      have HSS := hide (sameStacks_same sm hsm 6 wq ly _ _ hsz (HSZ.out.kept hb) HBK6.out (P.parts_few HYF.out) HL2.out)
      clear hb hsz HR3 HBZ HSZ
      go_wp2_with fail
      refine HSS.out.mono ?_
      rintro r we ⟨rfl, hb⟩
      have HBE := hide (HBQ.out.trans (hb.mono HBQ.out.size))
      clear hb HSS
      go_wp2_with fail
      go_ret
      exact ⟨rfl, HBE.out⟩
end Go.Proofs.YtbdbpfcblppnbaaGreatDoor.Vx
