/- For LocksSays: notYet, with the law's own closure. -/
import Derived.Test.YtckbfjoffbnjeaaDoorLJ
namespace Go.Proofs.YtckbfjoffbnjeaaDoor
open Go.RowKit
attribute [local go_sem ↓] Go.wp_at_zero Go.wp_at_succ
set_option maxRecDepth 100000 in
set_option maxHeartbeats 1000000 in
theorem notYet7_any (w : World) (B : Nat → Prop) (g : Nat) (D : Dk) (L : K.Lo) (b : Int) (who : Nat) (al : Nat → Bool) (lo hi : Nat) (v : Value) (N0 : List ByteArray) {m0 : Nat} (h : Lk w B g D L b m0) (hwho : who < 4) (hs : Strs w v N0) (hl : N0.length ≤ 12) (hsz : ∀ n ∈ N0, n.size ≤ maxLen)
    (hal : ∀ W (k : Nat), Fr w W (fun _ => False) → k < 4 → Calls Tryd.prog 7 #[.int .i64 k, .pointer (some ⟨lo, 0, none⟩), .pointer (some ⟨hi, 0, none⟩)] W fun o w' => o = .returned (.bool (al k)) ∧ w' = W) :
    Calls Tryd.prog 23 #[.pointer (some ⟨g, 0, none⟩), .int .i64 who, v, .func (.func 7) #[] #[.pointer (some ⟨lo, 0, none⟩), .pointer (some ⟨hi, 0, none⟩)]] w fun o w' => ∃ u, o = .returned (.tuple #[u, errV (K.first (K.code L who al) (K.once N0))]) ∧ Fr w w' (fun _ => False) ∧
      (K.first (K.code L who al) (K.once N0) = 0 → w'.ownsRow w.heap.size 9 1 u ((K.once N0).filter (K.lacks L who)).length (strs ((K.once N0).filter (K.lacks L who)))) := by
  have HO := hide (once_any v N0 w hs (by omega))
  have HOW : Hid (∀ W n, Fr w W (fun _ => False) → n.size ≤ maxLen → Calls Tryd.prog 15 #[.pointer (some ⟨g, 0, none⟩), .string n] W fun o w' => o = .returned (.tuple #[.int .i64 (K.own L n).1, .bool (K.own L n).2.1, errV (K.own L n).2.2]) ∧ Fr W w' (fun _ => False)) := fun W n hf hn => owner_any W B g D L n (h.disk.fr hf (fun _ _ h => h)) h.inv.down h.on hn
  have HAL := hide hal
  have HSZ : Hid (∀ n ∈ K.once N0, n.size ≤ maxLen) := fun n hn => hsz n (K.mem_once.1 hn)
  have hl1 : (K.once N0).length ≤ 12 := Nat.le_trans (K.once_len N0) hl
  have HU := hide u27
  have HI := hide info9
  clear h hs hl hsz hal
  generalize K.once N0 = M0 at *
  go_enter Tryd.func23, Tryd.ntmps23
  go_wp2_with fail
  refine HO.out.mono ?_
  rintro o w1 ⟨u, rfl, ho1, hf1⟩
  obtain ⟨a1, c1, rfl⟩ := owns_shape ho1
  have HO1 := hide ho1
  have HF1 := hide hf1
  have hsz1 := hf1.size
  clear ho1 hf1 HO
  go_wp2_with fail
  go_loopw [19, 10, 12, 13, 14, 15] (fun vi vo _ _ _ _ wx => ∃ j : Nat, j ≤ M0.length ∧ vi = .int .i64 j ∧ (∀ n ∈ M0.take j, K.code L who al n = 0) ∧ wx.ownsRow w1.heap.size 9 1 vo ((M0.take j).filter (K.lacks L who)).length (strs ((M0.take j).filter (K.lacks L who))) ∧ Fr w1 wx (fun _ => False)) (fun vi _ _ _ _ _ _ => M0.length - (intOf vi).toNat)
  case atStart => exact ⟨0, Nat.zero_le _, rfl, (by simp), World.ownsRow_nil .., Fr.refl _ _⟩
  case round =>
    obtain ⟨wx, hwx⟩ : ∃ z, z = wr := ⟨_, rfl⟩
    subst hwx
    obtain ⟨j, hj, rfl, hall, hox, hfx⟩ := hrel
    obtain ⟨va, vc, rfl⟩ := owns_shape hox
    have HALL := hide hall
    have HFX := hide hfx
    have hszx := hfx.size
    by_cases hlt : j < M0.length
    · obtain ⟨n, hnj⟩ : ∃ n, M0[j]? = some n := ⟨_, List.getElem?_eq_getElem hlt⟩
      have hmem := List.mem_of_getElem? hnj
      have hst : Strs wx (.slice a1 M0.length c1) M0 := strs_frx HO1.out hfx (fun _ _ e => e)
      obtain ⟨b1, off, rfl, y0⟩ := hst.at hnj
      have hfk : ((M0.take j).filter (K.lacks L who)).length ≤ 12 := Nat.le_trans (List.length_filter_le _ _) (by rw [List.length_take]; omega)
      have HNX := hide (K.filter_next hnj (K.lacks L who))
      have HAN : Hid (K.code L who al n = 0 → ∀ x ∈ M0.take (j + 1), K.code L who al x = 0) := fun h => K.all_next hnj hall h
      have HBAD : Hid (∀ c, K.code L who al n = c → c ≠ 0 → K.first (K.code L who al) M0 = c) := fun c h hh => (K.first_at (by rw [h]; exact hh) hall hnj).trans h
      have HOWN := hide (HOW.out wx n (HF1.out.trans hfx (fun _ _ e => e)) (HSZ.out n hmem))
      have HOX := hide hox
      clear hall hfx hnj hst hmem hox
      generalize (M0.take j).filter (K.lacks L who) = R0 at *
      cases hm : N.name n with
      | false =>
        have hE : K.own L n = (0, false, 3) := by unfold K.own; rw [if_pos hm]
        have hbad : K.code L who al n = 3 := by unfold K.code; rw [if_pos hm]
        have HOWN2 : Hid (Calls Tryd.prog 15 #[.pointer (some ⟨g, 0, none⟩), .string n] wx fun o w' => o = .returned (.tuple #[.int .i64 0, .bool false, .iface 59 (.int .i64 3)]) ∧ Fr wx w' (fun _ => False)) := by
          have := HOWN.out
          rw [hE] at this; exact this
        clear HOWN hE hm
        go_wp2_with (go_at_call 15; (with_reducible refine Calls.mono HOWN2.out ?_); rintro o w2 ⟨rfl, hf2⟩)
        go_ret2
        exact ⟨_, by rw [HBAD.out 3 hbad (by decide)]; rfl, (HF1.out.trans HFX.out (fun _ _ e => e)).trans hf2 (fun _ _ e => e), fun h0 => by rw [HBAD.out 3 hbad (by decide)] at h0; cases h0⟩
      | true =>
        cases hg : K.get L n with
        | none =>
          have hE : K.own L n = (0, false, 0) := by unfold K.own; rw [if_neg (by rw [hm]; decide), hg]
          have hok : K.code L who al n = 0 := by unfold K.code; rw [if_neg (by rw [hm]; decide), hg]
          have hlk : K.lacks L who n = true := by unfold K.lacks; rw [hg]; rfl
          have HOWN2 : Hid (Calls Tryd.prog 15 #[.pointer (some ⟨g, 0, none⟩), .string n] wx fun o w' => o = .returned (.tuple #[.int .i64 0, .bool false, .nilIface]) ∧ Fr wx w' (fun _ => False)) := by
            have := HOWN.out
            rw [hE] at this; exact this
          clear HOWN hE hm hg
          have HNX2 : Hid ((M0.take (j + 1)).filter (K.lacks L who) = R0 ++ [n]) := by
            show _ = _
            rw [HNX.out, hlk]; rfl
          clear HNX hlk
          obtain ⟨i0, hi0, hz0, hz1, hz2⟩ := info_parts HI.out
          go_wp2_with (first
            | (go_at_call 15; (with_reducible refine Calls.mono HOWN2.out ?_); rintro o w2 ⟨rfl, hf2⟩; have HOX2 := hide (owns_fr HOX.out hf2 (fun _ _ e => e)); have hsz2 := hf2.size; have HF2 := hide (HFX.out.trans hf2 (fun _ _ e => e)); clear hf2)
            | (at_builtin; go_must (refine wpList_append_lies _ rfl (.tmp 46) (.tmp 48) 33 rfl w1.heap.size 9 i0 (.string ⟨#[]⟩) 1 16 HU.out hi0 hz0 hz1 hz2 rfl (by decide) (.slice va R0.length vc) R0.length (strs R0) rfl (HOX2.out.alloc _) ⟨w2.heap.size, 0, none⟩ 1 1 [.string n] rfl rfl (news_alloc _ #[.string n] _ _ rfl) (by simp [Value.oneCell']) (by decide) (by unfold maxLen; omega) (by omega) (by simp; omega) _ rfl ?_); intro gA capA wA hownA hgrow hat hltA))
          have hA : ∀ y, (Value.slice va R0.length vc).ownBlock = some y → w1.heap.size ≤ y := fun y hy => (HOX2.out.lt y hy).1
          have hf3 : Fr w1 wA (fun _ => False) := (HF2.out.alloc _).grown hgrow (fun y hy hc => by have := hA y hy; omega)
          have hoA : wA.ownsRow w1.heap.size 9 1 (.slice (some ⟨gA, 0, none⟩) (R0.length + 1) capA) ((M0.take (j + 1)).filter (K.lacks L who)).length (strs ((M0.take (j + 1)).filter (K.lacks L who))) := by
            rw [HNX2.out, List.length_append]
            have e : strs (R0 ++ [n]) = strs R0 ++ [.string n] := by unfold strs; simp
            rw [e]; exact hownA
          have HF3 := hide hf3
          have HOA := hide hoA
          clear hf3 hoA hownA hgrow hat hA
          go_wp2_with fail
          go_roundw
          case rel => exact ⟨j + 1, by omega, by go_num, HAN.out hok, HOA.out, HF3.out⟩
          case measure => simp [intOf]; omega
        | some t =>
          cases hw : K.who t with
          | none =>
            have hE : K.own L n = (0, false, 5) := by unfold K.own; rw [if_neg (by rw [hm]; decide), hg]; show (match K.who t with | some k => ((k : Int), true, 0) | none => (0, false, 5)) = _; rw [hw]
            have hbad : K.code L who al n = 5 := by unfold K.code; rw [if_neg (by rw [hm]; decide), hg]; show (match K.who t with | some k => if k = who then 0 else if al k then 14 else 0 | none => 5) = _; rw [hw]
            have HOWN2 : Hid (Calls Tryd.prog 15 #[.pointer (some ⟨g, 0, none⟩), .string n] wx fun o w' => o = .returned (.tuple #[.int .i64 0, .bool false, .iface 59 (.int .i64 5)]) ∧ Fr wx w' (fun _ => False)) := by
              have := HOWN.out
              rw [hE] at this; exact this
            clear HOWN hE hm hg hw
            go_wp2_with (go_at_call 15; (with_reducible refine Calls.mono HOWN2.out ?_); rintro o w2 ⟨rfl, hf2⟩)
            go_ret2
            exact ⟨_, by rw [HBAD.out 5 hbad (by decide)]; rfl, (HF1.out.trans HFX.out (fun _ _ e => e)).trans hf2 (fun _ _ e => e), fun h0 => by rw [HBAD.out 5 hbad (by decide)] at h0; cases h0⟩
          | some k =>
            have hE : K.own L n = ((k : Int), true, 0) := by unfold K.own; rw [if_neg (by rw [hm]; decide), hg]; show (match K.who t with | some k => ((k : Int), true, 0) | none => (0, false, 5)) = _; rw [hw]
            have hC : K.code L who al n = (if k = who then 0 else if al k then 14 else 0) := by unfold K.code; rw [if_neg (by rw [hm]; decide), hg]; show (match K.who t with | some k => if k = who then 0 else if al k then 14 else 0 | none => 5) = _; rw [hw]
            have hk4 := (K.who_some hw).1
            have htx := K.who_text hw
            have HOWN2 : Hid (Calls Tryd.prog 15 #[.pointer (some ⟨g, 0, none⟩), .string n] wx fun o w' => o = .returned (.tuple #[.int .i64 k, .bool true, .nilIface]) ∧ Fr wx w' (fun _ => False)) := by
              have := HOWN.out
              rw [hE] at this; exact this
            by_cases hkw : k = who
            · subst hkw
              have hok : K.code L k al n = 0 := by rw [hC, if_pos rfl]
              have hlk : K.lacks L k n = false := K.lacks_no (hg.trans (congrArg some htx))
              have HNX2 : Hid ((M0.take (j + 1)).filter (K.lacks L k) = R0) := by
                show _ = _
                rw [HNX.out, hlk]; simp
              clear HOWN hE hC htx hw hm hg HNX hlk
              go_wp2_with (go_at_call 15; (with_reducible refine Calls.mono HOWN2.out ?_); rintro o w2 ⟨rfl, hf2⟩; have HOX2 := hide (owns_fr HOX.out hf2 (fun _ _ e => e)); have HF2 := hide (HFX.out.trans hf2 (fun _ _ e => e)); clear hf2)
              go_roundw
              case rel => exact ⟨j + 1, by omega, by go_num, HAN.out hok, by rw [HNX2.out]; exact HOX2.out, HF2.out⟩
              case measure => simp [intOf]; omega
            · have hne : ¬ (k : Int) = (who : Int) := by omega
              have HAK : Hid (∀ W, Fr w1 W (fun _ => False) → Calls Tryd.prog 7 #[.int .i64 k, .pointer (some ⟨lo, 0, none⟩), .pointer (some ⟨hi, 0, none⟩)] W fun o w' => o = .returned (.bool (al k)) ∧ w' = W) := fun W hf => HAL.out W k (HF1.out.trans hf (fun _ _ e => e)) hk4
              have hlk : K.lacks L who n = true := K.lacks_yes hg (fun e => by have := K.num_ne hwho hk4 (fun e => hkw e.symm); rw [← htx, e] at this; simp at this)
              cases ha : al k with
              | true =>
                have hbad : K.code L who al n = 14 := by rw [hC, if_neg hkw, ha]; rfl
                rw [ha] at HAK
                clear HOWN hE hC htx hw hm hg ha hlk
                go_wp2_with (first
                  | (go_at_call 15; (with_reducible refine Calls.mono HOWN2.out ?_); rintro o w2 ⟨rfl, hf2⟩; have HF2 := hide (HFX.out.trans hf2 (fun _ _ e => e)))
                  | (go_at_call 7; (with_reducible refine Calls.mono (HAK.out _ ?_) ?_); exact HF2.out; rintro o w3 ⟨rfl, hw3⟩; rw [hw3]; clear hw3 w3))
                go_ret2
                exact ⟨_, by rw [HBAD.out 14 hbad (by decide)]; rfl, (HF1.out.trans HFX.out (fun _ _ e => e)).trans hf2 (fun _ _ e => e), fun h0 => by rw [HBAD.out 14 hbad (by decide)] at h0; cases h0⟩
              | false =>
                have hok : K.code L who al n = 0 := by rw [hC, if_neg hkw, ha]; rfl
                rw [ha] at HAK
                clear HOWN hE hC htx hw hm hg ha
                have HNX2 : Hid ((M0.take (j + 1)).filter (K.lacks L who) = R0 ++ [n]) := by
                  show _ = _
                  rw [HNX.out, hlk]; rfl
                clear HNX hlk
                obtain ⟨i0, hi0, hz0, hz1, hz2⟩ := info_parts HI.out
                go_wp2_with (first
                  | (go_at_call 15; (with_reducible refine Calls.mono HOWN2.out ?_); rintro o w2 ⟨rfl, hf2⟩; have HOX2 := hide (owns_fr HOX.out hf2 (fun _ _ e => e)); have hsz2 := hf2.size; have HF2 := hide (HFX.out.trans hf2 (fun _ _ e => e)); clear hf2)
                  | (go_at_call 7; (with_reducible refine Calls.mono (HAK.out _ ?_) ?_); exact HF2.out; rintro o w3 ⟨rfl, hw3⟩; rw [hw3]; clear hw3 w3)
                  | (at_builtin; go_must (refine wpList_append_lies _ rfl (.tmp 46) (.tmp 48) 33 rfl w1.heap.size 9 i0 (.string ⟨#[]⟩) 1 16 HU.out hi0 hz0 hz1 hz2 rfl (by decide) (.slice va R0.length vc) R0.length (strs R0) rfl (HOX2.out.alloc _) ⟨w2.heap.size, 0, none⟩ 1 1 [.string n] rfl rfl (news_alloc _ #[.string n] _ _ rfl) (by simp [Value.oneCell']) (by decide) (by unfold maxLen; omega) (by omega) (by simp; omega) _ rfl ?_); intro gA capA wA hownA hgrow hat hltA))
                have hA : ∀ y, (Value.slice va R0.length vc).ownBlock = some y → w1.heap.size ≤ y := fun y hy => (HOX2.out.lt y hy).1
                have hf3 : Fr w1 wA (fun _ => False) := (HF2.out.alloc _).grown hgrow (fun y hy hc => by have := hA y hy; omega)
                have hoA : wA.ownsRow w1.heap.size 9 1 (.slice (some ⟨gA, 0, none⟩) (R0.length + 1) capA) ((M0.take (j + 1)).filter (K.lacks L who)).length (strs ((M0.take (j + 1)).filter (K.lacks L who))) := by
                  rw [HNX2.out, List.length_append]
                  have e : strs (R0 ++ [n]) = strs R0 ++ [.string n] := by unfold strs; simp
                  rw [e]; exact hownA
                have HF3 := hide hf3
                have HOA := hide hoA
                clear hf3 hoA hownA hgrow hat hA
                go_wp2_with fail
                go_roundw
                case rel => exact ⟨j + 1, by omega, by go_num, HAN.out hok, HOA.out, HF3.out⟩
                case measure => simp [intOf]; omega
    · have hjj : j = M0.length := by omega
      rw [hjj, List.take_length] at hall hox
      rw [hjj, List.take_length]
      have HA2 := hide hall
      have HO2 := hide hox
      clear hall hox hfx
      go_wp2_with fail
      go_ret2
      exact ⟨_, by rw [K.first_all HA2.out]; rfl, HF1.out.trans HFX.out (fun _ _ e => e), fun _ => K.owns_base HO2.out hsz1⟩
end Go.Proofs.YtckbfjoffbnjeaaDoor
