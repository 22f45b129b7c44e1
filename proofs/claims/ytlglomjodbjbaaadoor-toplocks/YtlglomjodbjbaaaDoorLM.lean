/- For TopLocks: Give. -/
import Derived.Test.YtlglomjodbjbaaaDoorLL
namespace Go.Proofs.YtlglomjodbjbaaaDoor
open Go.RowKit
attribute [local go_sem ↓] Go.wp_at_zero Go.wp_at_succ
namespace K
theorem get_none_lesses {n : ByteArray} : ∀ (N0 : List ByteArray) (L : Lo), get L n = none → get (lesses L N0) n = none
  | [], L, h => h
  | m :: N0, L, h => by
    show get (lesses (less L m) N0) n = none
    refine get_none_lesses N0 (less L m) ?_
    rw [get_less, h]; simp
theorem get_lesses_in {n : ByteArray} : ∀ (N0 : List ByteArray) (L : Lo), n ∈ N0 → get (lesses L N0) n = none
  | [], L, h => by cases h
  | m :: N0, L, h => by
    show get (lesses (less L m) N0) n = none
    rcases List.mem_cons.1 h with e | h2
    · refine get_none_lesses N0 (less L m) ?_
      rw [get_less, e, (beq_iff m m).2 rfl]; simp
    · exact get_lesses_in N0 (less L m) h2
theorem lesses_len : ∀ (N0 : List ByteArray) (L : Lo), (lesses L N0).length ≤ L.length
  | [], _ => Nat.le_refl _
  | m :: N0, L => Nat.le_trans (lesses_len N0 (less L m)) (less_len L m)
def has (L : Lo) (who : Nat) (n : ByteArray) : Bool := get L n == some who
theorem get_gave (L : Lo) (N0 : List ByteArray) (who : Nat) (n : ByteArray) : (n ∈ N0 ∧ get L n = some who → get (lesses L (once (N0.filter (has L who)))) n = none) ∧ (¬ (n ∈ N0 ∧ get L n = some who) → get (lesses L (once (N0.filter (has L who)))) n = get L n) := by
  have e : n ∈ once (N0.filter (has L who)) ↔ n ∈ N0 ∧ get L n = some who := by
    rw [mem_once, List.mem_filter]
    unfold has
    simp
  exact ⟨fun h => get_lesses_in _ _ (e.2 h), fun h => get_lesses _ _ (fun q => h (e.1 q))⟩
end K
/-- What Give says and does. -/
def Gave (w w' : World) (B : Nat → Prop) (g : Nat) (L : K.Lo) (b who : Int) (N0 : List ByteArray) (o : Ending) : Prop :=
  ∃ c, o = .returned (errV c) ∧ ((c ≠ 0 ∧ Lk.Did w w' B g L (b + 13) 0) ∨
    (c = 0 ∧ ∃ L', Lk.Did w w' B g L' (b + 13) 0 ∧ L'.length ≤ L.length ∧ ∀ n, (n ∈ N0 ∧ (K.get L n).map Int.ofNat = some who → K.get L' n = none) ∧ (¬ (n ∈ N0 ∧ (K.get L n).map Int.ofNat = some who) → K.get L' n = K.get L n)))
set_option maxRecDepth 100000 in
set_option maxHeartbeats 1000000 in
theorem give_any (w : World) (B : Nat → Prop) (g : Nat) (D : Dk) (L : K.Lo) (b who : Int) (v : Value) (N0 : List ByteArray) (h : Lk w B g D L b 0) (hb : b ≤ 80000) (hs : Strs w v N0) (hl : N0.length ≤ 12) (hsz : ∀ n ∈ N0, n.size ≤ maxLen) :
    Calls Tryd.prog 10 #[.pointer (some ⟨g, 0, none⟩), .int .i64 who, v] w fun o w' => Gave w w' B g L b who N0 o := by
  obtain ⟨av, cv, rfl, hs'⟩ := id hs
  clear hs'
  have HIS := hide (isOwner_any who w)
  by_cases hwho : 0 ≤ who ∧ who < 4
  · obtain ⟨k, rfl⟩ : ∃ k : Nat, who = k := ⟨who.toNat, by omega⟩
    have hk4 : k < 4 := by omega
    rw [decide_eq_true hwho.1, decide_eq_true hwho.2] at HIS
    by_cases hN : N0 = []
    · subst hN
      have hfin : Gave w w B g L b k [] (.returned .nilIface) := ⟨0, rfl, .inr ⟨rfl, L, (Lk.Did.refl h).up (by omega), Nat.le_refl _, fun n => ⟨fun e => (by cases e.1), fun _ => rfl⟩⟩⟩
      have HFIN := hide hfin
      clear hfin h hs hsz
      go_enter Tryd.func10, Tryd.ntmps10
      go_wp2_with fail
      refine HIS.out.mono ?_
      rintro o w1 ⟨rfl, hw1⟩
      rw [hw1]
      clear hw1 w1 HIS
      go_wp2_with fail
      go_ret
      exact HFIN.out
    · have hN1 : 0 < N0.length := List.length_pos_iff.2 hN
      have hN2 : ¬ ((N0.length : Int) = 0) := by omega
      have HOW : Hid (∀ W n, Fr w W (fun _ => False) → n.size ≤ maxLen → Calls Tryd.prog 11 #[.pointer (some ⟨g, 0, none⟩), .string n] W fun o w' => o = .returned (.tuple #[.int .i64 (K.own L n).1, .bool (K.own L n).2.1, errV (K.own L n).2.2]) ∧ Fr W w' (fun _ => False)) := fun W n hf hn => owner_any W B g D L n (h.disk.fr hf (fun _ _ h => h)) h.inv.down h.on hn
      have HS := hide hs
      have HSZ := hide hsz
      have HH := hide h
      have HU := hide u27
      have HI := hide info9
      clear hs hsz hN h
      go_enter Tryd.func10, Tryd.ntmps10
      go_wp2_with fail
      refine HIS.out.mono ?_
      rintro o w1 ⟨rfl, hw1⟩
      rw [hw1]
      clear hw1 w1 HIS
      go_wp2_with fail
      have hN3 : ((N0.length : Int) == 0) = false := by rw [beq_eq_false_iff_ne]; exact hN2
      rw [hN3]
      go_loopw [22, 7, 9, 10, 11, 12] (fun vi vo _ _ _ _ wx => ∃ j : Nat, j ≤ N0.length ∧ vi = .int .i64 j ∧ (∀ n ∈ N0.take j, N.name n = true) ∧ wx.ownsRow w.heap.size 9 1 vo ((N0.take j).filter (K.has L k)).length (strs ((N0.take j).filter (K.has L k))) ∧ Fr w wx (fun _ => False)) (fun vi _ _ _ _ _ _ => N0.length - (intOf vi).toNat)
      case atStart => exact ⟨0, Nat.zero_le _, rfl, (by simp), World.ownsRow_nil .., Fr.refl _ _⟩
      case round =>
        obtain ⟨wx, hwx⟩ : ∃ z, z = wr := ⟨_, rfl⟩
        subst hwx
        obtain ⟨j, hj, rfl, hall, hox, hfx⟩ := hrel
        obtain ⟨va, vc, rfl⟩ := owns_shape hox
        have HALL := hide hall
        have HFX := hide hfx
        have hszx := hfx.size
        by_cases hlt : j < N0.length
        · obtain ⟨n, hnj⟩ : ∃ n, N0[j]? = some n := ⟨_, List.getElem?_eq_getElem hlt⟩
          have hmem := List.mem_of_getElem? hnj
          have hst : Strs wx (.slice av N0.length cv) N0 := HS.out.kept (hfx.below (Nat.le_refl _) (fun _ e => e.elim)) (Nat.le_refl _)
          obtain ⟨b1, off, rfl, y0⟩ := hst.at hnj
          have hfk : ((N0.take j).filter (K.has L k)).length ≤ 12 := Nat.le_trans (List.length_filter_le _ _) (by rw [List.length_take]; omega)
          have HNX := hide (K.filter_next hnj (K.has L k))
          have HAN : Hid (N.name n = true → ∀ x ∈ N0.take (j + 1), N.name x = true) := fun h => K.all_next hnj hall h
          have HOWN := hide (HOW.out wx n hfx (HSZ.out n hmem))
          have HOX := hide hox
          clear hall hfx hnj hst hmem hox
          generalize (N0.take j).filter (K.has L k) = R0 at *
          cases hm : N.name n with
          | false =>
            have hE : K.own L n = (0, false, 3) := by unfold K.own; rw [if_pos hm]
            have HOWN2 : Hid (Calls Tryd.prog 11 #[.pointer (some ⟨g, 0, none⟩), .string n] wx fun o w' => o = .returned (.tuple #[.int .i64 0, .bool false, .iface 49 (.int .i64 3)]) ∧ Fr wx w' (fun _ => False)) := by
              have := HOWN.out
              rw [hE] at this; exact this
            clear HOWN hE hm
            go_wp2_with (go_at_call 11; (with_reducible refine Calls.mono HOWN2.out ?_); rintro o w2 ⟨rfl, hf2⟩)
            go_ret
            exact ⟨3, rfl, .inl ⟨by decide, (Lk.Did.fr' HH.out (HFX.out.trans hf2 (fun _ _ e => e))).up (by omega)⟩⟩
          | true =>
            cases hg : K.get L n with
            | none =>
              have hE : K.own L n = (0, false, 0) := by unfold K.own; rw [if_neg (by rw [hm]; decide), hg]
              have hlk : K.has L k n = false := by unfold K.has; rw [hg]; rfl
              have HOWN2 : Hid (Calls Tryd.prog 11 #[.pointer (some ⟨g, 0, none⟩), .string n] wx fun o w' => o = .returned (.tuple #[.int .i64 0, .bool false, .nilIface]) ∧ Fr wx w' (fun _ => False)) := by
                have := HOWN.out
                rw [hE] at this; exact this
              clear HOWN hE hg
              have HNX2 : Hid ((N0.take (j + 1)).filter (K.has L k) = R0) := by
                show _ = _
                rw [HNX.out, hlk]; simp
              clear HNX hlk
              go_wp2_with (go_at_call 11; (with_reducible refine Calls.mono HOWN2.out ?_); rintro o w2 ⟨rfl, hf2⟩; have HOX2 := hide (owns_fr HOX.out hf2 (fun _ _ e => e)); have HF2 := hide (HFX.out.trans hf2 (fun _ _ e => e)); clear hf2)
              go_roundw
              case rel => exact ⟨j + 1, by omega, by go_num, HAN.out hm, by rw [HNX2.out]; exact HOX2.out, HF2.out⟩
              case measure => simp [intOf]; omega
            | some q =>
              have hE : K.own L n = ((q : Int), true, 0) := by unfold K.own; rw [if_neg (by rw [hm]; decide), hg]
              have HOWN2 : Hid (Calls Tryd.prog 11 #[.pointer (some ⟨g, 0, none⟩), .string n] wx fun o w' => o = .returned (.tuple #[.int .i64 q, .bool true, .nilIface]) ∧ Fr wx w' (fun _ => False)) := by
                have := HOWN.out
                rw [hE] at this; exact this
              by_cases hkw : q = k
              · subst hkw
                have hlk : K.has L q n = true := by unfold K.has; rw [hg]; simp
                clear HOWN hE hg
                have HNX2 : Hid ((N0.take (j + 1)).filter (K.has L q) = R0 ++ [n]) := by
                  show _ = _
                  rw [HNX.out, hlk]; rfl
                clear HNX hlk
                obtain ⟨i0, hi0, hz0, hz1, hz2⟩ := info_parts HI.out
                go_wp2_with (first
                  | (go_at_call 11; (with_reducible refine Calls.mono HOWN2.out ?_); rintro o w2 ⟨rfl, hf2⟩; have HOX2 := hide (owns_fr HOX.out hf2 (fun _ _ e => e)); have hsz2 := hf2.size; have HF2 := hide (HFX.out.trans hf2 (fun _ _ e => e)); clear hf2)
                  | (at_builtin; go_must (refine wpList_append_lies _ rfl (.tmp 42) (.tmp 44) 28 rfl w.heap.size 9 i0 (.string ⟨#[]⟩) 1 16 HU.out hi0 hz0 hz1 hz2 rfl (by decide) (.slice va R0.length vc) R0.length (strs R0) rfl (HOX2.out.alloc _) ⟨w2.heap.size, 0, none⟩ 1 1 [.string n] rfl rfl (news_alloc _ #[.string n] _ _ rfl) (by simp [Value.oneCell']) (by decide) (by unfold maxLen; omega) (by omega) (by simp; omega) _ rfl ?_); intro gA capA wA hownA hgrow hat hltA))
                have hA : ∀ y, (Value.slice va R0.length vc).ownBlock = some y → w.heap.size ≤ y := fun y hy => (HOX2.out.lt y hy).1
                have hf3 : Fr w wA (fun _ => False) := (HF2.out.alloc _).grown hgrow (fun y hy hc => by have := hA y hy; omega)
                have hoA : wA.ownsRow w.heap.size 9 1 (.slice (some ⟨gA, 0, none⟩) (R0.length + 1) capA) ((N0.take (j + 1)).filter (K.has L q)).length (strs ((N0.take (j + 1)).filter (K.has L q))) := by
                  rw [HNX2.out, List.length_append]
                  have e : strs (R0 ++ [n]) = strs R0 ++ [.string n] := by unfold strs; simp
                  rw [e]; exact hownA
                have HF3 := hide hf3
                have HOA := hide hoA
                clear hf3 hoA hownA hgrow hat hA
                go_wp2_with fail
                go_roundw
                case rel => exact ⟨j + 1, by omega, by go_num, HAN.out hm, HOA.out, HF3.out⟩
                case measure => simp [intOf]; omega
              · have hne : ¬ (q : Int) = (k : Int) := by omega
                have hlk : K.has L k n = false := by unfold K.has; rw [hg]; simp [hkw]
                clear HOWN hE hg
                have HNX2 : Hid ((N0.take (j + 1)).filter (K.has L k) = R0) := by
                  show _ = _
                  rw [HNX.out, hlk]; simp
                clear HNX hlk
                go_wp2_with (go_at_call 11; (with_reducible refine Calls.mono HOWN2.out ?_); rintro o w2 ⟨rfl, hf2⟩; have HOX2 := hide (owns_fr HOX.out hf2 (fun _ _ e => e)); have HF2 := hide (HFX.out.trans hf2 (fun _ _ e => e)); clear hf2)
                go_roundw
                case rel => exact ⟨j + 1, by omega, by go_num, HAN.out hm, by rw [HNX2.out]; exact HOX2.out, HF2.out⟩
                case measure => simp [intOf]; omega
        · have hjj : j = N0.length := by omega
          rw [hjj, List.take_length] at hall hox
          rw [hjj, List.take_length]
          have hfl : (N0.filter (K.has L k)).length ≤ 12 := Nat.le_trans (List.length_filter_le _ _) hl
          have hso := Strs.of_owns hox
          have HON := hide (once_any _ (N0.filter (K.has L k)) wx hso (by omega))
          have hol := K.once_len (N0.filter (K.has L k))
          have HFO : Hid (∀ n ∈ K.once (N0.filter (K.has L k)), N.name n = true ∧ (K.get L n).isSome = true) := by
            intro n hn
            have h1 := List.mem_filter.1 (K.mem_once.1 hn)
            refine ⟨hall n h1.1, ?_⟩
            have h2 := h1.2
            unfold K.has at h2
            rw [beq_iff_eq] at h2
            rw [h2]; rfl
          clear hall hox hfx hso
          go_wp2_with fail
          refine HON.out.mono ?_
          rintro o w2 ⟨u, rfl, ho2, hf2⟩
          have hfw2 := HFX.out.trans hf2 (fun _ _ e => e)
          have hlow := HH.out.low
          have HFG := hide (forGive_any w2 B g wx.heap.size D L b u (K.once (N0.filter (K.has L k))) (HH.out.fr hfw2) (by omega) (fun n hn => (HFO.out n hn).1) (K.once_nodup _) (fun n hn => (HFO.out n hn).2) (by omega) ho2 (fun y hy hB => by have := (ho2.lt y hy).1; have := hlow y hB; omega))
          have HFW := hide hfw2
          clear hf2 hfw2 ho2 HON hlow
          go_wp2_with fail
          refine HFG.out.mono ?_
          rintro o w3 ⟨rfl, hd3⟩
          have HD3 := hide hd3
          clear hd3 HFG
          go_wp2_with fail
          go_ret
          refine ⟨0, rfl, .inr ⟨rfl, _, (HD3.out.from HFW.out).up (by omega), K.lesses_len _ _, fun n => ?_⟩⟩
          have e : (K.get L n).map Int.ofNat = some (k : Int) ↔ K.get L n = some k := by
            cases K.get L n with
            | none => simp
            | some q => simp; omega
          rw [e]
          exact K.get_gave L N0 k n
  · have hb1 : (decide (0 ≤ who) && decide (who < 4)) = false := by
      rw [Bool.and_eq_false_iff]
      by_cases h1 : 0 ≤ who
      · right; rw [decide_eq_false_iff_not]; exact fun h2 => hwho ⟨h1, h2⟩
      · left; rw [decide_eq_false_iff_not]; exact h1
    rw [hb1] at HIS
    have hfin : Gave w w B g L b who N0 (.returned (.iface 49 (.int .i64 1))) := ⟨1, rfl, .inl ⟨by decide, (Lk.Did.refl h).up (by omega)⟩⟩
    have HFIN := hide hfin
    clear hfin h hs hsz hb1
    go_enter Tryd.func10, Tryd.ntmps10
    go_wp2_with fail
    refine HIS.out.mono ?_
    rintro o w1 ⟨rfl, hw1⟩
    rw [hw1]
    clear hw1 w1 HIS
    go_wp2_with fail
    go_ret
    exact HFIN.out
end Go.Proofs.YtlglomjodbjbaaaDoor
