/- For TopLocks: notYet. -/
import Derived.Test.YtlglomjodbjbaaaDoorLI
namespace Go.Proofs.YtlglomjodbjbaaaDoor
open Go.RowKit
attribute [local go_sem ↓] Go.wp_at_zero Go.wp_at_succ
namespace K
/-- May who take it? -/
def okTake (L : Lo) (who : Nat) (al : Nat → Bool) (n : ByteArray) : Bool := N.name n && (match get L n with | some k => decide (k = who) || !al k | none => true)
def lacks (L : Lo) (who : Nat) (n : ByteArray) : Bool := !(get L n == some who)
theorem filter_next {M0 : List ByteArray} {j : Nat} {n : ByteArray} (h : M0[j]? = some n) (p : ByteArray → Bool) : (M0.take (j + 1)).filter p = (M0.take j).filter p ++ (if p n then [n] else []) := by
  rw [List.take_add_one, h, Option.toList_some, List.filter_append]
  cases hp : p n <;> simp [hp]
theorem all_next {M0 : List ByteArray} {j : Nat} {n : ByteArray} (h : M0[j]? = some n) {p : ByteArray → Bool} (ha : ∀ x ∈ M0.take j, p x = true) (hn : p n = true) : ∀ x ∈ M0.take (j + 1), p x = true := by
  intro x hx
  rw [List.take_add_one, h, Option.toList_some] at hx
  rcases List.mem_append.1 hx with hx | hx
  · exact ha x hx
  · have : x = n := by simpa using hx
    rw [this]; exact hn
theorem get_lt {F : List (ByteArray × ByteArray)} {L : Lo} (h : On F L) {n : ByteArray} {k : Nat} (hg : get L n = some k) : k < 4 := (h.fine _ (get_mem hg)).2
theorem compact_get {zs : List (List UInt8)} {x : List UInt8} : x ∈ Lib.compact zs ↔ x ∈ zs := by
  have hd : ∀ i (h : i < zs.length), zs.toArray[i]! = zs[i] := fun i h => by simp [h]
  constructor
  · intro h
    unfold Lib.compact Lib.compactUpTo at h
    obtain ⟨i, hi, rfl⟩ := List.mem_map.1 h
    have hlt := List.mem_range.1 (List.mem_filter.1 hi).1
    rw [hd i hlt]; exact List.getElem_mem hlt
  · intro h
    obtain ⟨i, hi, rfl⟩ := List.mem_iff_getElem.1 h
    have key : ∀ i (hi : i < zs.length), zs[i] ∈ Lib.compact zs := by
      intro i
      induction i with
      | zero =>
        intro hi
        unfold Lib.compact Lib.compactUpTo
        exact List.mem_map.2 ⟨0, List.mem_filter.2 ⟨List.mem_range.2 hi, by simp [Lib.keeps]⟩, hd 0 hi⟩
      | succ i ih =>
        intro hi
        by_cases e : zs[i + 1] = zs[i]
        · rw [e]; exact ih (by omega)
        · unfold Lib.compact Lib.compactUpTo
          refine List.mem_map.2 ⟨i + 1, List.mem_filter.2 ⟨List.mem_range.2 hi, ?_⟩, hd _ hi⟩
          unfold Lib.keeps
          rw [decide_eq_true_eq]
          right
          rw [hd _ hi, Nat.add_sub_cancel, hd i (by omega)]; exact e
    exact key i hi
theorem compact_nodup {zs : List (List UInt8)} (h : zs.Pairwise (fun x y => x ≤ y)) : (Lib.compact zs).Nodup := by
  have hd : ∀ i (h : i < zs.length), zs.toArray[i]! = zs[i] := fun i h => by simp [h]
  unfold Lib.compact Lib.compactUpTo List.Nodup
  rw [List.pairwise_map]
  have hr : ((List.range zs.length).filter (Lib.keeps zs.toArray)).Pairwise (fun i j => i < j) := (List.pairwise_lt_range).filter _
  refine List.Pairwise.imp_of_mem ?_ hr
  intro i j hi hj hij e
  have hil := List.mem_range.1 (List.mem_filter.1 hi).1
  have hjl := List.mem_range.1 (List.mem_filter.1 hj).1
  have hk := (List.mem_filter.1 hj).2
  unfold Lib.keeps at hk
  rw [decide_eq_true_eq] at hk
  rcases hk with hk | hk
  · omega
  · rw [hd _ hjl, hd (j - 1) (by omega)] at hk
    rw [hd _ hil, hd _ hjl] at e
    have h2 : zs[j - 1] ≤ zs[j] := List.pairwise_iff_getElem.1 h (j - 1) j (by omega) hjl (by omega)
    have h1 : zs[i] ≤ zs[j - 1] := by
      by_cases q : i = j - 1
      · subst q; exact List.le_refl _
      · exact List.pairwise_iff_getElem.1 h i (j - 1) hil (by omega) (by omega)
    rw [e] at h1
    exact hk (List.le_antisymm h1 h2)
theorem mem_once {N0 : List ByteArray} {n : ByteArray} : n ∈ once N0 ↔ n ∈ N0 := by
  unfold once
  constructor
  · intro h
    obtain ⟨l, hl, rfl⟩ := List.mem_map.1 h
    rw [compact_get, List.mem_mergeSort] at hl
    obtain ⟨x, hx, rfl⟩ := List.mem_map.1 hl
    rw [str_bl]; exact hx
  · intro h
    exact List.mem_map.2 ⟨N.bl n, by rw [compact_get, List.mem_mergeSort]; exact List.mem_map.2 ⟨n, h, rfl⟩, str_bl n⟩
theorem once_nodup (N0 : List ByteArray) : (once N0).Nodup := by
  unfold once List.Nodup
  rw [List.pairwise_map]
  have hp : ((N0.map N.bl).mergeSort (fun x y => decide (x ≤ y))).Pairwise (fun x y => x ≤ y) := by
    have := List.pairwise_mergeSort (le := fun x y : List UInt8 => decide (x ≤ y)) (fun a b c h1 h2 => by simp at h1 h2 ⊢; exact List.le_trans h1 h2) M.le_total (N0.map N.bl)
    exact this.imp (fun h => by simpa using h)
  refine List.Pairwise.imp ?_ (compact_nodup hp)
  intro a b hab e
  apply hab
  have := congrArg N.bl e
  simpa [N.bl, N.str] using this
theorem once_len (N0 : List ByteArray) : (once N0).length ≤ N0.length := by
  unfold once Lib.compact Lib.compactUpTo
  rw [List.length_map, List.length_map]
  refine Nat.le_trans (List.length_filter_le _ _) ?_
  simp
end K
set_option maxRecDepth 100000 in
set_option maxHeartbeats 1000000 in
theorem notYet6_any (w : World) (B : Nat → Prop) (g : Nat) (D : Dk) (L : K.Lo) (b : Int) (who : Nat) (al : Nat → Bool) (v : Value) (N0 : List ByteArray) (h : Lk w B g D L b 0) (hwho : who < 4) (hs : Strs w v N0) (hl : N0.length ≤ 12) (hsz : ∀ n ∈ N0, n.size ≤ maxLen)
    (hal : ∀ W (k : Nat), k < 4 → Calls Tryd.prog 6 #[.int .i64 k] W fun o w' => o = .returned (.bool (al k)) ∧ w' = W) :
    Calls Tryd.prog 13 #[.pointer (some ⟨g, 0, none⟩), .int .i64 who, v, .func (.func 6) #[] #[]] w fun o w' => ∃ u c, o = .returned (.tuple #[u, errV c]) ∧ Fr w w' (fun _ => False) ∧
      ((c ≠ 0 ∧ ¬ ∀ n ∈ K.once N0, K.okTake L who al n = true) ∨ (c = 0 ∧ (∀ n ∈ K.once N0, K.okTake L who al n = true) ∧ w'.ownsRow w.heap.size 9 1 u ((K.once N0).filter (K.lacks L who)).length (strs ((K.once N0).filter (K.lacks L who))))) := by
  have HO := hide (once_any v N0 w hs (by omega))
  have HOW : Hid (∀ W n, Fr w W (fun _ => False) → n.size ≤ maxLen → Calls Tryd.prog 11 #[.pointer (some ⟨g, 0, none⟩), .string n] W fun o w' => o = .returned (.tuple #[.int .i64 (K.own L n).1, .bool (K.own L n).2.1, errV (K.own L n).2.2]) ∧ Fr W w' (fun _ => False)) := fun W n hf hn => owner_any W B g D L n (h.disk.fr hf (fun _ _ h => h)) h.inv.down h.on hn
  have HAL := hide hal
  have HLT : Hid (∀ n k, K.get L n = some k → k < 4) := fun n k hg => K.get_lt h.on hg
  have HSZ : Hid (∀ n ∈ K.once N0, n.size ≤ maxLen) := fun n hn => hsz n (K.mem_once.1 hn)
  have hl1 : (K.once N0).length ≤ 12 := Nat.le_trans (K.once_len N0) hl
  have HU := hide u27
  have HI := hide info9
  clear h hs hl hsz hal
  generalize K.once N0 = M0 at *
  go_enter Tryd.func13, Tryd.ntmps13
  go_wp2_with fail
  refine HO.out.mono ?_
  rintro o w1 ⟨u, rfl, ho1, hf1⟩
  obtain ⟨a1, c1, rfl⟩ := owns_shape ho1
  have HO1 := hide ho1
  have HF1 := hide hf1
  have hsz1 := hf1.size
  clear ho1 hf1 HO
  go_wp2_with fail
  go_loopw [19, 10, 12, 13, 14, 15] (fun vi vo _ _ _ _ wx => ∃ j : Nat, j ≤ M0.length ∧ vi = .int .i64 j ∧ (∀ n ∈ M0.take j, K.okTake L who al n = true) ∧ wx.ownsRow w1.heap.size 9 1 vo ((M0.take j).filter (K.lacks L who)).length (strs ((M0.take j).filter (K.lacks L who))) ∧ Fr w1 wx (fun _ => False)) (fun vi _ _ _ _ _ _ => M0.length - (intOf vi).toNat)
  case atStart => exact ⟨0, Nat.zero_le _, rfl, (by simp), World.ownsRow_nil .., Fr.refl _ _⟩
  case round =>
    obtain ⟨wx, hwx⟩ : ∃ z, z = wr := ⟨_, rfl⟩
    subst hwx
    obtain ⟨j, hj, rfl, hall, hox, hfx⟩ := hrel
    obtain ⟨va, vc, rfl⟩ := owns_shape hox
    have HALL := hide hall
    have HFX := hide hfx
    have hszx := hfx.size
    by_cases hlt : j < M0.length
    · obtain ⟨n, hnj⟩ : ∃ n, M0[j]? = some n := ⟨_, List.getElem?_eq_getElem hlt⟩
      have hmem := List.mem_of_getElem? hnj
      have hst : Strs wx (.slice a1 M0.length c1) M0 := strs_frx HO1.out hfx (fun _ _ e => e)
      obtain ⟨b1, off, rfl, y0⟩ := hst.at hnj
      have hfk : ((M0.take j).filter (K.lacks L who)).length ≤ 12 := Nat.le_trans (List.length_filter_le _ _) (by rw [List.length_take]; omega)
      have HNX := hide (K.filter_next hnj (K.lacks L who))
      have HAN : Hid (K.okTake L who al n = true → ∀ x ∈ M0.take (j + 1), K.okTake L who al x = true) := fun h => K.all_next hnj hall h
      have HBAD : Hid (K.okTake L who al n = false → ¬ ∀ n ∈ M0, K.okTake L who al n = true) := fun h hh => by rw [hh n hmem] at h; cases h
      have HOWN := hide (HOW.out wx n (HF1.out.trans hfx (fun _ _ e => e)) (HSZ.out n hmem))
      have HOX := hide hox
      clear hall hfx hnj hst hmem hox
      generalize (M0.take j).filter (K.lacks L who) = R0 at *
      cases hm : N.name n with
      | false =>
        have hE : K.own L n = (0, false, 3) := by unfold K.own; rw [if_pos hm]
        have hbad : K.okTake L who al n = false := by unfold K.okTake; rw [hm]; rfl
        have HOWN2 : Hid (Calls Tryd.prog 11 #[.pointer (some ⟨g, 0, none⟩), .string n] wx fun o w' => o = .returned (.tuple #[.int .i64 0, .bool false, .iface 49 (.int .i64 3)]) ∧ Fr wx w' (fun _ => False)) := by
          have := HOWN.out
          rw [hE] at this; exact this
        clear HOWN hE hm
        go_wp2_with (go_at_call 11; (with_reducible refine Calls.mono HOWN2.out ?_); rintro o w2 ⟨rfl, hf2⟩)
        go_ret2
        exact ⟨_, 3, rfl, (HF1.out.trans HFX.out (fun _ _ e => e)).trans hf2 (fun _ _ e => e), .inl ⟨by decide, HBAD.out hbad⟩⟩
      | true =>
        cases hg : K.get L n with
        | none =>
          have hE : K.own L n = (0, false, 0) := by unfold K.own; rw [if_neg (by rw [hm]; decide), hg]
          have hok : K.okTake L who al n = true := by unfold K.okTake; rw [hm, hg]; rfl
          have hlk : K.lacks L who n = true := by unfold K.lacks; rw [hg]; rfl
          have HOWN2 : Hid (Calls Tryd.prog 11 #[.pointer (some ⟨g, 0, none⟩), .string n] wx fun o w' => o = .returned (.tuple #[.int .i64 0, .bool false, .nilIface]) ∧ Fr wx w' (fun _ => False)) := by
            have := HOWN.out
            rw [hE] at this; exact this
          clear HOWN hE hm hg
          have HNX2 : Hid ((M0.take (j + 1)).filter (K.lacks L who) = R0 ++ [n]) := by
            show _ = _
            rw [HNX.out, hlk]; rfl
          clear HNX hlk
          obtain ⟨i0, hi0, hz0, hz1, hz2⟩ := info_parts HI.out
          go_wp2_with (first
            | (go_at_call 11; (with_reducible refine Calls.mono HOWN2.out ?_); rintro o w2 ⟨rfl, hf2⟩; have HOX2 := hide (owns_fr HOX.out hf2 (fun _ _ e => e)); have hsz2 := hf2.size; have HF2 := hide (HFX.out.trans hf2 (fun _ _ e => e)); clear hf2)
            | (at_builtin; go_must (refine wpList_append_lies _ rfl (.tmp 46) (.tmp 48) 28 rfl w1.heap.size 9 i0 (.string ⟨#[]⟩) 1 16 HU.out hi0 hz0 hz1 hz2 rfl (by decide) (.slice va R0.length vc) R0.length (strs R0) rfl (HOX2.out.alloc _) ⟨w2.heap.size, 0, none⟩ 1 1 [.string n] rfl rfl (news_alloc _ #[.string n] _ _ rfl) (by simp [Value.oneCell']) (by decide) (by unfold maxLen; omega) (by omega) (by simp; omega) _ rfl ?_); intro gA capA wA hownA hgrow hat hltA))
          have hA : ∀ y, (Value.slice va R0.length vc).ownBlock = some y → w1.heap.size ≤ y := fun y hy => (HOX2.out.lt y hy).1
          have hf3 : Fr w1 wA (fun _ => False) := (HF2.out.alloc _).grown hgrow (fun y hy hc => by have := hA y hy; omega)
          have hoA : wA.ownsRow w1.heap.size 9 1 (.slice (some ⟨gA, 0, none⟩) (R0.length + 1) capA) ((M0.take (j + 1)).filter (K.lacks L who)).length (strs ((M0.take (j + 1)).filter (K.lacks L who))) := by
            rw [HNX2.out, List.length_append]
            have e : strs (R0 ++ [n]) = strs R0 ++ [.string n] := by unfold strs; simp
            rw [e]; exact hownA
          have HF3 := hide hf3
          have HOA := hide hoA
          clear hf3 hoA hownA hgrow hat hA
          go_wp2_with fail
          go_roundw
          case rel => exact ⟨j + 1, by omega, by go_num, HAN.out hok, HOA.out, HF3.out⟩
          case measure => simp [intOf]; omega
        | some k =>
          have hE : K.own L n = ((k : Int), true, 0) := by unfold K.own; rw [if_neg (by rw [hm]; decide), hg]
          have hk4 := HLT.out n k hg
          have HOWN2 : Hid (Calls Tryd.prog 11 #[.pointer (some ⟨g, 0, none⟩), .string n] wx fun o w' => o = .returned (.tuple #[.int .i64 k, .bool true, .nilIface]) ∧ Fr wx w' (fun _ => False)) := by
            have := HOWN.out
            rw [hE] at this; exact this
          by_cases hkw : k = who
          · subst hkw
            have hok : K.okTake L k al n = true := by unfold K.okTake; rw [hm, hg]; simp
            have hlk : K.lacks L k n = false := by unfold K.lacks; rw [hg]; simp
            have HNX2 : Hid ((M0.take (j + 1)).filter (K.lacks L k) = R0) := by
              show _ = _
              rw [HNX.out, hlk]; simp
            clear HOWN hE hm hg HNX hlk
            go_wp2_with (go_at_call 11; (with_reducible refine Calls.mono HOWN2.out ?_); rintro o w2 ⟨rfl, hf2⟩; have HOX2 := hide (owns_fr HOX.out hf2 (fun _ _ e => e)); have HF2 := hide (HFX.out.trans hf2 (fun _ _ e => e)); clear hf2)
            go_roundw
            case rel => exact ⟨j + 1, by omega, by go_num, HAN.out hok, by rw [HNX2.out]; exact HOX2.out, HF2.out⟩
            case measure => simp [intOf]; omega
          · have hne : ¬ (k : Int) = (who : Int) := by omega
            have HAK : Hid (∀ W, Calls Tryd.prog 6 #[.int .i64 k] W fun o w' => o = .returned (.bool (al k)) ∧ w' = W) := fun W => HAL.out W k hk4
            have hlk : K.lacks L who n = true := by unfold K.lacks; rw [hg]; simp [hkw]
            cases ha : al k with
            | true =>
              have hbad : K.okTake L who al n = false := by unfold K.okTake; rw [hm, hg]; simp [ha, hkw]
              rw [ha] at HAK
              clear HOWN hE hm hg ha hlk
              go_wp2_with (first
                | (go_at_call 11; (with_reducible refine Calls.mono HOWN2.out ?_); rintro o w2 ⟨rfl, hf2⟩)
                | (go_at_call 6; (with_reducible refine Calls.mono (HAK.out _) ?_); rintro o w3 ⟨rfl, hw3⟩; rw [hw3]; clear hw3 w3))
              go_ret2
              exact ⟨_, 14, rfl, (HF1.out.trans HFX.out (fun _ _ e => e)).trans hf2 (fun _ _ e => e), .inl ⟨by decide, HBAD.out hbad⟩⟩
            | false =>
              have hok : K.okTake L who al n = true := by unfold K.okTake; rw [hm, hg]; simp [ha]
              rw [ha] at HAK
              clear HOWN hE hm hg ha
              have HNX2 : Hid ((M0.take (j + 1)).filter (K.lacks L who) = R0 ++ [n]) := by
                show _ = _
                rw [HNX.out, hlk]; rfl
              clear HNX hlk
              obtain ⟨i0, hi0, hz0, hz1, hz2⟩ := info_parts HI.out
              go_wp2_with (first
                | (go_at_call 11; (with_reducible refine Calls.mono HOWN2.out ?_); rintro o w2 ⟨rfl, hf2⟩; have HOX2 := hide (owns_fr HOX.out hf2 (fun _ _ e => e)); have hsz2 := hf2.size; have HF2 := hide (HFX.out.trans hf2 (fun _ _ e => e)); clear hf2)
                | (go_at_call 6; (with_reducible refine Calls.mono (HAK.out _) ?_); rintro o w3 ⟨rfl, hw3⟩; rw [hw3]; clear hw3 w3)
                | (at_builtin; go_must (refine wpList_append_lies _ rfl (.tmp 46) (.tmp 48) 28 rfl w1.heap.size 9 i0 (.string ⟨#[]⟩) 1 16 HU.out hi0 hz0 hz1 hz2 rfl (by decide) (.slice va R0.length vc) R0.length (strs R0) rfl (HOX2.out.alloc _) ⟨w2.heap.size, 0, none⟩ 1 1 [.string n] rfl rfl (news_alloc _ #[.string n] _ _ rfl) (by simp [Value.oneCell']) (by decide) (by unfold maxLen; omega) (by omega) (by simp; omega) _ rfl ?_); intro gA capA wA hownA hgrow hat hltA))
              have hA : ∀ y, (Value.slice va R0.length vc).ownBlock = some y → w1.heap.size ≤ y := fun y hy => (HOX2.out.lt y hy).1
              have hf3 : Fr w1 wA (fun _ => False) := (HF2.out.alloc _).grown hgrow (fun y hy hc => by have := hA y hy; omega)
              have hoA : wA.ownsRow w1.heap.size 9 1 (.slice (some ⟨gA, 0, none⟩) (R0.length + 1) capA) ((M0.take (j + 1)).filter (K.lacks L who)).length (strs ((M0.take (j + 1)).filter (K.lacks L who))) := by
                rw [HNX2.out, List.length_append]
                have e : strs (R0 ++ [n]) = strs R0 ++ [.string n] := by unfold strs; simp
                rw [e]; exact hownA
              have HF3 := hide hf3
              have HOA := hide hoA
              clear hf3 hoA hownA hgrow hat hA
              go_wp2_with fail
              go_roundw
              case rel => exact ⟨j + 1, by omega, by go_num, HAN.out hok, HOA.out, HF3.out⟩
              case measure => simp [intOf]; omega
    · have hjj : j = M0.length := by omega
      rw [hjj, List.take_length] at hall hox
      rw [hjj, List.take_length]
      have HA2 := hide hall
      have HO2 := hide hox
      clear hall hox hfx
      go_wp2_with fail
      go_ret2
      refine ⟨_, 0, rfl, HF1.out.trans HFX.out (fun _ _ e => e), .inr ⟨rfl, HA2.out, K.owns_base HO2.out hsz1⟩⟩
end Go.Proofs.YtlglomjodbjbaaaDoor
