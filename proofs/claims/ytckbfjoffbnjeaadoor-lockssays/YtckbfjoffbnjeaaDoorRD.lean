/- For LocksSays: inOrder. -/
import Derived.Test.YtckbfjoffbnjeaaDoorRC
import Derived.Sort.Walk0
namespace Go.Proofs.YtckbfjoffbnjeaaDoor
open Go.RowKit
attribute [local go_sem ↓] Go.wp_at_zero Go.wp_at_succ
theorem fr_drewN (w : World) : ∀ n, Fr w (w.drewN n) (fun _ => False) := fun n => fr_below (below_drewN (Below.refl _ _) n)
theorem own_frame {w w' : World} {base n z : Nat} {t : TypeId} {v : Value} {xs : List Value} (h : w.ownsRow base t z v n xs) (hf : Fr w w' (fun _ => False)) : w'.ownsRow base t z v n xs := owns_fr h hf (fun _ _ e => e)
namespace K
/-- Is it among the first so many? -/
def seen (P : List ByteArray) (n : ByteArray) (k : Nat) : Bool := (P.take k).any (fun y => y.toList == n.toList)
theorem seen_zero (P : List ByteArray) (n : ByteArray) : seen P n 0 = false := by unfold seen; simp
theorem seen_next {P : List ByteArray} {n y : ByteArray} {k : Nat} (h : P[k]? = some y) : seen P n (k + 1) = (seen P n k || y.toList == n.toList) := by
  unfold seen
  rw [List.take_add_one, h, Option.toList_some, List.any_append]
  simp
theorem seen_iff {P : List ByteArray} {n : ByteArray} : seen P n P.length = true ↔ n ∈ P := by
  unfold seen
  rw [List.take_length, List.any_eq_true]
  constructor
  · rintro ⟨y, hy, e⟩
    rw [toList_inj e] at hy; exact hy
  · intro h
    exact ⟨n, h, by simp⟩
theorem once_nil : once [] = [] := List.eq_nil_of_length_eq_zero (Nat.le_zero.1 (once_len []))
theorem less_iff (x y : ByteArray) : Op.bytesLess x.toList y.toList = decide (N.bl x < N.bl y) := by
  rw [bytesLess_eq, ByteArray.toList_eq, ByteArray.toList_eq]; rfl
end K
set_option maxRecDepth 100000 in
set_option maxHeartbeats 4000000 in
theorem inOrder_any (v : Value) (N0 : List ByteArray) (w : World) (hs : Strs w v N0) (hl : N0.length ≤ 1000) :
    Calls Tryd.prog 28 #[v] w fun o w' => ∃ u, o = .returned u ∧ w'.ownsRow w.heap.size 9 1 u (K.once N0).length (strs (K.once N0)) ∧ Fr w w' (fun _ => False) := by
  obtain ⟨av, cv, rfl, _⟩ := id hs
  have HS := hide hs
  have HU := hide u27
  have HI := hide info9
  clear hs
  go_enter Tryd.func28, Tryd.ntmps28
  go_wp2_with fail
  go_loopw [3, 4, 5, 6, 7, 8] (fun vl vi _ _ _ _ wx => ∃ i : Nat, i ≤ N0.length ∧ vi = .int .i64 i ∧ wx.ownsRow w.heap.size 9 1 vl (K.once (N0.take i)).length (strs (K.once (N0.take i))) ∧ Fr w wx (fun _ => False)) (fun _ vi _ _ _ _ _ => N0.length - (intOf vi).toNat)
  case atStart => exact ⟨0, Nat.zero_le _, rfl, by rw [List.take_zero, K.once_nil]; exact World.ownsRow_nil .., Fr.refl _ _⟩
  case round =>
    obtain ⟨wx, hwx⟩ : ∃ z, z = wr := ⟨_, rfl⟩
    subst hwx
    obtain ⟨i, hi, rfl, hox, hfx⟩ := hrel
    obtain ⟨va, vc, rfl⟩ := owns_shape hox
    have HOX := hide hox
    have HFX := hide hfx
    have hpl : (K.once (N0.take i)).length ≤ 1000 := Nat.le_trans (K.once_len _) (by rw [List.length_take]; omega)
    have hszx := hfx.size
    by_cases hlt : i < N0.length
    · obtain ⟨n, hn⟩ : ∃ n, N0[i]? = some n := ⟨_, List.getElem?_eq_getElem hlt⟩
      have HNI : Hid (∀ W, Fr w W (fun _ => False) → ∃ b off, av = some ⟨b, off, none⟩ ∧ W.cell? ⟨b, off + i, none⟩ = some (.string n)) := by
        intro W hf
        obtain ⟨b, off, e, y0⟩ := (HS.out.kept (hf.below (Nat.le_refl _) (fun _ e => e.elim)) (Nat.le_refl _)).at hn
        exact ⟨b, off, e, y0⟩
      obtain ⟨nb, no, rfl, _⟩ := HNI.out w (Fr.refl _ _)
      have HNC : Hid (∀ W, Fr w W (fun _ => False) → W.cell? ⟨nb, no + i, none⟩ = some (.string n)) := by
        intro W hf
        obtain ⟨b, off, e, y0⟩ := HNI.out W hf
        cases e
        exact y0
      have HSK := hide (fun hm => K.once_skip hn hm)
      have HMO := hide (fun hm (R : List ByteArray) hp hr => K.once_more hn hm (R := R) hp hr)
      have HRI := hide (K.once_rise (N0.take i))
      clear hn hox hfx HNI
      generalize K.once (N0.take i) = P at *
      go_wp2_with fail
      go_loopw [5, 6] (fun vt vk wz => ∃ (k : Nat), k ≤ P.length ∧ vk = .int .i64 k ∧ vt = .bool (K.seen P n k) ∧ ∃ wy, wy = wz ∧ Fr wx wy (fun _ => False)) (fun _ vk _ => P.length - (intOf vk).toNat)
      case atStart => exact ⟨0, Nat.zero_le _, rfl, by rw [K.seen_zero], _, rfl, Fr.refl _ _⟩
      case round =>
        obtain ⟨k, hk, rfl, rfl, wy, hwy, hfy⟩ := hrel
        rw [← hwy]
        clear hwy
        have HFY := hide hfy
        have y1 := HNC.out wy (HFX.out.trans hfy (fun _ _ e => e))
        by_cases hkl : k < P.length
        · obtain ⟨y, hy⟩ : ∃ y, P[k]? = some y := ⟨_, List.getElem?_eq_getElem hkl⟩
          obtain ⟨b, off, rfl, y0⟩ := (Strs.of_owns (own_frame HOX.out hfy)).at hy
          have HSN := hide (K.seen_next (n := n) hy)
          clear hy hfy
          cases hsk : K.seen P n k with
          | true =>
            have HE : Hid (K.seen P n (k + 1) = true) := by show _ = _; rw [HSN.out, hsk]; rfl
            go_wp2_with fail
            go_quiet (fail)
            go_wp2_with fail
            go_roundw
            case rel => exact ⟨k + 1, by omega, by go_num, by rw [HE.out], _, rfl, HFY.out.trans (fr_drewN _ _) (fun _ _ e => e)⟩
            case measure => simp [intOf]; omega
          | false =>
            have HE : Hid (K.seen P n (k + 1) = (y.toList == n.toList)) := by show _ = _; rw [HSN.out, hsk]; rfl
            go_wp2_with fail
            go_quiet (fail)
            go_wp2_with fail
            go_roundw
            case rel => exact ⟨k + 1, by omega, by go_num, by rw [HE.out], _, rfl, HFY.out.trans (fr_drewN _ _) (fun _ _ e => e)⟩
            case measure => simp [intOf]; omega
        · have hkk : k = P.length := by omega
          have HSE := hide (K.seen_iff (P := P) (n := n))
          rw [← hkk] at HSE
          clear hfy
          have HFW := hide (HFX.out.trans HFY.out (fun _ _ e => e))
          have HOY := hide (own_frame HOX.out HFY.out)
          cases hsk : K.seen P n k with
          | true =>
            have HEQ := hide (HSK.out (HSE.out.1 hsk))
            go_wp2_with fail
            go_roundw
            case rel => exact ⟨i + 1, by omega, by go_num, by rw [HEQ.out]; exact HOY.out, HFW.out⟩
            case measure => simp [intOf]; omega
          | false =>
            have hnm : n ∉ P := fun h => by rw [HSE.out.2 h] at hsk; cases hsk
            have HNM := hide hnm
            clear hnm
            obtain ⟨i0, hi0, hz0, hz1, hz2⟩ := info_parts HI.out
            have hszy := HFW.out.size
            go_wp2_with (at_builtin; go_must (refine wpList_append_lies _ rfl (.tmp 34) (.tmp 39) 33 rfl w.heap.size 9 i0 (.string ⟨#[]⟩) 1 16 HU.out hi0 hz0 hz1 hz2 rfl (by decide) (.slice va P.length vc) P.length (strs P) rfl (HOY.out.alloc _) ⟨wy.heap.size, 0, none⟩ 1 1 [.string n] rfl rfl (news_alloc _ #[.string n] _ _ rfl) (by simp [Value.oneCell']) (by decide) (by unfold maxLen; omega) (by omega) (by simp; omega) _ rfl ?_); intro gA capA wA hownA hgrow hat hltA)
            have hA : ∀ y, (Value.slice va P.length vc).ownBlock = some y → w.heap.size ≤ y := fun y hy => (HOY.out.lt y hy).1
            have hf3 : Fr w wA (fun _ => False) := (HFW.out.alloc _).grown hgrow (fun y hy hc => by have := hA y hy; omega)
            have hoA : wA.ownsRow w.heap.size 9 1 (.slice (some ⟨gA, 0, none⟩) (P.length + 1) capA) (P.length + 1) (strs (P ++ n :: [])) := by
              have e : strs (P ++ n :: []) = strs P ++ [.string n] := by unfold strs; simp
              rw [e]; exact hownA
            have HF3 := hide hf3
            have HOA := hide hoA
            have hgw : w.heap.size ≤ gA := (hoA.lt gA rfl).1
            clear hf3 hoA hownA hgrow hat hA hltA y1
            go_wp2_with fail
            obtain ⟨m, hm⟩ : ∃ m, m = P.length + 1 := ⟨_, rfl⟩
            rw [← hm]
            rw [← hm] at HOA
            go_loopw [7, 8] (fun vk _ wz => ∃ (A C : List ByteArray) (wu : World), A ++ C = P ∧ (∀ c ∈ C, N.bl n ≤ N.bl c) ∧ vk = .int .i64 A.length ∧ wu = wz ∧ wu.ownsRow w.heap.size 9 1 (.slice (some ⟨gA, 0, none⟩) m capA) m (strs (A ++ n :: C)) ∧ Fr w wu (fun _ => False)) (fun vk _ _ => (intOf vk).toNat)
            case atStart => exact ⟨P, [], wA, by simp, by simp, by go_num, rfl, HOA.out, HF3.out⟩
            case round =>
              obtain ⟨A, C, wu, hAC, hC, rfl, hwu, hou, hfu⟩ := hrel
              rw [← hwu]
              clear hwu
              have HOU := hide hou
              have HFU := hide hfu
              have HC2 := hide hC
              have HAC := hide hAC
              have hAl : A.length ≤ P.length := by rw [← hAC]; simp
              have hPl : P.length = A.length + C.length := by rw [← hAC]; simp
              clear hC hAC hou hfu
              rcases List.eq_nil_or_concat A with hA0 | ⟨A', y, hA1⟩
              · subst hA0
                have hg : decide ((0 : Int) < (([] : List ByteArray).length : Int)) = false := by decide
                have HFIN : Hid (K.once (N0.take (i + 1)) = [] ++ n :: C) := HMO.out HNM.out _ (by have := K.ins_perm [] C n; rw [HAC.out] at this; exact this) (K.ins_rise (by rw [HAC.out]; exact HRI.out) HC2.out (by simp))
                have HLN : Hid (([] ++ n :: C : List ByteArray).length = m) := by show _ = _; rw [hm, ← HAC.out]; simp
                go_wp2_with fail
                go_quiet (fail)
                go_wp2_with fail
                go_roundw
                case rel => exact ⟨i + 1, by omega, by go_num, by rw [HFIN.out, HLN.out]; exact own_frame HOU.out (fr_drewN _ _), HFU.out.trans (fr_drewN _ _) (fun _ _ e => e)⟩
                case measure => simp [intOf]; omega
              · rw [List.concat_eq_append] at hA1
                subst hA1
                obtain ⟨k2, hk2⟩ : ∃ k2, k2 = A'.length := ⟨_, rfl⟩
                have hlen : (A' ++ [y]).length = k2 + 1 := by simp [hk2]
                have HG1 : Hid ((A' ++ [y] ++ n :: C)[k2 + 1]? = some n ∧ (A' ++ [y] ++ n :: C)[k2]? = some y) := by
                  constructor
                  · rw [List.getElem?_append_right (by rw [hlen]; exact Nat.le_refl _), hlen]; simp
                  · rw [List.append_assoc, List.getElem?_append_right (by omega), hk2]; simp
                rw [hlen] at hAl hPl
                rw [hlen]
                obtain ⟨k3, hk3⟩ : ∃ k3, k3 = k2 + 1 := ⟨_, rfl⟩
                rw [← hk3] at HG1 hAl hPl hlen
                rw [← hk3]
                have hb3 : k3 < m := by omega
                have hb2 : k2 < m := by omega
                have HLM : Hid ((A' ++ [y] ++ n :: C).length = m) := by show _ = _; rw [hm, ← HAC.out]; simp; omega
                have HQ : Hid (∀ W, Fr wu W (fun _ => False) → W.cell? ⟨gA, k3, none⟩ = some (.string n) ∧ W.cell? ⟨gA, k2, none⟩ = some (.string y) ∧ ∀ j, W.frozen? ⟨gA, j, none⟩ = false) := by
                  intro W hf
                  have ho := own_frame HOU.out hf
                  have hS : Strs W (.slice (some ⟨gA, 0, none⟩) m capA) (A' ++ [y] ++ n :: C) := Strs.of_owns (by rw [HLM.out]; exact ho)
                  obtain ⟨b1, o1, e1, z1⟩ := hS.at HG1.out.1
                  obtain ⟨b2, o2, e2, z2⟩ := hS.at HG1.out.2
                  cases e1
                  cases e2
                  rw [Nat.zero_add] at z1 z2
                  refine ⟨z1, z2, fun j => ?_⟩
                  obtain ⟨_, h0 | ⟨g', cap', cur, e, hb, hh, _⟩⟩ := ho
                  · cases h0.1
                  · cases e
                    exact free_of_block hh j
                obtain ⟨z1, z2, z3⟩ := HQ.out wu (Fr.refl _ _)
                have hwr : wrap64 ((k3 : Int) - 1) = k2 := by unfold wrap64; omega
                have hi1 : i + 1 ≤ N0.length := by omega
                have hgt : (0 : Int) < (k3 : Int) := by omega
                have hgn : 0 < k3 := by omega
                have HEQS : Hid (k3 = k2 + 1 ∧ k2 = A'.length ∧ (A' ++ [y]).length = k3 ∧ m = P.length + 1) := ⟨hk3, hk2, hlen, hm⟩
                clear hk3 hk2 hlen hm hPl hAl hkk
                cases hls : Op.bytesLess n.toList y.toList with
                | false =>
                  have hle : N.bl y ≤ N.bl n := by
                    rw [K.less_iff, decide_eq_false_iff_not] at hls
                    exact List.not_lt.1 hls
                  have HFIN : Hid (K.once (N0.take (i + 1)) = A' ++ [y] ++ n :: C) := HMO.out HNM.out _ (by have := K.ins_perm (A' ++ [y]) C n; rw [HAC.out] at this; exact this) (K.ins_rise (by rw [HAC.out]; exact HRI.out) HC2.out (K.low_all (C := C) (by have := HRI.out; rw [← HAC.out, List.append_assoc] at this; exact this) hle))
                  clear hle
                  go_wp2_with fail
                  go_quiet (fail)
                  go_wp2_with fail
                  go_roundw
                  case rel => exact ⟨i + 1, by omega, by go_num, by rw [HFIN.out, HLM.out]; exact own_frame HOU.out (fr_drewN _ _), HFU.out.trans (fr_drewN _ _) (fun _ _ e => e)⟩
                  case measure => simp [intOf]; omega
                | true =>
                  have hle : N.bl n ≤ N.bl y := by
                    rw [K.less_iff, decide_eq_true_eq] at hls
                    exact List.le_of_lt hls
                  have HC3 : Hid (∀ c ∈ y :: C, N.bl n ≤ N.bl c) := fun c hc => (List.mem_cons.1 hc).elim (fun e => by rw [e]; exact hle) (HC2.out c)
                  clear hle
                  go_wp2_with fail
                  go_quiet (fail)
                  have HWQ := hide (fr_drewN wu nq)
                  obtain ⟨q1, q2, q3⟩ := HQ.out _ (fr_drewN wu nq)
                  have HOQ := hide (own_frame HOU.out (fr_drewN wu nq))
                  have HFQ := hide (HFU.out.trans (fr_drewN wu nq) (fun _ _ e => e))
                  generalize wu.drewN nq = wq at *
                  clear z1 z2 z3
                  have q4 := q3 k2
                  have q5 := q3 k3
                  clear q3
                  have q6 : (wq.setCell ⟨gA, k3, none⟩ (.string y)).cell? ⟨gA, k2, none⟩ = some (.string y) := by
                    have hne : k2 ≠ k3 := by have := HEQS.out.1; omega
                    rw [World.cell?_setCell_other _ _ _ _ (by first | (simp; done) | (simp; omega))]; exact q2
                  go_wp2_with fail
                  go_roundw
                  case rel =>
                    obtain ⟨h1, h2, h3, h4⟩ := HEQS.out
                    refine ⟨A', y :: C, _, by have := HAC.out; rw [List.append_assoc] at this; exact this, HC3.out, by rw [hwr, ← h2], rfl, ?_, ?_⟩
                    · have ho := own_set (i := k2) (own_set (i := k3) HOQ.out y) n
                      rw [h1, List.append_assoc, List.singleton_append, K.set_swap h2.symm] at ho
                      rw [h1]
                      exact ho
                    · exact (HFQ.out.set _ _ (fun h => absurd h (by show ¬ gA < w.heap.size; omega))).set _ _ (fun h => absurd h (by show ¬ gA < w.heap.size; omega))
                  case measure =>
                    obtain ⟨h1, _⟩ := HEQS.out
                    rw [hwr]
                    simp [intOf]; omega
    · have hii : i = N0.length := by omega
      have HFIN : Hid (K.once (N0.take i) = K.once N0) := by show _ = _; rw [hii, List.take_length]
      clear hox hfx
      go_wp2_with fail
      go_ret
      refine ⟨_, rfl, ?_, HFX.out⟩
      rw [← HFIN.out]
      exact HOX.out
end Go.Proofs.YtckbfjoffbnjeaaDoor
