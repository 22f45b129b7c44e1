/- GraphSays' own walk. -/
import Derived.Test.YtienhelohfhhfaaGT
namespace Go.Proofs.Ytienhelohfhhfaa
open Go.RowKit
attribute [local go_sem ↓] Go.wp_at_zero Go.wp_at_succ
open Gr (Ints Lists Bools hide cells On ofN lists onb D wave left Graf Got Rch)
theorem pair_ints (w : World) : Ints (w.alloc (.cells #[.int .i64 1, .int .i64 0] 3)) (.slice (some ⟨w.heap.size, 0, none⟩) 2 2) [1, 0] := by
  refine ⟨_, _, rfl, .inr ⟨w.heap.size, 0, rfl, fun i x hx => ?_⟩⟩
  rw [Nat.zero_add]
  refine Gr.row_cell (V := [.int .i64 1, .int .i64 0]) (heap_alloc_new w _) ?_
  match i, hx with
  | 0, hx => cases hx; rfl
  | 1, hx => cases hx; rfl
  | i + 2, hx => simp at hx
set_option maxRecDepth 100000 in
set_option maxHeartbeats 1000000 in
theorem leans_true (w : World) : Calls Try.prog 14 #[] w fun e w' => e = .returned (.bool true) ∧ Below w.heap.size w w' := by
  have htwo := two_lists w
  have hb0 : Below w.heap.size w ((w.alloc (.cells #[.int .i64 1] 3)).alloc (.cells #[.slice (some ⟨w.heap.size, 0, none⟩) 1 1, .slice none 0 0] 37)) := ((Below.refl _ _).alloc (Nat.le_refl _) _).alloc (by simp) _
  have hnew := new_any [[1], []] _ _ htwo (by simp [Gr.tot])
  have HB0 := hide hb0
  have HNEW := hide hnew
  clear htwo hb0 hnew
  go_enter Try.func14, Try.ntmps14
  go_wp2_with fail
  refine HNEW.out.mono ?_
  rintro e w1 ⟨hc, hB1⟩
  rcases hc with ⟨hbad, _⟩ | ⟨_, ⟨a, x, ha, hx, hbad⟩, _⟩ | ⟨_, _, b1, N1, U1, hN1, hG1, rfl⟩
  · simp at hbad
  · exfalso
    rcases (show a = 0 ∨ a = 1 by simp at ha; omega) with rfl | rfl
    · have : x = 1 := by simpa [Gr.row] using hx
      subst this
      exact hbad (by simp)
    · simp [Gr.row] at hx
  have hB1w : Below w.heap.size w w1 := HB0.out.trans (hB1.mono (by simp; omega))
  have hod := order_v N1 2 b1 _ w1 (by omega) hG1 hN1.bn (fun i hi => by
    have h3 := hN1.ln i hi
    have : (Gr.row [[1], []] i).length ≤ 1 := by
      rcases (show i = 0 ∨ i = 1 by omega) with rfl | rfl <;> simp [Gr.row]
    omega)
  have HOD := hide hod
  have HN1 := hide hN1
  have HB1 := hide hB1w
  clear hod hN1 hG1 hB1 hB1w HB0 HNEW
  go_wp2_with (go_at_call 19; refine HOD.out.mono ?_; rintro e w2 ⟨⟨v, ev, O, rfl, hO, hov⟩, hB2⟩; obtain ⟨rfl, rfl⟩ := two_order N1 U1 HN1.out ev O hov; have HO := hide hO; have HB2 := hide (HB1.out.trans (hB2.mono HB1.out.size)); clear hO hov hB2)
  refine (same_nil 0 w2).mono ?_
  rintro e w2' ⟨rfl, hw⟩
  rw [hw]; clear hw w2'
  have hsn := sameNumbers_eq [1, 0] v (.slice (some ⟨w2.heap.size, 0, none⟩) 2 2) (w2.alloc (.cells #[.int .i64 1, .int .i64 0] 3)) (by simp) (HO.out.kept ((Below.refl _ _).alloc (Nat.le_refl _) _) (Nat.le_refl _)) (pair_ints w2)
  have HSN := hide hsn
  clear hsn
  go_wp2_with (go_at_call 21; refine HSN.out.mono ?_; rintro e w3 ⟨rfl, hB3⟩; have HB3 := hide (HB2.out.trans ((((Below.refl _ w2).alloc (Nat.le_refl _) _).trans (hB3.mono (by simp))).mono HB2.out.size)); clear hB3)
  go_ret
  exact ⟨rfl, HB3.out⟩
set_option maxRecDepth 100000 in
set_option maxHeartbeats 4000000 in
theorem graphSays_true (NZ : List (List Int)) (lz : List Int) (v lv : Value) (w : World) (hL : Lists w v NZ) (hI : Ints w lv lz) :
    Calls Try.prog 5 #[v, lv] w fun e w' => e = .returned (.bool true) ∧ Below w.heap.size w w' := by
  obtain ⟨av, cv, rfl, _⟩ := id hL
  obtain ⟨al, cl, rfl, _⟩ := id hI
  have HL := hide hL
  have HI := hide hI
  clear hL hI
  go_enter Try.func5, Try.ntmps5
  go_wp2_with fail
  refine (leans_true w).mono ?_
  rintro e w0 ⟨rfl, hB0⟩
  have HB0 := hide hB0
  clear hB0
  have hli := light_any NZ (.slice av NZ.length cv) w0 (HL.out.kept HB0.out (Nat.le_refl _))
  have HLI := hide hli
  clear hli
  go_wp2_with fail
  refine HLI.out.mono ?_
  rintro e w0' ⟨⟨bL, rfl, hlight⟩, hw⟩
  rw [hw]; clear hw w0' HLI
  have HLG := hide hlight
  clear hlight
  cases bL
  · go_wp2_with fail
    go_ret
    exact ⟨rfl, HB0.out⟩
  by_cases h100 : 100 < lz.length
  · go_wp2_with fail
    go_ret
    exact ⟨rfl, HB0.out⟩
  have hlg := HLG.out rfl
  have hnw := new_any NZ (.slice av NZ.length cv) w0 (HL.out.kept HB0.out (Nat.le_refl _)) (by omega)
  have HNW := hide hnw
  have hrl : ∀ a, a < NZ.length → (Gr.row NZ a).length ≤ 100 := by
    intro a ha
    obtain ⟨l, hl⟩ := getElem_some ha
    rw [Gr.row_some hl]
    exact hlg.2.2 l (List.mem_of_getElem? hl)
  have HRL := hide hrl
  have h80 : NZ.length ≤ 80 := hlg.1
  have HT := hide hlg.2.1
  clear hnw hrl HLG hlg
  go_wp2_with fail
  refine HNW.out.mono ?_
  rintro e w1 ⟨hc1, hB1⟩
  have HB1 := hide (HB0.out.trans (hB1.mono HB0.out.size))
  clear hB1 HNW
  rcases hc1 with ⟨h64, rfl⟩ | ⟨h64, hbad, rfl⟩ | ⟨h64, hok, b, N, U, hN, hG, rfl⟩
  · go_wp2_with fail
    refine (same_ok _ 2 w1 (.inr ⟨rfl, by decide⟩)).mono ?_
    rintro e w1' ⟨rfl, hw⟩
    rw [hw]; clear hw w1'
    go_wp2_with fail
    go_ret
    exact ⟨rfl, HB1.out⟩
  · have HBAD := hide hbad
    clear hbad
    go_wp2_with fail
    go_loop [8, 9] (fun vi _ => ∃ i : Nat, i ≤ NZ.length ∧ vi = .int .i64 i ∧ ∀ a, a < i → ∀ x ∈ Gr.row NZ a, 0 ≤ x ∧ x < NZ.length) (fun vi _ => NZ.length - (intOf vi).toNat)
    case atStart => exact ⟨0, Nat.zero_le _, rfl, fun a ha => absurd ha (by omega)⟩
    case round =>
      obtain ⟨i, hi, rfl, hgo⟩ := hrel
      by_cases hil : i < NZ.length
      · obtain ⟨l, hl⟩ := getElem_some hil
        have hrow := Gr.row_some hl
        obtain ⟨b2, o2, c2, au, cu, e1, c1, h1⟩ := Gr.Lists.get (HL.out.kept HB1.out (Nat.le_refl _)) hl
        simp only [Value.slice.injEq] at e1
        obtain ⟨rfl, _, rfl⟩ := e1
        have hll := HRL.out i hil
        rw [hrow] at hll
        have HGO := hide hgo
        have H1 := hide h1
        have HROW := hide hrow
        clear hgo h1 hrow hl
        go_wp2_with fail
        go_loop [9] (fun vk => ∃ k : Nat, k ≤ l.length ∧ vk = .int .i64 k ∧ ∀ x ∈ l.take k, 0 ≤ x ∧ x < NZ.length) (fun vk => l.length - (intOf vk).toNat)
        case atStart => exact ⟨0, Nat.zero_le _, rfl, fun x hx => by simp at hx⟩
        case round =>
          obtain ⟨k, hk, rfl, hgk⟩ := hrel
          by_cases hkl : k < l.length
          · obtain ⟨y, hy⟩ := getElem_some hkl
            obtain ⟨b7, o7, rfl, cy⟩ := H1.out.at hy
            have HY := hide hy
            have HGK := hide hgk
            clear hy hgk
            by_cases hy0 : 0 ≤ y ∧ y < NZ.length
            · have hya : ¬ y < 0 := by omega
              have hyb : ¬ (NZ.length : Int) ≤ y := by omega
              go_wp2_with fail
              go_round
              case rel =>
                refine ⟨k + 1, by omega, by go_num, ?_⟩
                rw [take_next HY.out]
                intro x hx
                rcases List.mem_append.1 hx with h | h
                · exact HGK.out x h
                · rw [List.mem_singleton] at h; rw [h]; exact hy0
              case measure => simp [intOf]; omega
            · have hcase : y < 0 ∨ (¬ y < 0 ∧ (NZ.length : Int) ≤ y) := by omega
              have HS := hide (same_ok (.iface 68 (.int .i64 1)) 1 w1 (.inr ⟨rfl, by decide⟩))
              rcases hcase with h1 | ⟨h1, h2⟩
              · go_wp2_with (go_at_call 11; refine HS.out.mono ?_; rintro e w1' ⟨rfl, hw⟩; rw [hw]; clear hw w1')
                go_ret
                exact ⟨rfl, HB1.out⟩
              · go_wp2_with (go_at_call 11; refine HS.out.mono ?_; rintro e w1' ⟨rfl, hw⟩; rw [hw]; clear hw w1')
                go_ret
                exact ⟨rfl, HB1.out⟩
          · rw [List.take_of_length_le (by omega)] at hgk
            have HGK := hide hgk
            clear hgk
            go_wp2_with fail
            go_round
            case rel =>
              refine ⟨i + 1, by omega, by go_num, ?_⟩
              intro a ha
              by_cases e : a = i
              · rw [e, HROW.out]; exact HGK.out
              · exact HGO.out a (by omega)
            case measure => simp [intOf]; omega
      · exfalso
        obtain ⟨a, x, ha, hx, hb⟩ := HBAD.out
        exact hb (hgo a (by omega) x hx)
  · have HOK := hide hok
    have HN := hide hN
    have HG := hide hG
    clear hok hN hG
    go_wp2_with fail
    go_loop [8, 9] (fun vi _ => ∃ i : Nat, i ≤ NZ.length ∧ vi = .int .i64 i) (fun vi _ => NZ.length - (intOf vi).toNat)
    case atStart => exact ⟨0, Nat.zero_le _, rfl⟩
    case round =>
      obtain ⟨i, hi, rfl⟩ := hrel
      by_cases hil : i < NZ.length
      · obtain ⟨l, hl⟩ := getElem_some hil
        have hrow := Gr.row_some hl
        obtain ⟨b2, o2, c2, au, cu, e1, c1, h1⟩ := Gr.Lists.get (HL.out.kept HB1.out (Nat.le_refl _)) hl
        simp only [Value.slice.injEq] at e1
        obtain ⟨rfl, _, rfl⟩ := e1
        have hll := HRL.out i hil
        rw [hrow] at hll
        have H1 := hide h1
        have HROW := hide hrow
        clear h1 hrow hl
        go_wp2_with fail
        go_loop [9] (fun vk => ∃ k : Nat, k ≤ l.length ∧ vk = .int .i64 k) (fun vk => l.length - (intOf vk).toNat)
        case atStart => exact ⟨0, Nat.zero_le _, rfl⟩
        case round =>
          obtain ⟨k, hk, rfl⟩ := hrel
          by_cases hkl : k < l.length
          · obtain ⟨y, hy⟩ := getElem_some hkl
            obtain ⟨b7, o7, rfl, cy⟩ := H1.out.at hy
            have hy0 := HOK.out i hil y (by rw [HROW.out]; exact List.mem_of_getElem? hy)
            have hya : ¬ y < 0 := by omega
            have hyb : ¬ (NZ.length : Int) ≤ y := by omega
            clear hy hy0
            go_wp2_with fail
            go_round
            case rel => exact ⟨k + 1, by omega, by go_num⟩
            case measure => simp [intOf]; omega
          · go_wp2_with fail
            go_round
            case rel => exact ⟨i + 1, by omega, by go_num⟩
            case measure => simp [intOf]; omega
      · have hNl : ∀ a, a < NZ.length → (N a).length ≤ 1000 := fun a ha => by have h3 := HN.out.ln a ha; have h4 := HRL.out a ha; omega
        have hUl : ∀ a, a < NZ.length → (U a).length ≤ 1000 := fun a ha => by have h3 := HN.out.lu a ha; have h4 := HT.out; omega
        have HNL := hide hNl
        have HUL := hide hUl
        have HRL2 := hide (fun a (ha : a < NZ.length) => Nat.le_trans (HRL.out a ha) (show 100 ≤ 1000 by decide))
        clear hNl hUl
        have HW := hide (waves_v N NZ.length b _ w1 (by omega) HG.out HN.out.bn HNL.out)
        go_wp2_with (go_at_call 17; refine HW.out.mono ?_; rintro e w2 ⟨⟨v2, ev2, L2, rfl, hL2, hwv⟩, hB2⟩; have HL2 := hide hL2; have HWV := hide hwv; have HBa := hide hB2; have HB2 := hide (HB1.out.trans (hB2.mono HB1.out.size)); clear hL2 hwv hB2)
        clear HW
        refine (wavesR_v NZ NZ.length (.slice av NZ.length cv) w2 rfl (by omega) (HL.out.kept HB2.out (Nat.le_refl _)) HRL2.out HOK.out).mono ?_
        rintro e w3 ⟨⟨v3, f3, L3, rfl, hL3, hrv⟩, hB3⟩
        have HL3 := hide hL3
        have HRV := hide hrv
        have HBb := hide (HBa.out.trans (hB3.mono HBa.out.size))
        have HBc := hide hB3
        have HB3 := hide (HB2.out.trans (hB3.mono HB2.out.size))
        clear hL3 hrv hB3
        go_wp2_with fail
        refine (order_v N NZ.length b _ w3 (by omega) (HG.out.kept HBb.out (Nat.le_refl _)) HN.out.bn HNL.out).mono ?_
        rintro e w4 ⟨⟨v4, ev4, O4, rfl, hO4, hov⟩, hB4⟩
        obtain ⟨q1, q2, q3, q4, q5, q6, q7⟩ := Gr.all_same HN.out.bn (fun i hi j => (Gr.mem_row HN.out HOK.out hi j).symm) HWV.out HRV.out hov
        have HBd := hide (HBb.out.trans (hB4.mono HBb.out.size))
        have HL2b := hide (HL2.out.kept (HBc.out.trans (hB4.mono HBc.out.size)) (Nat.le_refl _))
        have HL3b := hide (HL3.out.kept hB4 (Nat.le_refl _))
        rw [q3] at HL3b
        rw [q4] at hO4
        have HO4 := hide hO4
        have HB4 := hide (HB3.out.trans (hB4.mono HB3.out.size))
        have HQ1 := hide q1
        have HQ2 := hide q2
        have HQ5 := hide q5
        clear q1 q2 q3 q4 q5 hO4 hov hB4 HWV HRV HL2 HL3 HBa HBb HBc
        go_wp2_with fail
        refine (same_ok ev2 f3 w4 HQ1.out).mono ?_
        rintro e w4' ⟨rfl, hw⟩
        rw [hw]; clear hw w4'
        have HS2 := hide (same_ok ev4 f3 w4 HQ2.out)
        have HSL := hide (sameLists_eq L2 v2 v3 w4 (by omega) (fun l hl => by have := (HQ5.out l hl).2; omega) HL2b.out HL3b.out)
        go_wp2_with (first
          | (go_at_call 11; refine HS2.out.mono ?_; rintro e w4' ⟨rfl, hw⟩; rw [hw]; clear hw w4')
          | (go_at_call 20; refine HSL.out.mono ?_; rintro e w5 ⟨rfl, hB5⟩; have HB5 := hide (HB4.out.trans (hB5.mono HB4.out.size)); have HBe := hide (HBd.out.trans (hB5.mono HBd.out.size)); have HBf := hide hB5; clear hB5)
          | (go_at_call 22; refine (flat_any L2 v3 w5 (by omega) (by omega) (fun l hl => (HQ5.out l hl).1) (HL3b.out.kept HBf.out (Nat.le_refl _))).mono ?_; rintro e w6 ⟨⟨v6, rfl, hv6⟩, hB6⟩; have HV6 := hide hv6; have HB6 := hide (HB5.out.trans (hB6.mono HB5.out.size)); have HBg := hide (HBe.out.trans (hB6.mono HBe.out.size)); have HBh := hide (HBf.out.trans (hB6.mono HBf.out.size)); clear hv6 hB6)
          | (go_at_call 21; refine (sameNumbers_eq L2.flatten v4 v6 w6 (by rw [Gr.tot_flat]; omega) (HO4.out.kept HBh.out (Nat.le_refl _)) HV6.out).mono ?_; rintro e w7 ⟨rfl, hB7⟩; have HB7 := hide (HB6.out.trans (hB7.mono HB6.out.size)); have HBi := hide (HBg.out.trans (hB7.mono HBg.out.size)); clear hB7))
        clear HQ1 HQ2 HQ5 HS2 HSL HL2b HL3b HO4 HV6 HB4 HB5 HB6 HBd HBe HBf HBg HBh
        refine (found_v (under_any N NZ.length b _ (.slice al lz.length cl) lz w7 (by omega) (by omega) (HG.out.kept HBi.out (Nat.le_refl _)) (HI.out.kept HB7.out (Nat.le_refl _)) HN.out.bn HNL.out)).mono ?_
        rintro e w8 ⟨⟨v8, ev8, l8, rfl, hl8, hf8⟩, hB8⟩
        have HV8 := hide hl8
        have HF8 := hide hf8
        have HB8 := hide (HB7.out.trans (hB8.mono HB7.out.size))
        have HBj := hide (HBi.out.trans (hB8.mono HBi.out.size))
        clear hl8 hf8 hB8
        go_wp2_with fail
        refine (foundR_v (reachR_any NZ NZ.length N false (.slice av NZ.length cv) (.slice al lz.length cl) lz w8 rfl (by omega) (by omega) (HL.out.kept HB8.out (Nat.le_refl _)) (HI.out.kept HB8.out (Nat.le_refl _)) HRL2.out HOK.out (ways_under HN.out HOK.out) HN.out.bn)).mono ?_
        rintro e w9 ⟨⟨v9, f9, l9, rfl, hl9, hf9⟩, hB9⟩
        obtain ⟨r1, r2⟩ := HF8.out.same hf9
        have r3 := HF8.out.len
        rw [← r2] at hl9
        have HV8b := hide (HV8.out.kept hB9 (Nat.le_refl _))
        have HV9 := hide hl9
        have HR1 := hide r1
        have HB9 := hide (HB8.out.trans (hB9.mono HB8.out.size))
        have HBk := hide (HBj.out.trans (hB9.mono HBj.out.size))
        clear hl9 hf9 hB9 r1 r2 HF8 HV8
        go_wp2_with fail
        refine (found_v (over_any U NZ.length b _ (.slice al lz.length cl) lz w9 (by omega) (by omega) (HG.out.kept HBk.out (Nat.le_refl _)) (HI.out.kept HB9.out (Nat.le_refl _)) HN.out.bu HUL.out)).mono ?_
        rintro e w10 ⟨⟨v10, ev10, l10, rfl, hl10, hf10⟩, hB10⟩
        have HV10 := hide hl10
        have HF10 := hide hf10
        have HB10 := hide (HB9.out.trans (hB10.mono HB9.out.size))
        have HV8c := hide (HV8b.out.kept hB10 (Nat.le_refl _))
        have HV9b := hide (HV9.out.kept hB10 (Nat.le_refl _))
        clear hl10 hf10 hB10 HV8b HV9
        go_wp2_with fail
        refine (foundR_v (reachR_any NZ NZ.length U true (.slice av NZ.length cv) (.slice al lz.length cl) lz w10 rfl (by omega) (by omega) (HL.out.kept HB10.out (Nat.le_refl _)) (HI.out.kept HB10.out (Nat.le_refl _)) HRL2.out HOK.out (ways_over HN.out HOK.out) HN.out.bu)).mono ?_
        rintro e w11 ⟨⟨v11, f11, l11, rfl, hl11, hf11⟩, hB11⟩
        obtain ⟨s1, s2⟩ := HF10.out.same hf11
        have s3 := HF10.out.len
        rw [← s2] at hl11
        have HV10b := hide (HV10.out.kept hB11 (Nat.le_refl _))
        have HV8d := hide (HV8c.out.kept hB11 (Nat.le_refl _))
        have HV9c := hide (HV9b.out.kept hB11 (Nat.le_refl _))
        have HV11 := hide hl11
        have HS1 := hide s1
        have HB11 := hide (HB10.out.trans (hB11.mono HB10.out.size))
        clear hl11 hf11 hB11 s1 s2 HF10 HV10 HV8c HV9b
        go_wp2_with fail
        refine (same_ok ev8 f9 w11 HR1.out).mono ?_
        rintro e w11' ⟨rfl, hw⟩
        rw [hw]; clear hw w11'
        have HSA := hide (same_ok ev10 f11 w11 HS1.out)
        have HSB := hide (sameNumbers_eq l8 v8 v9 w11 (by omega) HV8d.out HV9c.out)
        go_wp2_with (go_at_call 11; refine HSA.out.mono ?_; rintro e w11' ⟨rfl, hw⟩; rw [hw]; clear hw w11')
        refine HSB.out.mono ?_
        rintro e w12 ⟨rfl, hB12⟩
        have HSC := hide (sameNumbers_eq l10 v10 v11 w12 (by omega) (HV10b.out.kept hB12 (Nat.le_refl _)) (HV11.out.kept hB12 (Nat.le_refl _)))
        have HB12 := hide (HB11.out.trans (hB12.mono HB11.out.size))
        clear hB12
        go_wp2_with (go_at_call 21; refine HSC.out.mono ?_; rintro e w13 ⟨rfl, hB13⟩)
        go_ret
        exact ⟨rfl, HB12.out.trans (hB13.mono HB12.out.size)⟩
end Go.Proofs.Ytienhelohfhhfaa
