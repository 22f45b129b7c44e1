/- ValueSays, the law's own walk. -/
import Derived.Test.YtpoebpknjjfddaaDoorWM
namespace Go.Proofs.YtpoebpknjjfddaaDoor
open Go.RowKit
attribute [local go_sem ↓] Go.wp_at_zero Go.wp_at_succ
set_option maxRecDepth 100000 in
set_option maxHeartbeats 6400000 in
theorem law : V.Law := by
  intro m W v o c0 c1 c2 c3 c4 d0 d1 d2 d3 d4 fv s l hv ho hf bv bo bs bl htab
  obtain ⟨sm, hsm⟩ := V.says_some
  obtain ⟨al, cl, rfl⟩ := hf.shape
  obtain ⟨hH, hB⟩ := V.has_start hv ho hf htab
  have HH := hide hH
  have HB := hide hB
  have HBR := hide (V.bulk_rec m l bl)
  have BL := hide bl
  clear hv ho hf htab hH hB
  have hll : l.length ≤ 1100000 := by omega
  clear bl
  go_enter Tryd.func4, Tryd.ntmps4
  go_wp2_with fail
  generalize (W.alloc (.cells #[c0, c1, c2, c3, c4] 34)).alloc (.cells #[d0, d1, d2, d3, d4] 34) = W1 at *
  refine (values_any _ HH.out.2.2.2.2.2).mono ?_
  rintro e w1 ⟨rfl, hb1⟩
  have HB1 := hide (V.step HB.out hb1)
  have HH1 := hide (HH.out.kept hb1)
  clear hb1 HB HH
  obtain ⟨⟨a0, a1, a2, a3, a4⟩, ⟨b0, b1, b2, b3, b4⟩, _⟩ := HH1.out
  go_wp2_with fail
  refine (light_any (m + 1) _ v c0 c1 c2 c3 c4 HH1.out.2.2.1 (by omega)).mono ?_
  rintro e w2 ⟨⟨q1, rfl⟩, hb2⟩
  have HB2 := hide (V.step HB1.out hb2)
  have HH2 := hide (HH1.out.kept hb2)
  clear hb2 HB1 HH1 a0 a1 a2 a3 a4 b0 b1 b2 b3 b4
  obtain ⟨⟨a0, a1, a2, a3, a4⟩, ⟨b0, b1, b2, b3, b4⟩, _⟩ := HH2.out
  cases q1
  · go_wp2_with fail
    go_ret
    exact ⟨rfl, HB2.out⟩
  go_wp2_with fail
  refine (light_any (m + 1) _ o d0 d1 d2 d3 d4 HH2.out.2.2.2.1 (by omega)).mono ?_
  rintro e w3 ⟨⟨q2, rfl⟩, hb3⟩
  have HB3 := hide (V.step HB2.out hb3)
  have HH3 := hide (HH2.out.kept hb3)
  clear hb3 HB2 HH2 a0 a1 a2 a3 a4 b0 b1 b2 b3 b4
  cases q2
  · go_wp2_with fail
    go_ret
    exact ⟨rfl, HB3.out⟩
  by_cases hs : s.size ≤ 200
  rotate_left
  · go_wp2_with fail
    go_ret
    exact ⟨rfl, HB3.out⟩
  by_cases h12 : l.length ≤ 12
  rotate_left
  · go_wp2_with fail
    go_ret
    exact ⟨rfl, HB3.out⟩
  go_wp2_with fail
  go_loopw [10] (fun vi wr => ∃ k : Nat, k ≤ l.length ∧ vi = .int .i64 k ∧ V.Has m wr W.heap.size v o c0 c1 c2 c3 c4 d0 d1 d2 d3 d4 (.slice al l.length cl) l ∧ Below W.heap.size W wr) (fun vi _ => l.length - (intOf vi).toNat)
  case atStart => exact ⟨0, Nat.zero_le _, rfl, HH3.out, HB3.out⟩
  case round =>
    clear HH3 HB3
    obtain ⟨k, hk, rfl, hH, hB⟩ := hrel
    have HH := hide hH
    have HB := hide hB
    clear hH hB
    by_cases hlt : k < l.length
    · obtain ⟨p, off, cap, x, x0, x1, x2, x3, x4, e1, hx, hm, y, y0, y1, y2, y3, y4⟩ := V.elemF HH.out.2.2.2.2.1 k hlt
      simp only [Value.slice.injEq] at e1
      obtain ⟨rfl, _, rfl⟩ := e1
      have hbx : V.bulk m x.2 ≤ 2000000 := by
        have h1 := V.sumF_le (fun x => x.1.size + V.bulk m x.2) l k x hx
        have h2 := BL.out
        omega
      have hbn : x.1.size ≤ 1100000 := by
        have h1 := V.sumF_le (fun x => x.1.size + V.bulk m x.2) l k x hx
        have h2 := BL.out
        omega
      have HC := hide (light_any m _ x.2 x0 x1 x2 x3 x4 hm hbx)
      clear hm hx hbx
      generalize x.1 = xn at *
      by_cases hn : xn.size ≤ 100
      · go_wp2_with fail
        refine Calls.mono HC.out ?_
        rintro e w4 ⟨⟨q3, rfl⟩, hb4⟩
        have HB4 := hide (V.step HB.out hb4)
        have HH4 := hide (HH.out.kept hb4)
        clear hb4 HB HH HC y y0 y1 y2 y3 y4
        cases q3
        · go_wp2_with fail
          go_ret
          exact ⟨rfl, HB4.out⟩
        · go_wp2_with fail
          go_roundw
          case rel => exact ⟨k + 1, by omega, by go_num, HH4.out, HB4.out⟩
          case measure => simp [intOf]; omega
      · go_wp2_with fail
        go_ret
        exact ⟨rfl, HB.out⟩
    · obtain ⟨⟨a0, a1, a2, a3, a4⟩, ⟨b0, b1, b2, b3, b4⟩, _⟩ := HH.out
      go_wp2_with fail
      refine (fault_any (m + 1) _ v c0 c1 c2 c3 c4 HH.out.2.2.1 (by omega)).mono ?_
      rintro e w4 ⟨rfl, hb4⟩
      have HB4 := hide (V.step HB.out hb4)
      have HH4 := hide (HH.out.kept hb4)
      clear hb4 HB HH a0 a1 a2 a3 a4 b0 b1 b2 b3 b4
      obtain ⟨⟨a0, a1, a2, a3, a4⟩, ⟨b0, b1, b2, b3, b4⟩, _⟩ := HH4.out
      go_wp2_with fail
      refine (text_any (m + 1) _ v c0 c1 c2 c3 c4 HH4.out.2.2.1 (by omega) HH4.out.2.2.2.2.2).mono ?_
      rintro e w5 ⟨rfl, hb5⟩
      have HB5 := hide (V.step HB4.out hb5)
      have HH5 := hide (HH4.out.kept hb5)
      clear hb5 HB4 HH4 a0 a1 a2 a3 a4 b0 b1 b2 b3 b4
      obtain ⟨⟨a0, a1, a2, a3, a4⟩, ⟨b0, b1, b2, b3, b4⟩, _⟩ := HH5.out
      go_upto_region 11 with fail
      go_cut [102] (fun c wx => c = .bool false ∧ V.Has m wx W.heap.size v o c0 c1 c2 c3 c4 d0 d1 d2 d3 d4 (.slice al l.length cl) l ∧ Below W.heap.size W wx)
      case first =>
        have HT : Hid (V.fault (m + 1) v = 0 → V.textOr (m + 1) v = V.str (V.text (m + 1) v)) := fun h => by rw [V.textOr, if_pos h]
        have HT2 : Hid (V.fault (m + 1) v ≠ 0 → V.textOr (m + 1) v = ⟨#[]⟩) := fun h => by rw [V.textOr, if_neg h]
        have HS := hide (V.fault_ok (m + 1) v)
        have KC := hide (check_any (m + 1) _ v c0 c1 c2 c3 c4 HH5.out.2.2.1 (by omega))
        generalize V.fault (m + 1) v = f at *
        generalize V.textOr (m + 1) v = t at *
        go_wp2_with fail
        refine Calls.mono KC.out ?_
        rintro e w6 ⟨rfl, hb6⟩
        have HB6 := hide (V.step HB5.out hb6)
        have HH6 := hide (HH5.out.kept hb6)
        clear hb6 HB5 HH5 KC a0 a1 a2 a3 a4 b0 b1 b2 b3 b4
        obtain ⟨⟨a0, a1, a2, a3, a4⟩, ⟨b0, b1, b2, b3, b4⟩, _⟩ := HH6.out
        go_wp2_with fail
        refine (same_of f _).mono ?_
        rintro e w7 ⟨rfl, hw⟩
        rw [hw]
        clear hw w7
        go_wp2_with fail
        refine (same_of f _).mono ?_
        rintro e w7 ⟨rfl, hw⟩
        rw [hw]
        clear hw w7
        by_cases hf0 : f = 0
        · have KT := hide (refText_any (m + 1) _ v c0 c1 c2 c3 c4 HH6.out.2.2.1 (HS.out hf0) (by omega))
          have e := HT.out hf0
          subst hf0
          subst e
          generalize V.str (V.text (m + 1) v) = tt at *
          go_wp2_with fail
          refine Calls.mono KT.out ?_
          rintro e w8 ⟨rfl, hb8⟩
          have HB8 := hide (V.step HB6.out hb8)
          have HH8 := hide (HH6.out.kept hb8)
          clear hb8 HB6 HH6 KT HT HT2 HS a0 a1 a2 a3 a4 b0 b1 b2 b3 b4
          go_wp2_with fail
          go_meet
          case rel => exact ⟨by simp, HH8.out, HB8.out⟩
        · have e := HT2.out hf0
          subst e
          have hpos : (0 : Int) < (f : Int) := by omega
          clear HT HT2 HS
          go_wp2_with fail
          go_meet
          case rel => exact ⟨by simp, HH6.out, HB6.out⟩
      case rest =>
        obtain ⟨rfl, hH, hB⟩ := hcut
        have HH := hide hH
        have HB := hide hB
        clear hH hB HH5 HB5 a0 a1 a2 a3 a4 b0 b1 b2 b3 b4
        obtain ⟨⟨a0, a1, a2, a3, a4⟩, ⟨b0, b1, b2, b3, b4⟩, _⟩ := HH.out
        go_wp2_with fail
        refine (copy_any m _ v c0 c1 c2 c3 c4 HH.out.2.2.1 (by omega)).mono ?_
        rintro e w1 ⟨⟨e0, e1, e2, e3, e4, rfl, hMe⟩, hb1⟩
        obtain ⟨q1, q2, q3, q4, rfl, rfl, rfl, rfl, rfl⟩ := hMe.form5
        have HB1 := hide (V.step HB.out hb1)
        have HH1 := hide (HH.out.kept hb1)
        have HME := hide hMe
        clear hb1 HB HH hMe a0 a1 a2 a3 a4 b0 b1 b2 b3 b4
        have hba : Below w1.heap.size w1 (w1.alloc (.cells #[.int .i64 v.kind, .int .i64 v.n, .string v.s, .slice q1 v.l.length q2, .slice q3 v.f.length q4] 34)) := (Below.refl _ _).alloc (Nat.le_refl _) _
        have HFE := hide (V.five_new w1 (.int .i64 v.kind) (.int .i64 v.n) (.string v.s) (.slice q1 v.l.length q2) (.slice q3 v.f.length q4))
        have HBA := hide (V.step HB1.out hba)
        have HHA := hide (HH1.out.kept hba)
        have HMA := hide (V.Mem.kept _ HME.out hba)
        clear hba HB1 HH1 HME
        obtain ⟨⟨a0, a1, a2, a3, a4⟩, ⟨b0, b1, b2, b3, b4⟩, _⟩ := HHA.out
        go_wp2_with fail
        generalize w1.alloc (.cells #[.int .i64 v.kind, .int .i64 v.n, .string v.s, .slice q1 v.l.length q2, .slice q3 v.f.length q4] 34) = wA at *
        generalize w1.heap.size = gE at *
        have HBG := hide (V.bulk_got s HHA.out.2.2.1 (Nat.le_trans bv (by decide)))
        have KG := hide (fun (w' : World) (h : V.Mem (m + 1) w' v [c0, c1, c2, c3, c4]) => refGet_any m w' v s c0 c1 c2 c3 c4 h (Nat.le_trans bv (by decide)))
        refine (get_any m _ v s c0 c1 c2 c3 c4 HHA.out.2.2.1 (by omega)).mono ?_
        rintro e w2 ⟨⟨e0, e1, e2, e3, e4, rfl, hMe⟩, hb2⟩
        generalize V.found v.f s = fd at *
        generalize (V.find v.f s).isSome = fb at *
        obtain ⟨q5, q6, q7, q8, rfl, rfl, rfl, rfl, rfl⟩ := hMe.form5
        have HB2 := hide (V.step HBA.out hb2)
        have HH2 := hide (HHA.out.kept hb2)
        have HF2 := hide (HFE.out.kept hb2)
        have HM2 := hide (V.Mem.kept _ HMA.out hb2)
        have HME := hide hMe
        clear hb2 HBA HHA HFE HMA hMe a0 a1 a2 a3 a4 b0 b1 b2 b3 b4
        have hbx : Below w2.heap.size w2 (w2.alloc (.cells #[.int .i64 fd.kind, .int .i64 fd.n, .string fd.s, .slice q5 fd.l.length q6, .slice q7 fd.f.length q8] 34)) := (Below.refl _ _).alloc (Nat.le_refl _) _
        have HFX := hide (V.five_new w2 (.int .i64 fd.kind) (.int .i64 fd.n) (.string fd.s) (.slice q5 fd.l.length q6) (.slice q7 fd.f.length q8))
        have HBX := hide (V.step HB2.out hbx)
        have HHX := hide (HH2.out.kept hbx)
        have HFE := hide (HF2.out.kept hbx)
        have HMA := hide (V.Mem.kept _ HM2.out hbx)
        have HMX := hide (V.Mem.kept _ HME.out hbx)
        clear hbx HB2 HH2 HF2 HM2 HME
        obtain ⟨⟨a0, a1, a2, a3, a4⟩, ⟨b0, b1, b2, b3, b4⟩, _⟩ := HHX.out
        go_wp2_with fail
        generalize w2.alloc (.cells #[.int .i64 fd.kind, .int .i64 fd.n, .string fd.s, .slice q5 fd.l.length q6, .slice q7 fd.f.length q8] 34) = wX at *
        generalize w2.heap.size = gX at *
        refine Calls.mono (KG.out _ HHX.out.2.2.1) ?_
        rintro e w3 ⟨⟨e0, e1, e2, e3, e4, rfl, hMe⟩, hb3⟩
        obtain ⟨r1, r2, r3, r4, rfl, rfl, rfl, rfl, rfl⟩ := hMe.form5
        have HB3 := hide (V.step HBX.out hb3)
        have HH3 := hide (HHX.out.kept hb3)
        have HF3 := hide (HFE.out.kept hb3)
        have HM3 := hide (V.Mem.kept _ HMA.out hb3)
        have HX3 := hide (HFX.out.kept hb3)
        have HN3 := hide (V.Mem.kept _ HMX.out hb3)
        have HMT := hide hMe
        clear hb3 HBX HHX HFE HMA HFX HMX hMe KG a0 a1 a2 a3 a4 b0 b1 b2 b3 b4
        have hby : Below w3.heap.size w3 (w3.alloc (.cells #[.int .i64 fd.kind, .int .i64 fd.n, .string fd.s, .slice r1 fd.l.length r2, .slice r3 fd.f.length r4] 34)) := (Below.refl _ _).alloc (Nat.le_refl _) _
        have HFY := hide (V.five_new w3 (.int .i64 fd.kind) (.int .i64 fd.n) (.string fd.s) (.slice r1 fd.l.length r2) (.slice r3 fd.f.length r4))
        have HBY := hide (V.step HB3.out hby)
        have HHY := hide (HH3.out.kept hby)
        have HFE := hide (HF3.out.kept hby)
        have HME := hide (V.Mem.kept _ HM3.out hby)
        have HFX := hide (HX3.out.kept hby)
        have HMX := hide (V.Mem.kept _ HN3.out hby)
        have HMY := hide (V.Mem.kept _ HMT.out hby)
        have HMV := hide HHY.out.2.2.1
        have HMO := hide HHY.out.2.2.2.1
        clear hby HB3 HH3 HF3 HM3 HX3 HN3 HMT
        go_upto_region 16 with fail
        generalize w3.alloc (.cells #[.int .i64 fd.kind, .int .i64 fd.n, .string fd.s, .slice r1 fd.l.length r2, .slice r3 fd.f.length r4] 34) = wY at *
        generalize w3.heap.size = gY at *
        go_cut [167] (fun c wx => c = .bool false ∧ V.Has m wx W.heap.size v o c0 c1 c2 c3 c4 d0 d1 d2 d3 d4 (.slice al l.length cl) l ∧ Below W.heap.size W wx)
        case first =>
          generalize hq : sm v o = q
          have HQ := hide hq
          generalize hnm : V.name (V.bl s) = nm
          have HNM := hide hnm
          generalize hsu : V.sum (V.bl s) = su
          have HSU := hide hsu
          generalize hqu : V.str (V.quote (V.bl s)) = qu
          have HQU := hide hqu
          clear hq hnm hsu hqu
          have K1 := hide (p := ∀ w' : World, (w'.cell? ⟨W.heap.size, 0, none⟩ = some c0 ∧ w'.cell? ⟨W.heap.size, 1, none⟩ = some c1 ∧ w'.cell? ⟨W.heap.size, 2, none⟩ = some c2 ∧ w'.cell? ⟨W.heap.size, 3, none⟩ = some c3 ∧ w'.cell? ⟨W.heap.size, 4, none⟩ = some c4 ∧ w'.cell? ⟨W.heap.size + 1, 0, none⟩ = some d0 ∧ w'.cell? ⟨W.heap.size + 1, 1, none⟩ = some d1 ∧ w'.cell? ⟨W.heap.size + 1, 2, none⟩ = some d2 ∧ w'.cell? ⟨W.heap.size + 1, 3, none⟩ = some d3 ∧ w'.cell? ⟨W.heap.size + 1, 4, none⟩ = some d4 ∧ w'.cell? ⟨gE, 0, none⟩ = some (.int .i64 v.kind) ∧ w'.cell? ⟨gE, 1, none⟩ = some (.int .i64 v.n) ∧ w'.cell? ⟨gE, 2, none⟩ = some (.string v.s) ∧ w'.cell? ⟨gE, 3, none⟩ = some (.slice q1 v.l.length q2) ∧ w'.cell? ⟨gE, 4, none⟩ = some (.slice q3 v.f.length q4) ∧ w'.cell? ⟨gX, 0, none⟩ = some (.int .i64 fd.kind) ∧ w'.cell? ⟨gX, 1, none⟩ = some (.int .i64 fd.n) ∧ w'.cell? ⟨gX, 2, none⟩ = some (.string fd.s) ∧ w'.cell? ⟨gX, 3, none⟩ = some (.slice q5 fd.l.length q6) ∧ w'.cell? ⟨gX, 4, none⟩ = some (.slice q7 fd.f.length q8) ∧ w'.cell? ⟨gY, 0, none⟩ = some (.int .i64 fd.kind) ∧ w'.cell? ⟨gY, 1, none⟩ = some (.int .i64 fd.n) ∧ w'.cell? ⟨gY, 2, none⟩ = some (.string fd.s) ∧ w'.cell? ⟨gY, 3, none⟩ = some (.slice r1 fd.l.length r2) ∧ w'.cell? ⟨gY, 4, none⟩ = some (.slice r3 fd.f.length r4) ∧ Below wY.heap.size wY w') → Calls Tryd.prog 17 #[.agg #[.int .i64 v.kind, .int .i64 v.n, .string v.s, .slice q1 v.l.length q2, .slice q3 v.f.length q4], .agg #[c0, c1, c2, c3, c4]] w' fun e w'' => e = .returned (.bool true) ∧ w''.cell? ⟨W.heap.size, 0, none⟩ = some c0 ∧ w''.cell? ⟨W.heap.size, 1, none⟩ = some c1 ∧ w''.cell? ⟨W.heap.size, 2, none⟩ = some c2 ∧ w''.cell? ⟨W.heap.size, 3, none⟩ = some c3 ∧ w''.cell? ⟨W.heap.size, 4, none⟩ = some c4 ∧ w''.cell? ⟨W.heap.size + 1, 0, none⟩ = some d0 ∧ w''.cell? ⟨W.heap.size + 1, 1, none⟩ = some d1 ∧ w''.cell? ⟨W.heap.size + 1, 2, none⟩ = some d2 ∧ w''.cell? ⟨W.heap.size + 1, 3, none⟩ = some d3 ∧ w''.cell? ⟨W.heap.size + 1, 4, none⟩ = some d4 ∧ w''.cell? ⟨gE, 0, none⟩ = some (.int .i64 v.kind) ∧ w''.cell? ⟨gE, 1, none⟩ = some (.int .i64 v.n) ∧ w''.cell? ⟨gE, 2, none⟩ = some (.string v.s) ∧ w''.cell? ⟨gE, 3, none⟩ = some (.slice q1 v.l.length q2) ∧ w''.cell? ⟨gE, 4, none⟩ = some (.slice q3 v.f.length q4) ∧ w''.cell? ⟨gX, 0, none⟩ = some (.int .i64 fd.kind) ∧ w''.cell? ⟨gX, 1, none⟩ = some (.int .i64 fd.n) ∧ w''.cell? ⟨gX, 2, none⟩ = some (.string fd.s) ∧ w''.cell? ⟨gX, 3, none⟩ = some (.slice q5 fd.l.length q6) ∧ w''.cell? ⟨gX, 4, none⟩ = some (.slice q7 fd.f.length q8) ∧ w''.cell? ⟨gY, 0, none⟩ = some (.int .i64 fd.kind) ∧ w''.cell? ⟨gY, 1, none⟩ = some (.int .i64 fd.n) ∧ w''.cell? ⟨gY, 2, none⟩ = some (.string fd.s) ∧ w''.cell? ⟨gY, 3, none⟩ = some (.slice r1 fd.l.length r2) ∧ w''.cell? ⟨gY, 4, none⟩ = some (.slice r3 fd.f.length r4) ∧ Below wY.heap.size wY w'') (by
            intro w' ⟨t0, t1, t2, t3, t4, t5, t6, t7, t8, t9, t10, t11, t12, t13, t14, t15, t16, t17, t18, t19, t20, t21, t22, t23, t24, t25⟩
            have hc := refAlike_any sm hsm (m + 1) w' v v _ _ _ _ _ _ _ _ _ _ (V.Mem.kept (m + 1) HME.out t25) (V.Mem.kept (m + 1) HMV.out t25) (Nat.le_trans bv (by decide)) (Nat.le_trans bv (by decide))
            rw [hsm.yes v v rfl] at hc
            refine hc.mono ?_
            rintro e w'' ⟨rfl, hb⟩
            exact ⟨rfl, kept_cell hb t0, kept_cell hb t1, kept_cell hb t2, kept_cell hb t3, kept_cell hb t4, kept_cell hb t5, kept_cell hb t6, kept_cell hb t7, kept_cell hb t8, kept_cell hb t9, kept_cell hb t10, kept_cell hb t11, kept_cell hb t12, kept_cell hb t13, kept_cell hb t14, kept_cell hb t15, kept_cell hb t16, kept_cell hb t17, kept_cell hb t18, kept_cell hb t19, kept_cell hb t20, kept_cell hb t21, kept_cell hb t22, kept_cell hb t23, kept_cell hb t24, t25.trans (hb.mono t25.size)⟩)
          have K2 := hide (p := ∀ w' : World, (w'.cell? ⟨W.heap.size, 0, none⟩ = some c0 ∧ w'.cell? ⟨W.heap.size, 1, none⟩ = some c1 ∧ w'.cell? ⟨W.heap.size, 2, none⟩ = some c2 ∧ w'.cell? ⟨W.heap.size, 3, none⟩ = some c3 ∧ w'.cell? ⟨W.heap.size, 4, none⟩ = some c4 ∧ w'.cell? ⟨W.heap.size + 1, 0, none⟩ = some d0 ∧ w'.cell? ⟨W.heap.size + 1, 1, none⟩ = some d1 ∧ w'.cell? ⟨W.heap.size + 1, 2, none⟩ = some d2 ∧ w'.cell? ⟨W.heap.size + 1, 3, none⟩ = some d3 ∧ w'.cell? ⟨W.heap.size + 1, 4, none⟩ = some d4 ∧ w'.cell? ⟨gE, 0, none⟩ = some (.int .i64 v.kind) ∧ w'.cell? ⟨gE, 1, none⟩ = some (.int .i64 v.n) ∧ w'.cell? ⟨gE, 2, none⟩ = some (.string v.s) ∧ w'.cell? ⟨gE, 3, none⟩ = some (.slice q1 v.l.length q2) ∧ w'.cell? ⟨gE, 4, none⟩ = some (.slice q3 v.f.length q4) ∧ w'.cell? ⟨gX, 0, none⟩ = some (.int .i64 fd.kind) ∧ w'.cell? ⟨gX, 1, none⟩ = some (.int .i64 fd.n) ∧ w'.cell? ⟨gX, 2, none⟩ = some (.string fd.s) ∧ w'.cell? ⟨gX, 3, none⟩ = some (.slice q5 fd.l.length q6) ∧ w'.cell? ⟨gX, 4, none⟩ = some (.slice q7 fd.f.length q8) ∧ w'.cell? ⟨gY, 0, none⟩ = some (.int .i64 fd.kind) ∧ w'.cell? ⟨gY, 1, none⟩ = some (.int .i64 fd.n) ∧ w'.cell? ⟨gY, 2, none⟩ = some (.string fd.s) ∧ w'.cell? ⟨gY, 3, none⟩ = some (.slice r1 fd.l.length r2) ∧ w'.cell? ⟨gY, 4, none⟩ = some (.slice r3 fd.f.length r4) ∧ Below wY.heap.size wY w') → Calls Tryd.prog 18 #[.agg #[c0, c1, c2, c3, c4], .agg #[d0, d1, d2, d3, d4]] w' fun e w'' => e = .returned (.bool q) ∧ w''.cell? ⟨W.heap.size, 0, none⟩ = some c0 ∧ w''.cell? ⟨W.heap.size, 1, none⟩ = some c1 ∧ w''.cell? ⟨W.heap.size, 2, none⟩ = some c2 ∧ w''.cell? ⟨W.heap.size, 3, none⟩ = some c3 ∧ w''.cell? ⟨W.heap.size, 4, none⟩ = some c4 ∧ w''.cell? ⟨W.heap.size + 1, 0, none⟩ = some d0 ∧ w''.cell? ⟨W.heap.size + 1, 1, none⟩ = some d1 ∧ w''.cell? ⟨W.heap.size + 1, 2, none⟩ = some d2 ∧ w''.cell? ⟨W.heap.size + 1, 3, none⟩ = some d3 ∧ w''.cell? ⟨W.heap.size + 1, 4, none⟩ = some d4 ∧ w''.cell? ⟨gE, 0, none⟩ = some (.int .i64 v.kind) ∧ w''.cell? ⟨gE, 1, none⟩ = some (.int .i64 v.n) ∧ w''.cell? ⟨gE, 2, none⟩ = some (.string v.s) ∧ w''.cell? ⟨gE, 3, none⟩ = some (.slice q1 v.l.length q2) ∧ w''.cell? ⟨gE, 4, none⟩ = some (.slice q3 v.f.length q4) ∧ w''.cell? ⟨gX, 0, none⟩ = some (.int .i64 fd.kind) ∧ w''.cell? ⟨gX, 1, none⟩ = some (.int .i64 fd.n) ∧ w''.cell? ⟨gX, 2, none⟩ = some (.string fd.s) ∧ w''.cell? ⟨gX, 3, none⟩ = some (.slice q5 fd.l.length q6) ∧ w''.cell? ⟨gX, 4, none⟩ = some (.slice q7 fd.f.length q8) ∧ w''.cell? ⟨gY, 0, none⟩ = some (.int .i64 fd.kind) ∧ w''.cell? ⟨gY, 1, none⟩ = some (.int .i64 fd.n) ∧ w''.cell? ⟨gY, 2, none⟩ = some (.string fd.s) ∧ w''.cell? ⟨gY, 3, none⟩ = some (.slice r1 fd.l.length r2) ∧ w''.cell? ⟨gY, 4, none⟩ = some (.slice r3 fd.f.length r4) ∧ Below wY.heap.size wY w'') (by
            intro w' ⟨t0, t1, t2, t3, t4, t5, t6, t7, t8, t9, t10, t11, t12, t13, t14, t15, t16, t17, t18, t19, t20, t21, t22, t23, t24, t25⟩
            have hc := alike_any sm hsm m w' v o _ _ _ _ _ _ _ _ _ _ (V.Mem.kept (m + 1) HMV.out t25) (V.Mem.kept (m + 1) HMO.out t25) (Nat.le_trans bv (by decide)) (Nat.le_trans bo (by decide))
            rw [HQ.out] at hc
            refine hc.mono ?_
            rintro e w'' ⟨rfl, hb⟩
            exact ⟨rfl, kept_cell hb t0, kept_cell hb t1, kept_cell hb t2, kept_cell hb t3, kept_cell hb t4, kept_cell hb t5, kept_cell hb t6, kept_cell hb t7, kept_cell hb t8, kept_cell hb t9, kept_cell hb t10, kept_cell hb t11, kept_cell hb t12, kept_cell hb t13, kept_cell hb t14, kept_cell hb t15, kept_cell hb t16, kept_cell hb t17, kept_cell hb t18, kept_cell hb t19, kept_cell hb t20, kept_cell hb t21, kept_cell hb t22, kept_cell hb t23, kept_cell hb t24, t25.trans (hb.mono t25.size)⟩)
          have K3 := hide (p := ∀ w' : World, (w'.cell? ⟨W.heap.size, 0, none⟩ = some c0 ∧ w'.cell? ⟨W.heap.size, 1, none⟩ = some c1 ∧ w'.cell? ⟨W.heap.size, 2, none⟩ = some c2 ∧ w'.cell? ⟨W.heap.size, 3, none⟩ = some c3 ∧ w'.cell? ⟨W.heap.size, 4, none⟩ = some c4 ∧ w'.cell? ⟨W.heap.size + 1, 0, none⟩ = some d0 ∧ w'.cell? ⟨W.heap.size + 1, 1, none⟩ = some d1 ∧ w'.cell? ⟨W.heap.size + 1, 2, none⟩ = some d2 ∧ w'.cell? ⟨W.heap.size + 1, 3, none⟩ = some d3 ∧ w'.cell? ⟨W.heap.size + 1, 4, none⟩ = some d4 ∧ w'.cell? ⟨gE, 0, none⟩ = some (.int .i64 v.kind) ∧ w'.cell? ⟨gE, 1, none⟩ = some (.int .i64 v.n) ∧ w'.cell? ⟨gE, 2, none⟩ = some (.string v.s) ∧ w'.cell? ⟨gE, 3, none⟩ = some (.slice q1 v.l.length q2) ∧ w'.cell? ⟨gE, 4, none⟩ = some (.slice q3 v.f.length q4) ∧ w'.cell? ⟨gX, 0, none⟩ = some (.int .i64 fd.kind) ∧ w'.cell? ⟨gX, 1, none⟩ = some (.int .i64 fd.n) ∧ w'.cell? ⟨gX, 2, none⟩ = some (.string fd.s) ∧ w'.cell? ⟨gX, 3, none⟩ = some (.slice q5 fd.l.length q6) ∧ w'.cell? ⟨gX, 4, none⟩ = some (.slice q7 fd.f.length q8) ∧ w'.cell? ⟨gY, 0, none⟩ = some (.int .i64 fd.kind) ∧ w'.cell? ⟨gY, 1, none⟩ = some (.int .i64 fd.n) ∧ w'.cell? ⟨gY, 2, none⟩ = some (.string fd.s) ∧ w'.cell? ⟨gY, 3, none⟩ = some (.slice r1 fd.l.length r2) ∧ w'.cell? ⟨gY, 4, none⟩ = some (.slice r3 fd.f.length r4) ∧ Below wY.heap.size wY w') → Calls Tryd.prog 17 #[.agg #[c0, c1, c2, c3, c4], .agg #[d0, d1, d2, d3, d4]] w' fun e w'' => e = .returned (.bool q) ∧ w''.cell? ⟨W.heap.size, 0, none⟩ = some c0 ∧ w''.cell? ⟨W.heap.size, 1, none⟩ = some c1 ∧ w''.cell? ⟨W.heap.size, 2, none⟩ = some c2 ∧ w''.cell? ⟨W.heap.size, 3, none⟩ = some c3 ∧ w''.cell? ⟨W.heap.size, 4, none⟩ = some c4 ∧ w''.cell? ⟨W.heap.size + 1, 0, none⟩ = some d0 ∧ w''.cell? ⟨W.heap.size + 1, 1, none⟩ = some d1 ∧ w''.cell? ⟨W.heap.size + 1, 2, none⟩ = some d2 ∧ w''.cell? ⟨W.heap.size + 1, 3, none⟩ = some d3 ∧ w''.cell? ⟨W.heap.size + 1, 4, none⟩ = some d4 ∧ w''.cell? ⟨gE, 0, none⟩ = some (.int .i64 v.kind) ∧ w''.cell? ⟨gE, 1, none⟩ = some (.int .i64 v.n) ∧ w''.cell? ⟨gE, 2, none⟩ = some (.string v.s) ∧ w''.cell? ⟨gE, 3, none⟩ = some (.slice q1 v.l.length q2) ∧ w''.cell? ⟨gE, 4, none⟩ = some (.slice q3 v.f.length q4) ∧ w''.cell? ⟨gX, 0, none⟩ = some (.int .i64 fd.kind) ∧ w''.cell? ⟨gX, 1, none⟩ = some (.int .i64 fd.n) ∧ w''.cell? ⟨gX, 2, none⟩ = some (.string fd.s) ∧ w''.cell? ⟨gX, 3, none⟩ = some (.slice q5 fd.l.length q6) ∧ w''.cell? ⟨gX, 4, none⟩ = some (.slice q7 fd.f.length q8) ∧ w''.cell? ⟨gY, 0, none⟩ = some (.int .i64 fd.kind) ∧ w''.cell? ⟨gY, 1, none⟩ = some (.int .i64 fd.n) ∧ w''.cell? ⟨gY, 2, none⟩ = some (.string fd.s) ∧ w''.cell? ⟨gY, 3, none⟩ = some (.slice r1 fd.l.length r2) ∧ w''.cell? ⟨gY, 4, none⟩ = some (.slice r3 fd.f.length r4) ∧ Below wY.heap.size wY w'') (by
            intro w' ⟨t0, t1, t2, t3, t4, t5, t6, t7, t8, t9, t10, t11, t12, t13, t14, t15, t16, t17, t18, t19, t20, t21, t22, t23, t24, t25⟩
            have hc := refAlike_any sm hsm (m + 1) w' v o _ _ _ _ _ _ _ _ _ _ (V.Mem.kept (m + 1) HMV.out t25) (V.Mem.kept (m + 1) HMO.out t25) (Nat.le_trans bv (by decide)) (Nat.le_trans bo (by decide))
            rw [HQ.out] at hc
            refine hc.mono ?_
            rintro e w'' ⟨rfl, hb⟩
            exact ⟨rfl, kept_cell hb t0, kept_cell hb t1, kept_cell hb t2, kept_cell hb t3, kept_cell hb t4, kept_cell hb t5, kept_cell hb t6, kept_cell hb t7, kept_cell hb t8, kept_cell hb t9, kept_cell hb t10, kept_cell hb t11, kept_cell hb t12, kept_cell hb t13, kept_cell hb t14, kept_cell hb t15, kept_cell hb t16, kept_cell hb t17, kept_cell hb t18, kept_cell hb t19, kept_cell hb t20, kept_cell hb t21, kept_cell hb t22, kept_cell hb t23, kept_cell hb t24, t25.trans (hb.mono t25.size)⟩)
          have K4 := hide (p := ∀ w' : World, (w'.cell? ⟨W.heap.size, 0, none⟩ = some c0 ∧ w'.cell? ⟨W.heap.size, 1, none⟩ = some c1 ∧ w'.cell? ⟨W.heap.size, 2, none⟩ = some c2 ∧ w'.cell? ⟨W.heap.size, 3, none⟩ = some c3 ∧ w'.cell? ⟨W.heap.size, 4, none⟩ = some c4 ∧ w'.cell? ⟨W.heap.size + 1, 0, none⟩ = some d0 ∧ w'.cell? ⟨W.heap.size + 1, 1, none⟩ = some d1 ∧ w'.cell? ⟨W.heap.size + 1, 2, none⟩ = some d2 ∧ w'.cell? ⟨W.heap.size + 1, 3, none⟩ = some d3 ∧ w'.cell? ⟨W.heap.size + 1, 4, none⟩ = some d4 ∧ w'.cell? ⟨gE, 0, none⟩ = some (.int .i64 v.kind) ∧ w'.cell? ⟨gE, 1, none⟩ = some (.int .i64 v.n) ∧ w'.cell? ⟨gE, 2, none⟩ = some (.string v.s) ∧ w'.cell? ⟨gE, 3, none⟩ = some (.slice q1 v.l.length q2) ∧ w'.cell? ⟨gE, 4, none⟩ = some (.slice q3 v.f.length q4) ∧ w'.cell? ⟨gX, 0, none⟩ = some (.int .i64 fd.kind) ∧ w'.cell? ⟨gX, 1, none⟩ = some (.int .i64 fd.n) ∧ w'.cell? ⟨gX, 2, none⟩ = some (.string fd.s) ∧ w'.cell? ⟨gX, 3, none⟩ = some (.slice q5 fd.l.length q6) ∧ w'.cell? ⟨gX, 4, none⟩ = some (.slice q7 fd.f.length q8) ∧ w'.cell? ⟨gY, 0, none⟩ = some (.int .i64 fd.kind) ∧ w'.cell? ⟨gY, 1, none⟩ = some (.int .i64 fd.n) ∧ w'.cell? ⟨gY, 2, none⟩ = some (.string fd.s) ∧ w'.cell? ⟨gY, 3, none⟩ = some (.slice r1 fd.l.length r2) ∧ w'.cell? ⟨gY, 4, none⟩ = some (.slice r3 fd.f.length r4) ∧ Below wY.heap.size wY w') → Calls Tryd.prog 18 #[.agg #[c0, c1, c2, c3, c4], .agg #[.int .i64 v.kind, .int .i64 v.n, .string v.s, .slice q1 v.l.length q2, .slice q3 v.f.length q4]] w' fun e w'' => e = .returned (.bool true) ∧ w''.cell? ⟨W.heap.size, 0, none⟩ = some c0 ∧ w''.cell? ⟨W.heap.size, 1, none⟩ = some c1 ∧ w''.cell? ⟨W.heap.size, 2, none⟩ = some c2 ∧ w''.cell? ⟨W.heap.size, 3, none⟩ = some c3 ∧ w''.cell? ⟨W.heap.size, 4, none⟩ = some c4 ∧ w''.cell? ⟨W.heap.size + 1, 0, none⟩ = some d0 ∧ w''.cell? ⟨W.heap.size + 1, 1, none⟩ = some d1 ∧ w''.cell? ⟨W.heap.size + 1, 2, none⟩ = some d2 ∧ w''.cell? ⟨W.heap.size + 1, 3, none⟩ = some d3 ∧ w''.cell? ⟨W.heap.size + 1, 4, none⟩ = some d4 ∧ w''.cell? ⟨gE, 0, none⟩ = some (.int .i64 v.kind) ∧ w''.cell? ⟨gE, 1, none⟩ = some (.int .i64 v.n) ∧ w''.cell? ⟨gE, 2, none⟩ = some (.string v.s) ∧ w''.cell? ⟨gE, 3, none⟩ = some (.slice q1 v.l.length q2) ∧ w''.cell? ⟨gE, 4, none⟩ = some (.slice q3 v.f.length q4) ∧ w''.cell? ⟨gX, 0, none⟩ = some (.int .i64 fd.kind) ∧ w''.cell? ⟨gX, 1, none⟩ = some (.int .i64 fd.n) ∧ w''.cell? ⟨gX, 2, none⟩ = some (.string fd.s) ∧ w''.cell? ⟨gX, 3, none⟩ = some (.slice q5 fd.l.length q6) ∧ w''.cell? ⟨gX, 4, none⟩ = some (.slice q7 fd.f.length q8) ∧ w''.cell? ⟨gY, 0, none⟩ = some (.int .i64 fd.kind) ∧ w''.cell? ⟨gY, 1, none⟩ = some (.int .i64 fd.n) ∧ w''.cell? ⟨gY, 2, none⟩ = some (.string fd.s) ∧ w''.cell? ⟨gY, 3, none⟩ = some (.slice r1 fd.l.length r2) ∧ w''.cell? ⟨gY, 4, none⟩ = some (.slice r3 fd.f.length r4) ∧ Below wY.heap.size wY w'') (by
            intro w' ⟨t0, t1, t2, t3, t4, t5, t6, t7, t8, t9, t10, t11, t12, t13, t14, t15, t16, t17, t18, t19, t20, t21, t22, t23, t24, t25⟩
            have hc := alike_any sm hsm m w' v v _ _ _ _ _ _ _ _ _ _ (V.Mem.kept (m + 1) HMV.out t25) (V.Mem.kept (m + 1) HME.out t25) (Nat.le_trans bv (by decide)) (Nat.le_trans bv (by decide))
            rw [hsm.yes v v rfl] at hc
            refine hc.mono ?_
            rintro e w'' ⟨rfl, hb⟩
            exact ⟨rfl, kept_cell hb t0, kept_cell hb t1, kept_cell hb t2, kept_cell hb t3, kept_cell hb t4, kept_cell hb t5, kept_cell hb t6, kept_cell hb t7, kept_cell hb t8, kept_cell hb t9, kept_cell hb t10, kept_cell hb t11, kept_cell hb t12, kept_cell hb t13, kept_cell hb t14, kept_cell hb t15, kept_cell hb t16, kept_cell hb t17, kept_cell hb t18, kept_cell hb t19, kept_cell hb t20, kept_cell hb t21, kept_cell hb t22, kept_cell hb t23, kept_cell hb t24, t25.trans (hb.mono t25.size)⟩)
          have K5 := hide (p := ∀ w' : World, (w'.cell? ⟨W.heap.size, 0, none⟩ = some c0 ∧ w'.cell? ⟨W.heap.size, 1, none⟩ = some c1 ∧ w'.cell? ⟨W.heap.size, 2, none⟩ = some c2 ∧ w'.cell? ⟨W.heap.size, 3, none⟩ = some c3 ∧ w'.cell? ⟨W.heap.size, 4, none⟩ = some c4 ∧ w'.cell? ⟨W.heap.size + 1, 0, none⟩ = some d0 ∧ w'.cell? ⟨W.heap.size + 1, 1, none⟩ = some d1 ∧ w'.cell? ⟨W.heap.size + 1, 2, none⟩ = some d2 ∧ w'.cell? ⟨W.heap.size + 1, 3, none⟩ = some d3 ∧ w'.cell? ⟨W.heap.size + 1, 4, none⟩ = some d4 ∧ w'.cell? ⟨gE, 0, none⟩ = some (.int .i64 v.kind) ∧ w'.cell? ⟨gE, 1, none⟩ = some (.int .i64 v.n) ∧ w'.cell? ⟨gE, 2, none⟩ = some (.string v.s) ∧ w'.cell? ⟨gE, 3, none⟩ = some (.slice q1 v.l.length q2) ∧ w'.cell? ⟨gE, 4, none⟩ = some (.slice q3 v.f.length q4) ∧ w'.cell? ⟨gX, 0, none⟩ = some (.int .i64 fd.kind) ∧ w'.cell? ⟨gX, 1, none⟩ = some (.int .i64 fd.n) ∧ w'.cell? ⟨gX, 2, none⟩ = some (.string fd.s) ∧ w'.cell? ⟨gX, 3, none⟩ = some (.slice q5 fd.l.length q6) ∧ w'.cell? ⟨gX, 4, none⟩ = some (.slice q7 fd.f.length q8) ∧ w'.cell? ⟨gY, 0, none⟩ = some (.int .i64 fd.kind) ∧ w'.cell? ⟨gY, 1, none⟩ = some (.int .i64 fd.n) ∧ w'.cell? ⟨gY, 2, none⟩ = some (.string fd.s) ∧ w'.cell? ⟨gY, 3, none⟩ = some (.slice r1 fd.l.length r2) ∧ w'.cell? ⟨gY, 4, none⟩ = some (.slice r3 fd.f.length r4) ∧ Below wY.heap.size wY w') → Calls Tryd.prog 17 #[.agg #[.int .i64 fd.kind, .int .i64 fd.n, .string fd.s, .slice q5 fd.l.length q6, .slice q7 fd.f.length q8], .agg #[.int .i64 fd.kind, .int .i64 fd.n, .string fd.s, .slice r1 fd.l.length r2, .slice r3 fd.f.length r4]] w' fun e w'' => e = .returned (.bool true) ∧ w''.cell? ⟨W.heap.size, 0, none⟩ = some c0 ∧ w''.cell? ⟨W.heap.size, 1, none⟩ = some c1 ∧ w''.cell? ⟨W.heap.size, 2, none⟩ = some c2 ∧ w''.cell? ⟨W.heap.size, 3, none⟩ = some c3 ∧ w''.cell? ⟨W.heap.size, 4, none⟩ = some c4 ∧ w''.cell? ⟨W.heap.size + 1, 0, none⟩ = some d0 ∧ w''.cell? ⟨W.heap.size + 1, 1, none⟩ = some d1 ∧ w''.cell? ⟨W.heap.size + 1, 2, none⟩ = some d2 ∧ w''.cell? ⟨W.heap.size + 1, 3, none⟩ = some d3 ∧ w''.cell? ⟨W.heap.size + 1, 4, none⟩ = some d4 ∧ w''.cell? ⟨gE, 0, none⟩ = some (.int .i64 v.kind) ∧ w''.cell? ⟨gE, 1, none⟩ = some (.int .i64 v.n) ∧ w''.cell? ⟨gE, 2, none⟩ = some (.string v.s) ∧ w''.cell? ⟨gE, 3, none⟩ = some (.slice q1 v.l.length q2) ∧ w''.cell? ⟨gE, 4, none⟩ = some (.slice q3 v.f.length q4) ∧ w''.cell? ⟨gX, 0, none⟩ = some (.int .i64 fd.kind) ∧ w''.cell? ⟨gX, 1, none⟩ = some (.int .i64 fd.n) ∧ w''.cell? ⟨gX, 2, none⟩ = some (.string fd.s) ∧ w''.cell? ⟨gX, 3, none⟩ = some (.slice q5 fd.l.length q6) ∧ w''.cell? ⟨gX, 4, none⟩ = some (.slice q7 fd.f.length q8) ∧ w''.cell? ⟨gY, 0, none⟩ = some (.int .i64 fd.kind) ∧ w''.cell? ⟨gY, 1, none⟩ = some (.int .i64 fd.n) ∧ w''.cell? ⟨gY, 2, none⟩ = some (.string fd.s) ∧ w''.cell? ⟨gY, 3, none⟩ = some (.slice r1 fd.l.length r2) ∧ w''.cell? ⟨gY, 4, none⟩ = some (.slice r3 fd.f.length r4) ∧ Below wY.heap.size wY w'') (by
            intro w' ⟨t0, t1, t2, t3, t4, t5, t6, t7, t8, t9, t10, t11, t12, t13, t14, t15, t16, t17, t18, t19, t20, t21, t22, t23, t24, t25⟩
            have hc := refAlike_any sm hsm (m + 1) w' fd fd _ _ _ _ _ _ _ _ _ _ (V.Mem.kept (m + 1) HMX.out t25) (V.Mem.kept (m + 1) HMY.out t25) HBG.out HBG.out
            rw [hsm.yes fd fd rfl] at hc
            refine hc.mono ?_
            rintro e w'' ⟨rfl, hb⟩
            exact ⟨rfl, kept_cell hb t0, kept_cell hb t1, kept_cell hb t2, kept_cell hb t3, kept_cell hb t4, kept_cell hb t5, kept_cell hb t6, kept_cell hb t7, kept_cell hb t8, kept_cell hb t9, kept_cell hb t10, kept_cell hb t11, kept_cell hb t12, kept_cell hb t13, kept_cell hb t14, kept_cell hb t15, kept_cell hb t16, kept_cell hb t17, kept_cell hb t18, kept_cell hb t19, kept_cell hb t20, kept_cell hb t21, kept_cell hb t22, kept_cell hb t23, kept_cell hb t24, t25.trans (hb.mono t25.size)⟩)
          have K6 := hide (p := ∀ w' : World, (w'.cell? ⟨W.heap.size, 0, none⟩ = some c0 ∧ w'.cell? ⟨W.heap.size, 1, none⟩ = some c1 ∧ w'.cell? ⟨W.heap.size, 2, none⟩ = some c2 ∧ w'.cell? ⟨W.heap.size, 3, none⟩ = some c3 ∧ w'.cell? ⟨W.heap.size, 4, none⟩ = some c4 ∧ w'.cell? ⟨W.heap.size + 1, 0, none⟩ = some d0 ∧ w'.cell? ⟨W.heap.size + 1, 1, none⟩ = some d1 ∧ w'.cell? ⟨W.heap.size + 1, 2, none⟩ = some d2 ∧ w'.cell? ⟨W.heap.size + 1, 3, none⟩ = some d3 ∧ w'.cell? ⟨W.heap.size + 1, 4, none⟩ = some d4 ∧ w'.cell? ⟨gE, 0, none⟩ = some (.int .i64 v.kind) ∧ w'.cell? ⟨gE, 1, none⟩ = some (.int .i64 v.n) ∧ w'.cell? ⟨gE, 2, none⟩ = some (.string v.s) ∧ w'.cell? ⟨gE, 3, none⟩ = some (.slice q1 v.l.length q2) ∧ w'.cell? ⟨gE, 4, none⟩ = some (.slice q3 v.f.length q4) ∧ w'.cell? ⟨gX, 0, none⟩ = some (.int .i64 fd.kind) ∧ w'.cell? ⟨gX, 1, none⟩ = some (.int .i64 fd.n) ∧ w'.cell? ⟨gX, 2, none⟩ = some (.string fd.s) ∧ w'.cell? ⟨gX, 3, none⟩ = some (.slice q5 fd.l.length q6) ∧ w'.cell? ⟨gX, 4, none⟩ = some (.slice q7 fd.f.length q8) ∧ w'.cell? ⟨gY, 0, none⟩ = some (.int .i64 fd.kind) ∧ w'.cell? ⟨gY, 1, none⟩ = some (.int .i64 fd.n) ∧ w'.cell? ⟨gY, 2, none⟩ = some (.string fd.s) ∧ w'.cell? ⟨gY, 3, none⟩ = some (.slice r1 fd.l.length r2) ∧ w'.cell? ⟨gY, 4, none⟩ = some (.slice r3 fd.f.length r4) ∧ Below wY.heap.size wY w') → Calls Tryd.prog 19 #[.string s] w' fun e w'' => e = .returned (.bool nm) ∧ w''.cell? ⟨W.heap.size, 0, none⟩ = some c0 ∧ w''.cell? ⟨W.heap.size, 1, none⟩ = some c1 ∧ w''.cell? ⟨W.heap.size, 2, none⟩ = some c2 ∧ w''.cell? ⟨W.heap.size, 3, none⟩ = some c3 ∧ w''.cell? ⟨W.heap.size, 4, none⟩ = some c4 ∧ w''.cell? ⟨W.heap.size + 1, 0, none⟩ = some d0 ∧ w''.cell? ⟨W.heap.size + 1, 1, none⟩ = some d1 ∧ w''.cell? ⟨W.heap.size + 1, 2, none⟩ = some d2 ∧ w''.cell? ⟨W.heap.size + 1, 3, none⟩ = some d3 ∧ w''.cell? ⟨W.heap.size + 1, 4, none⟩ = some d4 ∧ w''.cell? ⟨gE, 0, none⟩ = some (.int .i64 v.kind) ∧ w''.cell? ⟨gE, 1, none⟩ = some (.int .i64 v.n) ∧ w''.cell? ⟨gE, 2, none⟩ = some (.string v.s) ∧ w''.cell? ⟨gE, 3, none⟩ = some (.slice q1 v.l.length q2) ∧ w''.cell? ⟨gE, 4, none⟩ = some (.slice q3 v.f.length q4) ∧ w''.cell? ⟨gX, 0, none⟩ = some (.int .i64 fd.kind) ∧ w''.cell? ⟨gX, 1, none⟩ = some (.int .i64 fd.n) ∧ w''.cell? ⟨gX, 2, none⟩ = some (.string fd.s) ∧ w''.cell? ⟨gX, 3, none⟩ = some (.slice q5 fd.l.length q6) ∧ w''.cell? ⟨gX, 4, none⟩ = some (.slice q7 fd.f.length q8) ∧ w''.cell? ⟨gY, 0, none⟩ = some (.int .i64 fd.kind) ∧ w''.cell? ⟨gY, 1, none⟩ = some (.int .i64 fd.n) ∧ w''.cell? ⟨gY, 2, none⟩ = some (.string fd.s) ∧ w''.cell? ⟨gY, 3, none⟩ = some (.slice r1 fd.l.length r2) ∧ w''.cell? ⟨gY, 4, none⟩ = some (.slice r3 fd.f.length r4) ∧ Below wY.heap.size wY w'') (by
            intro w' hS
            have hc := name_any s w' (by unfold maxLen; omega)
            rw [HNM.out] at hc
            refine hc.mono ?_
            rintro e w'' ⟨rfl, hw⟩
            rw [hw]
            exact ⟨rfl, hS⟩)
          have K7 := hide (p := ∀ w' : World, (w'.cell? ⟨W.heap.size, 0, none⟩ = some c0 ∧ w'.cell? ⟨W.heap.size, 1, none⟩ = some c1 ∧ w'.cell? ⟨W.heap.size, 2, none⟩ = some c2 ∧ w'.cell? ⟨W.heap.size, 3, none⟩ = some c3 ∧ w'.cell? ⟨W.heap.size, 4, none⟩ = some c4 ∧ w'.cell? ⟨W.heap.size + 1, 0, none⟩ = some d0 ∧ w'.cell? ⟨W.heap.size + 1, 1, none⟩ = some d1 ∧ w'.cell? ⟨W.heap.size + 1, 2, none⟩ = some d2 ∧ w'.cell? ⟨W.heap.size + 1, 3, none⟩ = some d3 ∧ w'.cell? ⟨W.heap.size + 1, 4, none⟩ = some d4 ∧ w'.cell? ⟨gE, 0, none⟩ = some (.int .i64 v.kind) ∧ w'.cell? ⟨gE, 1, none⟩ = some (.int .i64 v.n) ∧ w'.cell? ⟨gE, 2, none⟩ = some (.string v.s) ∧ w'.cell? ⟨gE, 3, none⟩ = some (.slice q1 v.l.length q2) ∧ w'.cell? ⟨gE, 4, none⟩ = some (.slice q3 v.f.length q4) ∧ w'.cell? ⟨gX, 0, none⟩ = some (.int .i64 fd.kind) ∧ w'.cell? ⟨gX, 1, none⟩ = some (.int .i64 fd.n) ∧ w'.cell? ⟨gX, 2, none⟩ = some (.string fd.s) ∧ w'.cell? ⟨gX, 3, none⟩ = some (.slice q5 fd.l.length q6) ∧ w'.cell? ⟨gX, 4, none⟩ = some (.slice q7 fd.f.length q8) ∧ w'.cell? ⟨gY, 0, none⟩ = some (.int .i64 fd.kind) ∧ w'.cell? ⟨gY, 1, none⟩ = some (.int .i64 fd.n) ∧ w'.cell? ⟨gY, 2, none⟩ = some (.string fd.s) ∧ w'.cell? ⟨gY, 3, none⟩ = some (.slice r1 fd.l.length r2) ∧ w'.cell? ⟨gY, 4, none⟩ = some (.slice r3 fd.f.length r4) ∧ Below wY.heap.size wY w') → Calls Tryd.prog 20 #[.string s] w' fun e w'' => e = .returned (.bool nm) ∧ w''.cell? ⟨W.heap.size, 0, none⟩ = some c0 ∧ w''.cell? ⟨W.heap.size, 1, none⟩ = some c1 ∧ w''.cell? ⟨W.heap.size, 2, none⟩ = some c2 ∧ w''.cell? ⟨W.heap.size, 3, none⟩ = some c3 ∧ w''.cell? ⟨W.heap.size, 4, none⟩ = some c4 ∧ w''.cell? ⟨W.heap.size + 1, 0, none⟩ = some d0 ∧ w''.cell? ⟨W.heap.size + 1, 1, none⟩ = some d1 ∧ w''.cell? ⟨W.heap.size + 1, 2, none⟩ = some d2 ∧ w''.cell? ⟨W.heap.size + 1, 3, none⟩ = some d3 ∧ w''.cell? ⟨W.heap.size + 1, 4, none⟩ = some d4 ∧ w''.cell? ⟨gE, 0, none⟩ = some (.int .i64 v.kind) ∧ w''.cell? ⟨gE, 1, none⟩ = some (.int .i64 v.n) ∧ w''.cell? ⟨gE, 2, none⟩ = some (.string v.s) ∧ w''.cell? ⟨gE, 3, none⟩ = some (.slice q1 v.l.length q2) ∧ w''.cell? ⟨gE, 4, none⟩ = some (.slice q3 v.f.length q4) ∧ w''.cell? ⟨gX, 0, none⟩ = some (.int .i64 fd.kind) ∧ w''.cell? ⟨gX, 1, none⟩ = some (.int .i64 fd.n) ∧ w''.cell? ⟨gX, 2, none⟩ = some (.string fd.s) ∧ w''.cell? ⟨gX, 3, none⟩ = some (.slice q5 fd.l.length q6) ∧ w''.cell? ⟨gX, 4, none⟩ = some (.slice q7 fd.f.length q8) ∧ w''.cell? ⟨gY, 0, none⟩ = some (.int .i64 fd.kind) ∧ w''.cell? ⟨gY, 1, none⟩ = some (.int .i64 fd.n) ∧ w''.cell? ⟨gY, 2, none⟩ = some (.string fd.s) ∧ w''.cell? ⟨gY, 3, none⟩ = some (.slice r1 fd.l.length r2) ∧ w''.cell? ⟨gY, 4, none⟩ = some (.slice r3 fd.f.length r4) ∧ Below wY.heap.size wY w'') (by
            intro w' hS
            have hc := nameMay_any s w' (by unfold maxLen; omega)
            rw [HNM.out] at hc
            refine hc.mono ?_
            rintro e w'' ⟨rfl, hw⟩
            rw [hw]
            exact ⟨rfl, hS⟩)
          have K8 := hide (p := ∀ w' : World, (w'.cell? ⟨W.heap.size, 0, none⟩ = some c0 ∧ w'.cell? ⟨W.heap.size, 1, none⟩ = some c1 ∧ w'.cell? ⟨W.heap.size, 2, none⟩ = some c2 ∧ w'.cell? ⟨W.heap.size, 3, none⟩ = some c3 ∧ w'.cell? ⟨W.heap.size, 4, none⟩ = some c4 ∧ w'.cell? ⟨W.heap.size + 1, 0, none⟩ = some d0 ∧ w'.cell? ⟨W.heap.size + 1, 1, none⟩ = some d1 ∧ w'.cell? ⟨W.heap.size + 1, 2, none⟩ = some d2 ∧ w'.cell? ⟨W.heap.size + 1, 3, none⟩ = some d3 ∧ w'.cell? ⟨W.heap.size + 1, 4, none⟩ = some d4 ∧ w'.cell? ⟨gE, 0, none⟩ = some (.int .i64 v.kind) ∧ w'.cell? ⟨gE, 1, none⟩ = some (.int .i64 v.n) ∧ w'.cell? ⟨gE, 2, none⟩ = some (.string v.s) ∧ w'.cell? ⟨gE, 3, none⟩ = some (.slice q1 v.l.length q2) ∧ w'.cell? ⟨gE, 4, none⟩ = some (.slice q3 v.f.length q4) ∧ w'.cell? ⟨gX, 0, none⟩ = some (.int .i64 fd.kind) ∧ w'.cell? ⟨gX, 1, none⟩ = some (.int .i64 fd.n) ∧ w'.cell? ⟨gX, 2, none⟩ = some (.string fd.s) ∧ w'.cell? ⟨gX, 3, none⟩ = some (.slice q5 fd.l.length q6) ∧ w'.cell? ⟨gX, 4, none⟩ = some (.slice q7 fd.f.length q8) ∧ w'.cell? ⟨gY, 0, none⟩ = some (.int .i64 fd.kind) ∧ w'.cell? ⟨gY, 1, none⟩ = some (.int .i64 fd.n) ∧ w'.cell? ⟨gY, 2, none⟩ = some (.string fd.s) ∧ w'.cell? ⟨gY, 3, none⟩ = some (.slice r1 fd.l.length r2) ∧ w'.cell? ⟨gY, 4, none⟩ = some (.slice r3 fd.f.length r4) ∧ Below wY.heap.size wY w') → Calls Tryd.prog 21 #[.string s] w' fun e w'' => e = .returned (.int .u64 su) ∧ w''.cell? ⟨W.heap.size, 0, none⟩ = some c0 ∧ w''.cell? ⟨W.heap.size, 1, none⟩ = some c1 ∧ w''.cell? ⟨W.heap.size, 2, none⟩ = some c2 ∧ w''.cell? ⟨W.heap.size, 3, none⟩ = some c3 ∧ w''.cell? ⟨W.heap.size, 4, none⟩ = some c4 ∧ w''.cell? ⟨W.heap.size + 1, 0, none⟩ = some d0 ∧ w''.cell? ⟨W.heap.size + 1, 1, none⟩ = some d1 ∧ w''.cell? ⟨W.heap.size + 1, 2, none⟩ = some d2 ∧ w''.cell? ⟨W.heap.size + 1, 3, none⟩ = some d3 ∧ w''.cell? ⟨W.heap.size + 1, 4, none⟩ = some d4 ∧ w''.cell? ⟨gE, 0, none⟩ = some (.int .i64 v.kind) ∧ w''.cell? ⟨gE, 1, none⟩ = some (.int .i64 v.n) ∧ w''.cell? ⟨gE, 2, none⟩ = some (.string v.s) ∧ w''.cell? ⟨gE, 3, none⟩ = some (.slice q1 v.l.length q2) ∧ w''.cell? ⟨gE, 4, none⟩ = some (.slice q3 v.f.length q4) ∧ w''.cell? ⟨gX, 0, none⟩ = some (.int .i64 fd.kind) ∧ w''.cell? ⟨gX, 1, none⟩ = some (.int .i64 fd.n) ∧ w''.cell? ⟨gX, 2, none⟩ = some (.string fd.s) ∧ w''.cell? ⟨gX, 3, none⟩ = some (.slice q5 fd.l.length q6) ∧ w''.cell? ⟨gX, 4, none⟩ = some (.slice q7 fd.f.length q8) ∧ w''.cell? ⟨gY, 0, none⟩ = some (.int .i64 fd.kind) ∧ w''.cell? ⟨gY, 1, none⟩ = some (.int .i64 fd.n) ∧ w''.cell? ⟨gY, 2, none⟩ = some (.string fd.s) ∧ w''.cell? ⟨gY, 3, none⟩ = some (.slice r1 fd.l.length r2) ∧ w''.cell? ⟨gY, 4, none⟩ = some (.slice r3 fd.f.length r4) ∧ Below wY.heap.size wY w'') (by
            intro w' hS
            have hc := sum_any s w' (by omega)
            rw [HSU.out] at hc
            refine hc.mono ?_
            rintro e w'' ⟨rfl, hw⟩
            rw [hw]
            exact ⟨rfl, hS⟩)
          have K9 := hide (p := ∀ w' : World, (w'.cell? ⟨W.heap.size, 0, none⟩ = some c0 ∧ w'.cell? ⟨W.heap.size, 1, none⟩ = some c1 ∧ w'.cell? ⟨W.heap.size, 2, none⟩ = some c2 ∧ w'.cell? ⟨W.heap.size, 3, none⟩ = some c3 ∧ w'.cell? ⟨W.heap.size, 4, none⟩ = some c4 ∧ w'.cell? ⟨W.heap.size + 1, 0, none⟩ = some d0 ∧ w'.cell? ⟨W.heap.size + 1, 1, none⟩ = some d1 ∧ w'.cell? ⟨W.heap.size + 1, 2, none⟩ = some d2 ∧ w'.cell? ⟨W.heap.size + 1, 3, none⟩ = some d3 ∧ w'.cell? ⟨W.heap.size + 1, 4, none⟩ = some d4 ∧ w'.cell? ⟨gE, 0, none⟩ = some (.int .i64 v.kind) ∧ w'.cell? ⟨gE, 1, none⟩ = some (.int .i64 v.n) ∧ w'.cell? ⟨gE, 2, none⟩ = some (.string v.s) ∧ w'.cell? ⟨gE, 3, none⟩ = some (.slice q1 v.l.length q2) ∧ w'.cell? ⟨gE, 4, none⟩ = some (.slice q3 v.f.length q4) ∧ w'.cell? ⟨gX, 0, none⟩ = some (.int .i64 fd.kind) ∧ w'.cell? ⟨gX, 1, none⟩ = some (.int .i64 fd.n) ∧ w'.cell? ⟨gX, 2, none⟩ = some (.string fd.s) ∧ w'.cell? ⟨gX, 3, none⟩ = some (.slice q5 fd.l.length q6) ∧ w'.cell? ⟨gX, 4, none⟩ = some (.slice q7 fd.f.length q8) ∧ w'.cell? ⟨gY, 0, none⟩ = some (.int .i64 fd.kind) ∧ w'.cell? ⟨gY, 1, none⟩ = some (.int .i64 fd.n) ∧ w'.cell? ⟨gY, 2, none⟩ = some (.string fd.s) ∧ w'.cell? ⟨gY, 3, none⟩ = some (.slice r1 fd.l.length r2) ∧ w'.cell? ⟨gY, 4, none⟩ = some (.slice r3 fd.f.length r4) ∧ Below wY.heap.size wY w') → Calls Tryd.prog 22 #[.string s] w' fun e w'' => e = .returned (.int .u64 su) ∧ w''.cell? ⟨W.heap.size, 0, none⟩ = some c0 ∧ w''.cell? ⟨W.heap.size, 1, none⟩ = some c1 ∧ w''.cell? ⟨W.heap.size, 2, none⟩ = some c2 ∧ w''.cell? ⟨W.heap.size, 3, none⟩ = some c3 ∧ w''.cell? ⟨W.heap.size, 4, none⟩ = some c4 ∧ w''.cell? ⟨W.heap.size + 1, 0, none⟩ = some d0 ∧ w''.cell? ⟨W.heap.size + 1, 1, none⟩ = some d1 ∧ w''.cell? ⟨W.heap.size + 1, 2, none⟩ = some d2 ∧ w''.cell? ⟨W.heap.size + 1, 3, none⟩ = some d3 ∧ w''.cell? ⟨W.heap.size + 1, 4, none⟩ = some d4 ∧ w''.cell? ⟨gE, 0, none⟩ = some (.int .i64 v.kind) ∧ w''.cell? ⟨gE, 1, none⟩ = some (.int .i64 v.n) ∧ w''.cell? ⟨gE, 2, none⟩ = some (.string v.s) ∧ w''.cell? ⟨gE, 3, none⟩ = some (.slice q1 v.l.length q2) ∧ w''.cell? ⟨gE, 4, none⟩ = some (.slice q3 v.f.length q4) ∧ w''.cell? ⟨gX, 0, none⟩ = some (.int .i64 fd.kind) ∧ w''.cell? ⟨gX, 1, none⟩ = some (.int .i64 fd.n) ∧ w''.cell? ⟨gX, 2, none⟩ = some (.string fd.s) ∧ w''.cell? ⟨gX, 3, none⟩ = some (.slice q5 fd.l.length q6) ∧ w''.cell? ⟨gX, 4, none⟩ = some (.slice q7 fd.f.length q8) ∧ w''.cell? ⟨gY, 0, none⟩ = some (.int .i64 fd.kind) ∧ w''.cell? ⟨gY, 1, none⟩ = some (.int .i64 fd.n) ∧ w''.cell? ⟨gY, 2, none⟩ = some (.string fd.s) ∧ w''.cell? ⟨gY, 3, none⟩ = some (.slice r1 fd.l.length r2) ∧ w''.cell? ⟨gY, 4, none⟩ = some (.slice r3 fd.f.length r4) ∧ Below wY.heap.size wY w'') (by
            intro w' hS
            have hc := refSum_any s w' (by omega)
            rw [HSU.out] at hc
            refine hc.mono ?_
            rintro e w'' ⟨rfl, hw⟩
            rw [hw]
            exact ⟨rfl, hS⟩)
          have K10 := hide (p := ∀ w' : World, (w'.cell? ⟨W.heap.size, 0, none⟩ = some c0 ∧ w'.cell? ⟨W.heap.size, 1, none⟩ = some c1 ∧ w'.cell? ⟨W.heap.size, 2, none⟩ = some c2 ∧ w'.cell? ⟨W.heap.size, 3, none⟩ = some c3 ∧ w'.cell? ⟨W.heap.size, 4, none⟩ = some c4 ∧ w'.cell? ⟨W.heap.size + 1, 0, none⟩ = some d0 ∧ w'.cell? ⟨W.heap.size + 1, 1, none⟩ = some d1 ∧ w'.cell? ⟨W.heap.size + 1, 2, none⟩ = some d2 ∧ w'.cell? ⟨W.heap.size + 1, 3, none⟩ = some d3 ∧ w'.cell? ⟨W.heap.size + 1, 4, none⟩ = some d4 ∧ w'.cell? ⟨gE, 0, none⟩ = some (.int .i64 v.kind) ∧ w'.cell? ⟨gE, 1, none⟩ = some (.int .i64 v.n) ∧ w'.cell? ⟨gE, 2, none⟩ = some (.string v.s) ∧ w'.cell? ⟨gE, 3, none⟩ = some (.slice q1 v.l.length q2) ∧ w'.cell? ⟨gE, 4, none⟩ = some (.slice q3 v.f.length q4) ∧ w'.cell? ⟨gX, 0, none⟩ = some (.int .i64 fd.kind) ∧ w'.cell? ⟨gX, 1, none⟩ = some (.int .i64 fd.n) ∧ w'.cell? ⟨gX, 2, none⟩ = some (.string fd.s) ∧ w'.cell? ⟨gX, 3, none⟩ = some (.slice q5 fd.l.length q6) ∧ w'.cell? ⟨gX, 4, none⟩ = some (.slice q7 fd.f.length q8) ∧ w'.cell? ⟨gY, 0, none⟩ = some (.int .i64 fd.kind) ∧ w'.cell? ⟨gY, 1, none⟩ = some (.int .i64 fd.n) ∧ w'.cell? ⟨gY, 2, none⟩ = some (.string fd.s) ∧ w'.cell? ⟨gY, 3, none⟩ = some (.slice r1 fd.l.length r2) ∧ w'.cell? ⟨gY, 4, none⟩ = some (.slice r3 fd.f.length r4) ∧ Below wY.heap.size wY w') → Calls Tryd.prog 23 #[.string s] w' fun e w'' => e = .returned (.string qu) ∧ w''.cell? ⟨W.heap.size, 0, none⟩ = some c0 ∧ w''.cell? ⟨W.heap.size, 1, none⟩ = some c1 ∧ w''.cell? ⟨W.heap.size, 2, none⟩ = some c2 ∧ w''.cell? ⟨W.heap.size, 3, none⟩ = some c3 ∧ w''.cell? ⟨W.heap.size, 4, none⟩ = some c4 ∧ w''.cell? ⟨W.heap.size + 1, 0, none⟩ = some d0 ∧ w''.cell? ⟨W.heap.size + 1, 1, none⟩ = some d1 ∧ w''.cell? ⟨W.heap.size + 1, 2, none⟩ = some d2 ∧ w''.cell? ⟨W.heap.size + 1, 3, none⟩ = some d3 ∧ w''.cell? ⟨W.heap.size + 1, 4, none⟩ = some d4 ∧ w''.cell? ⟨gE, 0, none⟩ = some (.int .i64 v.kind) ∧ w''.cell? ⟨gE, 1, none⟩ = some (.int .i64 v.n) ∧ w''.cell? ⟨gE, 2, none⟩ = some (.string v.s) ∧ w''.cell? ⟨gE, 3, none⟩ = some (.slice q1 v.l.length q2) ∧ w''.cell? ⟨gE, 4, none⟩ = some (.slice q3 v.f.length q4) ∧ w''.cell? ⟨gX, 0, none⟩ = some (.int .i64 fd.kind) ∧ w''.cell? ⟨gX, 1, none⟩ = some (.int .i64 fd.n) ∧ w''.cell? ⟨gX, 2, none⟩ = some (.string fd.s) ∧ w''.cell? ⟨gX, 3, none⟩ = some (.slice q5 fd.l.length q6) ∧ w''.cell? ⟨gX, 4, none⟩ = some (.slice q7 fd.f.length q8) ∧ w''.cell? ⟨gY, 0, none⟩ = some (.int .i64 fd.kind) ∧ w''.cell? ⟨gY, 1, none⟩ = some (.int .i64 fd.n) ∧ w''.cell? ⟨gY, 2, none⟩ = some (.string fd.s) ∧ w''.cell? ⟨gY, 3, none⟩ = some (.slice r1 fd.l.length r2) ∧ w''.cell? ⟨gY, 4, none⟩ = some (.slice r3 fd.f.length r4) ∧ Below wY.heap.size wY w'') (by
            intro w' ⟨t0, t1, t2, t3, t4, t5, t6, t7, t8, t9, t10, t11, t12, t13, t14, t15, t16, t17, t18, t19, t20, t21, t22, t23, t24, t25⟩
            have hc := quote_any s w' (by omega)
            rw [HQU.out] at hc
            refine hc.mono ?_
            rintro e w'' ⟨rfl, hb⟩
            exact ⟨rfl, kept_cell hb t0, kept_cell hb t1, kept_cell hb t2, kept_cell hb t3, kept_cell hb t4, kept_cell hb t5, kept_cell hb t6, kept_cell hb t7, kept_cell hb t8, kept_cell hb t9, kept_cell hb t10, kept_cell hb t11, kept_cell hb t12, kept_cell hb t13, kept_cell hb t14, kept_cell hb t15, kept_cell hb t16, kept_cell hb t17, kept_cell hb t18, kept_cell hb t19, kept_cell hb t20, kept_cell hb t21, kept_cell hb t22, kept_cell hb t23, kept_cell hb t24, t25.trans (hb.mono t25.size)⟩)
          have K11 := hide (p := ∀ w' : World, (w'.cell? ⟨W.heap.size, 0, none⟩ = some c0 ∧ w'.cell? ⟨W.heap.size, 1, none⟩ = some c1 ∧ w'.cell? ⟨W.heap.size, 2, none⟩ = some c2 ∧ w'.cell? ⟨W.heap.size, 3, none⟩ = some c3 ∧ w'.cell? ⟨W.heap.size, 4, none⟩ = some c4 ∧ w'.cell? ⟨W.heap.size + 1, 0, none⟩ = some d0 ∧ w'.cell? ⟨W.heap.size + 1, 1, none⟩ = some d1 ∧ w'.cell? ⟨W.heap.size + 1, 2, none⟩ = some d2 ∧ w'.cell? ⟨W.heap.size + 1, 3, none⟩ = some d3 ∧ w'.cell? ⟨W.heap.size + 1, 4, none⟩ = some d4 ∧ w'.cell? ⟨gE, 0, none⟩ = some (.int .i64 v.kind) ∧ w'.cell? ⟨gE, 1, none⟩ = some (.int .i64 v.n) ∧ w'.cell? ⟨gE, 2, none⟩ = some (.string v.s) ∧ w'.cell? ⟨gE, 3, none⟩ = some (.slice q1 v.l.length q2) ∧ w'.cell? ⟨gE, 4, none⟩ = some (.slice q3 v.f.length q4) ∧ w'.cell? ⟨gX, 0, none⟩ = some (.int .i64 fd.kind) ∧ w'.cell? ⟨gX, 1, none⟩ = some (.int .i64 fd.n) ∧ w'.cell? ⟨gX, 2, none⟩ = some (.string fd.s) ∧ w'.cell? ⟨gX, 3, none⟩ = some (.slice q5 fd.l.length q6) ∧ w'.cell? ⟨gX, 4, none⟩ = some (.slice q7 fd.f.length q8) ∧ w'.cell? ⟨gY, 0, none⟩ = some (.int .i64 fd.kind) ∧ w'.cell? ⟨gY, 1, none⟩ = some (.int .i64 fd.n) ∧ w'.cell? ⟨gY, 2, none⟩ = some (.string fd.s) ∧ w'.cell? ⟨gY, 3, none⟩ = some (.slice r1 fd.l.length r2) ∧ w'.cell? ⟨gY, 4, none⟩ = some (.slice r3 fd.f.length r4) ∧ Below wY.heap.size wY w') → Calls Tryd.prog 24 #[.string s] w' fun e w'' => e = .returned (.string qu) ∧ w''.cell? ⟨W.heap.size, 0, none⟩ = some c0 ∧ w''.cell? ⟨W.heap.size, 1, none⟩ = some c1 ∧ w''.cell? ⟨W.heap.size, 2, none⟩ = some c2 ∧ w''.cell? ⟨W.heap.size, 3, none⟩ = some c3 ∧ w''.cell? ⟨W.heap.size, 4, none⟩ = some c4 ∧ w''.cell? ⟨W.heap.size + 1, 0, none⟩ = some d0 ∧ w''.cell? ⟨W.heap.size + 1, 1, none⟩ = some d1 ∧ w''.cell? ⟨W.heap.size + 1, 2, none⟩ = some d2 ∧ w''.cell? ⟨W.heap.size + 1, 3, none⟩ = some d3 ∧ w''.cell? ⟨W.heap.size + 1, 4, none⟩ = some d4 ∧ w''.cell? ⟨gE, 0, none⟩ = some (.int .i64 v.kind) ∧ w''.cell? ⟨gE, 1, none⟩ = some (.int .i64 v.n) ∧ w''.cell? ⟨gE, 2, none⟩ = some (.string v.s) ∧ w''.cell? ⟨gE, 3, none⟩ = some (.slice q1 v.l.length q2) ∧ w''.cell? ⟨gE, 4, none⟩ = some (.slice q3 v.f.length q4) ∧ w''.cell? ⟨gX, 0, none⟩ = some (.int .i64 fd.kind) ∧ w''.cell? ⟨gX, 1, none⟩ = some (.int .i64 fd.n) ∧ w''.cell? ⟨gX, 2, none⟩ = some (.string fd.s) ∧ w''.cell? ⟨gX, 3, none⟩ = some (.slice q5 fd.l.length q6) ∧ w''.cell? ⟨gX, 4, none⟩ = some (.slice q7 fd.f.length q8) ∧ w''.cell? ⟨gY, 0, none⟩ = some (.int .i64 fd.kind) ∧ w''.cell? ⟨gY, 1, none⟩ = some (.int .i64 fd.n) ∧ w''.cell? ⟨gY, 2, none⟩ = some (.string fd.s) ∧ w''.cell? ⟨gY, 3, none⟩ = some (.slice r1 fd.l.length r2) ∧ w''.cell? ⟨gY, 4, none⟩ = some (.slice r3 fd.f.length r4) ∧ Below wY.heap.size wY w'') (by
            intro w' ⟨t0, t1, t2, t3, t4, t5, t6, t7, t8, t9, t10, t11, t12, t13, t14, t15, t16, t17, t18, t19, t20, t21, t22, t23, t24, t25⟩
            have hc := quoted_any s w' (by omega)
            rw [HQU.out] at hc
            refine hc.mono ?_
            rintro e w'' ⟨rfl, hb⟩
            exact ⟨rfl, kept_cell hb t0, kept_cell hb t1, kept_cell hb t2, kept_cell hb t3, kept_cell hb t4, kept_cell hb t5, kept_cell hb t6, kept_cell hb t7, kept_cell hb t8, kept_cell hb t9, kept_cell hb t10, kept_cell hb t11, kept_cell hb t12, kept_cell hb t13, kept_cell hb t14, kept_cell hb t15, kept_cell hb t16, kept_cell hb t17, kept_cell hb t18, kept_cell hb t19, kept_cell hb t20, kept_cell hb t21, kept_cell hb t22, kept_cell hb t23, kept_cell hb t24, t25.trans (hb.mono t25.size)⟩)
          obtain ⟨a0, a1, a2, a3, a4⟩ := HHY.out.1
          obtain ⟨b0, b1, b2, b3, b4⟩ := HHY.out.2.1
          obtain ⟨f0, f1, f2, f3, f4⟩ := HFE.out
          obtain ⟨x0, x1, x2, x3, x4⟩ := HFX.out
          obtain ⟨y0, y1, y2, y3, y4⟩ := HFY.out
          have hbd : Below wY.heap.size wY wY.drew := below_drewN (Below.refl _ _) 1
          clear HFE HFX HFY HME HMX HMY HMV HMO HBG HQ HNM HSU HQU HBR BL bv bo bs hll hs h12 hk hlt
          cases q
          all_goals
            go_region_held3 (fun w' => w'.cell? ⟨W.heap.size, 0, none⟩ = some c0 ∧ w'.cell? ⟨W.heap.size, 1, none⟩ = some c1 ∧ w'.cell? ⟨W.heap.size, 2, none⟩ = some c2 ∧ w'.cell? ⟨W.heap.size, 3, none⟩ = some c3 ∧ w'.cell? ⟨W.heap.size, 4, none⟩ = some c4 ∧ w'.cell? ⟨W.heap.size + 1, 0, none⟩ = some d0 ∧ w'.cell? ⟨W.heap.size + 1, 1, none⟩ = some d1 ∧ w'.cell? ⟨W.heap.size + 1, 2, none⟩ = some d2 ∧ w'.cell? ⟨W.heap.size + 1, 3, none⟩ = some d3 ∧ w'.cell? ⟨W.heap.size + 1, 4, none⟩ = some d4 ∧ w'.cell? ⟨gE, 0, none⟩ = some (.int .i64 v.kind) ∧ w'.cell? ⟨gE, 1, none⟩ = some (.int .i64 v.n) ∧ w'.cell? ⟨gE, 2, none⟩ = some (.string v.s) ∧ w'.cell? ⟨gE, 3, none⟩ = some (.slice q1 v.l.length q2) ∧ w'.cell? ⟨gE, 4, none⟩ = some (.slice q3 v.f.length q4) ∧ w'.cell? ⟨gX, 0, none⟩ = some (.int .i64 fd.kind) ∧ w'.cell? ⟨gX, 1, none⟩ = some (.int .i64 fd.n) ∧ w'.cell? ⟨gX, 2, none⟩ = some (.string fd.s) ∧ w'.cell? ⟨gX, 3, none⟩ = some (.slice q5 fd.l.length q6) ∧ w'.cell? ⟨gX, 4, none⟩ = some (.slice q7 fd.f.length q8) ∧ w'.cell? ⟨gY, 0, none⟩ = some (.int .i64 fd.kind) ∧ w'.cell? ⟨gY, 1, none⟩ = some (.int .i64 fd.n) ∧ w'.cell? ⟨gY, 2, none⟩ = some (.string fd.s) ∧ w'.cell? ⟨gY, 3, none⟩ = some (.slice r1 fd.l.length r2) ∧ w'.cell? ⟨gY, 4, none⟩ = some (.slice r3 fd.f.length r4) ∧ Below wY.heap.size wY w') ((first | exact ⟨t0, t1, t2, t3, t4, t5, t6, t7, t8, t9, t10, t11, t12, t13, t14, t15, t16, t17, t18, t19, t20, t21, t22, t23, t24, t25⟩ | exact ⟨a0, a1, a2, a3, a4, b0, b1, b2, b3, b4, f0, f1, f2, f3, f4, x0, x1, x2, x3, x4, y0, y1, y2, y3, y4, hbd⟩ | go_keep))
              (first | (go_at_call 17; (with_reducible refine Calls.mono (K1.out _ ?_) ?_); (first | exact ⟨t0, t1, t2, t3, t4, t5, t6, t7, t8, t9, t10, t11, t12, t13, t14, t15, t16, t17, t18, t19, t20, t21, t22, t23, t24, t25⟩ | exact ⟨a0, a1, a2, a3, a4, b0, b1, b2, b3, b4, f0, f1, f2, f3, f4, x0, x1, x2, x3, x4, y0, y1, y2, y3, y4, hbd⟩); (try clear t0 t1 t2 t3 t4 t5 t6 t7 t8 t9 t10 t11 t12 t13 t14 t15 t16 t17 t18 t19 t20 t21 t22 t23 t24 t25); rintro e w3 ⟨rfl, t0, t1, t2, t3, t4, t5, t6, t7, t8, t9, t10, t11, t12, t13, t14, t15, t16, t17, t18, t19, t20, t21, t22, t23, t24, t25⟩) | (go_at_call 17; (with_reducible refine Calls.mono (K3.out _ ?_) ?_); (first | exact ⟨t0, t1, t2, t3, t4, t5, t6, t7, t8, t9, t10, t11, t12, t13, t14, t15, t16, t17, t18, t19, t20, t21, t22, t23, t24, t25⟩ | exact ⟨a0, a1, a2, a3, a4, b0, b1, b2, b3, b4, f0, f1, f2, f3, f4, x0, x1, x2, x3, x4, y0, y1, y2, y3, y4, hbd⟩); (try clear t0 t1 t2 t3 t4 t5 t6 t7 t8 t9 t10 t11 t12 t13 t14 t15 t16 t17 t18 t19 t20 t21 t22 t23 t24 t25); rintro e w3 ⟨rfl, t0, t1, t2, t3, t4, t5, t6, t7, t8, t9, t10, t11, t12, t13, t14, t15, t16, t17, t18, t19, t20, t21, t22, t23, t24, t25⟩) | (go_at_call 17; (with_reducible refine Calls.mono (K5.out _ ?_) ?_); (first | exact ⟨t0, t1, t2, t3, t4, t5, t6, t7, t8, t9, t10, t11, t12, t13, t14, t15, t16, t17, t18, t19, t20, t21, t22, t23, t24, t25⟩ | exact ⟨a0, a1, a2, a3, a4, b0, b1, b2, b3, b4, f0, f1, f2, f3, f4, x0, x1, x2, x3, x4, y0, y1, y2, y3, y4, hbd⟩); (try clear t0 t1 t2 t3 t4 t5 t6 t7 t8 t9 t10 t11 t12 t13 t14 t15 t16 t17 t18 t19 t20 t21 t22 t23 t24 t25); rintro e w3 ⟨rfl, t0, t1, t2, t3, t4, t5, t6, t7, t8, t9, t10, t11, t12, t13, t14, t15, t16, t17, t18, t19, t20, t21, t22, t23, t24, t25⟩) | (go_at_call 18; (with_reducible refine Calls.mono (K2.out _ ?_) ?_); (first | exact ⟨t0, t1, t2, t3, t4, t5, t6, t7, t8, t9, t10, t11, t12, t13, t14, t15, t16, t17, t18, t19, t20, t21, t22, t23, t24, t25⟩ | exact ⟨a0, a1, a2, a3, a4, b0, b1, b2, b3, b4, f0, f1, f2, f3, f4, x0, x1, x2, x3, x4, y0, y1, y2, y3, y4, hbd⟩); (try clear t0 t1 t2 t3 t4 t5 t6 t7 t8 t9 t10 t11 t12 t13 t14 t15 t16 t17 t18 t19 t20 t21 t22 t23 t24 t25); rintro e w3 ⟨rfl, t0, t1, t2, t3, t4, t5, t6, t7, t8, t9, t10, t11, t12, t13, t14, t15, t16, t17, t18, t19, t20, t21, t22, t23, t24, t25⟩) | (go_at_call 18; (with_reducible refine Calls.mono (K4.out _ ?_) ?_); (first | exact ⟨t0, t1, t2, t3, t4, t5, t6, t7, t8, t9, t10, t11, t12, t13, t14, t15, t16, t17, t18, t19, t20, t21, t22, t23, t24, t25⟩ | exact ⟨a0, a1, a2, a3, a4, b0, b1, b2, b3, b4, f0, f1, f2, f3, f4, x0, x1, x2, x3, x4, y0, y1, y2, y3, y4, hbd⟩); (try clear t0 t1 t2 t3 t4 t5 t6 t7 t8 t9 t10 t11 t12 t13 t14 t15 t16 t17 t18 t19 t20 t21 t22 t23 t24 t25); rintro e w3 ⟨rfl, t0, t1, t2, t3, t4, t5, t6, t7, t8, t9, t10, t11, t12, t13, t14, t15, t16, t17, t18, t19, t20, t21, t22, t23, t24, t25⟩) | (go_at_call 19; (with_reducible refine Calls.mono (K6.out _ ?_) ?_); (first | exact ⟨t0, t1, t2, t3, t4, t5, t6, t7, t8, t9, t10, t11, t12, t13, t14, t15, t16, t17, t18, t19, t20, t21, t22, t23, t24, t25⟩ | exact ⟨a0, a1, a2, a3, a4, b0, b1, b2, b3, b4, f0, f1, f2, f3, f4, x0, x1, x2, x3, x4, y0, y1, y2, y3, y4, hbd⟩); (try clear t0 t1 t2 t3 t4 t5 t6 t7 t8 t9 t10 t11 t12 t13 t14 t15 t16 t17 t18 t19 t20 t21 t22 t23 t24 t25); rintro e w3 ⟨rfl, t0, t1, t2, t3, t4, t5, t6, t7, t8, t9, t10, t11, t12, t13, t14, t15, t16, t17, t18, t19, t20, t21, t22, t23, t24, t25⟩) | (go_at_call 20; (with_reducible refine Calls.mono (K7.out _ ?_) ?_); (first | exact ⟨t0, t1, t2, t3, t4, t5, t6, t7, t8, t9, t10, t11, t12, t13, t14, t15, t16, t17, t18, t19, t20, t21, t22, t23, t24, t25⟩ | exact ⟨a0, a1, a2, a3, a4, b0, b1, b2, b3, b4, f0, f1, f2, f3, f4, x0, x1, x2, x3, x4, y0, y1, y2, y3, y4, hbd⟩); (try clear t0 t1 t2 t3 t4 t5 t6 t7 t8 t9 t10 t11 t12 t13 t14 t15 t16 t17 t18 t19 t20 t21 t22 t23 t24 t25); rintro e w3 ⟨rfl, t0, t1, t2, t3, t4, t5, t6, t7, t8, t9, t10, t11, t12, t13, t14, t15, t16, t17, t18, t19, t20, t21, t22, t23, t24, t25⟩) | (go_at_call 21; (with_reducible refine Calls.mono (K8.out _ ?_) ?_); (first | exact ⟨t0, t1, t2, t3, t4, t5, t6, t7, t8, t9, t10, t11, t12, t13, t14, t15, t16, t17, t18, t19, t20, t21, t22, t23, t24, t25⟩ | exact ⟨a0, a1, a2, a3, a4, b0, b1, b2, b3, b4, f0, f1, f2, f3, f4, x0, x1, x2, x3, x4, y0, y1, y2, y3, y4, hbd⟩); (try clear t0 t1 t2 t3 t4 t5 t6 t7 t8 t9 t10 t11 t12 t13 t14 t15 t16 t17 t18 t19 t20 t21 t22 t23 t24 t25); rintro e w3 ⟨rfl, t0, t1, t2, t3, t4, t5, t6, t7, t8, t9, t10, t11, t12, t13, t14, t15, t16, t17, t18, t19, t20, t21, t22, t23, t24, t25⟩) | (go_at_call 22; (with_reducible refine Calls.mono (K9.out _ ?_) ?_); (first | exact ⟨t0, t1, t2, t3, t4, t5, t6, t7, t8, t9, t10, t11, t12, t13, t14, t15, t16, t17, t18, t19, t20, t21, t22, t23, t24, t25⟩ | exact ⟨a0, a1, a2, a3, a4, b0, b1, b2, b3, b4, f0, f1, f2, f3, f4, x0, x1, x2, x3, x4, y0, y1, y2, y3, y4, hbd⟩); (try clear t0 t1 t2 t3 t4 t5 t6 t7 t8 t9 t10 t11 t12 t13 t14 t15 t16 t17 t18 t19 t20 t21 t22 t23 t24 t25); rintro e w3 ⟨rfl, t0, t1, t2, t3, t4, t5, t6, t7, t8, t9, t10, t11, t12, t13, t14, t15, t16, t17, t18, t19, t20, t21, t22, t23, t24, t25⟩) | (go_at_call 23; (with_reducible refine Calls.mono (K10.out _ ?_) ?_); (first | exact ⟨t0, t1, t2, t3, t4, t5, t6, t7, t8, t9, t10, t11, t12, t13, t14, t15, t16, t17, t18, t19, t20, t21, t22, t23, t24, t25⟩ | exact ⟨a0, a1, a2, a3, a4, b0, b1, b2, b3, b4, f0, f1, f2, f3, f4, x0, x1, x2, x3, x4, y0, y1, y2, y3, y4, hbd⟩); (try clear t0 t1 t2 t3 t4 t5 t6 t7 t8 t9 t10 t11 t12 t13 t14 t15 t16 t17 t18 t19 t20 t21 t22 t23 t24 t25); rintro e w3 ⟨rfl, t0, t1, t2, t3, t4, t5, t6, t7, t8, t9, t10, t11, t12, t13, t14, t15, t16, t17, t18, t19, t20, t21, t22, t23, t24, t25⟩) | (go_at_call 24; (with_reducible refine Calls.mono (K11.out _ ?_) ?_); (first | exact ⟨t0, t1, t2, t3, t4, t5, t6, t7, t8, t9, t10, t11, t12, t13, t14, t15, t16, t17, t18, t19, t20, t21, t22, t23, t24, t25⟩ | exact ⟨a0, a1, a2, a3, a4, b0, b1, b2, b3, b4, f0, f1, f2, f3, f4, x0, x1, x2, x3, x4, y0, y1, y2, y3, y4, hbd⟩); (try clear t0 t1 t2 t3 t4 t5 t6 t7 t8 t9 t10 t11 t12 t13 t14 t15 t16 t17 t18 t19 t20 t21 t22 t23 t24 t25); rintro e w3 ⟨rfl, t0, t1, t2, t3, t4, t5, t6, t7, t8, t9, t10, t11, t12, t13, t14, t15, t16, t17, t18, t19, t20, t21, t22, t23, t24, t25⟩))
            all_goals
              have HB9 := hide (V.step HBY.out t25)
              have HH9 := hide (HHY.out.kept t25)
              clear t0 t1 t2 t3 t4 t5 t6 t7 t8 t9 t10 t11 t12 t13 t14 t15 t16 t17 t18 t19 t20 t21 t22 t23 t24 t25
              go_wp2_with fail
              go_meet
              case rel => exact ⟨by simp, HH9.out, HB9.out⟩
        case rest =>
          obtain ⟨rfl, hH, hB⟩ := hcut
          have HH := hide hH
          have HB := hide hB
          clear hH hB HBY HHY HFE HME HFX HMX HMY HMV HMO HFY
          obtain ⟨i2, hi2, hx0, hx1, hx2⟩ := info_parts info37
          have HS := hide (V.srcF (w0 := wc) (Bs := 0) (S := 0) (m := m) (cap := cl) (Below.refl _ _) (.inl HH.out.2.2.2.2.1))
          go_wp2_with (at_builtin; go_must (refine V.wpList_copy _ rfl (.tmp 169) 32 rfl 37 i2 (.agg #[.string ⟨#[]⟩, .int .i64 0, .int .i64 0, .string ⟨#[]⟩, .slice none 0 0, .slice none 0 0]) 6 96 Tryd.underlying32 hi2 hx0 hx1 hx2 rfl (by decide) al l.length cl rfl HS.out (by unfold maxLen; omega) (by omega) ?_); intro ao1 cap1 w1 hC; have HC := hide hC; clear hC)
          have HF := hide (V.copied_fields (cap1 := cap1) HH.out.2.2.2.2.1 HC.out)
          have HB1 := hide (V.step HB.out HC.out.1)
          have HH1 := hide (HH.out.kept HC.out.1)
          clear HC HS HH HB hx0 hx1 hx2 hi2
          refine (of_any m _ (.slice ao1 l.length cap1) l HF.out h12 HBR.out).mono ?_
          rintro e w2 ⟨⟨e0, e1, e2, e3, e4, rfl, hMe⟩, hb2⟩
          have KR := hide (fun (w' : World) hf => record_any m w' (.slice al l.length cl) l hf h12 HBR.out)
          have HBV : Hid (V.bulk (m + 1) (V.recV m l) ≤ 2000000) := by
            show _ ≤ _
            rw [V.recV]
            split
            · exact HBR.out
            · rw [V.bulk]; exact Nat.le_of_ble_eq_true rfl
          generalize V.recV m l = rv at *
          generalize V.recF m l = rf at *
          obtain ⟨q1, q2, q3, q4, rfl, rfl, rfl, rfl, rfl⟩ := hMe.form5
          have HB2 := hide (V.step HB1.out hb2)
          have HH2 := hide (HH1.out.kept hb2)
          have HM2 := hide hMe
          clear hb2 HB1 HH1 hMe HF HBR
          have hbx : Below w2.heap.size w2 (w2.alloc (.cells #[.int .i64 rv.kind, .int .i64 rv.n, .string rv.s, .slice q1 rv.l.length q2, .slice q3 rv.f.length q4] 34)) := (Below.refl _ _).alloc (Nat.le_refl _) _
          have HFX := hide (V.five_new w2 (.int .i64 rv.kind) (.int .i64 rv.n) (.string rv.s) (.slice q1 rv.l.length q2) (.slice q3 rv.f.length q4))
          have HBX := hide (V.step HB2.out hbx)
          have HHX := hide (HH2.out.kept hbx)
          have HMX := hide (V.Mem.kept _ HM2.out hbx)
          clear hbx HB2 HH2 HM2
          go_wp2_with fail
          generalize w2.alloc (.cells #[.int .i64 rv.kind, .int .i64 rv.n, .string rv.s, .slice q1 rv.l.length q2, .slice q3 rv.f.length q4] 34) = wX at *
          generalize w2.heap.size = gX at *
          refine Calls.mono (KR.out _ HHX.out.2.2.2.2.1) ?_
          rintro e w3 ⟨⟨e0, e1, e2, e3, e4, rfl, hMe⟩, hb3⟩
          obtain ⟨r1, r2, r3, r4, rfl, rfl, rfl, rfl, rfl⟩ := hMe.form5
          have HB3 := hide (V.step HBX.out hb3)
          have HF3 := hide (HFX.out.kept hb3)
          have HN3 := hide (V.Mem.kept _ HMX.out hb3)
          have HMT := hide hMe
          clear hb3 HBX HHX HFX HMX hMe KR
          have hby : Below w3.heap.size w3 (w3.alloc (.cells #[.int .i64 rv.kind, .int .i64 rv.n, .string rv.s, .slice r1 rv.l.length r2, .slice r3 rv.f.length r4] 34)) := (Below.refl _ _).alloc (Nat.le_refl _) _
          have HFY := hide (V.five_new w3 (.int .i64 rv.kind) (.int .i64 rv.n) (.string rv.s) (.slice r1 rv.l.length r2) (.slice r3 rv.f.length r4))
          have HBY := hide (V.step HB3.out hby)
          have HFX := hide (HF3.out.kept hby)
          have HMX := hide (V.Mem.kept _ HN3.out hby)
          have HMY := hide (V.Mem.kept _ HMT.out hby)
          clear hby HB3 HF3 HN3 HMT
          go_wp2_with fail
          generalize w3.alloc (.cells #[.int .i64 rv.kind, .int .i64 rv.n, .string rv.s, .slice r1 rv.l.length r2, .slice r3 rv.f.length r4] 34) = wY at *
          generalize w3.heap.size = gY at *
          refine (same_of rf _).mono ?_
          rintro e w7 ⟨rfl, hw⟩
          rw [hw]
          clear hw w7
          obtain ⟨x0, x1, x2, x3, x4⟩ := HFX.out
          obtain ⟨y0, y1, y2, y3, y4⟩ := HFY.out
          go_wp2_with fail
          refine (refAlike_any sm hsm (m + 1) _ rv rv _ _ _ _ _ _ _ _ _ _ HMX.out HMY.out HBV.out HBV.out).mono ?_
          rintro e w8 ⟨rfl, hb8⟩
          rw [hsm.yes rv rv rfl]
          have HB8 := hide (V.step HBY.out hb8)
          go_wp2_with fail
          go_ret
          exact ⟨rfl, HB8.out⟩
end Go.Proofs.YtpoebpknjjfddaaDoor
