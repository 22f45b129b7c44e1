/- For CloudSays: the law's walk. -/
import Derived.Test.YtlmkpjdaoinmoaaKR
namespace Go.Proofs.Ytlmkpjdaoinmoaa
open Go.RowKit
attribute [local go_sem ↓] Go.wp_at_zero Go.wp_at_succ
theorem info3 : (Try.prog.info? 3).map (fun i => (i.zero, i.size, i.bytes)) = some (some (.int .i64 0), 1, 8) := by kernel_rfl
theorem uInts : Try.prog.underlying 59 = some (.slice 3) := by kernel_rfl
set_option maxRecDepth 100000 in
set_option maxHeartbeats 16000000 in
theorem cloudSays_any (hsort : SortC) (m : Nat) (w : World) (q : Int) (v : Value) (X : List Ac) (h : A.Acts (m + 1) w v X) :
    Calls Try.prog 3 #[.int .i64 q, v] w fun e w' => e = .returned (.bool true) ∧ Below w.heap.size w w' := by
  obtain ⟨ao, cap, rfl⟩ := h.shape
  have HA := hide h
  have HSO := hide hsort
  clear h hsort
  go_enter Try.func3, Try.ntmps3
  go_wp2_with fail
  refine (rains_any HSO.out w).mono ?_
  rintro o w1 ⟨rfl, hb1⟩
  have HB1 := hide hb1
  have HLA := hide (lightActs_any 80 20000 (m + 1) w1 _ X (HA.out.kept hb1))
  clear hb1
  go_wp2_with fail
  refine HLA.out.mono ?_
  rintro o w2 ⟨⟨bb, rfl, hbb⟩, hb2⟩
  have HB2 := hide (HB1.out.trans (hb2.mono HB1.out.size))
  clear hb2 HLA HB1
  cases bb with
  | false =>
    go_wp2_with fail
    go_ret
    exact ⟨rfl, HB2.out⟩
  | true =>
    have hX80 := hbb rfl
    clear hbb
    go_wp2_with fail
    refine (new_any w2).mono ?_
    rintro o w3 ⟨g, rfl, hD3, hf3⟩
    have HB3 := hide (HB2.out.trans (hf3.below HB2.out.size (fun _ e => e.elim)))
    by_cases hq : q < 0 ∨ 40 < q
    · have HCB := hide (cbad_any w3 (.pointer (some ⟨g, 0, none⟩)) q hq)
      have HSM := hide (same_any 1 w3)
      rw [show V.errOf 1 = .iface 80 (.int .i64 1) from rfl, show ((1 : Nat) : Int) = 1 from rfl] at HSM
      clear hD3 hf3 HB2
      go_wp2_with fail
      refine HCB.out.mono ?_
      rintro o w4 ⟨rfl, rfl⟩
      by_cases h0 : q < 0
      · go_wp2_with fail
        refine HSM.out.mono ?_
        rintro o w5 ⟨rfl, rfl⟩
        go_wp2_with fail
        go_ret
        exact ⟨rfl, HB3.out⟩
      · have h40 : (40 : Int) < q := by omega
        go_wp2_with fail
        refine HSM.out.mono ?_
        rintro o w5 ⟨rfl, rfl⟩
        go_wp2_with fail
        go_ret
        exact ⟨rfl, HB3.out⟩
    · have hq0 : ¬ q < 0 := by omega
      have hq4 : ¬ (40 : Int) < q := by omega
      have hw2 := HB2.out.size
      obtain ⟨B0, hBe⟩ : ∃ B : Nat → Prop, B = fun x => w2.heap.size ≤ x ∧ x < w3.heap.size := ⟨_, rfl⟩
      have hd3 : Disk w3 B0 g Dk.new := by rw [hBe]; exact hD3.clip
      have hB3 : ∀ x, B0 x → x < w3.heap.size := fun x hx => by rw [hBe] at hx; exact hx.2
      have HBL : Hid (∀ x, B0 x → w.heap.size ≤ x) := fun x hx => by rw [hBe] at hx; exact Nat.le_trans hw2 hx.1
      have HCN := hide (cnew_any w3 B0 g Dk.new q hd3 hB3 (by omega))
      have HBB := hide hB3
      clear hD3 hf3 hBe hd3 hB3 hw2 hq HB2
      go_wp2_with fail
      refine HCN.out.mono ?_
      rintro o w4 ⟨gc, bt, bd, bf, rfl, hcl4, hlo, hf4⟩
      have hL4 : ∀ x, Cl.own B0 gc bt bd bf x → w.heap.size ≤ x := fun x hx => by
        have hz := HB3.out.size
        rcases hx with hx | rfl | rfl | rfl | rfl
        · exact HBL.out x hx
        · omega
        · omega
        · omega
        · omega
      have HST := hide (start m w4 _ B0 g gc bt bd bf q hcl4 (fun x hx => Nat.lt_of_lt_of_le (HBB.out x hx) hf4.size) w.heap.size hL4 (Nat.le_trans HB3.out.size hf4.size) rfl)
      have HB4 := hide (HB3.out.trans (hf4.below HB3.out.size (fun _ e => e.elim)))
      clear hcl4 hlo hf4 hL4 HCN HBL HBB HB3
      go_wp2_with fail
      refine (newDisk_any w4).mono ?_
      rintro o w5 ⟨rfl, rfl⟩
      go_wp2_with fail
      refine (newCloud_any (w4.alloc (rdblk (-1) false 0)) w4.heap.size q).mono ?_
      rintro o w6 ⟨rfl, hw6⟩
      rw [← hw6] at HST
      have HJ6 := hide HST.out.1
      have HB6 := hide (HB4.out.trans (HST.out.2.below HB4.out.size (fun _ e => e.elim)))
      rw [World.size_alloc]
      clear HST hw6
      generalize w4.heap.size + 1 = rc at *
      generalize w4.heap.size = rd at *
      clear HB4
      go_wp2_with fail
      go_loopw [11] (fun vi wx => ∃ i : Nat, i ≤ X.length ∧ vi = .int .i64 i ∧ Jx m w.heap.size wx g gc bt bd bf rd rc q i ∧ Below w.heap.size w wx) (fun vi _ => X.length - (intOf vi).toNat)
      case atStart => exact ⟨0, Nat.zero_le _, rfl, HJ6.out, HB6.out⟩
      case round =>
        clear HJ6 HB6
        obtain ⟨wx, hwx⟩ : ∃ z, z = wr := ⟨_, rfl⟩
        subst hwx
        obtain ⟨i, hi, rfl, hjx, hbx⟩ := hrel
        by_cases hlt : i < X.length
        · obtain ⟨b1, off1, cap1, x, c5, c6, c7, c8, c9, an, cn, e1, hx, g1, g2, g3, g4, g4b, g5, g6, y0, y1, y2, y3, y4, y5, y6, y7, y8, y9, y10⟩ := HA.out.at i hlt
          replace y0 := kept_cell hbx y0
          replace y1 := kept_cell hbx y1
          replace y2 := kept_cell hbx y2
          replace y3 := kept_cell hbx y3
          replace y4 := kept_cell hbx y4
          replace y5 := kept_cell hbx y5
          replace y6 := kept_cell hbx y6
          replace y7 := kept_cell hbx y7
          replace y8 := kept_cell hbx y8
          replace y9 := kept_cell hbx y9
          replace y10 := kept_cell hbx y10
          simp only [Value.slice.injEq] at e1
          obtain ⟨rfl, _, rfl⟩ := e1
          obtain ⟨al, cl, af, cf, rfl, rfl, rfl, rfl, rfl⟩ := g4.form
          obtain ⟨B, P, D, given, calls, Q, Di, Fa, tv, kv, fv, s, hm, ht, hLz⟩ := hjx
          obtain ⟨w8, hw8⟩ : ∃ w8, w8 = wx.alloc (.cells #[.string x.kind, .string x.s, .string x.t, .int .i64 x.a, .int .i64 x.b, .int .i64 x.v.kind, .int .i64 x.v.n, .string x.v.s, .slice al x.v.l.length cl, .slice af x.v.f.length cf, .slice an x.nn cn] 43) := ⟨_, rfl⟩
          have hf8 : Fr wx w8 (fun _ => False) := by rw [hw8]; exact (Fr.refl _ _).alloc _
          have hb8 : w8.heap[wx.heap.size]? = some (.cells #[.string x.kind, .string x.s, .string x.t, .int .i64 x.a, .int .i64 x.b, .int .i64 x.v.kind, .int .i64 x.v.n, .string x.v.s, .slice al x.v.l.length cl, .slice af x.v.f.length cf, .slice an x.nn cn] 43 (0, 0)) := by rw [hw8]; exact heap_alloc_new _ _
          have hB8 := hbx.trans (hf8.below hbx.size (fun _ e => e.elim))
          have HMX : Hid (V.MemX (Zs B P gc bt bd bf) (m + 1) w8 x.v [.int .i64 x.v.kind, .int .i64 x.v.n, .string x.v.s, .slice al x.v.l.length cl, .slice af x.v.f.length cf]) := V.MemX.old g4 hB8 hLz
          have HBK := hide g4b
          have HTS := hide g3
          have HKB : Hid (¬ Zs B P gc bt bd bf wx.heap.size) := fun e => absurd (hm.lt _ e) (Nat.lt_irrefl _)
          have HM8 := hide (hm.fr hf8)
          have HTI := hide ht
          have HLZ := hide hLz
          have HB8 := hide hB8
          have HK8 := hide hb8
          have HLW : Hid (w.heap.size ≤ w8.heap.size) := hB8.size
          have hi80 : i + 1 ≤ 800 := by omega
          clear hm ht hLz hbx hx g1 g2 g3 g4 g4b g5 g6 hf8 hB8
          obtain ⟨tg, htg⟩ : ∃ tg : Tg, tg = { id := 0, kind := ⟨#[]⟩, k := x.v.kind, n := x.v.n, s := x.v.s, la := al, ln := x.v.l.length, lc := cl, fa := af, fn := x.v.f.length, fc := cf } := ⟨_, rfl⟩
          have HTG : Hid (a5 tg = .agg #[.int .i64 x.v.kind, .int .i64 x.v.n, .string x.v.s, .slice al x.v.l.length cl, .slice af x.v.f.length cf] ∧ tg.cells = [.int .i64 x.v.kind, .int .i64 x.v.n, .string x.v.s, .slice al x.v.l.length cl, .slice af x.v.f.length cf]) := by rw [htg]; exact ⟨rfl, rfl⟩
          clear htg
          have z0 := cell_of_block hb8 0 _ rfl
          generalize hba : wx.heap.size = ba at *
          clear hb8
          go_upto_block 2 with fail
          rw [← hw8]
          clear hw8 hba y0 y1 y2 y3 y4 y5 y6 y7 y8 y9 y10
          go_cut [13, 14, 15, 16, 17, 18, 19, 20, 21, 22, 23, 24, 25] from 64 to 265 (fun vok _ _ _ _ _ _ _ _ _ _ _ _ wy => ∃ wz, wz = wy ∧ vok = .bool true ∧ Jx m w.heap.size wz g gc bt bd bf rd rc q (i + 1) ∧ Below w.heap.size w wz)
          case first =>
            cases hkcreate : (x.kind.toList == [99, 114, 101, 97, 116, 101]) with
            | true =>
              as_aux_lemma =>
                have HC := hide (create_arm HM8.out HTI.out hi80 HLZ.out HLW.out ba HKB.out x.s x.t x.v tg (by rw [HTG.out.2]; exact HMX.out) HBK.out HTS.out)
                rw [HTG.out.1] at HC
                have z1 := cell_of_block HK8.out 1 _ rfl
                have z2 := cell_of_block HK8.out 2 _ rfl
                have z5 := cell_of_block HK8.out 5 _ rfl
                have z6 := cell_of_block HK8.out 6 _ rfl
                have z7 := cell_of_block HK8.out 7 _ rfl
                have z8 := cell_of_block HK8.out 8 _ rfl
                have z9 := cell_of_block HK8.out 9 _ rfl
                go_wp2_with fail
                refine HC.out.mono ?_
                rintro o w9 ⟨r, e, rfl, hf9, hc9⟩
                have hk9 := (hf9.block _ (Array.getElem?_eq_some_iff.1 HK8.out).1 (fun e => e.2 rfl)).trans HK8.out
                have HC9 := hide hc9
                clear hc9 HC z1 z2 z5 z6 z7 z8 z9
                obtain ⟨ev, hev⟩ : ∃ ev, ev = V.errOf e := ⟨_, rfl⟩
                rw [← hev]
                have HSM := hide (fun W => same_any e W)
                rw [← hev] at HSM
                clear hev
                have z1 := cell_of_block hk9 1 _ rfl
                have z2 := cell_of_block hk9 2 _ rfl
                have z5 := cell_of_block hk9 5 _ rfl
                have z6 := cell_of_block hk9 6 _ rfl
                have z7 := cell_of_block hk9 7 _ rfl
                have z8 := cell_of_block hk9 8 _ rfl
                have z9 := cell_of_block hk9 9 _ rfl
                clear hk9 hf9
                go_wp2_with fail
                refine HC9.out.mono ?_
                rintro o w10 ⟨rfl, hj10, hf10⟩
                have HJ10 := hide hj10
                have HB10 := hide (HB8.out.trans (hf10.below HB8.out.size (fun c e => e.1)))
                clear hj10 hf10 HC9 z1 z2 z5 z6 z7 z8 z9
                go_wp2_with fail
                refine (HSM.out _).mono ?_
                rintro o w11 ⟨rfl, rfl⟩
                go_wp2_with fail
                go_meet
                exact ⟨_, rfl, rfl, HJ10.out, HB10.out⟩
            | false =>
              cases hkupdate : (x.kind.toList == [117, 112, 100, 97, 116, 101]) with
              | true =>
                as_aux_lemma =>
                  have HC := hide (update_arm HM8.out HTI.out hi80 HLZ.out HLW.out ba HKB.out x.s x.t x.a x.v tg (by rw [HTG.out.2]; exact HMX.out) HBK.out HTS.out)
                  rw [HTG.out.1] at HC
                  have z1 := cell_of_block HK8.out 1 _ rfl
                  have z2 := cell_of_block HK8.out 2 _ rfl
                  have z3 := cell_of_block HK8.out 3 _ rfl
                  have z5 := cell_of_block HK8.out 5 _ rfl
                  have z6 := cell_of_block HK8.out 6 _ rfl
                  have z7 := cell_of_block HK8.out 7 _ rfl
                  have z8 := cell_of_block HK8.out 8 _ rfl
                  have z9 := cell_of_block HK8.out 9 _ rfl
                  go_wp2_with fail
                  refine HC.out.mono ?_
                  rintro o w9 ⟨r, e, rfl, hf9, hc9⟩
                  have hk9 := (hf9.block _ (Array.getElem?_eq_some_iff.1 HK8.out).1 (fun e => e.2 rfl)).trans HK8.out
                  have HC9 := hide hc9
                  clear hc9 HC z1 z2 z3 z5 z6 z7 z8 z9
                  have z1 := cell_of_block hk9 1 _ rfl
                  have z3 := cell_of_block hk9 3 _ rfl
                  have z5 := cell_of_block hk9 5 _ rfl
                  have z6 := cell_of_block hk9 6 _ rfl
                  have z7 := cell_of_block hk9 7 _ rfl
                  have z8 := cell_of_block hk9 8 _ rfl
                  have z9 := cell_of_block hk9 9 _ rfl
                  clear hk9 hf9
                  go_wp2_with fail
                  refine HC9.out.mono ?_
                  rintro o w10 ⟨rfl, hj10, hf10⟩
                  have HJ10 := hide hj10
                  have HB10 := hide (HB8.out.trans (hf10.below HB8.out.size (fun c e => e.1)))
                  clear hj10 hf10 HC9 z1 z3 z5 z6 z7 z8 z9
                  obtain ⟨ev, hev⟩ : ∃ ev, ev = V.errOf e := ⟨_, rfl⟩
                  rw [← hev]
                  have HSM := hide (fun W => same_any e W)
                  rw [← hev] at HSM
                  clear hev
                  go_wp2_with fail
                  refine (HSM.out _).mono ?_
                  rintro o w11 ⟨rfl, rfl⟩
                  go_wp2_with fail
                  go_meet
                  exact ⟨_, rfl, rfl, HJ10.out, HB10.out⟩
              | false =>
                cases hkdelete : (x.kind.toList == [100, 101, 108, 101, 116, 101]) with
                | true =>
                  as_aux_lemma =>
                    have HC := hide (delete_arm HM8.out HTI.out hi80 HLZ.out HLW.out ba HKB.out x.s x.t x.a tg HTS.out)
                    rw [HTG.out.1] at HC
                    have z1 := cell_of_block HK8.out 1 _ rfl
                    have z2 := cell_of_block HK8.out 2 _ rfl
                    have z3 := cell_of_block HK8.out 3 _ rfl
                    have z5 := cell_of_block HK8.out 5 _ rfl
                    have z6 := cell_of_block HK8.out 6 _ rfl
                    have z7 := cell_of_block HK8.out 7 _ rfl
                    have z8 := cell_of_block HK8.out 8 _ rfl
                    have z9 := cell_of_block HK8.out 9 _ rfl
                    go_wp2_with fail
                    refine HC.out.mono ?_
                    rintro o w9 ⟨r, e, rfl, hf9, hc9⟩
                    have hk9 := (hf9.block _ (Array.getElem?_eq_some_iff.1 HK8.out).1 (fun e => e.2 rfl)).trans HK8.out
                    have HC9 := hide hc9
                    clear hc9 HC z1 z2 z3 z5 z6 z7 z8 z9
                    have z1 := cell_of_block hk9 1 _ rfl
                    have z3 := cell_of_block hk9 3 _ rfl
                    clear hk9 hf9
                    go_wp2_with fail
                    refine HC9.out.mono ?_
                    rintro o w10 ⟨rfl, hj10, hf10⟩
                    have HJ10 := hide hj10
                    have HB10 := hide (HB8.out.trans (hf10.below HB8.out.size (fun c e => e.1)))
                    clear hj10 hf10 HC9 z1 z3
                    obtain ⟨ev, hev⟩ : ∃ ev, ev = V.errOf e := ⟨_, rfl⟩
                    rw [← hev]
                    have HSM := hide (fun W => same_any e W)
                    rw [← hev] at HSM
                    clear hev
                    go_wp2_with fail
                    refine (HSM.out _).mono ?_
                    rintro o w11 ⟨rfl, rfl⟩
                    go_wp2_with fail
                    go_meet
                    exact ⟨_, rfl, rfl, HJ10.out, HB10.out⟩
                | false =>
                  cases hkread : (x.kind.toList == [114, 101, 97, 100]) with
                  | true =>
                    as_aux_lemma =>
                      have HC := hide (read_arm2 HM8.out HTI.out x.a)
                      have z3 := cell_of_block HK8.out 3 _ rfl
                      go_wp2_with fail
                      refine HC.out.mono ?_
                      rintro o w9 ⟨t1, e, rfl, hf9, hc9⟩
                      obtain ⟨ev, hev⟩ : ∃ ev, ev = V.errOf e := ⟨_, rfl⟩
                      rw [← hev]
                      have HSM := hide (fun W => same_any e W)
                      rw [← hev] at HSM
                      clear hev HC z3
                      unfold Tg.val
                      obtain ⟨wb, hwb⟩ : ∃ wb, wb = w9.alloc (.cells #[.int .i64 t1.id, .string t1.kind, .int .i64 t1.k, .int .i64 t1.n, .string t1.s, .slice t1.la t1.ln t1.lc, .slice t1.fa t1.fn t1.fc] 51) := ⟨_, rfl⟩
                      have hfb : Fr w9 wb (fun _ => False) := by rw [hwb]; exact (Fr.refl _ _).alloc _
                      have hbb : wb.heap[w9.heap.size]? = some (.cells #[.int .i64 t1.id, .string t1.kind, .int .i64 t1.k, .int .i64 t1.n, .string t1.s, .slice t1.la t1.ln t1.lc, .slice t1.fa t1.fn t1.fc] 51 (0, 0)) := by rw [hwb]; exact heap_alloc_new _ _
                      have HC9 := hide (hc9 wb hfb)
                      have HF9 := hide (hf9.trans hfb (fun _ _ e => e))
                      have hk9 := (hf9.block _ (Array.getElem?_eq_some_iff.1 HK8.out).1 (fun e => e)).trans HK8.out
                      have z3 := cell_of_block hk9 3 _ rfl
                      have z3b : ∀ ob, (w9.alloc ob).cell? ⟨ba, 3, none⟩ = some (.int .i64 x.a) := fun ob => kept_cell ((Below.refl _ _).alloc (Nat.le_refl _) ob) z3
                      have HBB := hide hbb
                      clear hc9 hfb hf9 hk9 hbb
                      go_wp2_with fail
                      rw [← hwb]
                      clear hwb z3 z3b
                      refine HC9.out.mono ?_
                      rintro o w10 ⟨t2, rfl, hf10, hc10⟩
                      obtain ⟨wc, hwc⟩ : ∃ wc, wc = w10.alloc (.cells #[.int .i64 t2.id, .string t2.kind, .int .i64 t2.k, .int .i64 t2.n, .string t2.s, .slice t2.la t2.ln t2.lc, .slice t2.fa t2.fn t2.fc] 51) := ⟨_, rfl⟩
                      have hfc : Fr w10 wc (fun _ => False) := by rw [hwc]; exact (Fr.refl _ _).alloc _
                      have hcc : wc.heap[w10.heap.size]? = some (.cells #[.int .i64 t2.id, .string t2.kind, .int .i64 t2.k, .int .i64 t2.n, .string t2.s, .slice t2.la t2.ln t2.lc, .slice t2.fa t2.fn t2.fc] 51 (0, 0)) := by rw [hwc]; exact heap_alloc_new _ _
                      have HC10 := hide (hc10 wc hfc)
                      have HF10 := hide ((HF9.out.trans hf10 (fun _ _ e => e)).trans hfc (fun _ _ e => e))
                      have hbc : wc.heap[w9.heap.size]? = some (.cells #[.int .i64 t1.id, .string t1.kind, .int .i64 t1.k, .int .i64 t1.n, .string t1.s, .slice t1.la t1.ln t1.lc, .slice t1.fa t1.fn t1.fc] 51 (0, 0)) := ((hf10.trans hfc (fun _ _ e => e)).block _ (Array.getElem?_eq_some_iff.1 HBB.out).1 (fun e => e)).trans HBB.out
                      have b0 := cell_of_block hbc 0 _ rfl
                      have d0 := cell_of_block hcc 0 _ rfl
                      rw [hwc] at b0 d0
                      have b1 := cell_of_block hbc 1 _ rfl
                      have d1 := cell_of_block hcc 1 _ rfl
                      rw [hwc] at b1 d1
                      have b2 := cell_of_block hbc 2 _ rfl
                      have d2 := cell_of_block hcc 2 _ rfl
                      rw [hwc] at b2 d2
                      have b3 := cell_of_block hbc 3 _ rfl
                      have d3 := cell_of_block hcc 3 _ rfl
                      rw [hwc] at b3 d3
                      have b4 := cell_of_block hbc 4 _ rfl
                      have d4 := cell_of_block hcc 4 _ rfl
                      rw [hwc] at b4 d4
                      have b5 := cell_of_block hbc 5 _ rfl
                      have d5 := cell_of_block hcc 5 _ rfl
                      rw [hwc] at b5 d5
                      have b6 := cell_of_block hbc 6 _ rfl
                      have d6 := cell_of_block hcc 6 _ rfl
                      rw [hwc] at b6 d6
                      clear hc10 hf10 hfc hcc hbc HC9 HF9 HBB
                      unfold Tg.val
                      go_wp2_with fail
                      rw [← hwc]
                      clear hwc b0 d0 b1 d1 b2 d2 b3 d3 b4 d4 b5 d5 b6 d6
                      refine HC10.out.mono ?_
                      rintro o w11 ⟨rfl, hf11⟩
                      have HF11 := hide (HF10.out.trans hf11 (fun _ _ e => e))
                      clear hf11 HC10 HF10
                      go_wp2_with fail
                      refine (HSM.out _).mono ?_
                      rintro o w12 ⟨rfl, rfl⟩
                      have HJ10 := hide (HM8.out.fin0 HLZ.out HF11.out (HTI.out.more (Nat.le_succ i) hi80))
                      have HB10 := hide (HB8.out.trans (HF11.out.below HB8.out.size (fun _ e => e.elim)))
                      go_wp2_with fail
                      go_meet
                      exact ⟨_, rfl, rfl, HJ10.out, HB10.out⟩
                  | false =>
                    cases hklose : (x.kind.toList == [108, 111, 115, 101]) with
                    | true =>
                      as_aux_lemma =>
                        have HC := hide (lose_arm HM8.out HTI.out hi80 HLZ.out HLW.out ba HKB.out x.a)
                        have z3 := cell_of_block HK8.out 3 _ rfl
                        go_wp2_with fail
                        refine HC.out.mono ?_
                        rintro o w9 ⟨rfl, hf9, hc9⟩
                        have hk9 := (hf9.block _ (Array.getElem?_eq_some_iff.1 HK8.out).1 (fun e => e.2 rfl)).trans HK8.out
                        have HC9 := hide hc9
                        clear hc9 HC z3
                        have z3 := cell_of_block hk9 3 _ rfl
                        clear hk9 hf9
                        go_wp2_with fail
                        refine HC9.out.mono ?_
                        rintro o w10 ⟨rfl, hj10, hf10⟩
                        have HJ10 := hide hj10
                        have HB10 := hide (HB8.out.trans (hf10.below HB8.out.size (fun c e => e.1)))
                        clear hj10 hf10 HC9 z3
                        go_wp2_with fail
                        go_meet
                        exact ⟨_, rfl, rfl, HJ10.out, HB10.out⟩
                    | false =>
                      cases hkspoil : (x.kind.toList == [115, 112, 111, 105, 108]) with
                      | true =>
                        as_aux_lemma =>
                          have HC := hide (spoil_arm HM8.out HTI.out hi80 HLZ.out HLW.out ba HKB.out x.a x.v tg (by rw [HTG.out.2]; exact HMX.out) HBK.out)
                          rw [HTG.out.1] at HC
                          have z3 := cell_of_block HK8.out 3 _ rfl
                          have z5 := cell_of_block HK8.out 5 _ rfl
                          have z6 := cell_of_block HK8.out 6 _ rfl
                          have z7 := cell_of_block HK8.out 7 _ rfl
                          have z8 := cell_of_block HK8.out 8 _ rfl
                          have z9 := cell_of_block HK8.out 9 _ rfl
                          go_wp2_with fail
                          refine HC.out.mono ?_
                          rintro o w9 ⟨rfl, hf9, hc9⟩
                          have hk9 := (hf9.block _ (Array.getElem?_eq_some_iff.1 HK8.out).1 (fun e => e.2 rfl)).trans HK8.out
                          have HC9 := hide hc9
                          clear hc9 HC z3 z5 z6 z7 z8 z9
                          have z3 := cell_of_block hk9 3 _ rfl
                          have z5 := cell_of_block hk9 5 _ rfl
                          have z6 := cell_of_block hk9 6 _ rfl
                          have z7 := cell_of_block hk9 7 _ rfl
                          have z8 := cell_of_block hk9 8 _ rfl
                          have z9 := cell_of_block hk9 9 _ rfl
                          clear hk9 hf9
                          go_wp2_with fail
                          refine HC9.out.mono ?_
                          rintro o w10 ⟨rfl, hj10, hf10⟩
                          have HJ10 := hide hj10
                          have HB10 := hide (HB8.out.trans (hf10.below HB8.out.size (fun c e => e.1)))
                          clear hj10 hf10 HC9 z3 z5 z6 z7 z8 z9
                          go_wp2_with fail
                          go_meet
                          exact ⟨_, rfl, rfl, HJ10.out, HB10.out⟩
                      | false =>
                        cases hkfail : (x.kind.toList == [102, 97, 105, 108]) with
                        | true =>
                          as_aux_lemma =>
                            have HC := hide (fail_any w8 B g gc bt bd bf D q given calls _ Di Fa x.a HM8.out.cl)
                            have z3 := cell_of_block HK8.out 3 _ rfl
                            go_wp2_with fail
                            refine HC.out.mono ?_
                            rintro o w9 ⟨rfl, hcl9, hf9⟩
                            have hfo : Fr w8 w9 (Cl.own B gc bt bd bf) := hf9.weak (fun c _ e => .inr (.inr (.inr (.inr e))))
                            have hm9 := HM8.out.prog hcl9 hfo (fun _ hx => .inl hx)
                            have hk9 := (hfo.block _ (Array.getElem?_eq_some_iff.1 HK8.out).1 (fun e => HKB.out (.inl e))).trans HK8.out
                            obtain ⟨fa0, fc0, hfv⟩ := owns_shape hm9.r.f
                            subst hfv
                            have HM9 := hide hm9
                            have HFO := hide hfo
                            have HTF := hide (HTI.out.failed x.a hi80)
                            have hbx := HTI.out.bx
                            have hbn := HTI.out.bn
                            have y6 := cell_of_block hm9.r.c 6 _ rfl
                            have y6a : ∀ ob, (w9.alloc ob).cell? ⟨rc, 6, none⟩ = some (.slice fa0 s.fails.length fc0) := fun ob => kept_cell ((Below.refl _ _).alloc (Nat.le_refl _) ob) y6
                            have KG : Hid (∀ ob wA, (w9.alloc ob).drew.grownBy wA (Value.slice fa0 s.fails.length fc0).ownBlock → wA.cell? ⟨rc, 6, none⟩ = some (.slice fa0 s.fails.length fc0) ∧ wA.frozen? ⟨rc, 6, none⟩ = false) := fun ob wA hg => by
                              have h1 : Fr w9 wA (fun c => (Value.slice fa0 s.fails.length fc0).ownBlock = some c) := ((((Fr.refl w9 (fun _ => False)).alloc ob).drew).weak (fun _ _ e => e.elim)).grown hg (fun c hc _ => hc)
                              have hb := (h1.block rc (Array.getElem?_eq_some_iff.1 HM9.out.r.c).1 (fun e => owns_type HM9.out.r.f HM9.out.r.c (by decide) e)).trans HM9.out.r.c
                              exact ⟨cell_of_block hb 6 _ rfl, free_of_block hb 6⟩
                            obtain ⟨i0, hi0, hz0, hz1, hz3⟩ := info_parts info3
                            have h1pos : 0 < 1 := by decide
                            have HT9 := hide hm9.r.f
                            clear z3
                            have z3 := cell_of_block hk9 3 _ rfl
                            clear hcl9 hf9 hfo hm9 hk9 HC
                            go_wp2_with fail
                            go_region_law
                              (first
                                | (refine step_append_lies _ ?_ (.tmp 226) (.tmp 229) 59 ?_ 0 3 i0 (.int .i64 0) 1 8 uInts hi0 hz0 hz1 hz3 rfl h1pos (.slice fa0 s.fails.length fc0) s.fails.length (ci s.fails) ?_ ?_ ⟨w9.heap.size, 0, none⟩ 1 1 [.int .i64 x.a] ?_ rfl ?_ ?_ Nat.one_pos ?_ ?_ ?_ _ rfl ?_; rfl; rfl; rfl; exact (HT9.out.alloc _).drew; rfl; exact news_alloc_drew w9 #[.int .i64 x.a] 3 _ rfl; simp [Value.oneCell']; (unfold maxLen; omega); omega; exact Nat.zero_le _; intro gA capA wA hownA hgrowA hatA hltA; obtain ⟨r2, s2⟩ := KG.out _ wA hgrowA))
                            all_goals
                              have hoA : wA.ownsRow 0 3 1 (.slice (some ⟨gA, 0, none⟩) (s.fails.length + 1) capA) (s.fails ++ [x.a]).length (ci (s.fails ++ [x.a])) := by
                                unfold ci at hownA ⊢
                                rw [List.map_append, List.length_append]
                                simpa using hownA
                              obtain ⟨PA, hnA, hRA, hFA⟩ := HM9.out.r.pushF x.a hgrowA hoA (by simpa using hatA) hltA
                              have h0 := Mm.fin1 HLZ.out HLW.out ba HKB.out HM9.out HFO.out hRA hnA hFA (fun _ hx => .inl hx) (i + 1) HTF.out
                              have HJ10 := hide h0.1
                              have HB10 := hide (HB8.out.trans (h0.2.below HB8.out.size (fun c e => e.1)))
                              clear h0 hnA hRA hFA hoA hownA hgrowA hatA hltA
                              go_wp2_with fail
                              go_meet
                              exact ⟨_, rfl, rfl, HJ10.out, HB10.out⟩
                        | false =>
                          cases hkarm : (x.kind.toList == [97, 114, 109]) with
                          | true =>
                            as_aux_lemma =>
                              have HC := hide (arm_any w8 B g D x.a HM8.out.cl.disk)
                              have z3 := cell_of_block HK8.out 3 _ rfl
                              have hg := HM8.out.cl.disk.has_g
                              go_wp2_with fail
                              refine HC.out.mono ?_
                              rintro o w9 ⟨rfl, hd9, hf9⟩
                              have hfo : Fr w8 w9 (Cl.own B gc bt bd bf) := hf9.weak (fun c _ e => .inl (e ▸ hg))
                              have hm9 := HM8.out.prog (HM8.out.cl.stepped hd9 hg hf9) hfo (fun _ hx => .inl hx)
                              have hk9 := (hfo.block _ (Array.getElem?_eq_some_iff.1 HK8.out).1 (fun e => HKB.out (.inl e))).trans HK8.out
                              have HM9 := hide hm9
                              have HFO := hide hfo
                              have r3 := cell_of_block hm9.r.d 3 _ rfl
                              have r3f := free_of_block hm9.r.d 3
                              have HFIN : Hid (∀ y : Int, y = max x.a (-1) → Jx m w.heap.size (w9.setCell ⟨rd, 3, none⟩ (.int .i64 y)) g gc bt bd bf rd rc q (i + 1) ∧ Below w.heap.size w (w9.setCell ⟨rd, 3, none⟩ (.int .i64 y))) := fun y hy => by
                                have hrs := HM9.out.r.fused y
                                have hfs : Fr w9 (w9.setCell ⟨rd, 3, none⟩ (.int .i64 y)) P := (Fr.refl w9 P).set _ _ (fun _ => HM9.out.r.pd)
                                have h0 := Mm.fin1 HLZ.out HLW.out ba HKB.out HM9.out HFO.out hrs (Newer.refl P) hfs (fun _ hx => .inl hx) (i + 1) (by rw [hy]; exact (HTI.out.armed x.a x.ra).more (Nat.le_succ i) hi80)
                                exact ⟨h0.1, HB8.out.trans (h0.2.below HB8.out.size (fun c e => e.1))⟩
                              clear z3
                              have z3 := cell_of_block hk9 3 _ rfl
                              clear hd9 hf9 hfo hm9 hk9 HC
                              by_cases hlow : x.a < -1
                              · go_wp2_with fail
                                go_meet
                                exact ⟨_, rfl, rfl, HFIN.out _ (by omega)⟩
                              · go_wp2_with fail
                                go_meet
                                exact ⟨_, rfl, rfl, HFIN.out _ (by omega)⟩
                          | false =>
                            as_aux_lemma =>
                              have HC := hide (restart_arm HM8.out HTI.out hi80 HLZ.out HLW.out ba HKB.out x.a x.b)
                              have z3 := cell_of_block HK8.out 3 _ rfl
                              have z4 := cell_of_block HK8.out 4 _ rfl
                              go_wp2_with fail
                              refine HC.out.mono ?_
                              rintro o w9 ⟨rfl, hf9, hc9⟩
                              have hk9 := (hf9.block _ (Array.getElem?_eq_some_iff.1 HK8.out).1 (fun e => e.2 rfl)).trans HK8.out
                              have HC9 := hide hc9
                              clear hc9 HC z3 z4
                              have z3 := cell_of_block hk9 3 _ rfl
                              have z4 := cell_of_block hk9 4 _ rfl
                              clear hk9 hf9
                              go_wp2_with fail
                              refine HC9.out.mono ?_
                              rintro o w10 ⟨rfl, hj10, hf10⟩
                              have HJ10 := hide hj10
                              have HB10 := hide (HB8.out.trans (hf10.below HB8.out.size (fun c e => e.1)))
                              clear hj10 hf10 HC9 z3 z4
                              go_wp2_with fail
                              go_meet
                              exact ⟨_, rfl, rfl, HJ10.out, HB10.out⟩
          case rest =>
            obtain ⟨wz, hwz, rfl, ⟨B, P, D, given, calls, Q, Di, Fa, tv, kv, fv, s, hm, ht, hLz⟩, hbz⟩ := hcut
            subst hwz
            clear HMX HBK HTS HKB HM8 HTI HLZ HB8 HK8 HLW z0 HTG
            have hca := ht.ca
            have HBZ := hide hbz
            have k5 := cell_of_block hm.r.c 5 _ rfl
            have k1 := cell_of_block hm.r.c 1 _ rfl
            rw [hca] at k5
            have HCA : Hid (∀ W, Fr wz W (fun _ => False) → Calls Try.prog 27 #[.pointer (some ⟨gc, 0, none⟩)] W fun o w' => o = .returned (.int .i64 calls) ∧ w' = W) := fun W hf => calls_any W B g gc bt bd bf D q given calls _ Di Fa (hm.fr hf).cl
            have HTA := hide (tail_all HSO.out hm ht)
            have HCELL : Hid (∀ W, Fr wz W (fun _ => False) → W.cell? ⟨rc, 5, none⟩ = some (.int .i64 calls) ∧ W.cell? ⟨rc, 1, none⟩ = some tv) := fun W hf => ⟨cell_frx hf (fun e => e) k5, cell_frx hf (fun e => e) k1⟩
            have HJZ : Hid (∀ W, Fr wz W (fun _ => False) → Jx m w.heap.size W g gc bt bd bf rd rc q (i + 1)) := fun W hf => hm.fin0 hLz hf ht
            clear hm ht hLz hbz hca
            have hd0 : Fr wz wz.drew (fun _ => False) := (Fr.refl _ _).drew
            have k5d := (HCELL.out _ hd0).1
            have k1d := (HCELL.out _ hd0).2
            go_wp2_with fail
            go_region_held3 (fun W' => W'.cell? ⟨rc, 5, none⟩ = some (.int .i64 calls) ∧ W'.cell? ⟨rc, 1, none⟩ = some tv ∧ Fr wz W' (fun _ => False)) (first | exact ⟨k5d, k1d, hd0⟩ | exact ⟨(HCELL.out _ f4).1, (HCELL.out _ f4).2, f4⟩ | exact ⟨(HCELL.out _ f2).1, (HCELL.out _ f2).2, f2⟩ | go_keep)
              (first
                | (go_at_call 27; (with_reducible refine Calls.mono (HCA.out _ hd0) ?_); rintro o w21 ⟨rfl, rfl⟩)
                | (go_at_call 29; (with_reducible refine Calls.mono (HTA.out _ hd0) ?_); rintro o w22 ⟨u, rfl, f2, HS2⟩)
                | (go_at_call 28; (with_reducible refine Calls.mono (HS2 _ (Fr.refl _ _)) ?_); rintro o w23 ⟨rfl, f4⟩))
            all_goals
              have HJ4 := hide (HJZ.out _ f4)
              have HB4 := hide (HBZ.out.trans (f4.below HBZ.out.size (fun _ e => e.elim)))
              clear f4 f2 HS2 k5 k1 k5d k1d hd0
              go_wp2_with fail
              exact ⟨⟨i + 1, by omega, by simp, HJ4.out, HB4.out⟩, by simp [intOf]; omega⟩
        · go_wp2_with fail
          go_ret
          exact ⟨rfl, hbx⟩
end Go.Proofs.Ytlmkpjdaoinmoaa
