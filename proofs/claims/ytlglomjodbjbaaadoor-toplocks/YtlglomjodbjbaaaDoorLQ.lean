/- For TopLocks: the law's walk. -/
import Derived.Test.YtlglomjodbjbaaaDoorLP
import Derived.Deep.CutBlock
namespace Go.Proofs.YtlglomjodbjbaaaDoor
open Go.RowKit
attribute [local go_sem ↓] Go.wp_at_zero Go.wp_at_succ
def K.first : ByteArray := ⟨#[102, 105, 114, 115, 116]⟩
theorem K.on_nil : K.On [] [] := ⟨List.Perm.refl _, List.nodup_nil, fun x hx => by cases hx⟩
theorem A.Mem.shape {m : Nat} {w : World} {c0 c1 c2 c3 c4 : Value} (h : A.Mem m w [c0, c1, c2, c3, c4]) : ∃ (k n : Int) (s : ByteArray) (al : Option Addr) (nl cl : Nat) (af : Option Addr) (nf cf : Nat), c0 = .int .i64 k ∧ c1 = .int .i64 n ∧ c2 = .string s ∧ c3 = .slice al nl cl ∧ c4 = .slice af nf cf := by
  cases m with
  | zero => exact h.elim
  | succ m =>
    obtain ⟨k, n, s, lv, fv, nl, nf, h1, _, _, _, h5, h6⟩ := h
    simp only [List.cons.injEq, and_true] at h1
    obtain ⟨rfl, rfl, rfl, rfl, rfl⟩ := h1
    obtain ⟨al, cl, rfl⟩ := h5.shape
    obtain ⟨af, cf, rfl⟩ := h6.shape
    exact ⟨k, n, s, al, nl, cl, af, nf, cf, rfl, rfl, rfl, rfl, rfl⟩
theorem first_name : N.name K.first = true := by decide
theorem K.names_get {L : K.Lo} {n : ByteArray} (h : n ∈ K.names L) : ∃ q, K.get L n = some q := by
  unfold K.names at h
  obtain ⟨l, hl, rfl⟩ := List.mem_map.1 h
  rw [List.mem_mergeSort] at hl
  obtain ⟨x, hx, rfl⟩ := List.mem_map.1 hl
  rw [str_bl]
  exact Option.isSome_iff_exists.1 (H.mem_names.1 (List.mem_map.2 ⟨x, hx, rfl⟩))
theorem H.len_run {w : World} {b : Nat} {F : List (ByteArray × Int)} (h : H.Is w b F) : (Builtin.len_ #[33] 3 #[.map (some b)]).run Tryd.prog w = .ok (.int .i64 F.length) w := by
  obtain ⟨es, c, hb, hF, _⟩ := h
  have hl : es.size = F.length := by
    have h5 := congrArg List.length hF
    simpa using h5
  simp [Builtin.len_, run_underlying H.u112, MapKept.run_getObj_map hb, Result.andThen, goInt, hl]
theorem St.up13 {w wx : World} {g bh bd : Nat} {B : Nat → Prop} {D : Dk} {L : K.Lo} {F : List (ByteArray × Int)} {dead b : Int} (h : St w wx g bh bd B D L F dead b) : St w wx g bh bd B D L F dead (b + 13) :=
  ⟨h.lk.up (by omega), h.up, h.map, h.cell, h.nb, h.nd, h.ne, h.ub, h.ud, h.below⟩
set_option maxRecDepth 100000 in
set_option maxHeartbeats 20000000 in
theorem topLocks_any (m : Nat) (w : World) (v : Value) (X : List Ac) (h : A.Acts m w v X) :
    Calls Tryd.prog 3 #[v] w fun e w' => e = .returned (.bool true) ∧ Below w.heap.size w w' := by
  obtain ⟨ao, cap, rfl⟩ := h.shape
  have HA := hide h
  clear h
  go_enter Tryd.func3, Tryd.ntmps3
  go_wp2_with fail
  refine (new_any w).mono ?_
  rintro o w1 ⟨g, rfl, hD1, hf1⟩
  have hlk1 : Lk w1 _ g Dk.new [] 0 0 := ⟨hD1.clip, fun x hx => hx.2, Inv.new, K.on_nil⟩
  obtain ⟨w2, hw2⟩ : ∃ w2, w2 = w1.alloc (.cells #[.string K.first] 9) := ⟨_, rfl⟩
  have hf12 : Fr w1 w2 (fun _ => False) := by rw [hw2]; exact (Fr.refl _ _).alloc _
  have hs2 : Strs w2 (.slice (some ⟨w1.heap.size, 0, none⟩) 1 1) [K.first] := ⟨_, _, rfl, .inr ⟨w1.heap.size, 0, rfl, fun i x hx => by
    have hi : i = 0 := by have := (List.getElem?_eq_some_iff.1 hx).1; simp at this; omega
    subst hi
    have : K.first = x := by simpa using hx
    subst this
    rw [hw2]; exact cell_of_block (heap_alloc_new w1 _) 0 _ rfl⟩⟩
  have HT := hide (take6_any w2 _ g Dk.new [] 0 0 (fun _ => true) _ [K.first] (hlk1.fr hf12) (by decide) (by decide) hs2 (by decide) (fun n hn => by
    have : n = K.first := by simpa using hn
    subst this; decide) (fun W k _ => alive6_any k W))
  have HF12 := hide (hf1.trans hf12 (fun _ _ e => e))
  clear hD1 hlk1 hs2 hf12 hf1
  go_wp2_with fail
  have hw2' : w1.alloc (.cells #[.string ⟨#[102, 105, 114, 115, 116]⟩] 9) = w2 := hw2.symm
  rw [hw2']
  clear hw2 hw2'
  refine HT.out.mono ?_
  rintro o w3 ⟨c, rfl, hc⟩
  have hc' : c = 0 ∧ ∃ L', Lk.Did w2 w3 (fun x => w.heap.size ≤ x ∧ x < w1.heap.size) g L' 13 0 ∧ ∀ n, (n ∈ [K.first] → K.get L' n = some 0) ∧ (n ∉ [K.first] → K.get L' n = none) := by
    rcases hc with ⟨_, hq, _⟩ | ⟨h0, _, _, L', h1, _, h2⟩
    · exact absurd ⟨by decide, by decide, fun n hn => by
        have : n = K.first := by simpa using hn
        subst this
        unfold K.okTake
        rw [first_name]; rfl⟩ hq
    · exact ⟨h0, L', h1, fun n => ⟨fun hn => (h2 n).1 hn, fun hn => (h2 n).2 hn⟩⟩
  obtain ⟨rfl, L1, hd3, hg1⟩ := hc'
  have hon1 : H.On [(K.first, 0)] L1 := by
    refine ⟨by simp, fun n => ?_⟩
    rw [H.get_cons]
    by_cases e : n = K.first
    · rw [if_pos ((K.beq_iff _ _).2 e), (hg1 n).1 (by simp [e])]; rfl
    · rw [K.beq_no e, if_neg (by simp), (hg1 n).2 (by simpa using e)]; rfl
  obtain ⟨B3, D3, hl3, hB3, hf3⟩ := hd3
  have hlen1 : L1.length = 1 := (hon1.len hl3.on.nodup).symm
  have hup3 : ∀ x, B3 x → w.heap.size ≤ x := fun x hx => by
    have := HF12.out.size
    rcases hB3 x hx with h4 | h4
    · exact h4.1
    · omega
  have hb3 : Below w.heap.size w w3 := (HF12.out.below (Nat.le_refl _) (fun _ e => e.elim)).trans (hf3.below HF12.out.size (fun x hx => hx.1))
  have HAL := hide (all_any w3 B3 g D3 L1 hl3.disk hl3.inv.down hl3.on (by omega))
  have hnl : (K.names L1).length = 1 := by rw [K.names_len, hlen1]
  have HB3 := hide hb3
  have HL3 := hide hl3
  have HUP := hide hup3
  have HON := hide hon1
  clear hc HT hg1 hon1 hl3 hB3 hf3 hup3 hb3 HF12
  have e0 : errV 0 = .nilIface := rfl
  rw [e0]
  clear e0
  go_wp2_with fail
  refine HAL.out.mono ?_
  rintro o w4 ⟨u, rfl, ho4, hf4⟩
  rw [hnl] at ho4
  obtain ⟨a4, c4, rfl⟩ := owns_shape ho4
  have hb4 : Below w.heap.size w w4 := HB3.out.trans (hf4.below HB3.out.size (fun _ e => e.elim))
  have HLA := hide (lightActs2_any 60 6000 m w4 _ X (HA.out.kept hb4))
  have HL4 := hide (HL3.out.fr hf4)
  have HB4 := hide hb4
  clear HAL ho4 hf4 hb4 HL3 HB3
  go_wp2_with fail
  refine HLA.out.mono ?_
  rintro o w5 ⟨⟨bb, rfl, hbb⟩, hb5⟩
  have hf5 := fr_below hb5
  have hb05 : Below w.heap.size w w5 := HB4.out.trans (hf5.below HB4.out.size (fun _ e => e.elim))
  have HL5 := hide (HL4.out.fr hf5)
  have HB5 := hide hb05
  clear hb5 hf5 hb05 HL4 HB4 HLA
  cases bb with
  | false =>
    go_wp2_with fail
    go_ret
    exact ⟨rfl, HB5.out⟩
  | true =>
    have hX60 := (hbb rfl).1
    have HX12 := hide (hbb rfl).2
    clear hbb
    have hmm := fun w => run_makeMap (P := Tryd.prog) 33 w
    obtain ⟨w6, hr0, hI6, hg6⟩ := H.update (H.Is.made w5) K.first 0
    have hr : (Instr.mapUpdate 33 (.map (some w5.heap.size)) (.string ⟨#[102, 105, 114, 115, 116]⟩) (.int .i64 0)).run Tryd.prog (w5.alloc (.map #[] 0)) = .ok () w6 := hr0
    have HI6 : Hid (H.Is w6 w5.heap.size [(K.first, 0)]) := hI6
    have HF6 : Hid (Fr w5 w6 (fun _ => False)) := ((Fr.refl w5 _).alloc _).grown hg6 (fun c e hc => by cases e; exact absurd hc (Nat.lt_irrefl _))
    have hz6 : w5.heap.size < w6.heap.size := Nat.lt_of_lt_of_le (by simp) hg6.size
    clear hr0 hI6 hg6
    go_wp2_with fail
    obtain ⟨w7, hw7⟩ : ∃ w7, w7 = w6.alloc (.cells #[.int .i64 9] 3) := ⟨_, rfl⟩
    rw [← hw7]
    have hf7 : Fr w5 w7 (fun _ => False) := by rw [hw7]; exact HF6.out.alloc _
    have hst : St w w7 g w5.heap.size w6.heap.size B3 D3 L1 [(K.first, 0)] 9 (13 + 13 * ((0 : Nat) : Int)) := by
      have hz5 := HB5.out.size
      have hlow := HL5.out.low
      have h67 : Fr w6 w7 (fun _ => False) := by rw [hw7]; exact (Fr.refl _ _).alloc _
      refine ⟨HL5.out.fr hf7, HUP.out, HI6.out.at (h67.block _ HI6.out.lt (fun e => e)), ?_, fun e => ?_, fun e => ?_, by omega, hz5, by omega, HB5.out.trans (hf7.below hz5 (fun _ e => e.elim))⟩
      · rw [hw7]; exact heap_alloc_new _ _
      · have := hlow _ e; omega
      · have := hlow _ e; omega
    have HST := hide hst
    generalize w5.heap.size = bh at *
    generalize w6.heap.size = bd at *
    clear hst hf7 hw7 HF6 HI6 hr hmm HL5 HB5 HUP
    go_loopw [9, 10, 11, 12, 13, 14, 15, 16, 17, 18, 19, 20, 21, 22, 23, 24, 25, 26, 27] (fun vi _ _ _ _ _ _ _ _ _ _ _ _ _ _ _ _ _ _ wx => ∃ (i : Nat) (B : Nat → Prop) (D : Dk) (L : K.Lo) (F : List (ByteArray × Int)) (dead : Int), i ≤ X.length ∧ vi = .int .i64 i ∧ St w wx g bh bd B D L F dead (13 + 13 * (i : Int)) ∧ H.On F L) (fun vi _ _ _ _ _ _ _ _ _ _ _ _ _ _ _ _ _ _ _ => X.length - (intOf vi).toNat)
    case atStart => exact ⟨0, B3, D3, L1, _, 9, Nat.zero_le _, rfl, HST.out, HON.out⟩
    case round =>
      clear HST HON
      obtain ⟨wx, hwx⟩ : ∃ z, z = wr := ⟨_, rfl⟩
      subst hwx
      obtain ⟨i, B, D, L, F, dead, hi, rfl, hst, hon⟩ := hrel
      by_cases hlt : i < X.length
      · have HSTx := hide hst
        have HONx := hide hon
        obtain ⟨b1, off1, cap1, x, c5, c6, c7, c8, c9, an, cn, e1, hx, g1, g2, g3, g4, g5, g6, y0, y1, y2, y3, y4, y5, y6, y7, y8, y9, y10⟩ := HA.out.at i hlt
        replace y0 := kept_cell hst.below y0
        replace y1 := kept_cell hst.below y1
        replace y2 := kept_cell hst.below y2
        replace y3 := kept_cell hst.below y3
        replace y4 := kept_cell hst.below y4
        replace y5 := kept_cell hst.below y5
        replace y6 := kept_cell hst.below y6
        replace y7 := kept_cell hst.below y7
        replace y8 := kept_cell hst.below y8
        replace y9 := kept_cell hst.below y9
        replace y10 := kept_cell hst.below y10
        simp only [Value.slice.injEq] at e1
        obtain ⟨rfl, _, rfl⟩ := e1
        have hn12 : x.nn ≤ 12 := HX12.out x (List.mem_of_getElem? hx)
        obtain ⟨N0, hN0, hsN, hszN⟩ := names_of_row g6
        obtain ⟨k5, k6, s7, a8, n8, p8, a9, n9, p9, rfl, rfl, rfl, rfl, rfl⟩ := g4.shape
        clear hst hon hx g1 g2 g3 g4 g5 g6
        obtain ⟨w8, hw8⟩ : ∃ w8, w8 = wx.alloc (.cells #[.string x.kind, .string x.s, .string x.t, .int .i64 x.a, .int .i64 x.b, .int .i64 k5, .int .i64 k6, .string s7, .slice a8 n8 p8, .slice a9 n9 p9, .slice an x.nn cn] 39) := ⟨_, rfl⟩
        have hf8 : Fr wx w8 (fun _ => False) := by rw [hw8]; exact (Fr.refl _ _).alloc _
        have hb8 : w8.heap[wx.heap.size]? = some (.cells #[.string x.kind, .string x.s, .string x.t, .int .i64 x.a, .int .i64 x.b, .int .i64 k5, .int .i64 k6, .string s7, .slice a8 n8 p8, .slice a9 n9 p9, .slice an x.nn cn] 39 (0, 0)) := by rw [hw8]; exact heap_alloc_new _ _
        go_wp2_with fail
        rw [← hw8]
        clear hw8 y0 y1 y2 y3 y4 y5 y6 y7 y8 y9 y10
        have HST8 := hide (HSTx.out.fr hf8)
        have hlen8 := H.len_run HST8.out.map
        have HSNF : Hid (∀ W, Below w.heap.size w W → Strs W (.slice an x.nn cn) N0) := fun W hb => hsN.kept hb (Nat.le_refl _)
        have HSN := hide (HSNF.out w8 HST8.out.below)
        have z0 := cell_of_block hb8 0 _ rfl
        have z3 := cell_of_block hb8 3 _ rfl
        have z10 := cell_of_block hb8 10 _ rfl
        have HB8 := hide hb8
        have hlL := HONx.out.len HST8.out.lk.on.nodup
        have HBA : Hid (wx.heap.size ≠ bh ∧ ¬ B wx.heap.size) := ⟨fun e => absurd HSTx.out.map.lt (by omega), fun e => absurd (HSTx.out.lk.low _ e) (Nat.lt_irrefl _)⟩
        generalize wx.heap.size = ba at *
        clear hf8 hb8 hsN HSTx
        rw [hlen8, Result.andThen_ok]
        clear hlen8
        by_cases h20 : 20 < F.length
        · have h20i : (20 : Int) < F.length := by omega
          go_wp2_with fail
          go_ret
          exact ⟨rfl, HST8.out.below⟩
        · have h20i : ¬ (20 : Int) < F.length := by omega
          go_upto_block 2 with fail
          go_cut [11, 12, 13, 14, 15, 16, 17, 18, 19] from 55 to 230 (fun _ _ _ _ _ _ _ _ _ wy => ∃ wz0, wz0 = wy ∧ ∃ (B2 : Nat → Prop) (D2 : Dk) (L2 : K.Lo) (F2 : List (ByteArray × Int)) (dead2 : Int), St w wz0 g bh bd B2 D2 L2 F2 dead2 (13 + 13 * (i : Int) + 13) ∧ H.On F2 L2 ∧ F2.length ≤ 1000)
          case first =>
            have hbaB : ¬ B ba := HBA.out.2
            cases htk : (x.kind.toList == [116, 97, 107, 101]) with
            | true =>
              as_aux_lemma =>
                have HTK := hide (take9_any w8 B g D L (13 + 13 * (i : Int)) x.a (fun k => !((k : Int) == dead)) bd _ N0 HST8.out.lk (by omega) (by omega) HSN.out (by omega) hszN (fun W k hf _ => alive9_any k bd dead W (cell_of_block (HST8.out.fr hf).cell 0 _ rfl)))
                go_wp2_with fail
                refine HTK.out.mono ?_
                rintro o w9 ⟨c, rfl, hcase⟩
                rcases hcase with ⟨hc, _, hd9⟩ | ⟨rfl, hwho, hheld, L', hd9, hL', hgL⟩
                · have hb9 := (hd9.fr.block ba (Array.getElem?_eq_some_iff.1 HB8.out).1 hbaB).trans HB8.out
                  obtain ⟨B9, D9, hst9⟩ := HST8.out.did hd9
                  have ec := errV_ne hc
                  rw [ec]
                  have HST9 := hide hst9
                  have y3 := cell_of_block hb9 3 _ rfl
                  have y10 := cell_of_block hb9 10 _ rfl
                  have HSN9 := hide (HSNF.out w9 hst9.below)
                  clear hst9 hd9 hb9 HTK ec z0 z3 z10
                  go_wp2_with fail
                  go_loopw [12, 13, 14] (fun vi _ _ wz => ∃ k : Nat, k ≤ x.nn ∧ vi = .int .i64 k ∧ wz = w9) (fun vi _ _ _ => x.nn - (intOf vi).toNat)
                  case atStart => exact ⟨0, Nat.zero_le _, rfl, rfl⟩
                  case round =>
                    obtain ⟨k, hk, rfl, hwz⟩ := hrel
                    rw [hwz]
                    clear hwz
                    by_cases hkl : k < x.nn
                    · obtain ⟨nk, hnk⟩ : ∃ nk, N0[k]? = some nk := ⟨_, List.getElem?_eq_getElem (by omega)⟩
                      obtain ⟨b2, off2, rfl, y0⟩ := HSN9.out.at hnk
                      have hlk := H.look HST9.out.map nk true
                      cases ha : H.at_ nk F 0 with
                      | none =>
                        rw [ha] at hlk
                        simp only [H.val, if_pos] at hlk
                        clear hnk ha
                        go_wp2_with fail
                        go_roundw
                        case rel => exact ⟨k + 1, by omega, by go_num, by first | rfl | trivial⟩
                        case measure => simp [intOf]; omega
                      | some q =>
                        rw [ha] at hlk
                        simp only [H.val, if_pos] at hlk
                        clear hnk ha
                        go_wp2_with fail
                        go_roundw
                        case rel => exact ⟨k + 1, by omega, by go_num, by first | rfl | trivial⟩
                        case measure => simp [intOf]; omega
                    · go_wp2_with fail
                      go_loopw [15] (fun vi wz => vi = .int .i64 0 ∧ wz = w9) (fun _ _ => 0)
                      case atStart => exact ⟨rfl, rfl⟩
                      case round =>
                        obtain ⟨rfl, hwz⟩ := hrel
                        rw [hwz]
                        clear hwz
                        by_cases hx0 : 0 < x.nn
                        · go_wp2_with fail
                          go_meet
                          exact ⟨_, rfl, B9, D9, L, F, dead, HST9.out, HONx.out, by omega⟩
                        · have hx00 : x.nn = 0 := by omega
                          go_wp2_with fail
                          go_meet
                          exact ⟨_, rfl, B9, D9, L, F, dead, HST9.out, HONx.out, by omega⟩
                · have hb9 := (hd9.fr.block ba (Array.getElem?_eq_some_iff.1 HB8.out).1 hbaB).trans HB8.out
                  obtain ⟨B9, D9, hst9⟩ := HST8.out.did hd9
                  have e0 : errV 0 = .nilIface := rfl
                  rw [e0]
                  clear e0
                  have HST9 := hide hst9
                  have HB9 := hide hb9
                  have y3 := cell_of_block hb9 3 _ rfl
                  have y10 := cell_of_block hb9 10 _ rfl
                  have yd := cell_of_block hst9.cell 0 _ rfl
                  have HSN9 := hide (HSNF.out w9 hst9.below)
                  have HHELD := hide hheld
                  have HGL := hide hgL
                  have HWHO := hide hwho
                  have hba : ba ≠ bh := fun e => HBA.out.1 e
                  clear hst9 hd9 hb9 HTK z0 z3 z10 hheld hgL hwho
                  go_wp2_with fail
                  go_loopw [12, 13, 14] (fun vi _ _ wz => ∃ k : Nat, k ≤ x.nn ∧ vi = .int .i64 k ∧ wz = w9) (fun vi _ _ _ => x.nn - (intOf vi).toNat)
                  case atStart => exact ⟨0, Nat.zero_le _, rfl, rfl⟩
                  case round =>
                    obtain ⟨k, hk, rfl, hwz⟩ := hrel
                    rw [hwz]
                    clear hwz
                    by_cases hkl : k < x.nn
                    · obtain ⟨nk, hnk⟩ : ∃ nk, N0[k]? = some nk := ⟨_, List.getElem?_eq_getElem (by omega)⟩
                      obtain ⟨b2, off2, rfl, y0⟩ := HSN9.out.at hnk
                      have hlk := H.look HST9.out.map nk true
                      cases ha : H.at_ nk F 0 with
                      | none =>
                        rw [ha] at hlk
                        simp only [H.val, if_pos] at hlk
                        clear hnk ha
                        go_wp2_with fail
                        go_roundw
                        case rel => exact ⟨k + 1, by omega, by go_num, by first | rfl | trivial⟩
                        case measure => simp [intOf]; omega
                      | some q =>
                        have hq : q.2 = x.a ∨ q.2 = dead := by
                          have h2 := HONx.out.same nk
                          unfold H.get at h2
                          rw [ha] at h2
                          cases hK : K.get L nk with
                          | none => rw [hK] at h2; cases h2
                          | some kk =>
                            rw [hK] at h2
                            have h3 : q.2 = (kk : Int) := by simpa using h2
                            rcases HHELD.out nk (List.mem_of_getElem? hnk) kk hK with h4 | h4
                            · exact .inl (h3.trans h4)
                            · refine .inr (h3.trans ?_)
                              simpa using h4
                        rw [ha] at hlk
                        simp only [H.val, if_pos] at hlk
                        generalize q.2 = qv at hlk hq
                        clear hnk ha
                        by_cases hqa : qv = x.a
                        · clear hq
                          rw [hqa] at hlk
                          clear hqa
                          go_wp2_with fail
                          go_roundw
                          case rel => exact ⟨k + 1, by omega, by go_num, by first | rfl | trivial⟩
                          case measure => simp [intOf]; omega
                        · have hqd : qv = dead := hq.resolve_left hqa
                          rw [hqd] at hlk hqa
                          clear hq hqd
                          go_wp2_with fail
                          go_roundw
                          case rel => exact ⟨k + 1, by omega, by go_num, by first | rfl | trivial⟩
                          case measure => simp [intOf]; omega
                    · go_wp2_with fail
                      clear y3 y10 yd
                      go_loopw [15] (fun vi wz => ∃ (k : Nat) (wu : World), k ≤ x.nn ∧ vi = .int .i64 k ∧ wu = wz ∧ St w wu g bh bd B9 D9 L' (H.puts F (N0.take k) x.a) dead (13 + 13 * (i : Int) + 13) ∧ wu.heap[ba]? = some (.cells #[.string x.kind, .string x.s, .string x.t, .int .i64 x.a, .int .i64 x.b, .int .i64 k5, .int .i64 k6, .string s7, .slice a8 n8 p8, .slice a9 n9 p9, .slice an x.nn cn] 39 (0, 0))) (fun vi _ => x.nn - (intOf vi).toNat)
                      case atStart => exact ⟨0, w9, Nat.zero_le _, rfl, rfl, HST9.out, HB9.out⟩
                      case round =>
                        obtain ⟨k1, wu, hk1, rfl, hwu, hstu, hbu⟩ := hrel
                        rw [← hwu]
                        clear hwu
                        have HSTU := hide hstu
                        have HBU := hide hbu
                        have y3 := cell_of_block hbu 3 _ rfl
                        have y10 := cell_of_block hbu 10 _ rfl
                        by_cases hkl1 : k1 < x.nn
                        · obtain ⟨nk, hnk⟩ : ∃ nk, N0[k1]? = some nk := ⟨_, List.getElem?_eq_getElem (by omega)⟩
                          obtain ⟨b2, off2, rfl, y0⟩ := (HSNF.out wu hstu.below).at hnk
                          obtain ⟨wv, hr0, hIv, hgv⟩ := H.update (w := wu.drew) (hstu.fr (Fr.refl wu _).drew).map nk x.a
                          have hr : (Instr.mapUpdate 33 (.map (some bh)) (.string nk) (.int .i64 x.a)).run Tryd.prog wu.drew = .ok () wv := hr0
                          have HNX := hide (H.puts_next hnk F x.a)
                          have HIV := hide hIv
                          have HGV := hide hgv
                          clear hr0 hIv hgv hnk hstu hbu
                          go_wp2_with fail
                          go_region
                          go_wp2_with fail
                          go_roundw
                          case rel =>
                            refine ⟨k1 + 1, wv, by omega, by go_num, rfl, ?_, ?_⟩
                            · rw [HNX.out]
                              exact (HSTU.out.fr (Fr.refl wu _).drew).turn HGV.out HIV.out
                            · exact (HGV.out.block ba (Array.getElem?_eq_some_iff.1 HBU.out).1 (fun e => hba (Option.some.inj e))).trans HBU.out
                          case measure => simp [intOf]; omega
                        · have hkx : k1 = x.nn := by omega
                          subst hkx
                          have hT : N0.take x.nn = N0 := List.take_of_length_le (by omega)
                          rw [hT] at HSTU
                          have hON2 : H.On (H.puts F N0 x.a) L' := HONx.out.took (HWHO.out.imp (fun h => h.1) id) HGL.out
                          have hl2 := hON2.len HSTU.out.lk.on.nodup
                          clear hstu hbu
                          go_wp2_with fail
                          go_meet
                          exact ⟨_, rfl, B9, D9, L', _, dead, HSTU.out, hON2, by omega⟩
            | false =>
              cases hgv : (x.kind.toList == [103, 105, 118, 101]) with
              | true =>
                as_aux_lemma =>
                  have HGI := hide (give_any w8 B g D L (13 + 13 * (i : Int)) x.a _ N0 HST8.out.lk (by omega) HSN.out (by omega) hszN)
                  go_wp2_with fail
                  refine HGI.out.mono ?_
                  rintro o w9 ⟨c, rfl, hcase⟩
                  rcases hcase with ⟨hc, hd9⟩ | ⟨rfl, L', hd9, hL', hgL⟩
                  · have hb9 := (hd9.fr.block ba (Array.getElem?_eq_some_iff.1 HB8.out).1 hbaB).trans HB8.out
                    obtain ⟨B9, D9, hst9⟩ := HST8.out.did hd9
                    have ec := errV_ne hc
                    rw [ec]
                    have HST9 := hide hst9
                    have y3 := cell_of_block hb9 3 _ rfl
                    have y10 := cell_of_block hb9 10 _ rfl
                    clear hst9 hd9 hb9 HGI ec z0 z3 z10
                    go_wp2_with fail
                    go_loopw [17, 18, 19] (fun vi _ _ wz => vi = .int .i64 0 ∧ wz = w9) (fun _ _ _ _ => 0)
                    case atStart => exact ⟨rfl, rfl⟩
                    case round =>
                      obtain ⟨rfl, hwz⟩ := hrel
                      rw [hwz]
                      clear hwz
                      by_cases hx0 : 0 < x.nn
                      · go_wp2_with fail
                        go_meet
                        exact ⟨_, rfl, B9, D9, L, F, dead, HST9.out, HONx.out, by omega⟩
                      · have hx00 : x.nn = 0 := by omega
                        go_wp2_with fail
                        go_meet
                        exact ⟨_, rfl, B9, D9, L, F, dead, HST9.out, HONx.out, by omega⟩
                  · have hb9 := (hd9.fr.block ba (Array.getElem?_eq_some_iff.1 HB8.out).1 hbaB).trans HB8.out
                    obtain ⟨B9, D9, hst9⟩ := HST8.out.did hd9
                    have e0 : errV 0 = .nilIface := rfl
                    rw [e0]
                    clear e0
                    have HST9 := hide hst9
                    have HB9 := hide hb9
                    have HGL := hide hgL
                    have hba : ba ≠ bh := fun e => HBA.out.1 e
                    have y10 := cell_of_block hb9 10 _ rfl
                    clear hst9 hd9 hb9 HGI z0 z3 z10 hgL
                    go_wp2_with fail
                    clear y10
                    go_loopw [17, 18, 19] (fun vi _ _ wz => ∃ (k : Nat) (wu : World), k ≤ x.nn ∧ vi = .int .i64 k ∧ wu = wz ∧ St w wu g bh bd B9 D9 L' (H.gives F (N0.take k) x.a) dead (13 + 13 * (i : Int) + 13) ∧ wu.heap[ba]? = some (.cells #[.string x.kind, .string x.s, .string x.t, .int .i64 x.a, .int .i64 x.b, .int .i64 k5, .int .i64 k6, .string s7, .slice a8 n8 p8, .slice a9 n9 p9, .slice an x.nn cn] 39 (0, 0))) (fun vi _ _ _ => x.nn - (intOf vi).toNat)
                    case atStart => exact ⟨0, w9, Nat.zero_le _, rfl, rfl, HST9.out, HB9.out⟩
                    case round =>
                      obtain ⟨k1, wu, hk1, rfl, hwu, hstu, hbu⟩ := hrel
                      rw [← hwu]
                      clear hwu
                      have HSTU := hide hstu
                      have HBU := hide hbu
                      have y3 := cell_of_block hbu 3 _ rfl
                      have y10 := cell_of_block hbu 10 _ rfl
                      by_cases hkl1 : k1 < x.nn
                      · obtain ⟨nk, hnk⟩ : ∃ nk, N0[k1]? = some nk := ⟨_, List.getElem?_eq_getElem (by omega)⟩
                        obtain ⟨b2, off2, rfl, y0⟩ := (HSNF.out wu hstu.below).at hnk
                        have HNX := hide (H.gives_next hnk F x.a)
                        have hlk := H.look hstu.map nk true
                        cases ha : H.at_ nk (H.gives F (N0.take k1) x.a) 0 with
                        | none =>
                          have hg1 : H.gives1 (H.gives F (N0.take k1) x.a) nk x.a = H.gives F (N0.take k1) x.a := by
                            unfold H.gives1 H.get
                            rw [ha]
                            rfl
                          rw [ha] at hlk
                          simp only [H.val, if_pos] at hlk
                          clear hnk ha hstu hbu
                          go_wp2_with fail
                          go_roundw
                          case rel => exact ⟨k1 + 1, wu, by omega, by go_num, rfl, by rw [HNX.out, hg1]; exact HSTU.out, HBU.out⟩
                          case measure => simp [intOf]; omega
                        | some q =>
                          by_cases hq : q.2 = x.a
                          · have hg1 : H.gives1 (H.gives F (N0.take k1) x.a) nk x.a = H.del (H.gives F (N0.take k1) x.a) nk := by
                              unfold H.gives1 H.get
                              rw [ha]
                              show (if some q.2 = some x.a then _ else _) = _
                              rw [hq, if_pos rfl]
                            rw [ha] at hlk
                            simp only [H.val, if_pos] at hlk
                            rw [hq] at hlk
                            obtain ⟨wv, hr, hIv, hgv⟩ := H.delete hstu.map nk 0
                            have HIV := hide hIv
                            have HGV := hide hgv
                            clear hnk ha hstu hbu hq hIv hgv
                            go_wp2_with fail
                            go_roundw
                            case rel =>
                              refine ⟨k1 + 1, wv, by omega, by go_num, rfl, ?_, ?_⟩
                              · rw [HNX.out, hg1]
                                exact HSTU.out.turn HGV.out HIV.out
                              · exact (HGV.out.block ba (Array.getElem?_eq_some_iff.1 HBU.out).1 (fun e => hba (Option.some.inj e))).trans HBU.out
                            case measure => simp [intOf]; omega
                          · have hg1 : H.gives1 (H.gives F (N0.take k1) x.a) nk x.a = H.gives F (N0.take k1) x.a := by
                              unfold H.gives1 H.get
                              rw [ha]
                              show (if some q.2 = some x.a then _ else _) = _
                              rw [if_neg (fun e => hq (Option.some.inj e))]
                            rw [ha] at hlk
                            simp only [H.val, if_pos] at hlk
                            generalize q.2 = qv at hlk hq
                            clear hnk ha hstu hbu
                            go_wp2_with fail
                            go_roundw
                            case rel => exact ⟨k1 + 1, wu, by omega, by go_num, rfl, by rw [HNX.out, hg1]; exact HSTU.out, HBU.out⟩
                            case measure => simp [intOf]; omega
                      · have hkx : k1 = x.nn := by omega
                        subst hkx
                        have hT : N0.take x.nn = N0 := List.take_of_length_le (by omega)
                        rw [hT] at HSTU
                        have hON2 : H.On (H.gives F N0 x.a) L' := HONx.out.gave HGL.out
                        have hl2 := hON2.len HSTU.out.lk.on.nodup
                        clear hstu hbu
                        go_wp2_with fail
                        go_meet
                        exact ⟨_, rfl, B9, D9, L', _, dead, HSTU.out, hON2, by omega⟩
              | false =>
                cases hav : (x.kind.toList == [97, 108, 105, 118, 101]) with
                | true => 
                  have hbd : w8.cell? ⟨bd, 0, none⟩ = some (.int .i64 dead) := cell_of_block HST8.out.cell 0 _ rfl
                  have hbf : w8.frozen? ⟨bd, 0, none⟩ = false := free_of_block HST8.out.cell 0
                  go_wp2_with fail
                  go_meet
                  exact ⟨_, rfl, B, D, L, F, x.a, (HST8.out.dies x.a).up13, HONx.out, by omega⟩
                | false =>
                  go_wp2_with fail
                  go_meet
                  exact ⟨_, rfl, B, D, L, F, dead, HST8.out.up13, HONx.out, by omega⟩
          case rest =>
            obtain ⟨wz0, hwz0, B2, D2, L2, F2, dead2, hst2, hon2, hl2⟩ := hcut
            subst hwz0
            have HST2 := hide hst2
            have HON2 := hide hon2
            have hlL2 := hon2.len hst2.lk.on.nodup
            clear hst2 hon2 z0 z3 z10 HST8 HONx HSNF HSN HB8 HBA
            go_wp2_with fail
            have HALL := hide (all_any wz0 B2 g D2 L2 HST2.out.lk.disk HST2.out.lk.inv.down HST2.out.lk.on (by omega))
            have hnl2 : (K.names L2).length = F2.length := by rw [K.names_len]; exact hlL2.symm
            refine HALL.out.mono ?_
            rintro o wa ⟨uA, rfl, hoA, hfA⟩
            rw [hnl2] at hoA
            obtain ⟨aa, ca, rfl⟩ := owns_shape hoA
            have HSTA := hide (HST2.out.fr hfA)
            have hlenA := H.len_run HSTA.out.map
            have HOA : Hid (Strs wa (.slice aa F2.length ca) (K.names L2)) := by
              have := hoA
              rw [← hnl2] at this ⊢
              exact Strs.of_owns this
            have HNF := hide (K.names_fine HST2.out.lk.on)
            clear HALL hfA hoA
            go_wp2_with fail
            go_loopw [22, 23, 24, 25, 26, 27] (fun vi _ _ _ _ _ wz => ∃ k : Nat, k ≤ F2.length ∧ vi = .int .i64 k ∧ Fr wa wz (fun _ => False)) (fun vi _ _ _ _ _ _ => F2.length - (intOf vi).toNat)
            case atStart => exact ⟨0, Nat.zero_le _, rfl, Fr.refl _ _⟩
            case round =>
              obtain ⟨wz, hwz⟩ : ∃ z, z = wr := ⟨_, rfl⟩
              subst hwz
              obtain ⟨k2, hk2, rfl, hfz⟩ := hrel
              have HFZ := hide hfz
              by_cases hkl2 : k2 < F2.length
              · obtain ⟨nk, hnk⟩ : ∃ nk, (K.names L2)[k2]? = some nk := ⟨_, List.getElem?_eq_getElem (by omega)⟩
                have hmem := List.mem_of_getElem? hnk
                obtain ⟨b3, off3, rfl, y0⟩ := (HOA.out.kept (hfz.below (Nat.le_refl _) (fun _ e => e.elim)) (Nat.le_refl _)).at hnk
                obtain ⟨q, hq⟩ := K.names_get hmem
                have hnm := HNF.out nk hmem
                have hE : K.own L2 nk = ((q : Int), true, 0) := by unfold K.own; rw [if_neg (by rw [hnm]; decide), hq]
                have HOWN2 : Hid (Calls Tryd.prog 11 #[.pointer (some ⟨g, 0, none⟩), .string nk] wz fun o w' => o = .returned (.tuple #[.int .i64 q, .bool true, .nilIface]) ∧ Fr wz w' (fun _ => False)) := by
                  have hst2 := HSTA.out.fr hfz
                  have := owner_any wz B2 g D2 L2 nk hst2.lk.disk hst2.lk.inv.down hst2.lk.on (by have := N.name_size hnm; unfold maxLen; omega)
                  rw [hE] at this; exact this
                have HLK : Hid (∀ W, Fr wa W (fun _ => False) → (Instr.lookup 33 (.map (some bh)) (.string nk) true).run Tryd.prog W = .ok (.tuple #[.int .i64 q, .bool true]) W) := by
                  intro W hf
                  have h1 := H.look (HSTA.out.fr hf).map nk true
                  have h2 := HON2.out.same nk
                  rw [hq] at h2
                  unfold H.get at h2
                  cases ha : H.at_ nk F2 0 with
                  | none => rw [ha] at h2; cases h2
                  | some p =>
                    rw [ha] at h1 h2
                    have h3 : p.2 = (q : Int) := by simpa using h2
                    simp only [H.val, if_pos] at h1
                    rw [h3] at h1
                    exact h1
                have HKC : Hid (∀ W, Fr wz W (fun _ => False) → W.cell? ⟨b3, off3 + k2, none⟩ = some (.string nk)) := fun W hf => cell_frx hf (fun e => e) y0
                clear hnk hmem hq hnm hE hfz
                go_wp2_with (go_at_call 11; (with_reducible refine Calls.mono HOWN2.out ?_); rintro o w10 ⟨rfl, hf10⟩; have y01 := HKC.out w10 hf10; have hlk10 := HLK.out w10 (HFZ.out.trans hf10 (fun _ _ e => e)); have HF10 := hide (HFZ.out.trans hf10 (fun _ _ e => e)); clear hf10)
                go_roundw
                case rel => exact ⟨k2 + 1, by omega, by go_num, HF10.out⟩
                case measure => simp [intOf]; omega
              · clear hfz
                go_wp2_with fail
                go_roundw
                case rel =>
                  have e : 13 + 13 * ((i + 1 : Nat) : Int) = 13 + 13 * (i : Int) + 13 := by omega
                  refine ⟨i + 1, B2, D2, L2, F2, dead2, by omega, by go_num, ?_, HON2.out⟩
                  rw [e]; exact HSTA.out.fr HFZ.out
                case measure => simp [intOf]; omega
      · have HBX := hide hst.below
        clear hst hon
        go_wp2_with fail
        go_ret
        exact ⟨rfl, HBX.out⟩
end Go.Proofs.YtlglomjodbjbaaaDoor
