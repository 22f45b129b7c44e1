/- For LocksSays: the law's walk. -/
import Derived.Test.YtckbfjoffbnjeaaDoorRH
import Derived.Deep.CutBlock
namespace Go.Proofs.YtckbfjoffbnjeaaDoor
open Go.RowKit
attribute [local go_sem ↓] Go.wp_at_zero Go.wp_at_succ
theorem A.Mem.shape {m : Nat} {w : World} {c0 c1 c2 c3 c4 : Value} (h : A.Mem m w [c0, c1, c2, c3, c4]) : ∃ (k n : Int) (s : ByteArray) (al : Option Addr) (nl cl : Nat) (af : Option Addr) (nf cf : Nat), c0 = .int .i64 k ∧ c1 = .int .i64 n ∧ c2 = .string s ∧ c3 = .slice al nl cl ∧ c4 = .slice af nf cf := by
  cases m with
  | zero => exact h.elim
  | succ m =>
    obtain ⟨k, n, s, lv, fv, nl, nf, h1, _, _, _, h5, h6⟩ := h
    simp only [List.cons.injEq, and_true] at h1
    obtain ⟨rfl, rfl, rfl, rfl, rfl⟩ := h1
    obtain ⟨al, cl, rfl⟩ := h5.shape
    obtain ⟨af, cf, rfl⟩ := h6.shape
    exact ⟨k, n, s, al, nl, cl, af, nf, cf, rfl, rfl, rfl, rfl, rfl⟩
/-- What an act leaves: a state in which the program and the reference have the same locks. -/
def Sx.End (w wz : World) (g bh bl bu : Nat) (b : Int) (m : Nat) : Prop := ∃ (B : Nat → Prop) (D : Dk) (L : K.Lo) (F : List (ByteArray × ByteArray)) (lo hi : Int), Sx w wz g bh bl bu B D L F lo hi b m ∧ J.Tied F L ∧ L.length ≤ 36
set_option maxRecDepth 100000 in
set_option maxHeartbeats 20000000 in
theorem locksSays_any (m : Nat) (w : World) (v : Value) (X : List Ac) (h : A.Acts m w v X) :
    Calls Tryd.prog 3 #[v] w fun e w' => e = .returned (.bool true) ∧ Below w.heap.size w w' := by
  obtain ⟨ao, cap, rfl⟩ := h.shape
  have HA := hide h
  have HSH := hide (shuts_any w)
  clear h
  go_enter Tryd.func3, Tryd.ntmps3
  go_wp2_with fail
  refine HSH.out.mono ?_
  rintro o w1 ⟨rfl, hb1⟩
  have HLA := hide (lightActs2_any 80 12000 m w1 _ X (HA.out.kept hb1))
  have HB1 := hide hb1
  clear hb1 HSH
  go_wp2_with fail
  refine HLA.out.mono ?_
  rintro o w2 ⟨⟨bb, rfl, hbb⟩, hb2⟩
  have HB2 : Hid (Below w.heap.size w w2) := HB1.out.trans (hb2.mono HB1.out.size)
  clear hb2 HLA HB1
  cases bb with
  | false =>
    clear hbb
    go_wp2_with fail
    go_ret
    exact ⟨rfl, HB2.out⟩
  | true =>
    have hX80 := (hbb rfl).1
    have HX12 := hide (hbb rfl).2
    have HNEW := hide (new_any w2)
    clear hbb
    have hmm := fun w => run_makeMap (P := Tryd.prog) 27 w
    go_wp2_with fail
    refine HNEW.out.mono ?_
    rintro o w3 ⟨g, rfl, hD3, hf3⟩
    have hlk3 : Lk w3 _ g Dk.new [] 0 0 := ⟨hD3.clip, fun x hx => hx.2, Inv.new, K.on_nil⟩
    have HLK3 := hide hlk3
    have HF3 := hide hf3
    clear hD3 hf3 hlk3 HNEW
    go_wp2_with fail
    obtain ⟨w7, hw7⟩ : ∃ w7, w7 = ((w3.alloc (.map #[] 0)).alloc (.cells #[.int .i64 0] 3)).alloc (.cells #[.int .i64 9] 3) := ⟨_, rfl⟩
    rw [← hw7]
    have hst : Sx w w7 g w3.heap.size (w3.heap.size + 1) (w3.heap.size + 1 + 1) (fun x => w2.heap.size ≤ x ∧ x < w3.heap.size) Dk.new [] [] 0 9 (13 * ((0 : Nat) : Int)) 0 := by
      have hz2 := HB2.out.size
      have hz3 := HF3.out.size
      have hf7 : Fr w3 w7 (fun _ => False) := by rw [hw7]; exact (((Fr.refl w3 _).alloc _).alloc _).alloc _
      have s1 : (w3.alloc (.map #[] 0)).heap.size = w3.heap.size + 1 := by simp
      have s2 : ((w3.alloc (.map #[] 0)).alloc (.cells #[.int .i64 0] 3)).heap.size = w3.heap.size + 1 + 1 := by simp
      refine ⟨HLK3.out.fr hf7, fun x hx => Nat.le_trans hz2 hx.1, ?_, ?_, ?_, fun e => Nat.lt_irrefl _ e.2, fun e => by have := e.2; omega, fun e => by have := e.2; omega, by omega, by omega, by omega, by omega, by omega, by omega, ?_⟩
      · rw [hw7]
        exact ((J.Is.made w3).fr ((Fr.refl _ (fun _ => False)).alloc _) (fun e => e)).fr ((Fr.refl _ (fun _ => False)).alloc _) (fun e => e)
      · rw [hw7]
        have h0 := heap_alloc_new (w3.alloc (.map #[] 0)) (.cells #[.int .i64 0] 3)
        rw [s1] at h0
        exact (((Fr.refl ((w3.alloc (.map #[] 0)).alloc (.cells #[.int .i64 0] 3)) (fun _ => False)).alloc _).block _ (by rw [s2]; omega) (fun e => e)).trans h0
      · rw [hw7]
        have h0 := heap_alloc_new ((w3.alloc (.map #[] 0)).alloc (.cells #[.int .i64 0] 3)) (.cells #[.int .i64 9] 3)
        rw [s2] at h0
        exact h0
      · exact HB2.out.trans (((HF3.out.trans hf7 (fun _ _ e => e))).below hz2 (fun _ e => e.elim))
    have HST := hide hst
    generalize w3.heap.size = bh at *
    generalize bh + 1 + 1 = bu at *
    generalize bh + 1 = bl at *
    clear hst hw7 hmm HLK3 HF3
    go_loopw [9, 10, 11, 12, 13, 14, 15, 16, 17, 18, 19] (fun vi _ _ _ _ _ _ _ _ _ _ wx => ∃ (i : Nat) (wz : World) (B : Nat → Prop) (D : Dk) (L : K.Lo) (F : List (ByteArray × ByteArray)) (lo hi : Int), wz = wx ∧ i ≤ X.length ∧ vi = .int .i64 i ∧ Sx w wz g bh bl bu B D L F lo hi (13 * (i : Int)) i ∧ J.Tied F L ∧ L.length ≤ 24) (fun vi _ _ _ _ _ _ _ _ _ _ _ => X.length - (intOf vi).toNat)
    case atStart => exact ⟨0, _, _, _, _, _, _, _, rfl, Nat.zero_le _, rfl, HST.out, ⟨List.nodup_nil, fun _ => rfl⟩, by decide⟩
    case round =>
      clear HST
      obtain ⟨i, wx, B, D, L, F, lo, hi, hwx, hi1, rfl, hst, htd, hL24⟩ := hrel
      rw [← hwx]
      clear hwx
      by_cases hlt : i < X.length
      · have HSTx := hide hst
        have HTD := hide htd
        obtain ⟨b1, off1, cap1, x, c5, c6, c7, c8, c9, an, cn, e1, hx, g1, g2, g3, g4, g5, g6, y0, y1, y2, y3, y4, y5, y6, y7, y8, y9, y10⟩ := HA.out.at i hlt
        replace y0 := kept_cell hst.below y0
        replace y1 := kept_cell hst.below y1
        replace y2 := kept_cell hst.below y2
        replace y3 := kept_cell hst.below y3
        replace y4 := kept_cell hst.below y4
        replace y5 := kept_cell hst.below y5
        replace y6 := kept_cell hst.below y6
        replace y7 := kept_cell hst.below y7
        replace y8 := kept_cell hst.below y8
        replace y9 := kept_cell hst.below y9
        replace y10 := kept_cell hst.below y10
        simp only [Value.slice.injEq] at e1
        obtain ⟨rfl, _, rfl⟩ := e1
        have hn12 : x.nn ≤ 12 := HX12.out x (List.mem_of_getElem? hx)
        obtain ⟨N0, hN0, hsN, hszN⟩ := names_of_row g6
        obtain ⟨k5, k6, s7, a8, n8, p8, a9, n9, p9, rfl, rfl, rfl, rfl, rfl⟩ := g4.shape
        have HSZS := hide g2
        clear hst htd hx g1 g2 g3 g4 g5 g6
        obtain ⟨w8, hw8⟩ : ∃ w8, w8 = wx.alloc (.cells #[.string x.kind, .string x.s, .string x.t, .int .i64 x.a, .int .i64 x.b, .int .i64 k5, .int .i64 k6, .string s7, .slice a8 n8 p8, .slice a9 n9 p9, .slice an x.nn cn] 35) := ⟨_, rfl⟩
        have hf8 : Fr wx w8 (fun _ => False) := by rw [hw8]; exact (Fr.refl _ _).alloc _
        have hb8 : w8.heap[wx.heap.size]? = some (.cells #[.string x.kind, .string x.s, .string x.t, .int .i64 x.a, .int .i64 x.b, .int .i64 k5, .int .i64 k6, .string s7, .slice a8 n8 p8, .slice a9 n9 p9, .slice an x.nn cn] 35 (0, 0)) := by rw [hw8]; exact heap_alloc_new _ _
        go_upto_block 2 with fail
        rw [← hw8]
        clear hw8 y0 y1 y2 y3 y4 y5 y6 y7 y8 y9 y10
        have HST8 := hide (HSTx.out.fr hf8)
        have HSNF : Hid (∀ W, Below w.heap.size w W → Strs W (.slice an x.nn cn) N0) := fun W hb => hsN.kept hb (Nat.le_refl _)
        have z0 := cell_of_block hb8 0 _ rfl
        have z1 := cell_of_block hb8 1 _ rfl
        have z2 := cell_of_block hb8 2 _ rfl
        have z3 := cell_of_block hb8 3 _ rfl
        have z4 := cell_of_block hb8 4 _ rfl
        have z10 := cell_of_block hb8 10 _ rfl
        have HB8 := hide hb8
        have HBA : Hid (wx.heap.size ≠ bh ∧ wx.heap.size ≠ bl ∧ wx.heap.size ≠ bu ∧ ¬ B wx.heap.size) := ⟨fun e => absurd HSTx.out.map.lt (by omega), fun e => absurd HSTx.out.bl_lt (by omega), fun e => absurd HSTx.out.bu_lt (by omega), fun e => absurd (HSTx.out.lk.low _ e) (Nat.lt_irrefl _)⟩
        have HNB : Hid (N0 ≠ [] → ∀ a n c, (Value.slice an x.nn cn) = .slice (some a) n c → a.block ≠ bh) := by
          intro hne a n c e
          obtain ⟨n0, hn0⟩ : ∃ n0, N0[0]? = some n0 := ⟨_, List.getElem?_eq_getElem (List.length_pos_iff.2 hne)⟩
          obtain ⟨b2, o2, e2, c2⟩ := hsN.at hn0
          rw [e2] at e
          cases e
          have h1 := World.block_lt_of_cell? w _ c2
          have h2 := HSTx.out.ub
          intro e3
          have h3 : b2 < w.heap.size := h1
          have h4 : b2 = bh := e3
          omega
        generalize wx.heap.size = ba at *
        clear hf8 hb8 hsN HSTx
        go_cut [11, 12, 13, 14, 15, 16, 17] from 32 to 160 (fun v11 _ _ _ _ _ _ wy => v11 = .bool true ∧ ∃ wz, wz = wy ∧ Sx.End w wz g bh bl bu (13 * (i : Int) + 13) (i + 1))
        case first =>
          have hbaB : ¬ B ba := HBA.out.2.2.2
          cases htk : (x.kind.toList == [116, 97, 107, 101]) with
          | true =>
            as_aux_lemma =>
              obtain ⟨Mid, hMid⟩ : ∃ Mid : World → Prop, Mid = fun w' => (∃ (B9 : Nat → Prop) (D9 : Dk) (L9 : K.Lo), Sx w w' g bh bl bu B9 D9 L9 F lo hi (13 * (i : Int) + 13) i ∧ L9.length ≤ L.length + 12 ∧ (K.takeCode L x.a (fun k : Nat => decide (lo ≤ (k : Int)) && decide ((k : Int) ≤ hi)) N0 ≠ 0 → L9 = L) ∧ (K.takeCode L x.a (fun k : Nat => decide (lo ≤ (k : Int)) && decide ((k : Int) ≤ hi)) N0 = 0 → ∀ n, (n ∈ N0 → K.get L9 n = some (K.num x.a.toNat)) ∧ (n ∉ N0 → K.get L9 n = K.get L n))) ∧ w'.heap[ba]? = some (.cells #[.string x.kind, .string x.s, .string x.t, .int .i64 x.a, .int .i64 x.b, .int .i64 k5, .int .i64 k6, .string s7, .slice a8 n8 p8, .slice a9 n9 p9, .slice an x.nn cn] 35 (0, 0)) := ⟨_, rfl⟩
              have HT1 : Hid (∀ W, Fr w8 W (fun _ => False) → Calls Tryd.prog 9 #[.pointer (some ⟨g, 0, none⟩), .int .i64 x.a, .slice an x.nn cn, .func (.func 7) #[] #[.pointer (some ⟨bl, 0, none⟩), .pointer (some ⟨bu, 0, none⟩)]] W fun o w' => o = .returned (errV (K.takeCode L x.a (fun k : Nat => decide (lo ≤ (k : Int)) && decide ((k : Int) ≤ hi)) N0)) ∧ Mid w') := by
                intro W hf
                have hs := HST8.out.fr hf
                refine (take7_any W B g D L (13 * (i : Int)) x.a (fun k : Nat => decide (lo ≤ (k : Int)) && decide ((k : Int) ≤ hi)) bl bu _ N0 hs.lk (by omega) (by omega) hL24 (HSNF.out W hs.below) (by omega) hszN (fun W2 k hf2 _ => alive7_any k bl bu lo hi W2 (cell_of_block (hs.fr hf2).clo 0 _ rfl) (cell_of_block (hs.fr hf2).chi 0 _ rfl))).mono ?_
                rintro o w' ⟨rfl, L9, hd9, h1, h2, h3⟩
                refine ⟨rfl, ?_⟩
                rw [hMid]
                obtain ⟨B9, D9, hs9⟩ := hs.did hd9
                have hbW : W.heap[ba]? = some (.cells #[.string x.kind, .string x.s, .string x.t, .int .i64 x.a, .int .i64 x.b, .int .i64 k5, .int .i64 k6, .string s7, .slice a8 n8 p8, .slice a9 n9 p9, .slice an x.nn cn] 35 (0, 0)) := (hf.block ba (Array.getElem?_eq_some_iff.1 HB8.out).1 (fun e => e)).trans HB8.out
                exact ⟨⟨B9, D9, L9, hs9, h1, h2, h3⟩, (hd9.fr.block ba (Array.getElem?_eq_some_iff.1 hbW).1 hbaB).trans hbW⟩
              obtain ⟨End, hEnd⟩ : ∃ End : World → Prop, End = fun w' => Sx.End w w' g bh bl bu (13 * (i : Int) + 13) (i + 1) ∧ w'.heap[ba]? = some (.cells #[.string x.kind, .string x.s, .string x.t, .int .i64 x.a, .int .i64 x.b, .int .i64 k5, .int .i64 k6, .string s7, .slice a8 n8 p8, .slice a9 n9 p9, .slice an x.nn cn] 35 (0, 0)) := ⟨_, rfl⟩
              have HT2 : Hid (∀ W, Mid W → Calls Tryd.prog 10 #[.map (some bh), .int .i64 x.a, .slice an x.nn cn, .func (.func 7) #[] #[.pointer (some ⟨bl, 0, none⟩), .pointer (some ⟨bu, 0, none⟩)]] W fun o w' => o = .returned (.int .i64 (K.takeCode L x.a (fun k : Nat => decide (lo ≤ (k : Int)) && decide ((k : Int) ≤ hi)) N0 : Int)) ∧ End w') := by
                intro W hm
                rw [hMid] at hm
                obtain ⟨⟨B9, D9, L9, hs9, h1, h2, h3⟩, hb9⟩ := hm
                refine (refLock_any W bh F L x.a (fun k : Nat => decide (lo ≤ (k : Int)) && decide ((k : Int) ≤ hi)) bl bu _ N0 hs9.map HTD.out (HSNF.out W hs9.below) (by omega) hszN (fun W2 k hf2 _ => alive7_any k bl bu lo hi W2 (cell_of_block (hs9.fr hf2).clo 0 _ rfl) (cell_of_block (hs9.fr hf2).chi 0 _ rfl))).mono ?_
                rintro o w' ⟨rfl, F', hI', hf', q1, q2⟩
                refine ⟨rfl, ?_⟩
                rw [hEnd]
                refine ⟨⟨B9, D9, L9, F', lo, hi, (hs9.mapd hf' hI').more (Int.le_refl _) (Nat.le_succ _), ?_, by omega⟩, (hf'.block ba (Array.getElem?_eq_some_iff.1 hb9).1 HBA.out.1).trans hb9⟩
                by_cases hc : K.takeCode L x.a (fun k : Nat => decide (lo ≤ (k : Int)) && decide ((k : Int) ≤ hi)) N0 = 0
                · rw [q2 hc]; exact HTD.out.took (h3 hc)
                · rw [q1 hc, h2 hc]; exact HTD.out
              have HCM : Hid (∀ W, Mid W → W.cell? ⟨ba, 3, none⟩ = some (.int .i64 x.a) ∧ W.cell? ⟨ba, 10, none⟩ = some (.slice an x.nn cn)) := by
                intro W hm
                rw [hMid] at hm
                exact ⟨cell_of_block hm.2 3 _ rfl, cell_of_block hm.2 10 _ rfl⟩
              have HCE : Hid (∀ W, End W → W.cell? ⟨ba, 3, none⟩ = some (.int .i64 x.a) ∧ W.cell? ⟨ba, 10, none⟩ = some (.slice an x.nn cn)) := by
                intro W hm
                rw [hEnd] at hm
                exact ⟨cell_of_block hm.2 3 _ rfl, cell_of_block hm.2 10 _ rfl⟩
              have HFI : Hid (∀ W, End W → Sx.End w W g bh bl bu (13 * (i : Int) + 13) (i + 1)) := by
                intro W hm
                rw [hEnd] at hm
                exact hm.1
              clear hMid hEnd HST8 HTD HSNF HB8 HBA HNB
              generalize K.takeCode L x.a (fun k : Nat => decide (lo ≤ (k : Int)) && decide ((k : Int) ≤ hi)) N0 = c0 at *
              go_wp2_with fail
              go_region_held3 (fun W' => W'.cell? ⟨ba, 3, none⟩ = some (.int .i64 x.a) ∧ W'.cell? ⟨ba, 10, none⟩ = some (.slice an x.nn cn)) (first | exact ⟨z3, z10⟩ | exact HCM.out _ hm9 | exact HCE.out _ hm10 | go_keep)
                (first
                  | (go_at_call 9; (with_reducible refine Calls.mono (HT1.out _ ?_) ?_); exact (Fr.refl _ _).drew; rintro o w9 ⟨rfl, hm9⟩)
                  | (go_at_call 10; (with_reducible refine Calls.mono (HT2.out _ hm9) ?_); rintro o w10 ⟨rfl, hm10⟩)
                  | (go_at_call 8; (with_reducible refine Calls.mono (same_any c0 _) ?_); rintro o w11 ⟨rfl, rfl⟩))
              have HE := hide (HFI.out _ hm10)
              clear hm10 hm9
              go_wp2_with fail
              go_meet
              exact ⟨rfl, _, rfl, HE.out⟩
          | false =>
            cases hgi : (x.kind.toList == [103, 105, 118, 101]) with
            | true =>
              as_aux_lemma =>
                obtain ⟨Mid, hMid⟩ : ∃ Mid : World → Prop, Mid = fun w' => (∃ (B9 : Nat → Prop) (D9 : Dk) (L9 : K.Lo), Sx w w' g bh bl bu B9 D9 L9 F lo hi (13 * (i : Int) + 13) i ∧ L9.length ≤ L.length ∧ (K.giveCode L x.a N0 ≠ 0 → L9 = L) ∧ (K.giveCode L x.a N0 = 0 → ∀ n, (n ∈ N0 ∧ K.get L n = some (K.num x.a.toNat) → K.get L9 n = none) ∧ (¬ (n ∈ N0 ∧ K.get L n = some (K.num x.a.toNat)) → K.get L9 n = K.get L n))) ∧ w'.heap[ba]? = some (.cells #[.string x.kind, .string x.s, .string x.t, .int .i64 x.a, .int .i64 x.b, .int .i64 k5, .int .i64 k6, .string s7, .slice a8 n8 p8, .slice a9 n9 p9, .slice an x.nn cn] 35 (0, 0)) := ⟨_, rfl⟩
                have HT1 : Hid (∀ W, Fr w8 W (fun _ => False) → Calls Tryd.prog 11 #[.pointer (some ⟨g, 0, none⟩), .int .i64 x.a, .slice an x.nn cn] W fun o w' => o = .returned (errV (K.giveCode L x.a N0)) ∧ Mid w') := by
                  intro W hf
                  have hs := HST8.out.fr hf
                  refine (give_any W B g D L (13 * (i : Int)) x.a _ N0 hs.lk (by omega) (by omega) (HSNF.out W hs.below) (by omega) hszN).mono ?_
                  rintro o w' ⟨rfl, L9, hd9, h1, h2, h3⟩
                  refine ⟨rfl, ?_⟩
                  rw [hMid]
                  obtain ⟨B9, D9, hs9⟩ := hs.did hd9
                  have hbW : W.heap[ba]? = some (.cells #[.string x.kind, .string x.s, .string x.t, .int .i64 x.a, .int .i64 x.b, .int .i64 k5, .int .i64 k6, .string s7, .slice a8 n8 p8, .slice a9 n9 p9, .slice an x.nn cn] 35 (0, 0)) := (hf.block ba (Array.getElem?_eq_some_iff.1 HB8.out).1 (fun e => e)).trans HB8.out
                  exact ⟨⟨B9, D9, L9, hs9, h1, h2, h3⟩, (hd9.fr.block ba (Array.getElem?_eq_some_iff.1 hbW).1 hbaB).trans hbW⟩
                obtain ⟨End, hEnd⟩ : ∃ End : World → Prop, End = fun w' => Sx.End w w' g bh bl bu (13 * (i : Int) + 13) (i + 1) ∧ w'.heap[ba]? = some (.cells #[.string x.kind, .string x.s, .string x.t, .int .i64 x.a, .int .i64 x.b, .int .i64 k5, .int .i64 k6, .string s7, .slice a8 n8 p8, .slice a9 n9 p9, .slice an x.nn cn] 35 (0, 0)) := ⟨_, rfl⟩
                have HT2 : Hid (∀ W, Mid W → Calls Tryd.prog 12 #[.map (some bh), .int .i64 x.a, .slice an x.nn cn] W fun o w' => o = .returned (.int .i64 (K.giveCode L x.a N0 : Int)) ∧ End w') := by
                  intro W hm
                  rw [hMid] at hm
                  obtain ⟨⟨B9, D9, L9, hs9, h1, h2, h3⟩, hb9⟩ := hm
                  refine (refUnlock_any W bh F L x.a _ N0 hs9.map HTD.out (HSNF.out W hs9.below) (by omega) hszN HNB.out).mono ?_
                  rintro o w' ⟨rfl, F', hI', hf', q1, q2⟩
                  refine ⟨rfl, ?_⟩
                  rw [hEnd]
                  refine ⟨⟨B9, D9, L9, F', lo, hi, (hs9.mapd hf' hI').more (Int.le_refl _) (Nat.le_succ _), ?_, by omega⟩, (hf'.block ba (Array.getElem?_eq_some_iff.1 hb9).1 HBA.out.1).trans hb9⟩
                  by_cases hc : K.giveCode L x.a N0 = 0
                  · rw [q2 hc]; exact HTD.out.gave (h3 hc)
                  · rw [q1 hc, h2 hc]; exact HTD.out
                have HCM : Hid (∀ W, Mid W → W.cell? ⟨ba, 3, none⟩ = some (.int .i64 x.a) ∧ W.cell? ⟨ba, 10, none⟩ = some (.slice an x.nn cn)) := by
                  intro W hm
                  rw [hMid] at hm
                  exact ⟨cell_of_block hm.2 3 _ rfl, cell_of_block hm.2 10 _ rfl⟩
                have HCE : Hid (∀ W, End W → W.cell? ⟨ba, 3, none⟩ = some (.int .i64 x.a) ∧ W.cell? ⟨ba, 10, none⟩ = some (.slice an x.nn cn)) := by
                  intro W hm
                  rw [hEnd] at hm
                  exact ⟨cell_of_block hm.2 3 _ rfl, cell_of_block hm.2 10 _ rfl⟩
                have HFI : Hid (∀ W, End W → Sx.End w W g bh bl bu (13 * (i : Int) + 13) (i + 1)) := by
                  intro W hm
                  rw [hEnd] at hm
                  exact hm.1
                clear hMid hEnd HST8 HTD HSNF HB8 HBA HNB
                generalize K.giveCode L x.a N0 = c0 at *
                go_wp2_with fail
                go_region_held3 (fun W' => W'.cell? ⟨ba, 3, none⟩ = some (.int .i64 x.a) ∧ W'.cell? ⟨ba, 10, none⟩ = some (.slice an x.nn cn)) (first | exact ⟨z3, z10⟩ | exact HCM.out _ hm9 | exact HCE.out _ hm10 | go_keep)
                  (first
                    | (go_at_call 11; (with_reducible refine Calls.mono (HT1.out _ ?_) ?_); exact (Fr.refl _ _).drew; rintro o w9 ⟨rfl, hm9⟩)
                    | (go_at_call 12; (with_reducible refine Calls.mono (HT2.out _ hm9) ?_); rintro o w10 ⟨rfl, hm10⟩)
                    | (go_at_call 8; (with_reducible refine Calls.mono (same_any c0 _) ?_); rintro o w11 ⟨rfl, rfl⟩))
                have HE := hide (HFI.out _ hm10)
                clear hm10 hm9
                go_wp2_with fail
                go_meet
                exact ⟨rfl, _, rfl, HE.out⟩
            | false =>
              cases hav : (x.kind.toList == [97, 108, 105, 118, 101]) with
              | true =>
                as_aux_lemma =>
                  have hbl : w8.cell? ⟨bl, 0, none⟩ = some (.int .i64 lo) := cell_of_block HST8.out.clo 0 _ rfl
                  have hblf : w8.frozen? ⟨bl, 0, none⟩ = false := free_of_block HST8.out.clo 0
                  have HS2 := hide (HST8.out.setlo x.a)
                  have hf2 : Fr w8 (w8.setCell ⟨bl, 0, none⟩ (.int .i64 x.a)) (fun c => c = bl) := Fr.set1 w8 bl 0 (.int .i64 x.a)
                  have q4 : (w8.setCell ⟨bl, 0, none⟩ (.int .i64 x.a)).cell? ⟨ba, 4, none⟩ = some (.int .i64 x.b) := cell_frx hf2 HBA.out.2.1 z4
                  have q5 : (w8.setCell ⟨bl, 0, none⟩ (.int .i64 x.a)).cell? ⟨bu, 0, none⟩ = some (.int .i64 hi) := cell_of_block HS2.out.chi 0 _ rfl
                  have q6 : (w8.setCell ⟨bl, 0, none⟩ (.int .i64 x.a)).frozen? ⟨bu, 0, none⟩ = false := free_of_block HS2.out.chi 0
                  clear hf2
                  go_wp2_with fail
                  go_meet
                  exact ⟨rfl, _, rfl, B, D, L, F, x.a, x.b, (HS2.out.sethi x.b).more (by omega) (Nat.le_succ _), HTD.out, by omega⟩
              | false =>
                cases hfi : (x.kind.toList == [102, 105, 108, 101]) with
                | true =>
                  as_aux_lemma =>
                    have HNM := hide (refName_any x.s w8 HSZS.out)
                    cases hnm : N.name x.s with
                    | false =>
                      rw [hnm] at HNM
                      go_wp2_with (go_at_call 13; (with_reducible refine Calls.mono HNM.out ?_); rintro o w9 ⟨rfl, hw9⟩; rw [hw9]; clear hw9 w9)
                      go_meet
                      exact ⟨rfl, _, rfl, B, D, L, F, lo, hi, HST8.out.more (by omega) (Nat.le_succ _), HTD.out, by omega⟩
                    | true =>
                      rw [hnm] at HNM
                      by_cases ht : x.t.size ≤ 4000
                      · have hln := J.len_run HST8.out.map
                        by_cases hF : F.length < 24
                        · have hFi : (F.length : Int) < 24 := by omega
                          have hti : (x.t.size : Int) ≤ 4000 := by omega
                          have hFL := HTD.out.len HST8.out.lk.on.nodup
                          have HWR := hide (lockWrite_any w8 B g D L (13 * (i : Int)) i x.s x.t HST8.out.lk (by omega) (by omega) hnm ht (by omega))
                          have HLT : Hid (L.length < 24) := by show _ < _; omega
                          unfold K.pre at HWR
                          have hs12 := N.name_size hnm
                          clear hFL
                          go_wp2_with (first
                            | (go_at_call 13; (with_reducible refine Calls.mono HNM.out ?_); rintro o w9 ⟨rfl, hw9⟩; rw [hw9]; clear hw9 w9)
                            | (go_at_call 14; (with_reducible refine Calls.mono HWR.out ?_); rintro o w9 ⟨rfl, hd9⟩; have hb9 := (hd9.fr.block ba (Array.getElem?_eq_some_iff.1 HB8.out).1 hbaB).trans HB8.out; obtain ⟨B9, D9, hs9⟩ := HST8.out.did hd9; have y1 := cell_of_block hb9 1 _ rfl; have y2 := cell_of_block hb9 2 _ rfl; obtain ⟨wv, hr, hIv, hgv⟩ := J.update hs9.map x.s x.t; simp only [J.val] at hr; have HS9 := hide hs9; have HIV := hide hIv; have HGV := hide hgv; clear hd9 hb9 hs9 hIv hgv))
                          go_meet
                          have hfv : Fr w9 wv (fun c => c = bh) := ⟨HGV.out.os, HGV.out.tape, HGV.out.output, HGV.out.size, fun c hc he => HGV.out.block c hc (fun e => he (by simpa using e))⟩
                          have hpl := K.put_len L x.s x.t
                          have hlt := HLT.out
                          exact ⟨rfl, _, rfl, B9, D9, K.put L x.s x.t, M.put F x.s x.t, lo, hi, (HS9.out.mapd hfv HIV.out).more (by omega) (Nat.le_refl _), ⟨J.put_keys HTD.out.keys, fun n => by rw [J.get_put, K.get_put, HTD.out.same]⟩, by omega⟩
                        · have hFi : ¬ (F.length : Int) < 24 := by omega
                          have hti : (x.t.size : Int) ≤ 4000 := by omega
                          go_wp2_with (go_at_call 13; (with_reducible refine Calls.mono HNM.out ?_); rintro o w9 ⟨rfl, hw9⟩; rw [hw9]; clear hw9 w9)
                          go_meet
                          exact ⟨rfl, _, rfl, B, D, L, F, lo, hi, HST8.out.more (by omega) (Nat.le_succ _), HTD.out, by omega⟩
                      · have hti : ¬ (x.t.size : Int) ≤ 4000 := by omega
                        go_wp2_with (go_at_call 13; (with_reducible refine Calls.mono HNM.out ?_); rintro o w9 ⟨rfl, hw9⟩; rw [hw9]; clear hw9 w9)
                        go_meet
                        exact ⟨rfl, _, rfl, B, D, L, F, lo, hi, HST8.out.more (by omega) (Nat.le_succ _), HTD.out, by omega⟩
                | false =>
                  as_aux_lemma =>
                    obtain ⟨q, bb, c, hE⟩ : ∃ q bb c, K.own L x.s = (q, bb, c) := ⟨_, _, _, rfl⟩
                    have HO1 := hide (owner_any w8 B g D L x.s HST8.out.lk.disk HST8.out.lk.inv.down HST8.out.lk.on HSZS.out)
                    have HO2 : Hid (∀ W, Fr w8 W (fun _ => False) → Calls Tryd.prog 16 #[.map (some bh), .string x.s] W fun o w' => o = .returned (.tuple #[.int .i64 (K.own L x.s).1, .bool (K.own L x.s).2.1, .int .i64 ((K.own L x.s).2.2 : Int)]) ∧ Fr W w' (fun _ => False)) := fun W hf => refOwner_any W bh F L x.s (HST8.out.fr hf).map HTD.out HSZS.out
                    rw [hE] at HO1 HO2
                    clear hE
                    have hqq : (q == q) = true := by simp
                    go_wp2_with (first
                      | (go_at_call 15; (with_reducible refine Calls.mono HO1.out ?_); rintro o w9 ⟨rfl, hf9⟩; have HF9 := hide hf9; have y1 := cell_frx hf9 (fun e => e) z1; clear hf9)
                      | (go_at_call 16; (with_reducible refine Calls.mono (HO2.out _ HF9.out) ?_); rintro o w10 ⟨rfl, hf10⟩; have HF10 := hide (HF9.out.trans hf10 (fun _ _ e => e)); clear hf10)
                      | (go_at_call 8; (with_reducible refine Calls.mono (same_any c _) ?_); rintro o w11 ⟨rfl, hw11⟩; rw [hw11]; clear hw11 w11))
                    go_meet
                    exact ⟨rfl, _, rfl, B, D, L, F, lo, hi, (HST8.out.fr HF10.out).more (by omega) (Nat.le_succ _), HTD.out, by omega⟩
        case rest =>
          obtain ⟨rfl, wz, hwz, B2, D2, L2, F2, lo2, hi2, hst2, htd2, hl36⟩ := hcut
          subst hwz
          have HST2 := hide hst2
          have HTD2 := hide htd2
          have hnd2 := hst2.lk.on.nodup
          have HALL := hide (all_any wz B2 g D2 L2 hst2.lk.disk hst2.lk.inv.down hst2.lk.on (by omega))
          have hFl : F2.length ≤ 900 := by have := htd2.len hnd2; omega
          have HNO := hide (K.names_once htd2 hnd2)
          have HNL := hide (K.names_len L2)
          clear hst2 htd2 hnd2 z0 z1 z2 z3 z4 z10 HST8 HTD HSNF HB8 HBA HNB HSZS
          go_wp2_with fail
          refine HALL.out.mono ?_
          rintro o wa ⟨uA, rfl, hoA, hfA⟩
          obtain ⟨aa, ca, rfl⟩ := owns_shape hoA
          have HSTA := hide (HST2.out.fr hfA)
          have HSO := hide (refSorted_any wa bh F2 HSTA.out.map HTD2.out.keys hFl)
          have HSA := hide (Strs.of_owns hoA)
          rw [← HNO.out] at HSO
          clear hoA hfA HALL HNO HST2
          go_wp2_with fail
          refine HSO.out.mono ?_
          rintro o wb ⟨uB, rfl, hsB, hfB⟩
          have HSTB := hide (HSTA.out.fr hfB)
          have HSM := hide (sameTexts_any (K.names L2) (K.names L2) _ uB wb (by have := HNL.out; omega) (HSA.out.kept (hfB.below (Nat.le_refl _) (fun _ e => e.elim)) (Nat.le_refl _)) hsB)
          clear hsB hfB HSO HSTA HSA
          go_wp2_with fail
          refine HSM.out.mono ?_
          rintro o wc' ⟨⟨bs, rfl, hbs⟩, hbc⟩
          have hbt := hbs rfl
          subst hbt
          have HSTC := hide (HSTB.out.fr (fr_below hbc))
          clear hbs hbc HSM HSTB
          by_cases h24 : 24 < L2.length
          · have h24i : (24 : Int) < ((K.names L2).length : Int) := by have := HNL.out; omega
            go_wp2_with fail
            go_ret
            exact ⟨rfl, HSTC.out.below⟩
          · have h24i : ¬ (24 : Int) < ((K.names L2).length : Int) := by have := HNL.out; omega
            go_wp2_with fail
            go_roundw
            case rel =>
              refine ⟨i + 1, _, B2, D2, L2, F2, lo2, hi2, rfl, by omega, by go_num, ?_, HTD2.out, by omega⟩
              have e : 13 * ((i + 1 : Nat) : Int) = 13 * (i : Int) + 13 := by omega
              rw [e]; exact HSTC.out
            case measure => simp [intOf]; omega
      · have HBX := hide hst.below
        clear hst htd
        go_wp2_with fail
        go_ret
        exact ⟨rfl, HBX.out⟩
end Go.Proofs.YtckbfjoffbnjeaaDoor
