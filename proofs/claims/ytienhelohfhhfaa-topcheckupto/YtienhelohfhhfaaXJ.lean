/- check.look's walk. -/
import Derived.Test.YtienhelohfhhfaaXI
import Derived.Deep.RegionLaw
namespace Go.Proofs.Ytienhelohfhhfaa.Vx
open Go.RowKit
attribute [local go_sem ↓] Go.wp_at_zero Go.wp_at_succ
/-- What look says. -/
def X.Looked (w w' : World) (B0 base Bn Bo : Nat) (nb : Value → Value → Array Value) (rv sv ov : Value) (r : Option (List Nat × List Nat)) (o : Ending) : Prop :=
  (r = none ∧ o = .returned (.iface 68 (.int .i64 7)) ∧ Below B0 w w') ∨
  (∃ q, r = some q ∧ o = .returned .nilIface ∧ ∃ sv' ov', X.St w' base Bn Bo nb rv sv' ov' q.1 q.2 ∧ X.Frame w w' (X.Ex4 Bn Bo sv ov) ∧ X.After w sv sv' ∧ X.After w ov ov')
/-- The stack's own rows, and all stacks, as they lay ahead. -/
structure X.Src (m : Nat) (W0 : World) (all : List Sk) (st : Sk) (aA ai ar : Option Addr) (cA ci cr : Nat) : Prop where
  pa : X.Stks m W0 (.slice aA all.length cA) all
  pi : X.Vals m W0 (.slice ai st.ins.length ci) st.ins
  pr : X.Ress m W0 (.slice ar st.res.length cr) st.res
  la : all.length ≤ 2000000
  li : st.ins.length ≤ 2000000
  lr : st.res.length ≤ 2000000
  lo : ∀ x : Sk, x ∈ all → x.outs.length ≤ 2000000
theorem X.elemA2 {w w1 : World} {v : Value} {n m : Nat} {l : List Ex} (h : V.Row w v n 10 (fun i c => ∃ x, l[i]? = some x ∧ X.Mem m w1 x c)) (i : Nat) (hi : i < n) :
    ∃ b off cap x d0 d1 d2 d3 d4 d5 d6 d7 d8 d9, v = .slice (some ⟨b, off, none⟩) n cap ∧ l[i]? = some x ∧ X.Mem m w1 x [d0, d1, d2, d3, d4, d5, d6, d7, d8, d9] ∧
      w.cell? ⟨b, off + i * 10, none⟩ = some d0 ∧ w.cell? ⟨b, off + i * 10 + 1, none⟩ = some d1 ∧ w.cell? ⟨b, off + i * 10 + 2, none⟩ = some d2 ∧ w.cell? ⟨b, off + i * 10 + 3, none⟩ = some d3 ∧ w.cell? ⟨b, off + i * 10 + 4, none⟩ = some d4 ∧
      w.cell? ⟨b, off + i * 10 + 5, none⟩ = some d5 ∧ w.cell? ⟨b, off + i * 10 + 6, none⟩ = some d6 ∧ w.cell? ⟨b, off + i * 10 + 7, none⟩ = some d7 ∧ w.cell? ⟨b, off + i * 10 + 8, none⟩ = some d8 ∧ w.cell? ⟨b, off + i * 10 + 9, none⟩ = some d9 := by
  obtain ⟨ao, cap, rfl, h | ⟨b, off, rfl, h⟩⟩ := h
  · omega
  · obtain ⟨cs, h1, h2, x, hx, hm⟩ := h i hi
    match cs, h1 with
    | [d0, d1, d2, d3, d4, d5, d6, d7, d8, d9], _ => exact ⟨b, off, cap, x, d0, d1, d2, d3, d4, d5, d6, d7, d8, d9, rfl, hx, hm, h2 0 (by omega), h2 1 (by omega), h2 2 (by omega), h2 3 (by omega), h2 4 (by omega), h2 5 (by omega), h2 6 (by omega), h2 7 (by omega), h2 8 (by omega), h2 9 (by omega)⟩
theorem X.posI_lt {ns : List ByteArray} {s : ByteArray} {k : Nat} (h : X.posI ns s = k) : k < ns.length := by
  unfold X.posI at h
  split at h
  · rename_i k' hk
    have := (List.findIdx?_eq_some_iff_findIdx_eq.1 hk).1
    omega
  · omega
theorem X.Frame.trans4 {w w1 w2 : World} {Bn Bo : Nat} {sv ov sv1 ov1 : Value} (h : X.Frame w w1 (X.Ex4 Bn Bo sv ov)) (k : X.Frame w1 w2 (X.Ex4 Bn Bo sv1 ov1)) (hs : X.After w sv sv1) (ho : X.After w ov ov1) : X.Frame w w2 (X.Ex4 Bn Bo sv ov) := by
  refine h.trans k (fun c hc he => ?_)
  rcases he with e | e | e | e
  · exact .inl e
  · exact .inr (.inl e)
  · rcases hs with h1 | ⟨g, h1, hg⟩
    · exact .inr (.inr (.inl (h1 ▸ e)))
    · rw [h1] at e; have : g = c := by simpa using e
      omega
  · rcases ho with h1 | ⟨g, h1, hg⟩
    · exact .inr (.inr (.inr (h1 ▸ e)))
    · rw [h1] at e; have : g = c := by simpa using e
      omega
theorem X.Frame.low {w w' : World} {B0 base Bn Bo : Nat} {nb : Value → Value → Array Value} {rv sv ov : Value} {own sts : List Nat} (h : X.Frame w w' (X.Ex4 Bn Bo sv ov)) (hs : X.St w base Bn Bo nb rv sv ov own sts) (h1 : B0 ≤ Bn) (h2 : B0 ≤ Bo) (h3 : B0 ≤ base) : Below B0 w w' := by
  refine h.below (Nat.le_trans h3 hs.le) (fun c he => ?_)
  rcases he with e | e | e | e
  · omega
  · omega
  · have := (hs.os.lt c e).1; omega
  · have := (hs.oo.lt c e).1; omega
set_option maxRecDepth 100000 in
set_option maxHeartbeats 8000000 in
theorem look_any (M : Nat) (W0 : World) (all : List Sk) (st : Sk) (aA ai ar ao : Option Addr) (cA ci cr co base Bn Bo : Nat) (HS : Hid (X.Src M W0 all st aA ai ar cA ci cr)) (hne : Bn ≠ Bo) (hl1 : W0.heap.size ≤ Bn) (hl2 : W0.heap.size ≤ Bo) (hl3 : W0.heap.size ≤ base) (rv : Value) (m : Nat) :
    ∀ (w : World) (e : Ex) (d0 d1 d2 d3 d4 d5 d6 d7 d8 d9 sv ov : Value) (own sts : List Nat), X.Mem m W0 e [d0, d1, d2, d3, d4, d5, d6, d7, d8, d9] → own.length + X.bulk m e ≤ 2500000 → sts.length + X.bulk m e ≤ 2500000 → Below W0.heap.size W0 w →
      X.St w base Bn Bo (fun r s => #[.slice aA all.length cA, .string st.name, .slice ai st.ins.length ci, .slice ar st.res.length cr, .slice ao st.outs.length co, r, s]) rv sv ov own sts →
    Calls Try.prog 90 #[.pointer (some ⟨Bn, 0, none⟩), .agg #[d0, d1, d2, d3, d4, d5, d6, d7, d8, d9], .pointer (some ⟨Bo, 0, none⟩)] w fun o w' => X.Looked w w' W0.heap.size base Bn Bo (fun r s => #[.slice aA all.length cA, .string st.name, .slice ai st.ins.length ci, .slice ar st.res.length cr, .slice ao st.outs.length co, r, s]) rv sv ov (X.lk all st m e (own, sts)) o := by
  induction m with
  | zero => intro w e d0 d1 d2 d3 d4 d5 d6 d7 d8 d9 sv ov own sts h; exact h.elim
  | succ m ih =>
    intro w e d0 d1 d2 d3 d4 d5 d6 d7 d8 d9 sv ov own sts ⟨c0, c1, c2, c3, c4, av, nv, hcs, hv, ha, hn⟩ hb1 hb2 hW hSt
    simp only [List.cons.injEq, and_true] at hcs
    obtain ⟨rfl, rfl, rfl, rfl, rfl, rfl, rfl, rfl, rfl, rfl⟩ := hcs
    obtain ⟨aa, ca, rfl⟩ := ha.shape
    obtain ⟨an, cn, rfl⟩ := hn.shape
    have IH : Hid _ := ih
    rw [X.bulk] at hb1 hb2
    have hal : e.a.length ≤ 2500000 := by omega
    have hbL : Below w.heap.size w (w.alloc (.cells #[.int .i64 e.kind, d1, d2, d3, d4, d5, .string e.s, .string e.t, .slice aa e.a.length ca, .slice an e.n.length cn] 109)) := (Below.refl _ _).alloc (Nat.le_refl _) _
    have hE0 : (w.alloc (.cells #[.int .i64 e.kind, d1, d2, d3, d4, d5, .string e.s, .string e.t, .slice aa e.a.length ca, .slice an e.n.length cn] 109)).heap[w.heap.size]? = some (.cells #[.int .i64 e.kind, d1, d2, d3, d4, d5, .string e.s, .string e.t, .slice aa e.a.length ca, .slice an e.n.length cn] 109 (0, 0)) := heap_alloc_new _ _
    have hStE := hSt.keep hbL
    have hWE := hW.trans (hbL.mono hW.size)
    have HLK : Hid (X.lk all st (m + 1) e (own, sts) = (X.named all st e (own, sts)).bind (fun q1 => e.a.foldl (fun o x => o.bind (X.lk all st m x)) (some q1))) := by show _ = _; rw [X.lk]
    have hBnl : Bn < w.heap.size := (Array.getElem?_eq_some_iff.1 hSt.hn).1
    have hBol : Bo < w.heap.size := (Array.getElem?_eq_some_iff.1 hSt.ho).1
    clear ih hv hn
    have HA := hide ha
    have HST := hide hSt
    have HSTE := hide hStE
    have HWE := hide hWE
    have HW0 := hide hW
    have HBL := hide hbL
    have HE0 := hide hE0
    have HNL := hide (fun q1 (h : X.named all st e (own, sts) = some q1) => X.named_len h)
    have HB1 := hide hb1
    have HB2 := hide hb2
    clear ha hSt hStE hWE hbL hE0 hW hb1 hb2
    have hk : e.kind = 2 ∨ e.kind = 3 ∨ e.kind = 4 ∨ (e.kind ≠ 2 ∧ e.kind ≠ 3 ∧ e.kind ≠ 4) := by omega
    rcases hk with hk | hk | hk | ⟨hk2, hk3, hk4⟩
    · have HK := hide hk
      rw [hk] at HSTE HWE HBL HE0 ⊢
      clear hk
      have hd0 : Below (w.alloc (.cells #[.int .i64 2, d1, d2, d3, d4, d5, .string e.s, .string e.t, .slice aa e.a.length ca, .slice an e.n.length cn] 109)).heap.size (w.alloc (.cells #[.int .i64 2, d1, d2, d3, d4, d5, .string e.s, .string e.t, .slice aa e.a.length ca, .slice an e.n.length cn] 109)) (w.alloc (.cells #[.int .i64 2, d1, d2, d3, d4, d5, .string e.s, .string e.t, .slice aa e.a.length ca, .slice an e.n.length cn] 109)).drew := (Below.refl _ _).drew
      have HFI := hide (fun w' (hb : Below (w.alloc (.cells #[.int .i64 2, d1, d2, d3, d4, d5, .string e.s, .string e.t, .slice aa e.a.length ca, .slice an e.n.length cn] 109)).heap.size (w.alloc (.cells #[.int .i64 2, d1, d2, d3, d4, d5, .string e.s, .string e.t, .slice aa e.a.length ca, .slice an e.n.length cn] 109)) w') => findI_any M w' _ st.ins (HS.out.pi.kept (HWE.out.trans (hb.mono HWE.out.size))) e.s HS.out.li)
      have g2 : (w.alloc (.cells #[.int .i64 2, d1, d2, d3, d4, d5, .string e.s, .string e.t, .slice aa e.a.length ca, .slice an e.n.length cn] 109)).cell? ⟨Bn, 2, none⟩ = some (.slice ai st.ins.length ci) := cell_of_block HSTE.out.hn 2 _ rfl
      have g6 : (w.alloc (.cells #[.int .i64 2, d1, d2, d3, d4, d5, .string e.s, .string e.t, .slice aa e.a.length ca, .slice an e.n.length cn] 109)).cell? ⟨w.heap.size, 6, none⟩ = some (.string e.s) := cell_of_block HE0.out 6 _ rfl
      have hnm : X.named all st e (own, sts) = if X.posI (st.ins.map (·.1)) e.s < 0 then none else some (own, sts) := by unfold X.named; rw [if_pos HK.out]
      generalize X.posI (st.ins.map (·.1)) e.s = p at *
      by_cases hp : p < 0
      · rw [if_pos hp] at hnm
        have hfin : X.lk all st (m + 1) e (own, sts) = none := by rw [HLK.out, hnm]; rfl
        have HFIN := hide hfin
        clear hfin hnm
        go_enter Try.func90, Try.ntmps90
        go_wp2_with fail
        go_region_held3 (fun W' => W'.cell? ⟨Bn, 2, none⟩ = some (.slice ai st.ins.length ci) ∧ W'.cell? ⟨w.heap.size, 6, none⟩ = some (.string e.s) ∧ Below (w.alloc (.cells #[.int .i64 2, d1, d2, d3, d4, d5, .string e.s, .string e.t, .slice aa e.a.length ca, .slice an e.n.length cn] 109)).heap.size (w.alloc (.cells #[.int .i64 2, d1, d2, d3, d4, d5, .string e.s, .string e.t, .slice aa e.a.length ca, .slice an e.n.length cn] 109)) W') (first | exact ⟨g2, g6, hd0⟩ | exact ⟨t1, t2, t3⟩ | go_keep)
          (first | (go_at_call 86; (with_reducible refine Calls.mono (HFI.out _ ?_) ?_); assumption; rintro o w2 ⟨rfl, hb2⟩; have t3 := hd0.trans (hb2.mono (Nat.le_refl _)); have t1 := kept_cell t3 g2; have t2 := kept_cell t3 g6))
        go_wp2_with fail
        go_ret
        exact .inl ⟨HFIN.out, rfl, (HBL.out.trans (t3.mono HBL.out.size)).mono (Nat.le_trans hl1 (Nat.le_of_lt hBnl))⟩
      rw [if_neg hp] at hnm
      have HNM0 := hide hnm
      clear hnm
      go_enter Try.func90, Try.ntmps90
      go_wp2_with fail
      go_region_held3 (fun W' => W'.cell? ⟨Bn, 2, none⟩ = some (.slice ai st.ins.length ci) ∧ W'.cell? ⟨w.heap.size, 6, none⟩ = some (.string e.s) ∧ Below (w.alloc (.cells #[.int .i64 2, d1, d2, d3, d4, d5, .string e.s, .string e.t, .slice aa e.a.length ca, .slice an e.n.length cn] 109)).heap.size (w.alloc (.cells #[.int .i64 2, d1, d2, d3, d4, d5, .string e.s, .string e.t, .slice aa e.a.length ca, .slice an e.n.length cn] 109)) W') (first | exact ⟨g2, g6, hd0⟩ | exact ⟨t1, t2, t3⟩ | go_keep)
        (first | (go_at_call 86; (with_reducible refine Calls.mono (HFI.out _ ?_) ?_); assumption; rintro o w2 ⟨rfl, hb2⟩; have t3 := hd0.trans (hb2.mono (Nat.le_refl _)); have t1 := kept_cell t3 g2; have t2 := kept_cell t3 g6))
      have HT3 := hide t3
      clear t1 t2 t3 hb2 g2 g6 hd0 HFI
      obtain ⟨sv1, hsv1⟩ : ∃ sv1, sv1 = sv := ⟨_, rfl⟩
      obtain ⟨ov1, hov1⟩ : ∃ ov1, ov1 = ov := ⟨_, rfl⟩
      obtain ⟨own1, hown1⟩ : ∃ own1, own1 = own := ⟨_, rfl⟩
      obtain ⟨sts1, hsts1⟩ : ∃ sts1, sts1 = sts := ⟨_, rfl⟩
      have HSS : Hid (X.St w2 base Bn Bo (fun r s => #[.slice aA all.length cA, .string st.name, .slice ai st.ins.length ci, .slice ar st.res.length cr, .slice ao st.outs.length co, r, s]) rv sv1 ov1 own1 sts1) := by rw [hsv1, hov1, hown1, hsts1]; exact HSTE.out.keep HT3.out
      have HNM : Hid (X.named all st e (own, sts) = some (own1, sts1)) := by rw [hown1, hsts1]; exact HNM0.out
      have HES : Hid (w2.heap[w.heap.size]? = some (.cells #[.int .i64 2, d1, d2, d3, d4, d5, .string e.s, .string e.t, .slice aa e.a.length ca, .slice an e.n.length cn] 109 (0, 0))) := (HT3.out.block w.heap.size (lt_alloc w _)).trans HE0.out
      have HFS : Hid (X.Frame w w2 (X.Ex4 Bn Bo sv ov)) := X.Frame.of_below (HBL.out.trans (HT3.out.mono HBL.out.size)) _
      have HA1 : Hid (X.After w sv sv1) := by rw [hsv1]; exact X.After.refl _ _
      have HA2 : Hid (X.After w ov ov1) := by rw [hov1]; exact X.After.refl _ _
      clear hsv1 hov1 hown1 hsts1
      have HLK2 : Hid (X.lk all st (m + 1) e (own, sts) = e.a.foldl (fun o x => o.bind (X.lk all st m x)) (some (own1, sts1))) := by show _ = _; rw [HLK.out, HNM.out]; rfl
      have hsum : own1.length + X.sumA (X.bulk m) e.a ≤ 2500000 ∧ sts1.length + X.sumA (X.bulk m) e.a ≤ 2500000 := by
        have h1 := HNL.out _ HNM.out
        have h2 := HB1.out
        have h3 := HB2.out
        simp only at h1
        omega
      have HSUM := hide hsum
      clear hsum
      have g8 := cell_of_block HES.out 8 _ rfl
      go_wp2_with fail
      go_loopw [75, 9, 10] (fun vi _ _ wx => ∃ (k : Nat) (sv2 ov2 : Value) (own2 sts2 : List Nat), k ≤ e.a.length ∧ vi = .int .i64 k ∧ X.lkTo all st m e (own1, sts1) k = some (own2, sts2) ∧ wx.heap[w.heap.size]? = some (.cells #[.int .i64 2, d1, d2, d3, d4, d5, .string e.s, .string e.t, .slice aa e.a.length ca, .slice an e.n.length cn] 109 (0, 0)) ∧ X.St wx base Bn Bo (fun r s => #[.slice aA all.length cA, .string st.name, .slice ai st.ins.length ci, .slice ar st.res.length cr, .slice ao st.outs.length co, r, s]) rv sv2 ov2 own2 sts2 ∧ X.Frame w wx (X.Ex4 Bn Bo sv ov) ∧ X.After w sv sv2 ∧ X.After w ov ov2) (fun vi _ _ _ => e.a.length - (intOf vi).toNat)
      case atStart => exact ⟨0, sv1, ov1, own1, sts1, Nat.zero_le _, rfl, rfl, HES.out, HSS.out, HFS.out, HA1.out, HA2.out⟩
      case round =>
        obtain ⟨k, sv2, ov2, own2, sts2, hk9, rfl, hlt9, hE9, hS9, hF9, hA9, hB9⟩ := hrel
        clear g8
        have g8 := cell_of_block hE9 8 _ rfl
        have hlow := hF9.low HST.out hl1 hl2 hl3
        have hw0 : Below W0.heap.size W0 wr := HW0.out.trans hlow
        by_cases hka : k < e.a.length
        · obtain ⟨b, off, cap, x, f0, f1, f2, f3, f4, f5, f6, f7, f8, f9, e1, hx, hm, y0, y1, y2, y3, y4, y5, y6, y7, y8, y9⟩ := X.elemA2 (w1 := W0) (HA.out.kept hw0 (fun _ _ h => h)) k hka
          simp only [Value.slice.injEq] at e1
          obtain ⟨rfl, _, rfl⟩ := e1
          have hbx := X.lkTo_len hlt9 2500000 HSUM.out hx
          simp only at hbx
          have hI := IH.out wr x f0 f1 f2 f3 f4 f5 f6 f7 f8 f9 sv2 ov2 own2 sts2 hm hbx.1 hbx.2 hw0 hS9
          have hnx := X.lkTo_next (all := all) (st := st) (m := m) (q1 := (own1, sts1)) hx
          rw [hlt9, Option.bind_some] at hnx
          have HI := hide hI
          have HNX := hide hnx
          have HE9 := hide hE9
          have HS9 := hide hS9
          have HF9 := hide hF9
          have HA9 := hide hA9
          have HB9 := hide hB9
          have hwl : w.heap.size < wr.heap.size := (Array.getElem?_eq_some_iff.1 hE9).1
          clear hI hnx hE9 hS9 hF9 hA9 hB9 hm hx hlow hw0 hbx hlt9
          generalize X.lk all st m x (own2, sts2) = R at *
          go_wp2_with fail
          refine HI.out.mono ?_
          rintro o w2 h2
          rcases h2 with ⟨rfl, rfl, hb2⟩ | ⟨q, rfl, rfl, sv3, ov3, hS3, hF3, hA3, hB3⟩
          · have hfin : X.lk all st (m + 1) e (own, sts) = none := by rw [HLK2.out]; exact X.lkTo_none HNX.out
            have HFIN := hide hfin
            clear hfin
            go_wp2_with fail
            go_ret
            exact .inl ⟨HFIN.out, rfl, (HF9.out.low HST.out hl1 hl2 hl3).trans hb2⟩
          · have hE3 := (hF3.block w.heap.size hwl (by
              intro he
              rcases he with h | h | h | h
              · omega
              · omega
              · exact X.owns_type HS9.out.os HE9.out (by decide) h
              · exact X.owns_type HS9.out.oo HE9.out (by decide) h)).trans HE9.out
            have HE3 := hide hE3
            clear hE3
            go_wp2_with fail
            go_roundw
            case rel => exact ⟨k + 1, sv3, ov3, q.1, q.2, by omega, by go_num, HNX.out, HE3.out, hS3, HF9.out.trans4 hF3 HA9.out HB9.out, HA9.out.trans hA3 HF9.out.size, HB9.out.trans hB3 HF9.out.size⟩
            case measure => simp [intOf]; omega
        · have hfin : X.lk all st (m + 1) e (own, sts) = some (own2, sts2) := by rw [HLK2.out, ← X.lkTo_all (k := k) (by omega)]; exact hlt9
          have HFIN := hide hfin
          clear hfin hlow hw0
          go_wp2_with fail
          go_ret
          exact .inr ⟨_, HFIN.out, rfl, sv2, ov2, hS9, hF9, hA9, hB9⟩
    · have HK := hide hk
      rw [hk] at HSTE HWE HBL HE0 ⊢
      clear hk
      have hd0 : Below (w.alloc (.cells #[.int .i64 3, d1, d2, d3, d4, d5, .string e.s, .string e.t, .slice aa e.a.length ca, .slice an e.n.length cn] 109)).heap.size (w.alloc (.cells #[.int .i64 3, d1, d2, d3, d4, d5, .string e.s, .string e.t, .slice aa e.a.length ca, .slice an e.n.length cn] 109)) (w.alloc (.cells #[.int .i64 3, d1, d2, d3, d4, d5, .string e.s, .string e.t, .slice aa e.a.length ca, .slice an e.n.length cn] 109)).drew := (Below.refl _ _).drew
      have HFI := hide (fun w' (hb : Below (w.alloc (.cells #[.int .i64 3, d1, d2, d3, d4, d5, .string e.s, .string e.t, .slice aa e.a.length ca, .slice an e.n.length cn] 109)).heap.size (w.alloc (.cells #[.int .i64 3, d1, d2, d3, d4, d5, .string e.s, .string e.t, .slice aa e.a.length ca, .slice an e.n.length cn] 109)) w') => findR_any M w' _ st.res (HS.out.pr.kept (HWE.out.trans (hb.mono HWE.out.size))) e.s HS.out.lr)
      have g2 : (w.alloc (.cells #[.int .i64 3, d1, d2, d3, d4, d5, .string e.s, .string e.t, .slice aa e.a.length ca, .slice an e.n.length cn] 109)).cell? ⟨Bn, 3, none⟩ = some (.slice ar st.res.length cr) := cell_of_block HSTE.out.hn 3 _ rfl
      have g6 : (w.alloc (.cells #[.int .i64 3, d1, d2, d3, d4, d5, .string e.s, .string e.t, .slice aa e.a.length ca, .slice an e.n.length cn] 109)).cell? ⟨w.heap.size, 6, none⟩ = some (.string e.s) := cell_of_block HE0.out 6 _ rfl
      have hnm : X.named all st e (own, sts) = if X.posI (st.res.map (·.name)) e.s < 0 then none else some (X.once own (X.posI (st.res.map (·.name)) e.s).toNat, sts) := by unfold X.named; have h9 := HK.out; rw [if_neg (by omega), if_pos h9]
      generalize X.posI (st.res.map (·.name)) e.s = p at *
      by_cases hp : p < 0
      · rw [if_pos hp] at hnm
        have hfin : X.lk all st (m + 1) e (own, sts) = none := by rw [HLK.out, hnm]; rfl
        have HFIN := hide hfin
        clear hfin hnm
        go_enter Try.func90, Try.ntmps90
        go_wp2_with fail
        go_region_held3 (fun W' => W'.cell? ⟨Bn, 3, none⟩ = some (.slice ar st.res.length cr) ∧ W'.cell? ⟨w.heap.size, 6, none⟩ = some (.string e.s) ∧ Below (w.alloc (.cells #[.int .i64 3, d1, d2, d3, d4, d5, .string e.s, .string e.t, .slice aa e.a.length ca, .slice an e.n.length cn] 109)).heap.size (w.alloc (.cells #[.int .i64 3, d1, d2, d3, d4, d5, .string e.s, .string e.t, .slice aa e.a.length ca, .slice an e.n.length cn] 109)) W') (first | exact ⟨g2, g6, hd0⟩ | exact ⟨t1, t2, t3⟩ | go_keep)
          (first | (go_at_call 87; (with_reducible refine Calls.mono (HFI.out _ ?_) ?_); assumption; rintro o w2 ⟨rfl, hb2⟩; have t3 := hd0.trans (hb2.mono (Nat.le_refl _)); have t1 := kept_cell t3 g2; have t2 := kept_cell t3 g6))
        go_wp2_with fail
        go_ret
        exact .inl ⟨HFIN.out, rfl, (HBL.out.trans (t3.mono HBL.out.size)).mono (Nat.le_trans hl1 (Nat.le_of_lt hBnl))⟩
      rw [if_neg hp] at hnm
      obtain ⟨pn, rfl⟩ : ∃ pn : Nat, p = (pn : Int) := ⟨p.toNat, by omega⟩
      rw [Int.toNat_natCast] at hnm
      have HNM0 := hide hnm
      clear hnm
      go_enter Try.func90, Try.ntmps90
      go_wp2_with fail
      go_region_held3 (fun W' => W'.cell? ⟨Bn, 3, none⟩ = some (.slice ar st.res.length cr) ∧ W'.cell? ⟨w.heap.size, 6, none⟩ = some (.string e.s) ∧ Below (w.alloc (.cells #[.int .i64 3, d1, d2, d3, d4, d5, .string e.s, .string e.t, .slice aa e.a.length ca, .slice an e.n.length cn] 109)).heap.size (w.alloc (.cells #[.int .i64 3, d1, d2, d3, d4, d5, .string e.s, .string e.t, .slice aa e.a.length ca, .slice an e.n.length cn] 109)) W') (first | exact ⟨g2, g6, hd0⟩ | exact ⟨t1, t2, t3⟩ | go_keep)
        (first | (go_at_call 87; (with_reducible refine Calls.mono (HFI.out _ ?_) ?_); assumption; rintro o w2 ⟨rfl, hb2⟩; have t3 := hd0.trans (hb2.mono (Nat.le_refl _)); have t1 := kept_cell t3 g2; have t2 := kept_cell t3 g6))
      have HT3 := hide t3
      clear t1 t2 t3 hb2 g2 g6 hd0 HFI
      have HS2 := hide (HSTE.out.keep HT3.out)
      have HAD := hide (addOnce_any w2 base Bo 0 #[ov] 37 ov own pn HS2.out.ho rfl (by decide) HS2.out.oo (by have := HB1.out; omega) HS2.out.le)
      go_wp2_with fail
      refine HAD.out.mono ?_
      rintro o w3 ⟨rfl, ov1, hadd⟩
      have HADD := hide hadd
      clear hadd HAD
      obtain ⟨sv1, hsv1⟩ : ∃ sv1, sv1 = sv := ⟨_, rfl⟩
      obtain ⟨own1, hown1⟩ : ∃ own1, own1 = X.once own pn := ⟨_, rfl⟩
      obtain ⟨sts1, hsts1⟩ : ∃ sts1, sts1 = sts := ⟨_, rfl⟩
      have HSS : Hid (X.St w3 base Bn Bo (fun r s => #[.slice aA all.length cA, .string st.name, .slice ai st.ins.length ci, .slice ar st.res.length cr, .slice ao st.outs.length co, r, s]) rv sv1 ov1 own1 sts1) := by rw [hsv1, hown1, hsts1]; exact HS2.out.addOwn hne HADD.out
      have HNM : Hid (X.named all st e (own, sts) = some (own1, sts1)) := by rw [hown1, hsts1]; exact HNM0.out
      have hE2 : w2.heap[w.heap.size]? = some (.cells #[.int .i64 3, d1, d2, d3, d4, d5, .string e.s, .string e.t, .slice aa e.a.length ca, .slice an e.n.length cn] 109 (0, 0)) := (HT3.out.block w.heap.size (lt_alloc w _)).trans HE0.out
      have HES : Hid (w3.heap[w.heap.size]? = some (.cells #[.int .i64 3, d1, d2, d3, d4, d5, .string e.s, .string e.t, .slice aa e.a.length ca, .slice an e.n.length cn] 109 (0, 0))) := (HADD.out.frame.block w.heap.size (Array.getElem?_eq_some_iff.1 hE2).1 (by
        intro he
        rcases he with h | h
        · omega
        · exact X.owns_type HS2.out.oo hE2 (by decide) h)).trans hE2
      have HFS : Hid (X.Frame w w3 (X.Ex4 Bn Bo sv ov)) := (X.Frame.of_below (HBL.out.trans (HT3.out.mono HBL.out.size)) (X.Ex4 Bn Bo sv ov)).trans HADD.out.frame (fun c _ he => he.elim (fun h => .inr (.inl h)) (fun h => .inr (.inr (.inr h))))
      have HA1 : Hid (X.After w sv sv1) := by rw [hsv1]; exact X.After.refl _ _
      have HA2 : Hid (X.After w ov ov1) := by
        rcases HADD.out.at_ with h | ⟨g, h, hg⟩
        · exact .inl h
        · exact .inr ⟨g, h, Nat.le_trans (HBL.out.trans (HT3.out.mono HBL.out.size)).size hg⟩
      clear hsv1 hown1 hsts1 hE2
      have HLK2 : Hid (X.lk all st (m + 1) e (own, sts) = e.a.foldl (fun o x => o.bind (X.lk all st m x)) (some (own1, sts1))) := by show _ = _; rw [HLK.out, HNM.out]; rfl
      have hsum : own1.length + X.sumA (X.bulk m) e.a ≤ 2500000 ∧ sts1.length + X.sumA (X.bulk m) e.a ≤ 2500000 := by
        have h1 := HNL.out _ HNM.out
        have h2 := HB1.out
        have h3 := HB2.out
        simp only at h1
        omega
      have HSUM := hide hsum
      clear hsum
      have g8 := cell_of_block HES.out 8 _ rfl
      go_wp2_with fail
      go_loopw [75, 9, 10] (fun vi _ _ wx => ∃ (k : Nat) (sv2 ov2 : Value) (own2 sts2 : List Nat), k ≤ e.a.length ∧ vi = .int .i64 k ∧ X.lkTo all st m e (own1, sts1) k = some (own2, sts2) ∧ wx.heap[w.heap.size]? = some (.cells #[.int .i64 3, d1, d2, d3, d4, d5, .string e.s, .string e.t, .slice aa e.a.length ca, .slice an e.n.length cn] 109 (0, 0)) ∧ X.St wx base Bn Bo (fun r s => #[.slice aA all.length cA, .string st.name, .slice ai st.ins.length ci, .slice ar st.res.length cr, .slice ao st.outs.length co, r, s]) rv sv2 ov2 own2 sts2 ∧ X.Frame w wx (X.Ex4 Bn Bo sv ov) ∧ X.After w sv sv2 ∧ X.After w ov ov2) (fun vi _ _ _ => e.a.length - (intOf vi).toNat)
      case atStart => exact ⟨0, sv1, ov1, own1, sts1, Nat.zero_le _, rfl, rfl, HES.out, HSS.out, HFS.out, HA1.out, HA2.out⟩
      case round =>
        obtain ⟨k, sv2, ov2, own2, sts2, hk9, rfl, hlt9, hE9, hS9, hF9, hA9, hB9⟩ := hrel
        clear g8
        have g8 := cell_of_block hE9 8 _ rfl
        have hlow := hF9.low HST.out hl1 hl2 hl3
        have hw0 : Below W0.heap.size W0 wr := HW0.out.trans hlow
        by_cases hka : k < e.a.length
        · obtain ⟨b, off, cap, x, f0, f1, f2, f3, f4, f5, f6, f7, f8, f9, e1, hx, hm, y0, y1, y2, y3, y4, y5, y6, y7, y8, y9⟩ := X.elemA2 (w1 := W0) (HA.out.kept hw0 (fun _ _ h => h)) k hka
          simp only [Value.slice.injEq] at e1
          obtain ⟨rfl, _, rfl⟩ := e1
          have hbx := X.lkTo_len hlt9 2500000 HSUM.out hx
          simp only at hbx
          have hI := IH.out wr x f0 f1 f2 f3 f4 f5 f6 f7 f8 f9 sv2 ov2 own2 sts2 hm hbx.1 hbx.2 hw0 hS9
          have hnx := X.lkTo_next (all := all) (st := st) (m := m) (q1 := (own1, sts1)) hx
          rw [hlt9, Option.bind_some] at hnx
          have HI := hide hI
          have HNX := hide hnx
          have HE9 := hide hE9
          have HS9 := hide hS9
          have HF9 := hide hF9
          have HA9 := hide hA9
          have HB9 := hide hB9
          have hwl : w.heap.size < wr.heap.size := (Array.getElem?_eq_some_iff.1 hE9).1
          clear hI hnx hE9 hS9 hF9 hA9 hB9 hm hx hlow hw0 hbx hlt9
          generalize X.lk all st m x (own2, sts2) = R at *
          go_wp2_with fail
          refine HI.out.mono ?_
          rintro o w2 h2
          rcases h2 with ⟨rfl, rfl, hb2⟩ | ⟨q, rfl, rfl, sv3, ov3, hS3, hF3, hA3, hB3⟩
          · have hfin : X.lk all st (m + 1) e (own, sts) = none := by rw [HLK2.out]; exact X.lkTo_none HNX.out
            have HFIN := hide hfin
            clear hfin
            go_wp2_with fail
            go_ret
            exact .inl ⟨HFIN.out, rfl, (HF9.out.low HST.out hl1 hl2 hl3).trans hb2⟩
          · have hE3 := (hF3.block w.heap.size hwl (by
              intro he
              rcases he with h | h | h | h
              · omega
              · omega
              · exact X.owns_type HS9.out.os HE9.out (by decide) h
              · exact X.owns_type HS9.out.oo HE9.out (by decide) h)).trans HE9.out
            have HE3 := hide hE3
            clear hE3
            go_wp2_with fail
            go_roundw
            case rel => exact ⟨k + 1, sv3, ov3, q.1, q.2, by omega, by go_num, HNX.out, HE3.out, hS3, HF9.out.trans4 hF3 HA9.out HB9.out, HA9.out.trans hA3 HF9.out.size, HB9.out.trans hB3 HF9.out.size⟩
            case measure => simp [intOf]; omega
        · have hfin : X.lk all st (m + 1) e (own, sts) = some (own2, sts2) := by rw [HLK2.out, ← X.lkTo_all (k := k) (by omega)]; exact hlt9
          have HFIN := hide hfin
          clear hfin hlow hw0
          go_wp2_with fail
          go_ret
          exact .inr ⟨_, HFIN.out, rfl, sv2, ov2, hS9, hF9, hA9, hB9⟩
    · have HK := hide hk
      rw [hk] at HSTE HWE HBL HE0 ⊢
      clear hk
      have hd0 : Below (w.alloc (.cells #[.int .i64 4, d1, d2, d3, d4, d5, .string e.s, .string e.t, .slice aa e.a.length ca, .slice an e.n.length cn] 109)).heap.size (w.alloc (.cells #[.int .i64 4, d1, d2, d3, d4, d5, .string e.s, .string e.t, .slice aa e.a.length ca, .slice an e.n.length cn] 109)) (w.alloc (.cells #[.int .i64 4, d1, d2, d3, d4, d5, .string e.s, .string e.t, .slice aa e.a.length ca, .slice an e.n.length cn] 109)).drew := (Below.refl _ _).drew
      have HFI := hide (fun w' (hb : Below (w.alloc (.cells #[.int .i64 4, d1, d2, d3, d4, d5, .string e.s, .string e.t, .slice aa e.a.length ca, .slice an e.n.length cn] 109)).heap.size (w.alloc (.cells #[.int .i64 4, d1, d2, d3, d4, d5, .string e.s, .string e.t, .slice aa e.a.length ca, .slice an e.n.length cn] 109)) w') => findS_any M w' _ all (HS.out.pa.kept (HWE.out.trans (hb.mono HWE.out.size))) e.s HS.out.la)
      have g2 : (w.alloc (.cells #[.int .i64 4, d1, d2, d3, d4, d5, .string e.s, .string e.t, .slice aa e.a.length ca, .slice an e.n.length cn] 109)).cell? ⟨Bn, 0, none⟩ = some (.slice aA all.length cA) := cell_of_block HSTE.out.hn 0 _ rfl
      have g6 : (w.alloc (.cells #[.int .i64 4, d1, d2, d3, d4, d5, .string e.s, .string e.t, .slice aa e.a.length ca, .slice an e.n.length cn] 109)).cell? ⟨w.heap.size, 6, none⟩ = some (.string e.s) := cell_of_block HE0.out 6 _ rfl
      have hnm : X.named all st e (own, sts) = if X.posI (all.map (·.name)) e.s < 0 then none else if X.posI (((all[(X.posI (all.map (·.name)) e.s).toNat]?).map (·.outs)).getD [] |>.map (·.1)) e.t < 0 then none else some (own, X.once sts (X.posI (all.map (·.name)) e.s).toNat) := by unfold X.named; have h9 := HK.out; rw [if_neg (by omega), if_neg (by omega), if_pos h9]
      have hpl : ∀ k : Nat, X.posI (all.map (·.name)) e.s = k → k < all.length := fun k h => by have := X.posI_lt h; simpa using this
      generalize X.posI (all.map (·.name)) e.s = p at *
      by_cases hp : p < 0
      · rw [if_pos hp] at hnm
        have hfin : X.lk all st (m + 1) e (own, sts) = none := by rw [HLK.out, hnm]; rfl
        have HFIN := hide hfin
        have hdp : decide (p < 0) = true := decide_eq_true hp
        clear hfin hnm hpl
        go_enter Try.func90, Try.ntmps90
        go_wp2_with fail
        go_region_held3 (fun W' => W'.cell? ⟨Bn, 0, none⟩ = some (.slice aA all.length cA) ∧ W'.cell? ⟨w.heap.size, 6, none⟩ = some (.string e.s) ∧ Below (w.alloc (.cells #[.int .i64 4, d1, d2, d3, d4, d5, .string e.s, .string e.t, .slice aa e.a.length ca, .slice an e.n.length cn] 109)).heap.size (w.alloc (.cells #[.int .i64 4, d1, d2, d3, d4, d5, .string e.s, .string e.t, .slice aa e.a.length ca, .slice an e.n.length cn] 109)) W') (first | exact ⟨g2, g6, hd0⟩ | exact ⟨t1, t2, t3⟩ | go_keep)
          (first | (go_at_call 89; (with_reducible refine Calls.mono (HFI.out _ ?_) ?_); assumption; rintro o w2 ⟨rfl, hb2⟩; have t3 := hd0.trans (hb2.mono (Nat.le_refl _)); have t1 := kept_cell t3 g2; have t2 := kept_cell t3 g6))
        have HT3 := hide t3
        clear t1 t2 t3 hb2 g2 g6 hd0 HFI
        go_wp2_with fail
        go_quiet (fail)
        go_wp2_with fail
        go_ret
        exact .inl ⟨HFIN.out, rfl, (HBL.out.trans ((below_drewN HT3.out _).mono HBL.out.size)).mono (Nat.le_trans hl1 (Nat.le_of_lt hBnl))⟩
      rw [if_neg hp] at hnm
      obtain ⟨pn, rfl⟩ : ∃ pn : Nat, p = (pn : Int) := ⟨p.toNat, by omega⟩
      rw [Int.toNat_natCast] at hnm
      have hpn : pn < all.length := hpl pn rfl
      obtain ⟨bA, offA, capA, x, a1, c1, a2, c2, aq, cq, e1, hx, _, _, _, _, _, _, _⟩ := X.elemS HS.out.pa pn hpn
      simp only [Value.slice.injEq, true_and] at e1
      obtain ⟨rfl, hcA⟩ := e1
      have hxo : x.outs.length ≤ 2000000 := HS.out.lo x (List.mem_of_getElem? hx)
      have HFX : Hid (∀ w', Below (w.alloc (.cells #[.int .i64 4, d1, d2, d3, d4, d5, .string e.s, .string e.t, .slice aa e.a.length ca, .slice an e.n.length cn] 109)).heap.size (w.alloc (.cells #[.int .i64 4, d1, d2, d3, d4, d5, .string e.s, .string e.t, .slice aa e.a.length ca, .slice an e.n.length cn] 109)) w' → ∃ aq cq, X.Named M w' (.slice aq x.outs.length cq) x.outs ∧ w'.cell? ⟨bA, offA + pn * 4 + 3, none⟩ = some (.slice aq x.outs.length cq)) := by
        intro w' hb
        obtain ⟨b', off', cap', x', a1', c1', a2', c2', aq', cq', e1', hx', _, _, hn', _, _, _, hc'⟩ := X.elemS (HS.out.pa.kept (HWE.out.trans (hb.mono HWE.out.size))) pn hpn
        rw [hx] at hx'
        obtain rfl := Option.some.inj hx'
        simp only [Value.slice.injEq, true_and, Option.some.injEq, Addr.mk.injEq, and_true] at e1'
        obtain ⟨⟨rfl, rfl⟩, _⟩ := e1'
        exact ⟨aq', cq', hn', hc'⟩
      rw [hx] at hnm
      have hnm2 : X.named all st e (own, sts) = if X.posI (x.outs.map (·.1)) e.t < 0 then none else some (own, X.once sts pn) := hnm
      clear hnm
      have hnm := hnm2
      clear hnm2
      have hdp : decide ((pn : Int) < 0) = false := decide_eq_false (by omega)
      clear hpl hx hcA
      have HPN : Hid (pn < all.length) := hpn
      have HFO := hide (fun w' aq cq (h : X.Named M w' (.slice aq x.outs.length cq) x.outs) => findO_any M w' _ x.outs h e.t hxo)
      generalize X.posI (x.outs.map (·.1)) e.t = q at *
      by_cases hq0 : q < 0
      · rw [if_pos hq0] at hnm
        have hfin : X.lk all st (m + 1) e (own, sts) = none := by rw [HLK.out, hnm]; rfl
        have HFIN := hide hfin
        clear hfin hnm
        go_enter Try.func90, Try.ntmps90
        go_wp2_with fail
        go_region_held3 (fun W' => W'.cell? ⟨Bn, 0, none⟩ = some (.slice (some ⟨bA, offA, none⟩) all.length cA) ∧ W'.cell? ⟨w.heap.size, 6, none⟩ = some (.string e.s) ∧ Below (w.alloc (.cells #[.int .i64 4, d1, d2, d3, d4, d5, .string e.s, .string e.t, .slice aa e.a.length ca, .slice an e.n.length cn] 109)).heap.size (w.alloc (.cells #[.int .i64 4, d1, d2, d3, d4, d5, .string e.s, .string e.t, .slice aa e.a.length ca, .slice an e.n.length cn] 109)) W') (first | exact ⟨g2, g6, hd0⟩ | exact ⟨t1, t2, t3⟩ | go_keep)
          (first | (go_at_call 89; (with_reducible refine Calls.mono (HFI.out _ ?_) ?_); assumption; rintro o w2 ⟨rfl, hb2⟩; have t3 := hd0.trans (hb2.mono (Nat.le_refl _)); have t1 := kept_cell t3 g2; have t2 := kept_cell t3 g6))
        have HT3 := hide t3
        clear t1 t2 t3 hb2
        obtain ⟨aq, cq, hnam, hc3⟩ := HFX.out w2 HT3.out
        have HFO1 := hide (fun w' (hb : Below w2.heap.size w2 w') => HFO.out w' aq cq (hnam.kept hb))
        have hd2 : Below w2.heap.size w2 w2.drew := (Below.refl _ _).drew
        have j1 : w2.cell? ⟨Bn, 0, none⟩ = some (.slice (some ⟨bA, offA, none⟩) all.length cA) := kept_cell HT3.out g2
        have j2 : w2.cell? ⟨bA, offA + pn * 4 + 3, none⟩ = some (.slice aq x.outs.length cq) := hc3
        have j3 : w2.cell? ⟨w.heap.size, 7, none⟩ = some (.string e.t) := kept_cell HT3.out (cell_of_block HE0.out 7 _ rfl)
        clear g2 g6 hd0 HFI hc3 hnam
        go_wp2_with fail
        go_region_held3 (fun W' => W'.cell? ⟨Bn, 0, none⟩ = some (.slice (some ⟨bA, offA, none⟩) all.length cA) ∧ W'.cell? ⟨bA, offA + pn * 4 + 3, none⟩ = some (.slice aq x.outs.length cq) ∧ W'.cell? ⟨w.heap.size, 7, none⟩ = some (.string e.t) ∧ Below w2.heap.size w2 W') (first | exact ⟨j1, j2, j3, hd2⟩ | exact ⟨u1, u2, u3, u4⟩ | go_keep)
          (first | (go_at_call 88; (with_reducible refine Calls.mono (HFO1.out _ ?_) ?_); assumption; rintro o w4 ⟨rfl, hb4⟩; have u4 := hd2.trans (hb4.mono (Nat.le_refl _)); have u1 := kept_cell u4 j1; have u2 := kept_cell u4 j2; have u3 := kept_cell u4 j3))
        go_wp2_with fail
        go_ret
        exact .inl ⟨HFIN.out, rfl, (HBL.out.trans ((HT3.out.trans (u4.mono HT3.out.size)).mono HBL.out.size)).mono (Nat.le_trans hl1 (Nat.le_of_lt hBnl))⟩
      rw [if_neg hq0] at hnm
      have HNM0 := hide hnm
      clear hnm
      go_enter Try.func90, Try.ntmps90
      go_wp2_with fail
      go_region_held3 (fun W' => W'.cell? ⟨Bn, 0, none⟩ = some (.slice (some ⟨bA, offA, none⟩) all.length cA) ∧ W'.cell? ⟨w.heap.size, 6, none⟩ = some (.string e.s) ∧ Below (w.alloc (.cells #[.int .i64 4, d1, d2, d3, d4, d5, .string e.s, .string e.t, .slice aa e.a.length ca, .slice an e.n.length cn] 109)).heap.size (w.alloc (.cells #[.int .i64 4, d1, d2, d3, d4, d5, .string e.s, .string e.t, .slice aa e.a.length ca, .slice an e.n.length cn] 109)) W') (first | exact ⟨g2, g6, hd0⟩ | exact ⟨t1, t2, t3⟩ | go_keep)
        (first | (go_at_call 89; (with_reducible refine Calls.mono (HFI.out _ ?_) ?_); assumption; rintro o w2 ⟨rfl, hb2⟩; have t3 := hd0.trans (hb2.mono (Nat.le_refl _)); have t1 := kept_cell t3 g2; have t2 := kept_cell t3 g6))
      have HT3 := hide t3
      clear t1 t2 t3 hb2
      obtain ⟨aq, cq, hnam, hc3⟩ := HFX.out w2 HT3.out
      have HFO1 := hide (fun w' (hb : Below w2.heap.size w2 w') => HFO.out w' aq cq (hnam.kept hb))
      have hd2 : Below w2.heap.size w2 w2.drew := (Below.refl _ _).drew
      have j1 : w2.cell? ⟨Bn, 0, none⟩ = some (.slice (some ⟨bA, offA, none⟩) all.length cA) := kept_cell HT3.out g2
      have j2 : w2.cell? ⟨bA, offA + pn * 4 + 3, none⟩ = some (.slice aq x.outs.length cq) := hc3
      have j3 : w2.cell? ⟨w.heap.size, 7, none⟩ = some (.string e.t) := kept_cell HT3.out (cell_of_block HE0.out 7 _ rfl)
      clear g2 g6 hd0 HFI hc3 hnam
      go_wp2_with fail
      go_region_held3 (fun W' => W'.cell? ⟨Bn, 0, none⟩ = some (.slice (some ⟨bA, offA, none⟩) all.length cA) ∧ W'.cell? ⟨bA, offA + pn * 4 + 3, none⟩ = some (.slice aq x.outs.length cq) ∧ W'.cell? ⟨w.heap.size, 7, none⟩ = some (.string e.t) ∧ Below w2.heap.size w2 W') (first | exact ⟨j1, j2, j3, hd2⟩ | exact ⟨u1, u2, u3, u4⟩ | go_keep)
        (first | (go_at_call 88; (with_reducible refine Calls.mono (HFO1.out _ ?_) ?_); assumption; rintro o w4 ⟨rfl, hb4⟩; have u4 := hd2.trans (hb4.mono (Nat.le_refl _)); have u1 := kept_cell u4 j1; have u2 := kept_cell u4 j2; have u3 := kept_cell u4 j3))
      have HT4 := hide (HT3.out.trans (u4.mono HT3.out.size))
      clear u1 u2 u3 u4 hb4 hd2 j1 j2 j3 HFO HFO1 HT3
      have HS2 := hide (HSTE.out.keep HT4.out)
      have HAD := hide (addOnce_any w4 base Bn 6 #[.slice (some ⟨bA, offA, none⟩) all.length cA, .string st.name, .slice ai st.ins.length ci, .slice ar st.res.length cr, .slice ao st.outs.length co, rv, sv] 133 sv sts pn HS2.out.hn rfl (by decide) HS2.out.os (by have := HB2.out; omega) HS2.out.le)
      go_wp2_with fail
      refine HAD.out.mono ?_
      rintro o w5 ⟨rfl, sv1, hadd⟩
      have HADD := hide hadd
      clear hadd HAD
      obtain ⟨ov1, hov1⟩ : ∃ ov1, ov1 = ov := ⟨_, rfl⟩
      obtain ⟨own1, hown1⟩ : ∃ own1, own1 = own := ⟨_, rfl⟩
      obtain ⟨sts1, hsts1⟩ : ∃ sts1, sts1 = X.once sts pn := ⟨_, rfl⟩
      have HSS : Hid (X.St w5 base Bn Bo (fun r s => #[.slice (some ⟨bA, offA, none⟩) all.length cA, .string st.name, .slice ai st.ins.length ci, .slice ar st.res.length cr, .slice ao st.outs.length co, r, s]) rv sv1 ov1 own1 sts1) := by rw [hov1, hown1, hsts1]; exact HS2.out.addSts hne (fun _ => rfl) HADD.out
      have HNM : Hid (X.named all st e (own, sts) = some (own1, sts1)) := by rw [hown1, hsts1]; exact HNM0.out
      have hE2 : w4.heap[w.heap.size]? = some (.cells #[.int .i64 4, d1, d2, d3, d4, d5, .string e.s, .string e.t, .slice aa e.a.length ca, .slice an e.n.length cn] 109 (0, 0)) := (HT4.out.block w.heap.size (lt_alloc w _)).trans HE0.out
      have HES : Hid (w5.heap[w.heap.size]? = some (.cells #[.int .i64 4, d1, d2, d3, d4, d5, .string e.s, .string e.t, .slice aa e.a.length ca, .slice an e.n.length cn] 109 (0, 0))) := (HADD.out.frame.block w.heap.size (Array.getElem?_eq_some_iff.1 hE2).1 (by
        intro he
        rcases he with h | h
        · omega
        · exact X.owns_type HS2.out.os hE2 (by decide) h)).trans hE2
      have HFS : Hid (X.Frame w w5 (X.Ex4 Bn Bo sv ov)) := (X.Frame.of_below (HBL.out.trans (HT4.out.mono HBL.out.size)) (X.Ex4 Bn Bo sv ov)).trans HADD.out.frame (fun c _ he => he.elim (fun h => .inl h) (fun h => .inr (.inr (.inl h))))
      have HA2 : Hid (X.After w ov ov1) := by rw [hov1]; exact X.After.refl _ _
      have HA1 : Hid (X.After w sv sv1) := by
        rcases HADD.out.at_ with h | ⟨g, h, hg⟩
        · exact .inl h
        · exact .inr ⟨g, h, Nat.le_trans (HBL.out.trans (HT4.out.mono HBL.out.size)).size hg⟩
      clear hov1 hown1 hsts1 hE2
      have HLK2 : Hid (X.lk all st (m + 1) e (own, sts) = e.a.foldl (fun o x => o.bind (X.lk all st m x)) (some (own1, sts1))) := by show _ = _; rw [HLK.out, HNM.out]; rfl
      have hsum : own1.length + X.sumA (X.bulk m) e.a ≤ 2500000 ∧ sts1.length + X.sumA (X.bulk m) e.a ≤ 2500000 := by
        have h1 := HNL.out _ HNM.out
        have h2 := HB1.out
        have h3 := HB2.out
        simp only at h1
        omega
      have HSUM := hide hsum
      clear hsum
      have g8 := cell_of_block HES.out 8 _ rfl
      go_wp2_with fail
      go_loopw [75, 9, 10] (fun vi _ _ wx => ∃ (k : Nat) (sv2 ov2 : Value) (own2 sts2 : List Nat), k ≤ e.a.length ∧ vi = .int .i64 k ∧ X.lkTo all st m e (own1, sts1) k = some (own2, sts2) ∧ wx.heap[w.heap.size]? = some (.cells #[.int .i64 4, d1, d2, d3, d4, d5, .string e.s, .string e.t, .slice aa e.a.length ca, .slice an e.n.length cn] 109 (0, 0)) ∧ X.St wx base Bn Bo (fun r s => #[.slice (some ⟨bA, offA, none⟩) all.length cA, .string st.name, .slice ai st.ins.length ci, .slice ar st.res.length cr, .slice ao st.outs.length co, r, s]) rv sv2 ov2 own2 sts2 ∧ X.Frame w wx (X.Ex4 Bn Bo sv ov) ∧ X.After w sv sv2 ∧ X.After w ov ov2) (fun vi _ _ _ => e.a.length - (intOf vi).toNat)
      case atStart => exact ⟨0, sv1, ov1, own1, sts1, Nat.zero_le _, rfl, rfl, HES.out, HSS.out, HFS.out, HA1.out, HA2.out⟩
      case round =>
        obtain ⟨k, sv2, ov2, own2, sts2, hk9, rfl, hlt9, hE9, hS9, hF9, hA9, hB9⟩ := hrel
        clear g8
        have g8 := cell_of_block hE9 8 _ rfl
        have hlow := hF9.low HST.out hl1 hl2 hl3
        have hw0 : Below W0.heap.size W0 wr := HW0.out.trans hlow
        by_cases hka : k < e.a.length
        · obtain ⟨b, off, cap, x, f0, f1, f2, f3, f4, f5, f6, f7, f8, f9, e1, hx, hm, y0, y1, y2, y3, y4, y5, y6, y7, y8, y9⟩ := X.elemA2 (w1 := W0) (HA.out.kept hw0 (fun _ _ h => h)) k hka
          simp only [Value.slice.injEq] at e1
          obtain ⟨rfl, _, rfl⟩ := e1
          have hbx := X.lkTo_len hlt9 2500000 HSUM.out hx
          simp only at hbx
          have hI := IH.out wr x f0 f1 f2 f3 f4 f5 f6 f7 f8 f9 sv2 ov2 own2 sts2 hm hbx.1 hbx.2 hw0 hS9
          have hnx := X.lkTo_next (all := all) (st := st) (m := m) (q1 := (own1, sts1)) hx
          rw [hlt9, Option.bind_some] at hnx
          have HI := hide hI
          have HNX := hide hnx
          have HE9 := hide hE9
          have HS9 := hide hS9
          have HF9 := hide hF9
          have HA9 := hide hA9
          have HB9 := hide hB9
          have hwl : w.heap.size < wr.heap.size := (Array.getElem?_eq_some_iff.1 hE9).1
          clear hI hnx hE9 hS9 hF9 hA9 hB9 hm hx hlow hw0 hbx hlt9
          generalize X.lk all st m x (own2, sts2) = R at *
          go_wp2_with fail
          refine HI.out.mono ?_
          rintro o w2 h2
          rcases h2 with ⟨rfl, rfl, hb2⟩ | ⟨q, rfl, rfl, sv3, ov3, hS3, hF3, hA3, hB3⟩
          · have hfin : X.lk all st (m + 1) e (own, sts) = none := by rw [HLK2.out]; exact X.lkTo_none HNX.out
            have HFIN := hide hfin
            clear hfin
            go_wp2_with fail
            go_ret
            exact .inl ⟨HFIN.out, rfl, (HF9.out.low HST.out hl1 hl2 hl3).trans hb2⟩
          · have hE3 := (hF3.block w.heap.size hwl (by
              intro he
              rcases he with h | h | h | h
              · omega
              · omega
              · exact X.owns_type HS9.out.os HE9.out (by decide) h
              · exact X.owns_type HS9.out.oo HE9.out (by decide) h)).trans HE9.out
            have HE3 := hide hE3
            clear hE3
            go_wp2_with fail
            go_roundw
            case rel => exact ⟨k + 1, sv3, ov3, q.1, q.2, by omega, by go_num, HNX.out, HE3.out, hS3, HF9.out.trans4 hF3 HA9.out HB9.out, HA9.out.trans hA3 HF9.out.size, HB9.out.trans hB3 HF9.out.size⟩
            case measure => simp [intOf]; omega
        · have hfin : X.lk all st (m + 1) e (own, sts) = some (own2, sts2) := by rw [HLK2.out, ← X.lkTo_all (k := k) (by omega)]; exact hlt9
          have HFIN := hide hfin
          clear hfin hlow hw0
          go_wp2_with fail
          go_ret
          exact .inr ⟨_, HFIN.out, rfl, sv2, ov2, hS9, hF9, hA9, hB9⟩
    · have HNM : Hid (X.named all st e (own, sts) = some (own, sts)) := by show _ = _; unfold X.named; rw [if_neg hk2, if_neg hk3, if_neg hk4]
      obtain ⟨sv1, hsv1⟩ : ∃ sv1, sv1 = sv := ⟨_, rfl⟩
      obtain ⟨ov1, hov1⟩ : ∃ ov1, ov1 = ov := ⟨_, rfl⟩
      obtain ⟨own1, hown1⟩ : ∃ own1, own1 = own := ⟨_, rfl⟩
      obtain ⟨sts1, hsts1⟩ : ∃ sts1, sts1 = sts := ⟨_, rfl⟩
      have HSS : Hid (X.St (w.alloc (.cells #[.int .i64 e.kind, d1, d2, d3, d4, d5, .string e.s, .string e.t, .slice aa e.a.length ca, .slice an e.n.length cn] 109)) base Bn Bo (fun r s => #[.slice aA all.length cA, .string st.name, .slice ai st.ins.length ci, .slice ar st.res.length cr, .slice ao st.outs.length co, r, s]) rv sv1 ov1 own1 sts1) := by rw [hsv1, hov1, hown1, hsts1]; exact HSTE.out
      have HNM : Hid (X.named all st e (own, sts) = some (own1, sts1)) := by rw [hown1, hsts1]; exact HNM.out
      have HES := HE0
      have HFS : Hid (X.Frame w (w.alloc (.cells #[.int .i64 e.kind, d1, d2, d3, d4, d5, .string e.s, .string e.t, .slice aa e.a.length ca, .slice an e.n.length cn] 109)) (X.Ex4 Bn Bo sv ov)) := X.Frame.of_below HBL.out _
      have HA1 : Hid (X.After w sv sv1) := by rw [hsv1]; exact X.After.refl _ _
      have HA2 : Hid (X.After w ov ov1) := by rw [hov1]; exact X.After.refl _ _
      clear hsv1 hov1 hown1 hsts1
      go_enter Try.func90, Try.ntmps90
      have HLK2 : Hid (X.lk all st (m + 1) e (own, sts) = e.a.foldl (fun o x => o.bind (X.lk all st m x)) (some (own1, sts1))) := by show _ = _; rw [HLK.out, HNM.out]; rfl
      have hsum : own1.length + X.sumA (X.bulk m) e.a ≤ 2500000 ∧ sts1.length + X.sumA (X.bulk m) e.a ≤ 2500000 := by
        have h1 := HNL.out _ HNM.out
        have h2 := HB1.out
        have h3 := HB2.out
        simp only at h1
        omega
      have HSUM := hide hsum
      clear hsum
      have g8 := cell_of_block HES.out 8 _ rfl
      go_wp2_with fail
      go_loopw [75, 9, 10] (fun vi _ _ wx => ∃ (k : Nat) (sv2 ov2 : Value) (own2 sts2 : List Nat), k ≤ e.a.length ∧ vi = .int .i64 k ∧ X.lkTo all st m e (own1, sts1) k = some (own2, sts2) ∧ wx.heap[w.heap.size]? = some (.cells #[.int .i64 e.kind, d1, d2, d3, d4, d5, .string e.s, .string e.t, .slice aa e.a.length ca, .slice an e.n.length cn] 109 (0, 0)) ∧ X.St wx base Bn Bo (fun r s => #[.slice aA all.length cA, .string st.name, .slice ai st.ins.length ci, .slice ar st.res.length cr, .slice ao st.outs.length co, r, s]) rv sv2 ov2 own2 sts2 ∧ X.Frame w wx (X.Ex4 Bn Bo sv ov) ∧ X.After w sv sv2 ∧ X.After w ov ov2) (fun vi _ _ _ => e.a.length - (intOf vi).toNat)
      case atStart => exact ⟨0, sv1, ov1, own1, sts1, Nat.zero_le _, rfl, rfl, HES.out, HSS.out, HFS.out, HA1.out, HA2.out⟩
      case round =>
        obtain ⟨k, sv2, ov2, own2, sts2, hk9, rfl, hlt9, hE9, hS9, hF9, hA9, hB9⟩ := hrel
        clear g8
        have g8 := cell_of_block hE9 8 _ rfl
        have hlow := hF9.low HST.out hl1 hl2 hl3
        have hw0 : Below W0.heap.size W0 wr := HW0.out.trans hlow
        by_cases hka : k < e.a.length
        · obtain ⟨b, off, cap, x, f0, f1, f2, f3, f4, f5, f6, f7, f8, f9, e1, hx, hm, y0, y1, y2, y3, y4, y5, y6, y7, y8, y9⟩ := X.elemA2 (w1 := W0) (HA.out.kept hw0 (fun _ _ h => h)) k hka
          simp only [Value.slice.injEq] at e1
          obtain ⟨rfl, _, rfl⟩ := e1
          have hbx := X.lkTo_len hlt9 2500000 HSUM.out hx
          simp only at hbx
          have hI := IH.out wr x f0 f1 f2 f3 f4 f5 f6 f7 f8 f9 sv2 ov2 own2 sts2 hm hbx.1 hbx.2 hw0 hS9
          have hnx := X.lkTo_next (all := all) (st := st) (m := m) (q1 := (own1, sts1)) hx
          rw [hlt9, Option.bind_some] at hnx
          have HI := hide hI
          have HNX := hide hnx
          have HE9 := hide hE9
          have HS9 := hide hS9
          have HF9 := hide hF9
          have HA9 := hide hA9
          have HB9 := hide hB9
          have hwl : w.heap.size < wr.heap.size := (Array.getElem?_eq_some_iff.1 hE9).1
          clear hI hnx hE9 hS9 hF9 hA9 hB9 hm hx hlow hw0 hbx hlt9
          generalize X.lk all st m x (own2, sts2) = R at *
          go_wp2_with fail
          refine HI.out.mono ?_
          rintro o w2 h2
          rcases h2 with ⟨rfl, rfl, hb2⟩ | ⟨q, rfl, rfl, sv3, ov3, hS3, hF3, hA3, hB3⟩
          · have hfin : X.lk all st (m + 1) e (own, sts) = none := by rw [HLK2.out]; exact X.lkTo_none HNX.out
            have HFIN := hide hfin
            clear hfin
            go_wp2_with fail
            go_ret
            exact .inl ⟨HFIN.out, rfl, (HF9.out.low HST.out hl1 hl2 hl3).trans hb2⟩
          · have hE3 := (hF3.block w.heap.size hwl (by
              intro he
              rcases he with h | h | h | h
              · omega
              · omega
              · exact X.owns_type HS9.out.os HE9.out (by decide) h
              · exact X.owns_type HS9.out.oo HE9.out (by decide) h)).trans HE9.out
            have HE3 := hide hE3
            clear hE3
            go_wp2_with fail
            go_roundw
            case rel => exact ⟨k + 1, sv3, ov3, q.1, q.2, by omega, by go_num, HNX.out, HE3.out, hS3, HF9.out.trans4 hF3 HA9.out HB9.out, HA9.out.trans hA3 HF9.out.size, HB9.out.trans hB3 HF9.out.size⟩
            case measure => simp [intOf]; omega
        · have hfin : X.lk all st (m + 1) e (own, sts) = some (own2, sts2) := by rw [HLK2.out, ← X.lkTo_all (k := k) (by omega)]; exact hlt9
          have HFIN := hide hfin
          clear hfin hlow hw0
          go_wp2_with fail
          go_ret
          exact .inr ⟨_, HFIN.out, rfl, sv2, ov2, hS9, hF9, hA9, hB9⟩
end Go.Proofs.Ytienhelohfhhfaa.Vx
