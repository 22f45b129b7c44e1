/- lang.Copy. -/
import Derived.Test.YtienhelohfhhfaaXSc
namespace Go.Proofs.Ytienhelohfhhfaa.Vx
open Go.RowKit
theorem info101 : (Try.prog.info? 101).map (fun i => (i.zero, i.size, i.bytes)) = some (some (.agg #[.string ⟨#[]⟩, .int .i64 0, .int .i64 0, .string ⟨#[]⟩, .slice none 0 0, .slice none 0 0]), 6, 96) := by kernel_rfl
theorem info105 : (Try.prog.info? 105).map (fun i => (i.zero, i.size, i.bytes)) = some (some (.agg #[.string ⟨#[]⟩, .string ⟨#[]⟩, .slice none 0 0]), 3, 56) := by kernel_rfl
theorem info113 : (Try.prog.info? 113).map (fun i => (i.zero, i.size, i.bytes)) = some (some (.agg #[.string ⟨#[]⟩, .int .i64 0, .int .i64 0, .int .i64 0, .string ⟨#[]⟩, .slice none 0 0, .slice none 0 0, .string ⟨#[]⟩, .string ⟨#[]⟩, .slice none 0 0, .slice none 0 0]), 11, 184) := by kernel_rfl
namespace X
/-- Some cells of one block, and new blocks. -/
structure Put (w w' : World) (b lo hi : Nat) : Prop where
  fr : Frame w w' (fun c => c = b)
  cell : ∀ (j : Nat) (u : Value), ¬ (lo ≤ j ∧ j < hi) → w.cell? ⟨b, j, none⟩ = some u → w'.cell? ⟨b, j, none⟩ = some u
  kind : ∀ t, V.Kind w b t → V.Kind w' b t
theorem Put.of_below {w w' : World} {b lo hi : Nat} (h : Below w.heap.size w w') : Put w w' b lo hi :=
  ⟨Frame.of_below h _, fun _ _ _ hu => kept_cell h hu, fun _ ⟨cs, hc⟩ => ⟨cs, (h.block b (Array.getElem?_eq_some_iff.1 hc).1).trans hc⟩⟩
theorem Put.trans {w w1 w2 : World} {b lo hi : Nat} (h : Put w w1 b lo hi) (k : Put w1 w2 b lo hi) : Put w w2 b lo hi :=
  ⟨h.fr.trans k.fr (fun _ _ e => e), fun j u hj hu => k.cell j u hj (h.cell j u hj hu), fun t hk => k.kind t (h.kind t hk)⟩
theorem Put.set {w : World} {b lo hi j : Nat} (hj : lo ≤ j ∧ j < hi) (v : Value) : Put w (w.setCell ⟨b, j, none⟩ v) b lo hi := by
  refine ⟨⟨rfl, rfl, rfl, by simp, fun c _ he => Below.heap_setCell w ⟨b, j, none⟩ v c (fun e => he e)⟩, fun j2 u hj2 hu => ?_, fun t hk => hk.set _ _⟩
  refine V.set_other (a := ⟨b, j, none⟩) (b := ⟨b, j2, none⟩) ?_ hu
  intro e
  simp only [Addr.mk.injEq, and_true, true_and] at e
  exact hj2 (e ▸ hj)
theorem put5 {w : World} {b o : Nat} (v0 v1 v2 v3 v4 : Value) (w5 : World) (e5 : w5 = ((((w.setCell ⟨b, o + 1, none⟩ v0).setCell ⟨b, o + 2, none⟩ v1).setCell ⟨b, o + 3, none⟩ v2).setCell ⟨b, o + 4, none⟩ v3).setCell ⟨b, o + 5, none⟩ v4) : Put w w5 b (o + 1) (o + 6) := by
  subst e5
  exact ((((Put.set (by omega) v0).trans (Put.set (by omega) v1)).trans (Put.set (by omega) v2)).trans (Put.set (by omega) v3)).trans (Put.set (by omega) v4)
theorem srcI {w0 w : World} (hw : Below w0.heap.size w0 w) {m : Nat} {ao : Option Addr} {cap : Nat} {l : List (ByteArray × Val)} (h : Vals m w0 (.slice ao l.length cap) l) : V.Source w 6 ao l.length := by
  obtain ⟨a, c, e, h⟩ := h
  simp only [Value.slice.injEq] at e
  obtain ⟨rfl, _, rfl⟩ := e
  rcases h with h | ⟨b, off, rfl, h⟩
  · exact .inl h
  · refine .inr ⟨b, off, rfl, fun j hj => ?_⟩
    obtain ⟨cs, h1, h2, x, c', hx, rfl, hm⟩ := h (j / 6) (by omega)
    match c', h1 with
    | [d0, d1, d2, d3, d4], _ =>
      obtain ⟨al, cl, af, cf, rfl, rfl, rfl, rfl, rfl⟩ := vform hm
      have hjj : off + j = off + j / 6 * 6 + j % 6 := by omega
      rw [hjj]
      have hlt : j % 6 < 6 := by omega
      have h3 := h2 (j % 6) hlt
      generalize j % 6 = k at *
      match k, hlt with
      | 0, _ => exact ⟨_, kept_cell hw h3, rfl⟩
      | 1, _ => exact ⟨_, kept_cell hw h3, rfl⟩
      | 2, _ => exact ⟨_, kept_cell hw h3, rfl⟩
      | 3, _ => exact ⟨_, kept_cell hw h3, rfl⟩
      | 4, _ => exact ⟨_, kept_cell hw h3, rfl⟩
      | 5, _ => exact ⟨_, kept_cell hw h3, rfl⟩
theorem srcR {w0 w : World} (hw : Below w0.heap.size w0 w) {m : Nat} {ao : Option Addr} {cap : Nat} {l : List Rs} (h : Ress m w0 (.slice ao l.length cap) l) : V.Source w 3 ao l.length := by
  obtain ⟨a, c, e, h⟩ := h
  simp only [Value.slice.injEq] at e
  obtain ⟨rfl, _, rfl⟩ := e
  rcases h with h | ⟨b, off, rfl, h⟩
  · exact .inl h
  · refine .inr ⟨b, off, rfl, fun j hj => ?_⟩
    obtain ⟨cs, h1, h2, x, pv, hx, rfl, hm⟩ := h (j / 3) (by omega)
    obtain ⟨ap, cp, rfl⟩ := V.Row.shape hm
    have hjj : off + j = off + j / 3 * 3 + j % 3 := by omega
    rw [hjj]
    have hlt : j % 3 < 3 := by omega
    have h3 := h2 (j % 3) hlt
    generalize j % 3 = k at *
    match k, hlt with
    | 0, _ => exact ⟨_, kept_cell hw h3, rfl⟩
    | 1, _ => exact ⟨_, kept_cell hw h3, rfl⟩
    | 2, _ => exact ⟨_, kept_cell hw h3, rfl⟩
def WaitI (m : Nat) (w0 w : World) (h k : Nat) (l : List (ByteArray × Val)) : Prop := ∀ (i : Nat) (x : ByteArray × Val), k ≤ i → l[i]? = some x → ∃ d0 d1 d2 d3 d4, V.Mem m w0 x.2 [d0, d1, d2, d3, d4] ∧ w.cell? ⟨h, i * 6 + 1, none⟩ = some d0 ∧ w.cell? ⟨h, i * 6 + 2, none⟩ = some d1 ∧ w.cell? ⟨h, i * 6 + 3, none⟩ = some d2 ∧ w.cell? ⟨h, i * 6 + 4, none⟩ = some d3 ∧ w.cell? ⟨h, i * 6 + 5, none⟩ = some d4
theorem waitI {w0 w w' : World} (hw : Below w0.heap.size w0 w) {e : TypeId} {m : Nat} {ao ao' : Option Addr} {cap : Nat} {l : List (ByteArray × Val)} (h : Vals m w0 (.slice ao l.length cap) l) (hC : V.Copied w w' e 6 ao l.length ao') (hl : 0 < l.length) :
    ∃ g, ao' = some ⟨g, 0, none⟩ ∧ w.heap.size ≤ g ∧ V.Kind w' g e ∧ WaitI m w0 w' g 0 l := by
  obtain ⟨a, c, e1, h⟩ := h
  simp only [Value.slice.injEq] at e1
  obtain ⟨rfl, _, rfl⟩ := e1
  rcases h with h | ⟨b, off, rfl, h⟩
  · omega
  rcases hC.2 with h0 | ⟨g, p, off2, e1, e2, hg, hk, hcp⟩
  · omega
  simp only [Option.some.injEq, Addr.mk.injEq, and_true] at e2
  obtain ⟨rfl, rfl⟩ := e2
  refine ⟨g, e1, hg, hk, fun i x _ hx => ?_⟩
  have hi : i < l.length := (List.getElem?_eq_some_iff.1 hx).1
  obtain ⟨cs, h1, h2, y, c', hy, rfl, hm⟩ := h i hi
  rw [hx] at hy; cases hy
  match c', h1 with
  | [d0, d1, d2, d3, d4], _ =>
    have key : ∀ (j : Nat) (d : Value), j < 6 → w0.cell? ⟨b, off + i * 6 + j, none⟩ = some d → w'.cell? ⟨g, i * 6 + j, none⟩ = some d := by
      intro j d hj hd
      obtain ⟨u, hu1, hu2⟩ := hcp (i * 6 + j) (by omega)
      have h5 := kept_cell hw hd
      rw [← Nat.add_assoc] at hu1
      rw [hu1] at h5
      rw [hu2, h5]
    exact ⟨d0, d1, d2, d3, d4, hm, key 1 _ (by omega) (h2 1 (by omega)), key 2 _ (by omega) (h2 2 (by omega)), key 3 _ (by omega) (h2 3 (by omega)), key 4 _ (by omega) (h2 4 (by omega)), key 5 _ (by omega) (h2 5 (by omega))⟩
theorem WaitI.next {m : Nat} {w0 w w' : World} {h k : Nat} {l : List (ByteArray × Val)} (hw : WaitI m w0 w h k l) (ht : Put w w' h (k * 6 + 1) (k * 6 + 6)) : WaitI m w0 w' h (k + 1) l := by
  intro i x hi hx
  obtain ⟨d0, d1, d2, d3, d4, hm, h0, h1, h2, h3, h4⟩ := hw i x (by omega) hx
  exact ⟨d0, d1, d2, d3, d4, hm, ht.cell _ _ (by omega) h0, ht.cell _ _ (by omega) h1, ht.cell _ _ (by omega) h2, ht.cell _ _ (by omega) h3, ht.cell _ _ (by omega) h4⟩
def WaitR (m : Nat) (w0 w : World) (h k : Nat) (l : List Rs) : Prop := ∀ (i : Nat) (x : Rs), k ≤ i → l[i]? = some x → ∃ a c, w.cell? ⟨h, i * 3 + 2, none⟩ = some (.slice a x.parts.length c) ∧ Named m w0 (.slice a x.parts.length c) x.parts
theorem waitR {w0 w w' : World} (hw : Below w0.heap.size w0 w) {e : TypeId} {m : Nat} {ao ao' : Option Addr} {cap : Nat} {l : List Rs} (h : Ress m w0 (.slice ao l.length cap) l) (hC : V.Copied w w' e 3 ao l.length ao') (hl : 0 < l.length) :
    ∃ g, ao' = some ⟨g, 0, none⟩ ∧ w.heap.size ≤ g ∧ V.Kind w' g e ∧ WaitR m w0 w' g 0 l := by
  obtain ⟨a, c, e1, h⟩ := h
  simp only [Value.slice.injEq] at e1
  obtain ⟨rfl, _, rfl⟩ := e1
  rcases h with h | ⟨b, off, rfl, h⟩
  · omega
  rcases hC.2 with h0 | ⟨g, p, off2, e1, e2, hg, hk, hcp⟩
  · omega
  simp only [Option.some.injEq, Addr.mk.injEq, and_true] at e2
  obtain ⟨rfl, rfl⟩ := e2
  refine ⟨g, e1, hg, hk, fun i x _ hx => ?_⟩
  have hi : i < l.length := (List.getElem?_eq_some_iff.1 hx).1
  obtain ⟨cs, h1, h2, y, pv, hy, rfl, hm⟩ := h i hi
  rw [hx] at hy; cases hy
  obtain ⟨ap, cp, rfl⟩ := V.Row.shape hm
  obtain ⟨u, hu1, hu2⟩ := hcp (i * 3 + 2) (by omega)
  have h5 := kept_cell hw (h2 2 (by omega))
  rw [← Nat.add_assoc] at hu1
  rw [hu1] at h5
  exact ⟨ap, cp, hu2.trans h5, hm⟩
theorem WaitR.next {m : Nat} {w0 w w' : World} {h k : Nat} {l : List Rs} (hw : WaitR m w0 w h k l) (ht : Put w w' h (k * 3 + 2) (k * 3 + 3)) : WaitR m w0 w' h (k + 1) l := by
  intro i x hi hx
  obtain ⟨a, c, h0, hm⟩ := hw i x (by omega) hx
  exact ⟨a, c, ht.cell _ _ (by omega) h0, hm⟩
/-- Four cells of the kinds that a stack has. -/
def Any4 (o : Ending) : Prop := ∃ (s : ByteArray) (a1 a2 a3 : Option Addr) (n1 n2 n3 d1 d2 d3 : Nat), o = .returned (.agg #[.string s, .slice a1 n1 d1, .slice a2 n2 d2, .slice a3 n3 d3])
end X
set_option maxRecDepth 100000 in
set_option maxHeartbeats 8000000 in
theorem lcopy_any (m : Nat) (w : World) (s : Sk) (ai ar ao : Option Addr) (ci cr co : Nat) (hI : X.Vals m w (.slice ai s.ins.length ci) s.ins) (hR : X.Ress m w (.slice ar s.res.length cr) s.res) (hO : X.Named m w (.slice ao s.outs.length co) s.outs) (hbk : X.bulkS m s ≤ 2000000) (hpl : ∀ r : Rs, r ∈ s.res → r.parts.length ≤ 6) :
    Calls Try.prog 43 #[.agg #[.string s.name, .slice ai s.ins.length ci, .slice ar s.res.length cr, .slice ao s.outs.length co]] w fun o w' => X.Any4 o ∧ Below w.heap.size w w' := by
  obtain ⟨i1, hi1, hy0, hy1, hy2⟩ := info_parts info101
  obtain ⟨i2, hi2, hx0, hx1, hx2⟩ := info_parts info105
  obtain ⟨i3, hi3, hz0, hz1, hz2⟩ := info_parts info113
  have hbs := id hbk
  unfold X.bulkS at hbs
  have HS1 : Hid (X.sumI m s.ins ≤ 2000000) := by show _ ≤ _; omega
  have HS2 : Hid (X.sumR m s.res ≤ 2000000) := by show _ ≤ _; omega
  have HS3 : Hid (X.sumP m s.outs ≤ 2000000) := by show _ ≤ _; omega
  have hl1 : s.ins.length ≤ 2000000 := by omega
  have hl2 : s.res.length ≤ 2000000 := by omega
  have hl3 : s.outs.length ≤ 2000000 := by omega
  have hb1 : Below w.heap.size w ((w.alloc (.cells #[.string s.name, .slice ai s.ins.length ci, .slice ar s.res.length cr, .slice ao s.outs.length co] 66)).alloc (.cells #[.string ⟨#[]⟩, .slice none 0 0, .slice none 0 0, .slice none 0 0] 66)) := ((Below.refl _ _).alloc (Nat.le_refl _) _).alloc (by simp) _
  have hA0 : ((w.alloc (.cells #[.string s.name, .slice ai s.ins.length ci, .slice ar s.res.length cr, .slice ao s.outs.length co] 66)).alloc (.cells #[.string ⟨#[]⟩, .slice none 0 0, .slice none 0 0, .slice none 0 0] 66)).heap[w.heap.size]? = some (.cells #[.string s.name, .slice ai s.ins.length ci, .slice ar s.res.length cr, .slice ao s.outs.length co] 66 (0, 0)) := by rw [heap_alloc_old _ _ (by simp)]; exact heap_alloc_new _ _
  have hB0 : ((w.alloc (.cells #[.string s.name, .slice ai s.ins.length ci, .slice ar s.res.length cr, .slice ao s.outs.length co] 66)).alloc (.cells #[.string ⟨#[]⟩, .slice none 0 0, .slice none 0 0, .slice none 0 0] 66)).heap[w.heap.size + 1]? = some (.cells #[.string ⟨#[]⟩, .slice none 0 0, .slice none 0 0, .slice none 0 0] 66 (0, 0)) := by rw [show w.heap.size + 1 = (w.alloc (.cells #[.string s.name, .slice ai s.ins.length ci, .slice ar s.res.length cr, .slice ao s.outs.length co] 66)).heap.size by simp]; exact heap_alloc_new _ _
  have HIN := hide hI
  have HRE := hide hR
  have HOU := hide hO
  have HPL := hide hpl
  clear hI hR hO hbk hbs hpl
  go_enter Try.func43, Try.ntmps43
  go_upto_region 1 with (fail)
  generalize ((w.alloc (.cells #[.string s.name, .slice ai s.ins.length ci, .slice ar s.res.length cr, .slice ao s.outs.length co] 66)).alloc (.cells #[.string ⟨#[]⟩, .slice none 0 0, .slice none 0 0, .slice none 0 0] 66)) = w1 at *
  have hs1 := X.srcI hb1 HIN.out
  have c1 := cell_of_block hA0 1 _ rfl
  have f1 := free_of_block hA0 1
  have HS := hide hs1
  clear hs1
  go_wp2_with (at_builtin; go_must (refine V.wpList_copy _ rfl (.tmp 7) 62 rfl 101 i1 (.agg #[.string ⟨#[]⟩, .int .i64 0, .int .i64 0, .string ⟨#[]⟩, .slice none 0 0, .slice none 0 0]) 6 96 Try.underlying62 hi1 hy0 hy1 hy2 rfl (by decide) ai s.ins.length ci rfl HS.out (by unfold maxLen; omega) (by omega) ?_); intro a1 d1 w2 hC; have q1 := kept_cell hC.1 c1; have g1 : w2.frozen? ⟨w.heap.size, 1, none⟩ = false := free_of_block ((hC.1.block w.heap.size (Array.getElem?_eq_some_iff.1 hA0).1).trans hA0) 1; have HC := hide hC; clear hC)
  have hsz1 : w.heap.size + 2 ≤ w1.heap.size := (Array.getElem?_eq_some_iff.1 hB0).1
  have hE1 : (w2.setCell ⟨w.heap.size, 1, none⟩ (.slice a1 s.ins.length d1)).heap[w.heap.size]? = some (.cells #[.string s.name, .slice a1 s.ins.length d1, .slice ar s.res.length cr, .slice ao s.outs.length co] 66 (0, 0)) := block_set (i := 1) ((HC.out.1.block _ (by omega)).trans hA0) _
  have hR1 : (w2.setCell ⟨w.heap.size, 1, none⟩ (.slice a1 s.ins.length d1)).heap[w.heap.size + 1]? = some (.cells #[.string ⟨#[]⟩, .slice none 0 0, .slice none 0 0, .slice none 0 0] 66 (0, 0)) := by
    rw [Below.heap_setCell w2 ⟨w.heap.size, 1, none⟩ _ _ (by show w.heap.size + 1 ≠ w.heap.size; omega)]; exact (HC.out.1.block _ (by omega)).trans hB0
  have hBw1 : Below w.heap.size w (w2.setCell ⟨w.heap.size, 1, none⟩ (.slice a1 s.ins.length d1)) := (hb1.trans (HC.out.1.mono (by omega))).setCell (p := ⟨w.heap.size, 1, none⟩) (Nat.le_refl _) _
  have hW1 : s.ins.length ≤ 0 ∨ ∃ g, a1 = some ⟨g, 0, none⟩ ∧ w.heap.size + 2 ≤ g ∧ V.Kind (w2.setCell ⟨w.heap.size, 1, none⟩ (.slice a1 s.ins.length d1)) g 101 ∧ X.WaitI m w (w2.setCell ⟨w.heap.size, 1, none⟩ (.slice a1 s.ins.length d1)) g 0 s.ins := by
    rcases Nat.eq_zero_or_pos s.ins.length with h0 | hpos
    · exact .inl (by omega)
    · obtain ⟨g, e, hg, hk, hw⟩ := X.waitI hb1 HIN.out HC.out hpos
      refine .inr ⟨g, e, by omega, hk.set _ _, fun i x hi hx => ?_⟩
      obtain ⟨d0, d1, d2, d3, d4, hm, k0, k1, k2, k3, k4⟩ := hw i x hi hx
      have hne : ∀ j, (⟨w.heap.size, 1, none⟩ : Addr) ≠ ⟨g, j, none⟩ := fun j e => by injection e with e1 _ _; omega
      exact ⟨d0, d1, d2, d3, d4, hm, V.set_other (hne _) k0, V.set_other (hne _) k1, V.set_other (hne _) k2, V.set_other (hne _) k3, V.set_other (hne _) k4⟩
  clear hA0 hB0 hb1 c1 f1 q1 g1 HC HS hsz1
  generalize (w2.setCell ⟨w.heap.size, 1, none⟩ (.slice a1 s.ins.length d1)) = wA at *
  go_loopw [13, 3] (fun vi _ wx => ∃ k : Nat, k ≤ s.ins.length ∧ vi = .int .i64 k ∧ (s.ins.length ≤ k ∨ ∃ g, a1 = some ⟨g, 0, none⟩ ∧ w.heap.size + 2 ≤ g ∧ V.Kind wx g 101 ∧ X.WaitI m w wx g k s.ins) ∧ wx.heap[w.heap.size]? = some (.cells #[.string s.name, .slice a1 s.ins.length d1, .slice ar s.res.length cr, .slice ao s.outs.length co] 66 (0, 0)) ∧ wx.heap[w.heap.size + 1]? = some (.cells #[.string ⟨#[]⟩, .slice none 0 0, .slice none 0 0, .slice none 0 0] 66 (0, 0)) ∧ Below w.heap.size w wx) (fun vi _ _ => s.ins.length - (intOf vi).toNat)
  case atStart => exact ⟨0, Nat.zero_le _, rfl, hW1, hE1, hR1, hBw1⟩
  case round =>
    clear hW1 hE1 hR1 hBw1
    obtain ⟨wx, hwx⟩ : ∃ z, z = wr := ⟨_, rfl⟩
    subst hwx
    obtain ⟨k, hk, rfl, hW, hE, hR, hBw⟩ := hrel
    have hxs : w.heap.size + 2 ≤ wx.heap.size := (Array.getElem?_eq_some_iff.1 hR).1
    by_cases hlt : k < s.ins.length
    · obtain ⟨x, hx⟩ : ∃ x, s.ins[k]? = some x := ⟨_, List.getElem?_eq_getElem hlt⟩
      rcases hW with hW | ⟨g, rfl, hg, hkd, hwt⟩
      · omega
      obtain ⟨d0, d1', d2, d3, d4, hm, z0, z1, z2, z3, z4⟩ := hwt k x (Nat.le_refl _) hx
      have hbx := (X.sumI_mem (List.mem_of_getElem? hx) HS1.out).2
      have hc1 : wx.cell? ⟨w.heap.size, 1, none⟩ = some (.slice (some ⟨g, 0, none⟩) s.ins.length d1) := cell_of_block hE 1 _ rfl
      have HC : Hid (∀ w', Below wx.heap.size wx w' → Calls Try.prog 67 #[.agg #[d0, d1', d2, d3, d4]] w' fun e w'' => (∃ e0 e1 e2 e3 e4, e = .returned (.agg #[e0, e1, e2, e3, e4]) ∧ V.Mem m w'' x.2 [e0, e1, e2, e3, e4]) ∧ Below w'.heap.size w' w'') := by
        intro w' hb
        cases m with
        | zero => exact hm.elim
        | succ m => exact copy_any m w' x.2 d0 d1' d2 d3 d4 (V.Mem.kept _ hm (hBw.trans (hb.mono hBw.size))) hbx
      have hd0 : Below wx.heap.size wx wx.drew := (Below.refl _ _).drew
      have KF : Hid (∀ W, Below wx.heap.size wx W → V.Kind W g 101) := by
        intro W hb
        obtain ⟨cs, hcs⟩ := hkd
        exact ⟨cs, (hb.block g (Array.getElem?_eq_some_iff.1 hcs).1).trans hcs⟩
      have HE := hide hE
      have HRR := hide hR
      have HBW := hide hBw
      have HWT := hide hwt
      clear hE hR hBw hwt hkd hm hx hbx
      go_wp2_with fail
      go_region_with (first | (go_at_call 67; (with_reducible refine Calls.mono (HC.out _ hd0) ?_); rintro o2 w3 ⟨⟨y0, y1, y2, y3, y4, rfl, hm2⟩, hb3⟩; obtain ⟨bl, dl, bf, df, rfl, rfl, rfl, rfl, rfl⟩ := X.vform hm2; have t3 := hd0.trans (hb3.mono (Nat.le_refl _)); have qe := kept_cell t3 hc1; have q0 := kept_cell t3 z0; have q1 := kept_cell t3 z1; have q2 := kept_cell t3 z2; have q3 := kept_cell t3 z3; have q4 := kept_cell t3 z4; have kd3 := KF.out _ t3; have g1 := X.free_kind kd3 (k * 6 + 1); have g2 := X.free_kind kd3 (k * 6 + 2); have g3 := X.free_kind kd3 (k * 6 + 3); have g4 := X.free_kind kd3 (k * 6 + 4); have g5 := X.free_kind kd3 (k * 6 + 5)))
      all_goals
        have hP : X.Put wx (((((w3.setCell ⟨g, k * 6 + 1, none⟩ (.int .i64 x.2.kind)).setCell ⟨g, k * 6 + 2, none⟩ (.int .i64 x.2.n)).setCell ⟨g, k * 6 + 3, none⟩ (.string x.2.s)).setCell ⟨g, k * 6 + 4, none⟩ (.slice bl x.2.l.length dl)).setCell ⟨g, k * 6 + 5, none⟩ (.slice bf x.2.f.length df)) g (k * 6 + 1) (k * 6 + 6) := (X.Put.of_below t3).trans (X.put5 (.int .i64 x.2.kind) (.int .i64 x.2.n) (.string x.2.s) (.slice bl x.2.l.length dl) (.slice bf x.2.f.length df) _ rfl)
        have hkd9 : V.Kind (((((w3.setCell ⟨g, k * 6 + 1, none⟩ (.int .i64 x.2.kind)).setCell ⟨g, k * 6 + 2, none⟩ (.int .i64 x.2.n)).setCell ⟨g, k * 6 + 3, none⟩ (.string x.2.s)).setCell ⟨g, k * 6 + 4, none⟩ (.slice bl x.2.l.length dl)).setCell ⟨g, k * 6 + 5, none⟩ (.slice bf x.2.f.length df)) g 101 := hP.kind 101 (KF.out _ (Below.refl _ _))
        have hwt9 := HWT.out.next hP
        have hE9 := (hP.fr.block w.heap.size (by omega) (by omega)).trans HE.out
        have hR9 := (hP.fr.block (w.heap.size + 1) (by omega) (by omega)).trans HRR.out
        have hB9 := HBW.out.trans (hP.fr.below HBW.out.size (fun c e => by omega))
        have H9 := hide (And.intro hkd9 (And.intro hwt9 (And.intro hE9 (And.intro hR9 hB9))))
        clear hP hkd9 hwt9 hE9 hR9 hB9
        go_wp2_with fail
        go_roundw
        case rel => exact ⟨k + 1, by omega, by go_num, .inr ⟨g, rfl, hg, H9.out.1, H9.out.2.1⟩, H9.out.2.2.1, H9.out.2.2.2.1, H9.out.2.2.2.2⟩
        case measure => simp [intOf]; omega
    · clear hW
      have hs2 := X.srcR hBw HRE.out
      have c2 := cell_of_block hE 2 _ rfl
      have HS := hide hs2
      have HE := hide hE
      have HRR := hide hR
      have HBW := hide hBw
      clear hs2 hE hR hBw
      go_wp2_with (at_builtin; go_must (refine V.wpList_copy _ rfl (.tmp 30) 63 rfl 105 i2 (.agg #[.string ⟨#[]⟩, .string ⟨#[]⟩, .slice none 0 0]) 3 56 Try.underlying63 hi2 hx0 hx1 hx2 rfl (by decide) ar s.res.length cr rfl HS.out (by unfold maxLen; omega) (by omega) ?_); intro a2 d2 w2' hC; have q1 := kept_cell hC.1 c2; have g1 : w2'.frozen? ⟨w.heap.size, 2, none⟩ = false := free_of_block ((hC.1.block w.heap.size (Array.getElem?_eq_some_iff.1 HE.out).1).trans HE.out) 2; have HC := hide hC; clear hC)
      have hE1 : (w2'.setCell ⟨w.heap.size, 2, none⟩ (.slice a2 s.res.length d2)).heap[w.heap.size]? = some (.cells #[.string s.name, .slice a1 s.ins.length d1, .slice a2 s.res.length d2, .slice ao s.outs.length co] 66 (0, 0)) := block_set (i := 2) ((HC.out.1.block _ (by omega)).trans HE.out) _
      have hR1 : (w2'.setCell ⟨w.heap.size, 2, none⟩ (.slice a2 s.res.length d2)).heap[w.heap.size + 1]? = some (.cells #[.string ⟨#[]⟩, .slice none 0 0, .slice none 0 0, .slice none 0 0] 66 (0, 0)) := by
        rw [Below.heap_setCell w2' ⟨w.heap.size, 2, none⟩ _ _ (by show w.heap.size + 1 ≠ w.heap.size; omega)]; exact (HC.out.1.block _ (by omega)).trans HRR.out
      have hBw1 : Below w.heap.size w (w2'.setCell ⟨w.heap.size, 2, none⟩ (.slice a2 s.res.length d2)) := (HBW.out.trans (HC.out.1.mono (by omega))).setCell (p := ⟨w.heap.size, 2, none⟩) (Nat.le_refl _) _
      have hW1 : s.res.length ≤ 0 ∨ ∃ g, a2 = some ⟨g, 0, none⟩ ∧ w.heap.size + 2 ≤ g ∧ V.Kind (w2'.setCell ⟨w.heap.size, 2, none⟩ (.slice a2 s.res.length d2)) g 105 ∧ X.WaitR m w (w2'.setCell ⟨w.heap.size, 2, none⟩ (.slice a2 s.res.length d2)) g 0 s.res := by
        rcases Nat.eq_zero_or_pos s.res.length with h0 | hpos
        · exact .inl (by omega)
        · obtain ⟨g, e, hg, hk, hw⟩ := X.waitR HBW.out HRE.out HC.out hpos
          refine .inr ⟨g, e, by omega, hk.set _ _, fun i x hi hx => ?_⟩
          obtain ⟨a, c, k0, hm⟩ := hw i x hi hx
          exact ⟨a, c, V.set_other (fun e => by injection e with e1 _ _; omega) k0, hm⟩
      clear HE HRR HBW c2 q1 g1 HC HS hk hlt hxs
      generalize (w2'.setCell ⟨w.heap.size, 2, none⟩ (.slice a2 s.res.length d2)) = wB at *
      go_loopw [36, 4] (fun vi _ wx => ∃ k : Nat, k ≤ s.res.length ∧ vi = .int .i64 k ∧ (s.res.length ≤ k ∨ ∃ g, a2 = some ⟨g, 0, none⟩ ∧ w.heap.size + 2 ≤ g ∧ V.Kind wx g 105 ∧ X.WaitR m w wx g k s.res) ∧ wx.heap[w.heap.size]? = some (.cells #[.string s.name, .slice a1 s.ins.length d1, .slice a2 s.res.length d2, .slice ao s.outs.length co] 66 (0, 0)) ∧ wx.heap[w.heap.size + 1]? = some (.cells #[.string ⟨#[]⟩, .slice none 0 0, .slice none 0 0, .slice none 0 0] 66 (0, 0)) ∧ Below w.heap.size w wx) (fun vi _ _ => s.res.length - (intOf vi).toNat)
      case atStart => exact ⟨0, Nat.zero_le _, rfl, hW1, hE1, hR1, hBw1⟩
      case round =>
        clear hW1 hE1 hR1 hBw1
        obtain ⟨wx, hwx⟩ : ∃ z, z = wr := ⟨_, rfl⟩
        subst hwx
        obtain ⟨k, hk, rfl, hW, hE, hR, hBw⟩ := hrel
        have hxs : w.heap.size + 2 ≤ wx.heap.size := (Array.getElem?_eq_some_iff.1 hR).1
        by_cases hlt : k < s.res.length
        · obtain ⟨x, hx⟩ : ∃ x, s.res[k]? = some x := ⟨_, List.getElem?_eq_getElem hlt⟩
          rcases hW with hW | ⟨g, rfl, hg, hkd, hwt⟩
          · omega
          obtain ⟨ap, cp, z0, hm⟩ := hwt k x (Nat.le_refl _) hx
          have hbx := (X.sumR_mem (List.mem_of_getElem? hx) HS2.out).2.2
          have hp6 := HPL.out x (List.mem_of_getElem? hx)
          have hc1 : wx.cell? ⟨w.heap.size, 2, none⟩ = some (.slice (some ⟨g, 0, none⟩) s.res.length d2) := cell_of_block hE 2 _ rfl
          have HC : Hid (∀ w', Below wx.heap.size wx w' → Calls Try.prog 68 #[.slice ap x.parts.length cp] w' fun e w'' => X.SomeS x.parts.length e ∧ Below w'.heap.size w' w'') := fun w' hb => copyParts_any m w' x.parts _ (hm.kept (hBw.trans (hb.mono hBw.size))) (by omega) hbx
          have hd0 : Below wx.heap.size wx wx.drew := (Below.refl _ _).drew
          have KF : Hid (∀ W, Below wx.heap.size wx W → V.Kind W g 105) := by
            intro W hb
            obtain ⟨cs, hcs⟩ := hkd
            exact ⟨cs, (hb.block g (Array.getElem?_eq_some_iff.1 hcs).1).trans hcs⟩
          have HE := hide hE
          have HRR := hide hR
          have HBW := hide hBw
          have HWT := hide hwt
          clear hE hR hBw hwt hkd hm hx hbx hp6
          go_wp2_with fail
          go_region_with (first | (go_at_call 68; (with_reducible refine Calls.mono (HC.out _ hd0) ?_); rintro o2 w3 ⟨⟨b4, c4, rfl⟩, hb3⟩; have t3 := hd0.trans (hb3.mono (Nat.le_refl _)); have qe := kept_cell t3 hc1; have q0 := kept_cell t3 z0; have kd3 := KF.out _ t3; have g1 := X.free_kind kd3 (k * 3 + 2)))
          all_goals
            have hP : X.Put wx (w3.setCell ⟨g, k * 3 + 2, none⟩ (.slice b4 x.parts.length c4)) g (k * 3 + 2) (k * 3 + 3) := (X.Put.of_below t3).trans (X.Put.set (by omega) _)
            have hkd9 : V.Kind (w3.setCell ⟨g, k * 3 + 2, none⟩ (.slice b4 x.parts.length c4)) g 105 := hP.kind 105 (KF.out _ (Below.refl _ _))
            have hwt9 := HWT.out.next hP
            have hE9 := (hP.fr.block w.heap.size (by omega) (by omega)).trans HE.out
            have hR9 := (hP.fr.block (w.heap.size + 1) (by omega) (by omega)).trans HRR.out
            have hB9 := HBW.out.trans (hP.fr.below HBW.out.size (fun c e => by omega))
            have H9 := hide (And.intro hkd9 (And.intro hwt9 (And.intro hE9 (And.intro hR9 hB9))))
            clear hP hkd9 hwt9 hE9 hR9 hB9
            go_wp2_with fail
            go_roundw
            case rel => exact ⟨k + 1, by omega, by go_num, .inr ⟨g, rfl, hg, H9.out.1, H9.out.2.1⟩, H9.out.2.2.1, H9.out.2.2.2.1, H9.out.2.2.2.2⟩
            case measure => simp [intOf]; omega
        · clear hW
          have hs3 := X.srcE hBw HOU.out
          have c3 := cell_of_block hE 3 _ rfl
          have HS := hide hs3
          have HE := hide hE
          have HRR := hide hR
          have HBW := hide hBw
          clear hs3 hE hR hBw
          go_wp2_with (at_builtin; go_must (refine V.wpList_copy _ rfl (.tmp 53) 64 rfl 113 i3 (.agg #[.string ⟨#[]⟩, .int .i64 0, .int .i64 0, .int .i64 0, .string ⟨#[]⟩, .slice none 0 0, .slice none 0 0, .string ⟨#[]⟩, .string ⟨#[]⟩, .slice none 0 0, .slice none 0 0]) 11 184 Try.underlying64 hi3 hz0 hz1 hz2 rfl (by decide) ao s.outs.length co rfl HS.out (by unfold maxLen; omega) (by omega) ?_); intro a3 d3 w2' hC; have q1 := kept_cell hC.1 c3; have g1 : w2'.frozen? ⟨w.heap.size, 3, none⟩ = false := free_of_block ((hC.1.block w.heap.size (Array.getElem?_eq_some_iff.1 HE.out).1).trans HE.out) 3; have HC := hide hC; clear hC)
          have hE1 : (w2'.setCell ⟨w.heap.size, 3, none⟩ (.slice a3 s.outs.length d3)).heap[w.heap.size]? = some (.cells #[.string s.name, .slice a1 s.ins.length d1, .slice a2 s.res.length d2, .slice a3 s.outs.length d3] 66 (0, 0)) := block_set (i := 3) ((HC.out.1.block _ (by omega)).trans HE.out) _
          have hR1 : (w2'.setCell ⟨w.heap.size, 3, none⟩ (.slice a3 s.outs.length d3)).heap[w.heap.size + 1]? = some (.cells #[.string ⟨#[]⟩, .slice none 0 0, .slice none 0 0, .slice none 0 0] 66 (0, 0)) := by
            rw [Below.heap_setCell w2' ⟨w.heap.size, 3, none⟩ _ _ (by show w.heap.size + 1 ≠ w.heap.size; omega)]; exact (HC.out.1.block _ (by omega)).trans HRR.out
          have hBw1 : Below w.heap.size w (w2'.setCell ⟨w.heap.size, 3, none⟩ (.slice a3 s.outs.length d3)) := (HBW.out.trans (HC.out.1.mono (by omega))).setCell (p := ⟨w.heap.size, 3, none⟩) (Nat.le_refl _) _
          have hW1 : s.outs.length ≤ 0 ∨ ∃ g, a3 = some ⟨g, 0, none⟩ ∧ w.heap.size + 2 ≤ g ∧ V.Kind (w2'.setCell ⟨w.heap.size, 3, none⟩ (.slice a3 s.outs.length d3)) g 113 ∧ X.WaitE m w (w2'.setCell ⟨w.heap.size, 3, none⟩ (.slice a3 s.outs.length d3)) g 0 s.outs := by
            rcases Nat.eq_zero_or_pos s.outs.length with h0 | hpos
            · exact .inl (by omega)
            · obtain ⟨g, e, hg, hk, hw⟩ := X.waitE HBW.out HOU.out HC.out hpos
              refine .inr ⟨g, e, by omega, hk.set _ _, fun i x hi hx => ?_⟩
              obtain ⟨c, hm, hc⟩ := hw i x hi hx
              refine ⟨c, hm, fun j hj => ?_⟩
              rw [World.cell?_setCell_other]
              · exact hc j hj
              · intro e; injection e with e1 _ _; omega
          clear HE HRR HBW c3 q1 g1 HC HS hk hlt hxs
          generalize (w2'.setCell ⟨w.heap.size, 3, none⟩ (.slice a3 s.outs.length d3)) = wC at *
          go_loopw [59, 5] (fun vi _ wx => ∃ k : Nat, k ≤ s.outs.length ∧ vi = .int .i64 k ∧ (s.outs.length ≤ k ∨ ∃ g, a3 = some ⟨g, 0, none⟩ ∧ w.heap.size + 2 ≤ g ∧ V.Kind wx g 113 ∧ X.WaitE m w wx g k s.outs) ∧ wx.heap[w.heap.size]? = some (.cells #[.string s.name, .slice a1 s.ins.length d1, .slice a2 s.res.length d2, .slice a3 s.outs.length d3] 66 (0, 0)) ∧ wx.heap[w.heap.size + 1]? = some (.cells #[.string ⟨#[]⟩, .slice none 0 0, .slice none 0 0, .slice none 0 0] 66 (0, 0)) ∧ Below w.heap.size w wx) (fun vi _ _ => s.outs.length - (intOf vi).toNat)
          case atStart => exact ⟨0, Nat.zero_le _, rfl, hW1, hE1, hR1, hBw1⟩
          case round =>
            clear hW1 hE1 hR1 hBw1
            obtain ⟨wx, hwx⟩ : ∃ z, z = wr := ⟨_, rfl⟩
            subst hwx
            obtain ⟨k, hk, rfl, hW, hE, hR, hBw⟩ := hrel
            have hxs : w.heap.size + 2 ≤ wx.heap.size := (Array.getElem?_eq_some_iff.1 hR).1
            by_cases hlt : k < s.outs.length
            · obtain ⟨x, hx⟩ : ∃ x, s.outs[k]? = some x := ⟨_, List.getElem?_eq_getElem hlt⟩
              rcases hW with hW | ⟨g, rfl, hg, hkd, hwt⟩
              · omega
              obtain ⟨c, hm, hc⟩ := hwt k x (Nat.le_refl _) hx
              have hcl : ∃ t0 t1 t2 t3 t4 t5 t6 t7 t8 t9, c = [t0, t1, t2, t3, t4, t5, t6, t7, t8, t9] := by
                cases m with
                | zero => exact hm.elim
                | succ m => obtain ⟨_, _, _, _, _, _, _, rfl, _⟩ := hm; exact ⟨_, _, _, _, _, _, _, _, _, _, rfl⟩
              obtain ⟨t0, t1, t2, t3, t4, t5, t6, t7, t8, t9, rfl⟩ := hcl
              have hbx := (X.sumP_mem (List.mem_of_getElem? hx) HS3.out).2
              have hc1 : wx.cell? ⟨w.heap.size, 3, none⟩ = some (.slice (some ⟨g, 0, none⟩) s.outs.length d3) := cell_of_block hE 3 _ rfl
              have k0 : wx.cell? ⟨g, k * 11 + 1, none⟩ = some t0 := hc 0 (by omega)
              have k1 : wx.cell? ⟨g, k * 11 + 2, none⟩ = some t1 := hc 1 (by omega)
              have k2 : wx.cell? ⟨g, k * 11 + 3, none⟩ = some t2 := hc 2 (by omega)
              have k3 : wx.cell? ⟨g, k * 11 + 4, none⟩ = some t3 := hc 3 (by omega)
              have k4 : wx.cell? ⟨g, k * 11 + 5, none⟩ = some t4 := hc 4 (by omega)
              have k5 : wx.cell? ⟨g, k * 11 + 6, none⟩ = some t5 := hc 5 (by omega)
              have k6 : wx.cell? ⟨g, k * 11 + 7, none⟩ = some t6 := hc 6 (by omega)
              have k7 : wx.cell? ⟨g, k * 11 + 8, none⟩ = some t7 := hc 7 (by omega)
              have k8 : wx.cell? ⟨g, k * 11 + 9, none⟩ = some t8 := hc 8 (by omega)
              have k9 : wx.cell? ⟨g, k * 11 + 10, none⟩ = some t9 := hc 9 (by omega)
              have HC : Hid (∀ w', Below wx.heap.size wx w' → Calls Try.prog 69 #[.agg #[t0, t1, t2, t3, t4, t5, t6, t7, t8, t9]] w' fun e w'' => X.Any10 e ∧ Below w'.heap.size w' w'') := fun w' hb => copyExpr_any m w' x.2 t0 t1 t2 t3 t4 t5 t6 t7 t8 t9 (X.Mem.kept _ hm (hBw.trans (hb.mono hBw.size))) hbx
              have hd0 : Below wx.heap.size wx wx.drew := (Below.refl _ _).drew
              have KF : Hid (∀ W, Below wx.heap.size wx W → V.Kind W g 113) := by
                intro W hb
                obtain ⟨cs, hcs⟩ := hkd
                exact ⟨cs, (hb.block g (Array.getElem?_eq_some_iff.1 hcs).1).trans hcs⟩
              have HE := hide hE
              have HRR := hide hR
              have HBW := hide hBw
              have HWT := hide hwt
              clear hE hR hBw hwt hkd hm hx hbx hc
              go_wp2_with fail
              go_region_with (first | (go_at_call 69; (with_reducible refine Calls.mono (HC.out _ hd0) ?_); rintro o2 w3 ⟨⟨i0', i1', i2', s3, s6, s7, a4, a5, a8, a9, n4, n5, n8, n9, e4, e5, e8, e9, rfl⟩, hb3⟩; have hu3 := hd0.trans (hb3.mono (Nat.le_refl _)); have qe := kept_cell hu3 hc1; have q0 := kept_cell hu3 k0; have q1 := kept_cell hu3 k1; have q2 := kept_cell hu3 k2; have q3 := kept_cell hu3 k3; have q4 := kept_cell hu3 k4; have q5 := kept_cell hu3 k5; have q6 := kept_cell hu3 k6; have q7 := kept_cell hu3 k7; have q8 := kept_cell hu3 k8; have q9 := kept_cell hu3 k9; have kd3 := KF.out _ hu3; have g0 := X.free_kind kd3 (k * 11 + 1); have g1 := X.free_kind kd3 (k * 11 + 2); have g2 := X.free_kind kd3 (k * 11 + 3); have g3 := X.free_kind kd3 (k * 11 + 4); have g4 := X.free_kind kd3 (k * 11 + 5); have g5 := X.free_kind kd3 (k * 11 + 6); have g6 := X.free_kind kd3 (k * 11 + 7); have g7 := X.free_kind kd3 (k * 11 + 8); have g8 := X.free_kind kd3 (k * 11 + 9); have g9 := X.free_kind kd3 (k * 11 + 10); skip))
              all_goals
                obtain ⟨t10, kd10⟩ := X.step10 (w2 := w3) (b := g) (o := k * 11) (.int .i64 i0') (.int .i64 i1') (.int .i64 i2') (.string s3) (.slice a4 n4 e4) (.slice a5 n5 e5) (.string s6) (.string s7) (.slice a8 n8 e8) (.slice a9 n9 e9) _ rfl
                have hT : X.Turn wx ((((((((((w3.setCell ⟨g, k * 11 + 1, none⟩ (.int .i64 i0')).setCell ⟨g, k * 11 + 2, none⟩ (.int .i64 i1')).setCell ⟨g, k * 11 + 3, none⟩ (.int .i64 i2')).setCell ⟨g, k * 11 + 4, none⟩ (.string s3)).setCell ⟨g, k * 11 + 5, none⟩ (.slice a4 n4 e4)).setCell ⟨g, k * 11 + 6, none⟩ (.slice a5 n5 e5)).setCell ⟨g, k * 11 + 7, none⟩ (.string s6)).setCell ⟨g, k * 11 + 8, none⟩ (.string s7)).setCell ⟨g, k * 11 + 9, none⟩ (.slice a8 n8 e8)).setCell ⟨g, k * 11 + 10, none⟩ (.slice a9 n9 e9)) g (k * 11 + 1) := (X.Turn.of_below hu3).trans t10
                have hkd9 := kd10 113 kd3
                have hwt9 := HWT.out.next hT
                have hE9 := (hT.fr.block w.heap.size (by omega) (by omega)).trans HE.out
                have hR9 := (hT.fr.block (w.heap.size + 1) (by omega) (by omega)).trans HRR.out
                have hB9 := HBW.out.trans (hT.fr.below HBW.out.size (fun c e => by omega))
                have H9 := hide (And.intro hkd9 (And.intro hwt9 (And.intro hE9 (And.intro hR9 hB9))))
                clear t10 kd10 hT hkd9 hwt9 hE9 hR9 hB9
                go_wp2_with fail
                go_roundw
                case rel => exact ⟨k + 1, by omega, by go_num, .inr ⟨g, rfl, hg, H9.out.1, H9.out.2.1⟩, H9.out.2.2.1, H9.out.2.2.2.1, H9.out.2.2.2.2⟩
                case measure => simp [intOf]; omega
            · have c0 := cell_of_block hE 0 _ rfl
              have c1 := cell_of_block hE 1 _ rfl
              have c2 := cell_of_block hE 2 _ rfl
              have c3 := cell_of_block hE 3 _ rfl
              have z0 := cell_of_block hR 0 _ rfl
              have z1 := cell_of_block hR 1 _ rfl
              have z2 := cell_of_block hR 2 _ rfl
              have z3 := cell_of_block hR 3 _ rfl
              have f0 := free_of_block hR 0
              have f1 := free_of_block hR 1
              have f2 := free_of_block hR 2
              have f3 := free_of_block hR 3
              clear hW
              go_wp2_with fail
              have h0 : (wx.setCell ⟨w.heap.size + 1, 0, none⟩ (.string s.name)).heap[w.heap.size + 1]? = some (.cells #[.string s.name, .slice none 0 0, .slice none 0 0, .slice none 0 0] 66 (0, 0)) := block_set (i := 0) hR _
              have h1 : ((wx.setCell ⟨w.heap.size + 1, 0, none⟩ (.string s.name)).setCell ⟨w.heap.size + 1, 1, none⟩ (.slice a1 s.ins.length d1)).heap[w.heap.size + 1]? = some (.cells #[.string s.name, .slice a1 s.ins.length d1, .slice none 0 0, .slice none 0 0] 66 (0, 0)) := block_set (i := 1) h0 _
              have h2 : (((wx.setCell ⟨w.heap.size + 1, 0, none⟩ (.string s.name)).setCell ⟨w.heap.size + 1, 1, none⟩ (.slice a1 s.ins.length d1)).setCell ⟨w.heap.size + 1, 2, none⟩ (.slice a2 s.res.length d2)).heap[w.heap.size + 1]? = some (.cells #[.string s.name, .slice a1 s.ins.length d1, .slice a2 s.res.length d2, .slice none 0 0] 66 (0, 0)) := block_set (i := 2) h1 _
              have h3 : ((((wx.setCell ⟨w.heap.size + 1, 0, none⟩ (.string s.name)).setCell ⟨w.heap.size + 1, 1, none⟩ (.slice a1 s.ins.length d1)).setCell ⟨w.heap.size + 1, 2, none⟩ (.slice a2 s.res.length d2)).setCell ⟨w.heap.size + 1, 3, none⟩ (.slice a3 s.outs.length d3)).heap[w.heap.size + 1]? = some (.cells #[.string s.name, .slice a1 s.ins.length d1, .slice a2 s.res.length d2, .slice a3 s.outs.length d3] 66 (0, 0)) := block_set (i := 3) h2 _
              have hb9 : Below w.heap.size w ((((wx.setCell ⟨w.heap.size + 1, 0, none⟩ (.string s.name)).setCell ⟨w.heap.size + 1, 1, none⟩ (.slice a1 s.ins.length d1)).setCell ⟨w.heap.size + 1, 2, none⟩ (.slice a2 s.res.length d2)).setCell ⟨w.heap.size + 1, 3, none⟩ (.slice a3 s.outs.length d3)) := (((hBw.setCell (p := ⟨w.heap.size + 1, 0, none⟩) (Nat.le_succ _) _).setCell (p := ⟨w.heap.size + 1, 1, none⟩) (Nat.le_succ _) _).setCell (p := ⟨w.heap.size + 1, 2, none⟩) (Nat.le_succ _) _).setCell (p := ⟨w.heap.size + 1, 3, none⟩) (Nat.le_succ _) _
              clear h0 h1 h2
              generalize ((((wx.setCell ⟨w.heap.size + 1, 0, none⟩ (.string s.name)).setCell ⟨w.heap.size + 1, 1, none⟩ (.slice a1 s.ins.length d1)).setCell ⟨w.heap.size + 1, 2, none⟩ (.slice a2 s.res.length d2)).setCell ⟨w.heap.size + 1, 3, none⟩ (.slice a3 s.outs.length d3)) = w9 at *
              have r0 := cell_of_block h3 0 _ rfl
              have r1 := cell_of_block h3 1 _ rfl
              have r2 := cell_of_block h3 2 _ rfl
              have r3 := cell_of_block h3 3 _ rfl
              exact bodyPost_ret (v := .agg #[.string s.name, .slice a1 s.ins.length d1, .slice a2 s.res.length d2, .slice a3 s.outs.length d3]) (by simp [results, Try.results43, go_sem, r0, r1, r2, r3]) rfl ⟨⟨_, _, _, _, _, _, _, _, _, _, rfl⟩, hb9⟩
end Go.Proofs.Ytienhelohfhhfaa.Vx
