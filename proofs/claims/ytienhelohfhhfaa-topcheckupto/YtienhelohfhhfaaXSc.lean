/- lang.copyParts. -/
import Derived.Test.YtienhelohfhhfaaXRc
namespace Go.Proofs.Ytienhelohfhhfaa.Vx
open Go.RowKit
theorem info111 : (Try.prog.info? 111).map (fun i => (i.zero, i.size, i.bytes)) = some (some (.agg #[.string ⟨#[]⟩, .int .i64 0, .int .i64 0, .int .i64 0, .string ⟨#[]⟩, .slice none 0 0, .slice none 0 0, .string ⟨#[]⟩, .string ⟨#[]⟩, .slice none 0 0, .slice none 0 0]), 11, 184) := by kernel_rfl
theorem X.step10 {w2 : World} {b o : Nat} (v0 v1 v2 v3 v4 v5 v6 v7 v8 v9 : Value) (w5 : World) (e5 : w5 = ((((((((((w2.setCell ⟨b, o + 1, none⟩ v0).setCell ⟨b, o + 2, none⟩ v1).setCell ⟨b, o + 3, none⟩ v2).setCell ⟨b, o + 4, none⟩ v3).setCell ⟨b, o + 5, none⟩ v4).setCell ⟨b, o + 6, none⟩ v5).setCell ⟨b, o + 7, none⟩ v6).setCell ⟨b, o + 8, none⟩ v7).setCell ⟨b, o + 9, none⟩ v8).setCell ⟨b, o + 10, none⟩ v9)) : X.Turn w2 w5 b (o + 1) ∧ ∀ t, V.Kind w2 b t → V.Kind w5 b t := by
  subst e5
  have t0 : X.Turn w2 (w2.setCell ⟨b, o + 1, none⟩ v0) b (o + 1) := X.Turn.set (by omega) v0
  have c0 : ∀ t, V.Kind w2 b t → V.Kind (w2.setCell ⟨b, o + 1, none⟩ v0) b t := fun t h => h.set _ _
  have t1 : X.Turn w2 ((w2.setCell ⟨b, o + 1, none⟩ v0).setCell ⟨b, o + 2, none⟩ v1) b (o + 1) := t0.trans (X.Turn.set (by omega) v1)
  have c1 : ∀ t, V.Kind w2 b t → V.Kind ((w2.setCell ⟨b, o + 1, none⟩ v0).setCell ⟨b, o + 2, none⟩ v1) b t := fun t h => (c0 t h).set _ _
  have t2 : X.Turn w2 (((w2.setCell ⟨b, o + 1, none⟩ v0).setCell ⟨b, o + 2, none⟩ v1).setCell ⟨b, o + 3, none⟩ v2) b (o + 1) := t1.trans (X.Turn.set (by omega) v2)
  have c2 : ∀ t, V.Kind w2 b t → V.Kind (((w2.setCell ⟨b, o + 1, none⟩ v0).setCell ⟨b, o + 2, none⟩ v1).setCell ⟨b, o + 3, none⟩ v2) b t := fun t h => (c1 t h).set _ _
  have t3 : X.Turn w2 ((((w2.setCell ⟨b, o + 1, none⟩ v0).setCell ⟨b, o + 2, none⟩ v1).setCell ⟨b, o + 3, none⟩ v2).setCell ⟨b, o + 4, none⟩ v3) b (o + 1) := t2.trans (X.Turn.set (by omega) v3)
  have c3 : ∀ t, V.Kind w2 b t → V.Kind ((((w2.setCell ⟨b, o + 1, none⟩ v0).setCell ⟨b, o + 2, none⟩ v1).setCell ⟨b, o + 3, none⟩ v2).setCell ⟨b, o + 4, none⟩ v3) b t := fun t h => (c2 t h).set _ _
  have t4 : X.Turn w2 (((((w2.setCell ⟨b, o + 1, none⟩ v0).setCell ⟨b, o + 2, none⟩ v1).setCell ⟨b, o + 3, none⟩ v2).setCell ⟨b, o + 4, none⟩ v3).setCell ⟨b, o + 5, none⟩ v4) b (o + 1) := t3.trans (X.Turn.set (by omega) v4)
  have c4 : ∀ t, V.Kind w2 b t → V.Kind (((((w2.setCell ⟨b, o + 1, none⟩ v0).setCell ⟨b, o + 2, none⟩ v1).setCell ⟨b, o + 3, none⟩ v2).setCell ⟨b, o + 4, none⟩ v3).setCell ⟨b, o + 5, none⟩ v4) b t := fun t h => (c3 t h).set _ _
  have t5 : X.Turn w2 ((((((w2.setCell ⟨b, o + 1, none⟩ v0).setCell ⟨b, o + 2, none⟩ v1).setCell ⟨b, o + 3, none⟩ v2).setCell ⟨b, o + 4, none⟩ v3).setCell ⟨b, o + 5, none⟩ v4).setCell ⟨b, o + 6, none⟩ v5) b (o + 1) := t4.trans (X.Turn.set (by omega) v5)
  have c5 : ∀ t, V.Kind w2 b t → V.Kind ((((((w2.setCell ⟨b, o + 1, none⟩ v0).setCell ⟨b, o + 2, none⟩ v1).setCell ⟨b, o + 3, none⟩ v2).setCell ⟨b, o + 4, none⟩ v3).setCell ⟨b, o + 5, none⟩ v4).setCell ⟨b, o + 6, none⟩ v5) b t := fun t h => (c4 t h).set _ _
  have t6 : X.Turn w2 (((((((w2.setCell ⟨b, o + 1, none⟩ v0).setCell ⟨b, o + 2, none⟩ v1).setCell ⟨b, o + 3, none⟩ v2).setCell ⟨b, o + 4, none⟩ v3).setCell ⟨b, o + 5, none⟩ v4).setCell ⟨b, o + 6, none⟩ v5).setCell ⟨b, o + 7, none⟩ v6) b (o + 1) := t5.trans (X.Turn.set (by omega) v6)
  have c6 : ∀ t, V.Kind w2 b t → V.Kind (((((((w2.setCell ⟨b, o + 1, none⟩ v0).setCell ⟨b, o + 2, none⟩ v1).setCell ⟨b, o + 3, none⟩ v2).setCell ⟨b, o + 4, none⟩ v3).setCell ⟨b, o + 5, none⟩ v4).setCell ⟨b, o + 6, none⟩ v5).setCell ⟨b, o + 7, none⟩ v6) b t := fun t h => (c5 t h).set _ _
  have t7 : X.Turn w2 ((((((((w2.setCell ⟨b, o + 1, none⟩ v0).setCell ⟨b, o + 2, none⟩ v1).setCell ⟨b, o + 3, none⟩ v2).setCell ⟨b, o + 4, none⟩ v3).setCell ⟨b, o + 5, none⟩ v4).setCell ⟨b, o + 6, none⟩ v5).setCell ⟨b, o + 7, none⟩ v6).setCell ⟨b, o + 8, none⟩ v7) b (o + 1) := t6.trans (X.Turn.set (by omega) v7)
  have c7 : ∀ t, V.Kind w2 b t → V.Kind ((((((((w2.setCell ⟨b, o + 1, none⟩ v0).setCell ⟨b, o + 2, none⟩ v1).setCell ⟨b, o + 3, none⟩ v2).setCell ⟨b, o + 4, none⟩ v3).setCell ⟨b, o + 5, none⟩ v4).setCell ⟨b, o + 6, none⟩ v5).setCell ⟨b, o + 7, none⟩ v6).setCell ⟨b, o + 8, none⟩ v7) b t := fun t h => (c6 t h).set _ _
  have t8 : X.Turn w2 (((((((((w2.setCell ⟨b, o + 1, none⟩ v0).setCell ⟨b, o + 2, none⟩ v1).setCell ⟨b, o + 3, none⟩ v2).setCell ⟨b, o + 4, none⟩ v3).setCell ⟨b, o + 5, none⟩ v4).setCell ⟨b, o + 6, none⟩ v5).setCell ⟨b, o + 7, none⟩ v6).setCell ⟨b, o + 8, none⟩ v7).setCell ⟨b, o + 9, none⟩ v8) b (o + 1) := t7.trans (X.Turn.set (by omega) v8)
  have c8 : ∀ t, V.Kind w2 b t → V.Kind (((((((((w2.setCell ⟨b, o + 1, none⟩ v0).setCell ⟨b, o + 2, none⟩ v1).setCell ⟨b, o + 3, none⟩ v2).setCell ⟨b, o + 4, none⟩ v3).setCell ⟨b, o + 5, none⟩ v4).setCell ⟨b, o + 6, none⟩ v5).setCell ⟨b, o + 7, none⟩ v6).setCell ⟨b, o + 8, none⟩ v7).setCell ⟨b, o + 9, none⟩ v8) b t := fun t h => (c7 t h).set _ _
  have t9 : X.Turn w2 ((((((((((w2.setCell ⟨b, o + 1, none⟩ v0).setCell ⟨b, o + 2, none⟩ v1).setCell ⟨b, o + 3, none⟩ v2).setCell ⟨b, o + 4, none⟩ v3).setCell ⟨b, o + 5, none⟩ v4).setCell ⟨b, o + 6, none⟩ v5).setCell ⟨b, o + 7, none⟩ v6).setCell ⟨b, o + 8, none⟩ v7).setCell ⟨b, o + 9, none⟩ v8).setCell ⟨b, o + 10, none⟩ v9) b (o + 1) := t8.trans (X.Turn.set (by omega) v9)
  have c9 : ∀ t, V.Kind w2 b t → V.Kind ((((((((((w2.setCell ⟨b, o + 1, none⟩ v0).setCell ⟨b, o + 2, none⟩ v1).setCell ⟨b, o + 3, none⟩ v2).setCell ⟨b, o + 4, none⟩ v3).setCell ⟨b, o + 5, none⟩ v4).setCell ⟨b, o + 6, none⟩ v5).setCell ⟨b, o + 7, none⟩ v6).setCell ⟨b, o + 8, none⟩ v7).setCell ⟨b, o + 9, none⟩ v8).setCell ⟨b, o + 10, none⟩ v9) b t := fun t h => (c8 t h).set _ _
  exact ⟨t9, c9⟩
/-- A list of named expressions, to be copied. -/
theorem X.srcE {w0 w : World} (hw : Below w0.heap.size w0 w) {m : Nat} {ao : Option Addr} {cap : Nat} {l : List (ByteArray × Ex)} (h : X.Named m w0 (.slice ao l.length cap) l) : V.Source w 11 ao l.length := by
  obtain ⟨a, c, e, h⟩ := h
  simp only [Value.slice.injEq] at e
  obtain ⟨rfl, _, rfl⟩ := e
  rcases h with h | ⟨b, off, rfl, h⟩
  · exact .inl h
  · refine .inr ⟨b, off, rfl, fun j hj => ?_⟩
    obtain ⟨cs, h1, h2, x, c', hx, rfl, hm⟩ := h (j / 11) (by omega)
    match c', h1 with
    | [d0, d1, d2, d3, d4, d5, d6, d7, d8, d9], _ =>
      obtain ⟨al, cl, af, cf, aa, ca, an, cn, rfl, rfl, rfl, rfl, rfl, rfl, rfl, rfl, rfl, rfl⟩ := hm.form
      have hjj : off + j = off + j / 11 * 11 + j % 11 := by omega
      rw [hjj]
      have hlt : j % 11 < 11 := by omega
      have h3 := h2 (j % 11) hlt
      generalize j % 11 = k at *
      match k, hlt with
      | 0, _ => exact ⟨_, kept_cell hw h3, rfl⟩
      | 1, _ => exact ⟨_, kept_cell hw h3, rfl⟩
      | 2, _ => exact ⟨_, kept_cell hw h3, rfl⟩
      | 3, _ => exact ⟨_, kept_cell hw h3, rfl⟩
      | 4, _ => exact ⟨_, kept_cell hw h3, rfl⟩
      | 5, _ => exact ⟨_, kept_cell hw h3, rfl⟩
      | 6, _ => exact ⟨_, kept_cell hw h3, rfl⟩
      | 7, _ => exact ⟨_, kept_cell hw h3, rfl⟩
      | 8, _ => exact ⟨_, kept_cell hw h3, rfl⟩
      | 9, _ => exact ⟨_, kept_cell hw h3, rfl⟩
      | 10, _ => exact ⟨_, kept_cell hw h3, rfl⟩
/-- Elements of a copy that wait. -/
def X.WaitE (m : Nat) (w0 w : World) (h k : Nat) (l : List (ByteArray × Ex)) : Prop := ∀ (i : Nat) (x : ByteArray × Ex), k ≤ i → l[i]? = some x → ∃ c, X.Mem m w0 x.2 c ∧ ∀ j, j < 10 → w.cell? ⟨h, i * 11 + 1 + j, none⟩ = c[j]?
theorem X.waitE {w0 w w' : World} (hw : Below w0.heap.size w0 w) {e : TypeId} {m : Nat} {ao ao' : Option Addr} {cap : Nat} {l : List (ByteArray × Ex)} (h : X.Named m w0 (.slice ao l.length cap) l) (hC : V.Copied w w' e 11 ao l.length ao') (hl : 0 < l.length) :
    ∃ g, ao' = some ⟨g, 0, none⟩ ∧ w.heap.size ≤ g ∧ V.Kind w' g e ∧ X.WaitE m w0 w' g 0 l := by
  obtain ⟨a, c, e1, h⟩ := h
  simp only [Value.slice.injEq] at e1
  obtain ⟨rfl, _, rfl⟩ := e1
  rcases h with h | ⟨b, off, rfl, h⟩
  · omega
  rcases hC.2 with h0 | ⟨g, p, off2, e1, e2, hg, hk, hcp⟩
  · omega
  simp only [Option.some.injEq, Addr.mk.injEq, and_true] at e2
  obtain ⟨rfl, rfl⟩ := e2
  refine ⟨g, e1, hg, hk, fun i x _ hx => ?_⟩
  have hi : i < l.length := (List.getElem?_eq_some_iff.1 hx).1
  obtain ⟨cs, h1, h2, y, c', hy, rfl, hm⟩ := h i hi
  rw [hx] at hy; cases hy
  refine ⟨c', hm, fun j hj => ?_⟩
  obtain ⟨u, hu1, hu2⟩ := hcp (i * 11 + 1 + j) (by omega)
  rw [hu2]
  have hcl : c'.length = 10 := by simpa using h1
  have h3 := h2 (1 + j) (by omega)
  have h4 : w0.cell? ⟨b, off + i * 11 + (1 + j), none⟩ = some c'[j] := by
    rw [h3, Nat.add_comm 1 j, List.getElem?_cons_succ]; exact List.getElem?_eq_getElem (by omega)
  have h5 := kept_cell hw h4
  have e3 : off + (i * 11 + 1 + j) = off + i * 11 + (1 + j) := by omega
  rw [e3] at hu1
  rw [hu1] at h5
  rw [h5, List.getElem?_eq_getElem (by omega)]
theorem X.WaitE.next {m : Nat} {w0 w w' : World} {h k : Nat} {l : List (ByteArray × Ex)} (hw : X.WaitE m w0 w h k l) (ht : X.Turn w w' h (k * 11 + 1)) : X.WaitE m w0 w' h (k + 1) l := by
  intro i x hi hx
  obtain ⟨c, hm, hc⟩ := hw i x (by omega) hx
  refine ⟨c, hm, fun j hj => ?_⟩
  have hl : c.length = 10 := by
    cases m with
    | zero => exact hm.elim
    | succ m => obtain ⟨_, _, _, _, _, _, _, rfl, _⟩ := hm; rfl
  have h1 : w.cell? ⟨h, i * 11 + 1 + j, none⟩ = some c[j] := by rw [hc j hj]; exact List.getElem?_eq_getElem (by omega)
  rw [ht.cell _ _ (by omega) h1, List.getElem?_eq_getElem (by omega)]
/-- A slice of so many. -/
def X.SomeS (n : Nat) (o : Ending) : Prop := ∃ (a : Option Addr) (c : Nat), o = .returned (.slice a n c)
set_option maxRecDepth 100000 in
set_option maxHeartbeats 8000000 in
theorem copyParts_any (m : Nat) (w : World) (l : List (ByteArray × Ex)) (pv : Value) (hp : X.Named m w pv l) (hl : l.length ≤ 2000000) (hbk : X.sumP m l ≤ 2000000) :
    Calls Try.prog 68 #[pv] w fun o w' => X.SomeS l.length o ∧ Below w.heap.size w w' := by
  obtain ⟨ap, cp, rfl⟩ := V.Row.shape hp
  obtain ⟨i1, hi1, hy0, hy1, hy2⟩ := info_parts info111
  have hs := X.srcE (Below.refl _ _) hp
  have HS := hide hs
  have HP := hide hp
  have HBK := hide hbk
  clear hs hp hbk
  go_enter Try.func68, Try.ntmps68
  go_wp2_with (at_builtin; go_must (refine V.wpList_copy _ rfl (.tmp 4) 103 rfl 111 i1 (.agg #[.string ⟨#[]⟩, .int .i64 0, .int .i64 0, .int .i64 0, .string ⟨#[]⟩, .slice none 0 0, .slice none 0 0, .string ⟨#[]⟩, .string ⟨#[]⟩, .slice none 0 0, .slice none 0 0]) 11 184 Try.underlying103 hi1 hy0 hy1 hy2 rfl (by decide) ap l.length cp rfl HS.out (by unfold maxLen; omega) (by omega) ?_); intro ao1 cap1 w2 hC; have HC := hide hC; clear hC)
  rcases Nat.eq_zero_or_pos l.length with h0 | hpos
  · have hbb := HC.out.1
    go_loopw [8, 3] (fun vi _ wx => vi = .int .i64 0 ∧ Below w.heap.size w wx) (fun _ _ _ => 0)
    case atStart => exact ⟨rfl, hbb⟩
    case round =>
      clear hbb
      obtain ⟨rfl, hbb⟩ := hrel
      go_wp2_with fail
      go_ret
      exact ⟨⟨_, _, rfl⟩, hbb⟩
  · obtain ⟨h, rfl, hh, hkd, hwt⟩ := X.waitE (Below.refl _ _) HP.out HC.out hpos
    have hbw := HC.out.1
    clear HC HS
    go_loopw [8, 3] (fun vi _ wx => ∃ k : Nat, k ≤ l.length ∧ vi = .int .i64 k ∧ X.WaitE m w wx h k l ∧ V.Kind wx h 111 ∧ Below w.heap.size w wx) (fun vi _ _ => l.length - (intOf vi).toNat)
    case atStart => exact ⟨0, Nat.zero_le _, rfl, hwt, hkd, hbw⟩
    case round =>
      clear hwt hkd hbw
      obtain ⟨wx, hwx⟩ : ∃ z, z = wr := ⟨_, rfl⟩
      subst hwx
      obtain ⟨k, hk, rfl, hwt, hkd, hbw⟩ := hrel
      by_cases hlt : k < l.length
      · obtain ⟨x, hx⟩ : ∃ x, l[k]? = some x := ⟨_, List.getElem?_eq_getElem hlt⟩
        obtain ⟨c, hm, hc⟩ := hwt k x (Nat.le_refl _) hx
        have hcl : ∃ d0 d1 d2 d3 d4 d5 d6 d7 d8 d9, c = [d0, d1, d2, d3, d4, d5, d6, d7, d8, d9] := by
          cases m with
          | zero => exact hm.elim
          | succ m => obtain ⟨_, _, _, _, _, _, _, rfl, _⟩ := hm; exact ⟨_, _, _, _, _, _, _, _, _, _, rfl⟩
        obtain ⟨d0, d1, d2, d3, d4, d5, d6, d7, d8, d9, rfl⟩ := hcl
        have hbx := (X.sumP_mem (List.mem_of_getElem? hx) HBK.out).2
        have hce := copyExpr_any m wx x.2 d0 d1 d2 d3 d4 d5 d6 d7 d8 d9 (X.Mem.kept _ hm hbw) hbx
        have k0 : wx.cell? ⟨h, k * 11 + 1, none⟩ = some d0 := hc 0 (by omega)
        have k1 : wx.cell? ⟨h, k * 11 + 2, none⟩ = some d1 := hc 1 (by omega)
        have k2 : wx.cell? ⟨h, k * 11 + 3, none⟩ = some d2 := hc 2 (by omega)
        have k3 : wx.cell? ⟨h, k * 11 + 4, none⟩ = some d3 := hc 3 (by omega)
        have k4 : wx.cell? ⟨h, k * 11 + 5, none⟩ = some d4 := hc 4 (by omega)
        have k5 : wx.cell? ⟨h, k * 11 + 6, none⟩ = some d5 := hc 5 (by omega)
        have k6 : wx.cell? ⟨h, k * 11 + 7, none⟩ = some d6 := hc 6 (by omega)
        have k7 : wx.cell? ⟨h, k * 11 + 8, none⟩ = some d7 := hc 7 (by omega)
        have k8 : wx.cell? ⟨h, k * 11 + 9, none⟩ = some d8 := hc 8 (by omega)
        have k9 : wx.cell? ⟨h, k * 11 + 10, none⟩ = some d9 := hc 9 (by omega)
        have HCE := hide hce
        have HWT := hide hwt
        have HKD := hide hkd
        have HBW := hide hbw
        clear hce hwt hkd hbw hm hc
        go_wp2_with fail
        refine HCE.out.mono ?_
        rintro o2 w3 ⟨⟨i0', i1', i2', s3, s6, s7, a4, a5, a8, a9, n4, n5, n8, n9, e4, e5, e8, e9, rfl⟩, hb3⟩
        have hkd3 : V.Kind w3 h 111 := by obtain ⟨cs, hcs⟩ := HKD.out; exact ⟨cs, (hb3.block h (Array.getElem?_eq_some_iff.1 hcs).1).trans hcs⟩
        have q0 := kept_cell hb3 k0
        have f0 := X.free_kind hkd3 (k * 11 + 1)
        have q1 := kept_cell hb3 k1
        have f1 := X.free_kind hkd3 (k * 11 + 2)
        have q2 := kept_cell hb3 k2
        have f2 := X.free_kind hkd3 (k * 11 + 3)
        have q3 := kept_cell hb3 k3
        have f3 := X.free_kind hkd3 (k * 11 + 4)
        have q4 := kept_cell hb3 k4
        have f4 := X.free_kind hkd3 (k * 11 + 5)
        have q5 := kept_cell hb3 k5
        have f5 := X.free_kind hkd3 (k * 11 + 6)
        have q6 := kept_cell hb3 k6
        have f6 := X.free_kind hkd3 (k * 11 + 7)
        have q7 := kept_cell hb3 k7
        have f7 := X.free_kind hkd3 (k * 11 + 8)
        have q8 := kept_cell hb3 k8
        have f8 := X.free_kind hkd3 (k * 11 + 9)
        have q9 := kept_cell hb3 k9
        have f9 := X.free_kind hkd3 (k * 11 + 10)
        obtain ⟨t10, kd10⟩ := X.step10 (w2 := w3) (b := h) (o := k * 11) (.int .i64 i0') (.int .i64 i1') (.int .i64 i2') (.string s3) (.slice a4 n4 e4) (.slice a5 n5 e5) (.string s6) (.string s7) (.slice a8 n8 e8) (.slice a9 n9 e9) _ rfl
        have hT : X.Turn wx ((((((((((w3.setCell ⟨h, k * 11 + 1, none⟩ (.int .i64 i0')).setCell ⟨h, k * 11 + 2, none⟩ (.int .i64 i1')).setCell ⟨h, k * 11 + 3, none⟩ (.int .i64 i2')).setCell ⟨h, k * 11 + 4, none⟩ (.string s3)).setCell ⟨h, k * 11 + 5, none⟩ (.slice a4 n4 e4)).setCell ⟨h, k * 11 + 6, none⟩ (.slice a5 n5 e5)).setCell ⟨h, k * 11 + 7, none⟩ (.string s6)).setCell ⟨h, k * 11 + 8, none⟩ (.string s7)).setCell ⟨h, k * 11 + 9, none⟩ (.slice a8 n8 e8)).setCell ⟨h, k * 11 + 10, none⟩ (.slice a9 n9 e9)) h (k * 11 + 1) := (X.Turn.of_below hb3).trans t10
        have hkd10 := kd10 111 hkd3
        have hbw10 : Below w.heap.size w ((((((((((w3.setCell ⟨h, k * 11 + 1, none⟩ (.int .i64 i0')).setCell ⟨h, k * 11 + 2, none⟩ (.int .i64 i1')).setCell ⟨h, k * 11 + 3, none⟩ (.int .i64 i2')).setCell ⟨h, k * 11 + 4, none⟩ (.string s3)).setCell ⟨h, k * 11 + 5, none⟩ (.slice a4 n4 e4)).setCell ⟨h, k * 11 + 6, none⟩ (.slice a5 n5 e5)).setCell ⟨h, k * 11 + 7, none⟩ (.string s6)).setCell ⟨h, k * 11 + 8, none⟩ (.string s7)).setCell ⟨h, k * 11 + 9, none⟩ (.slice a8 n8 e8)).setCell ⟨h, k * 11 + 10, none⟩ (.slice a9 n9 e9)) := HBW.out.trans (hT.fr.below HBW.out.size (fun c e => e ▸ hh))
        have hwt10 := HWT.out.next hT
        have H10 := hide (And.intro hkd10 (And.intro hbw10 hwt10))
        clear t10 kd10 hT hkd10 hbw10 hwt10 hkd3 hb3 HCE k0 k1 k2 k3 k4 k5 k6 k7 k8 k9
        go_wp2_with fail
        go_roundw
        case rel => exact ⟨k + 1, by omega, by go_num, H10.out.2.2, H10.out.1, H10.out.2.1⟩
        case measure => simp [intOf]; omega
      · go_wp2_with fail
        go_ret
        exact ⟨⟨_, _, rfl⟩, hbw⟩
end Go.Proofs.Ytienhelohfhhfaa.Vx
