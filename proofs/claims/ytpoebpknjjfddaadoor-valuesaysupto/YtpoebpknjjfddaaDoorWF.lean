/- value.Of. -/
import Derived.Test.YtpoebpknjjfddaaDoorWE
namespace Go.Proofs.YtpoebpknjjfddaaDoor
open Go.RowKit
theorem sort_all (m : Nat) (w w1 w2 W3 : World) (l : List (ByteArray × Val)) (al ao' : Option Addr) (cl cap' : Nat) (hf : V.Row w (.slice al l.length cl) l.length 6 (fun i c => ∃ x c', l[i]? = some x ∧ c = .string x.1 :: c' ∧ V.Mem m w x.2 c'))
    (hb1 : Below w.heap.size w w1) (hC : V.Copied w1 w2 37 6 al l.length ao') (hb3 : Below w2.heap.size w2 W3) (h12 : l.length ≤ 12) :
    Calls Tryd.prog 42 #[.slice ao' l.length cap', .func (.func 43) #[] #[]] W3 fun e w4 => e = .returned (.tuple #[]) ∧ Below w.heap.size w w4 ∧ (∀ c, c < W3.heap.size → (ao' ≠ some ⟨c, 0, none⟩ ∨ l.length = 0) → w4.heap[c]? = W3.heap[c]?) ∧ W3.heap.size ≤ w4.heap.size ∧
      V.Row w4 (.slice ao' l.length cap') l.length 6 (fun i c => ∃ x c', (V.pickF l (V.ord l))[i]? = some x ∧ c = .string x.1 :: c' ∧ V.Mem m w4 x.2 c') ∧
      (l.length = 0 ∨ ∃ h, ao' = some ⟨h, 0, none⟩ ∧ w1.heap.size ≤ h ∧ h < w2.heap.size ∧ V.Kind w4 h 37 ∧ ∀ (i : Nat) (y : ByteArray × Val), (V.pickF l (V.ord l))[i]? = some y → w4.cell? ⟨h, i * 6, none⟩ = some (.string y.1) ∧ ∃ c', V.Mem m w y.2 c' ∧ ∀ j, j < 5 → w4.cell? ⟨h, i * 6 + 1 + j, none⟩ = c'[j]?) := by
  obtain ⟨hb2, hC⟩ := hC
  have hB2 := hb1.trans (hb2.mono hb1.size)
  have hB3 := hB2.trans (hb3.mono hB2.size)
  rcases Nat.eq_zero_or_pos l.length with h0 | hpos
  · rw [h0]
    refine (sort_none ao' cap' W3).mono ?_
    rintro e w4 ⟨rfl, rfl⟩
    exact ⟨rfl, hB3, fun _ _ _ => rfl, Nat.le_refl _, ⟨ao', cap', rfl, .inl rfl⟩, .inl rfl⟩
  · rcases hC with h | ⟨h, p, off, rfl, rfl, hh, ⟨cs, hk⟩, hc⟩
    · omega
    · obtain ⟨hcells, hspec⟩ := V.cells_spec hf
      have hlt2 : h < w2.heap.size := (Array.getElem?_eq_some_iff.1 hk).1
      have hk3 := (hb3.block h hlt2).trans hk
      have hsz : (Array.range l.length).size = l.length := by simp
      have hH : V.HasF W3 h (V.cellsAt w p off l.length) (Array.range l.length) := by
        intro i hi j hj
        rw [hsz] at hi
        refine ⟨?_, free_of_block hk3 _⟩
        obtain ⟨u, hu1, hu2⟩ := hc (i * 6 + j) (by omega)
        have he : (Array.range l.length)[i]! = i := by rw [getElem!_pos _ i (by omega)]; simp
        rw [kept_cell hb3 hu2, he, ← (hspec i hi).1 j hj]
        have hx : ∃ u', w.cell? ⟨p, off + i * 6 + j, none⟩ = some u' := by
          rw [(hspec i hi).1 j hj]
          obtain ⟨_, _, _, _, _, e, _⟩ := hcells i
          rw [e]; exact ⟨_, List.getElem?_eq_getElem (by simpa using hj)⟩
        obtain ⟨u', hu'⟩ := hx
        have := kept_cell hb1 hu'
        rw [show off + i * 6 + j = off + (i * 6 + j) by omega, hu1] at this
        rw [hu', ← this]
      refine (sort_any l _ hcells W3 h cap' (Nat.lt_of_lt_of_le hlt2 hb3.size) hH h12).mono ?_
      rintro e w4 ⟨rfl, hHF, hoth, hsize, ho, ht, hou, hkd⟩
      have hb4 : Below w.heap.size w w4 := by
        refine ⟨ho.trans hB3.os, ht.trans hB3.tape, hou.trans hB3.output, Nat.le_trans hB3.size hsize, fun c hcw => ?_⟩
        rw [hoth c (Nat.lt_of_lt_of_le hcw hB3.size) (by have := hb1.size; omega)]
        exact hB3.block c hcw
      refine ⟨rfl, hb4, fun c hcl hne => hoth c hcl (fun e => hne.elim (fun h => h (by rw [e])) (fun h => by omega)), hsize, ⟨some ⟨h, 0, none⟩, cap', rfl, .inr ⟨h, 0, rfl, fun i hi => ?_⟩⟩, .inr ⟨h, rfl, hh, hlt2, hkd ⟨cs, hk3⟩, fun i y hy => ?_⟩⟩
      all_goals have hso := (V.ord_spec l).1
      rotate_left
      · have hi : i < l.length := by have := V.lt_of_get hy; rwa [V.pick_len] at this
        rw [V.pick_get l i hi] at hy
        cases hy
        have hil := V.ord_lt l i hi
        obtain ⟨_, c', ec, hm⟩ := hspec _ hil
        have h0 := (hHF i (by omega) 0 (by omega)).1
        rw [ec] at h0
        refine ⟨h0, c', hm, fun j hj => ?_⟩
        have h1 := (hHF i (by omega) (1 + j) (by omega)).1
        rw [ec] at h1
        rw [show i * 6 + 1 + j = i * 6 + (1 + j) by omega, h1, Nat.add_comm 1 j]; rfl
      have hil := V.ord_lt l i hi
      obtain ⟨_, c', ec, hm⟩ := hspec _ hil
      refine ⟨V.encAt (V.cellsAt w p off l.length) (V.ord l)[i]!, ?_, fun j hj => ?_, _, c', V.pick_get l i hi, ec, V.Mem.kept m hm hb4⟩
      · obtain ⟨_, _, _, _, _, e, _⟩ := hcells (V.ord l)[i]!
        rw [e]; rfl
      · rw [Nat.zero_add]; exact (hHF i (by omega) j hj).1
theorem core_rec (m : Nat) (w w4 w5 : World) (l : List (ByteArray × Val)) (ao1 : Option Addr) (cap1 Bs S : Nat) (h45 : Below w4.heap.size w4 w5)
    (hnew : l.length = 0 ∨ ∃ h, ao1 = some ⟨h, 0, none⟩ ∧ Bs ≤ h ∧ h < S ∧ V.Kind w4 h 37 ∧ ∀ (i : Nat) (y : ByteArray × Val), (V.pickF l (V.ord l))[i]? = some y → w4.cell? ⟨h, i * 6, none⟩ = some (.string y.1) ∧ ∃ c', V.Mem m w y.2 c' ∧ ∀ j, j < 5 → w4.cell? ⟨h, i * 6 + 1 + j, none⟩ = c'[j]?) :
    V.Core5 w w5 Bs S m (V.recOf l) [.int .i64 5, .int .i64 0, .string ⟨#[]⟩, .slice none 0 0, .slice ao1 l.length cap1] := by
  refine ⟨_, _, rfl, .inl (V.Row.zero _ _ _), ?_⟩
  rw [show (V.recOf l).f = V.pickF l (V.ord l) from rfl]
  rcases hnew with h0 | ⟨h, rfl, hb, hS, ⟨cs, hk⟩, hh⟩
  · refine .inl ⟨ao1, cap1, by rw [V.pick_len], .inl (by rw [V.pick_len]; exact h0)⟩
  · have hk5 : V.Kind w5 h 37 := ⟨cs, (h45.block h (Array.getElem?_eq_some_iff.1 hk).1).trans hk⟩
    refine .inr ⟨some ⟨h, 0, none⟩, cap1, by rw [V.pick_len], .inr ⟨h, rfl, hk5, fun i y hy => ?_⟩⟩
    obtain ⟨hn, c', hm, hc⟩ := hh i y hy
    refine ⟨kept_cell h45 hn, ?_⟩
    cases m with
    | zero => exact hm.elim
    | succ m =>
      refine ⟨⟨hb, by omega⟩, .inr ⟨hk5, by omega⟩, V.Core.old _ hm (fun j hj => ?_)⟩
      rw [← hc j hj]
      have : ∃ u, w4.cell? ⟨h, i * 6 + 1 + j, none⟩ = some u := by
        rw [hc j hj]
        obtain ⟨lv, fv, rfl, _⟩ := hm
        exact ⟨_, List.getElem?_eq_getElem (by simpa using hj)⟩
      obtain ⟨u, hu⟩ := this
      rw [hu]; exact kept_cell h45 hu
set_option maxRecDepth 100000 in
set_option maxHeartbeats 3200000 in
theorem of_any (m : Nat) (w : World) (fv : Value) (l : List (ByteArray × Val)) (hf : V.Row w fv l.length 6 (fun i c => ∃ x c', l[i]? = some x ∧ c = .string x.1 :: c' ∧ V.Mem m w x.2 c')) (h12 : l.length ≤ 12) (hbk : V.bulk (m + 1) (V.recOf l) ≤ 2000000) :
    Calls Tryd.prog 25 #[fv] w fun e w' => (∃ e0 e1 e2 e3 e4, e = .returned (.tuple #[.agg #[e0, e1, e2, e3, e4], V.errOf (V.recF m l)]) ∧ V.Mem (m + 1) w' (V.recV m l) [e0, e1, e2, e3, e4]) ∧ Below w.heap.size w w' := by
  obtain ⟨i2, hi2, hx0, hx1, hx2⟩ := info_parts info37
  obtain ⟨al, cl, rfl⟩ := hf.shape
  have hbL : Below w.heap.size w (w.alloc (.cells #[.int .i64 0, .int .i64 0, .string ⟨#[]⟩, .slice none 0 0, .slice none 0 0] 34)) := (Below.refl _ _).alloc (Nat.le_refl _) _
  have hR0 : (w.alloc (.cells #[.int .i64 0, .int .i64 0, .string ⟨#[]⟩, .slice none 0 0, .slice none 0 0] 34)).heap[w.heap.size]? = some (.cells #[.int .i64 0, .int .i64 0, .string ⟨#[]⟩, .slice none 0 0, .slice none 0 0] 34 (0, 0)) := heap_alloc_new _ _
  have hsrc : V.Source (w.alloc (.cells #[.int .i64 0, .int .i64 0, .string ⟨#[]⟩, .slice none 0 0, .slice none 0 0] 34)) 6 al l.length := V.srcF (w0 := w) (Bs := 0) (S := 0) (m := m) (cap := cl) hbL (.inl hf)
  have HS := hide hsrc
  have KS := hide (fun ao1 cap1 w2 W3 hC hb3 => sort_all m w (w.alloc (.cells #[.int .i64 0, .int .i64 0, .string ⟨#[]⟩, .slice none 0 0, .slice none 0 0] 34)) w2 W3 l al ao1 cl cap1 hf hbL hC hb3 h12)
  have hw1 : w.heap.size + 1 = (w.alloc (.cells #[.int .i64 0, .int .i64 0, .string ⟨#[]⟩, .slice none 0 0, .slice none 0 0] 34)).heap.size := by simp
  have HW1 := hide hw1
  clear hsrc hf hw1
  go_enter Tryd.func25, Tryd.ntmps25
  go_wp2_with (at_builtin; go_must (refine V.wpList_copy _ rfl (.tmp 7) 32 rfl 37 i2 (.agg #[.string ⟨#[]⟩, .int .i64 0, .int .i64 0, .string ⟨#[]⟩, .slice none 0 0, .slice none 0 0]) 6 96 Tryd.underlying32 hi2 hx0 hx1 hx2 rfl (by decide) al l.length cl rfl HS.out (by unfold maxLen; omega) (by omega) ?_); intro ao1 cap1 w2 hC; have HC := hide hC; clear hC)
  have hb3 : Below w2.heap.size w2 (w2.alloc (.cells #[.int .i64 5, .int .i64 0, .string ⟨#[]⟩, .slice none 0 0, .slice ao1 l.length cap1] 34)) := (Below.refl _ _).alloc (Nat.le_refl _) _
  have hV3 : (w2.alloc (.cells #[.int .i64 5, .int .i64 0, .string ⟨#[]⟩, .slice none 0 0, .slice ao1 l.length cap1] 34)).heap[w2.heap.size]? = some (.cells #[.int .i64 5, .int .i64 0, .string ⟨#[]⟩, .slice none 0 0, .slice ao1 l.length cap1] 34 (0, 0)) := heap_alloc_new _ _
  refine Calls.mono (KS.out ao1 cap1 w2 _ HC.out hb3) ?_
  rintro e w4 ⟨rfl, hb4, hoth, hsz4, hrow, hnew⟩
  rw [← HW1.out] at hnew
  have HNEW := hide hnew
  have hs12 : w.heap.size + 1 ≤ w2.heap.size := by rw [HW1.out]; exact HC.out.1.size
  have hne : ∀ c, c = w.heap.size ∨ c = w2.heap.size → ao1 ≠ some ⟨c, 0, none⟩ ∨ l.length = 0 := fun c hc => by
    rcases HC.out.2 with h | ⟨h, p, off, rfl, _, hh, ⟨cs, hk⟩, _⟩
    · exact .inr h
    · left
      intro e
      simp only [Option.some.injEq, Addr.mk.injEq, and_true] at e
      have h2 := (Array.getElem?_eq_some_iff.1 hk).1
      rw [← HW1.out] at hh
      omega
  have hltR : w.heap.size < (w2.alloc (.cells #[.int .i64 5, .int .i64 0, .string ⟨#[]⟩, .slice none 0 0, .slice ao1 l.length cap1] 34)).heap.size := by simp; omega
  have hR1 : (w2.alloc (.cells #[.int .i64 5, .int .i64 0, .string ⟨#[]⟩, .slice none 0 0, .slice ao1 l.length cap1] 34)).heap[w.heap.size]? = some (.cells #[.int .i64 0, .int .i64 0, .string ⟨#[]⟩, .slice none 0 0, .slice none 0 0] 34 (0, 0)) := by
    rw [heap_alloc_old _ _ (by omega)]
    exact (HC.out.1.block w.heap.size (by rw [← HW1.out]; omega)).trans hR0
  have hR4 := (hoth w.heap.size hltR (hne _ (.inl rfl))).trans hR1
  have hV4 := (hoth w2.heap.size (by simp) (hne _ (.inr rfl))).trans hV3
  have HROW := hide hrow
  have hg4 : w.heap.size + 1 ≤ w2.heap.size := hs12
  clear hoth hsz4 hrow hnew hb3 hV3 KS HS HC hbL hR0 hR1 hltR hne HW1
  generalize w2.heap.size = G at *
  have hmem : V.Mem (m + 1) w4 (V.recOf l) [.int .i64 5, .int .i64 0, .string ⟨#[]⟩, .slice none 0 0, .slice ao1 l.length cap1] := by
    refine ⟨_, _, rfl, V.Row.zero _ _ _, ?_⟩
    rw [show (V.recOf l).f = V.pickF l (V.ord l) from rfl, V.pick_len l]
    exact HROW.out
  have HM := hide hmem
  clear hmem
  have v4 := cell_of_block hV4 4 _ rfl
  go_wp2_with fail
  go_loopw [5] (fun vi wr => ∃ k : Nat, 1 ≤ k ∧ (k ≤ l.length ∨ l.length = 0 ∧ k = 1) ∧ vi = .int .i64 k ∧ (∀ j, j + 1 < k → V.nmAt l (V.ord l)[j]! ≠ V.nmAt l (V.ord l)[j + 1]!) ∧ ∃ n, wr = w4.drewN n) (fun vi _ => l.length + 1 - (intOf vi).toNat)
  case atStart => exact ⟨1, Nat.le_refl _, by omega, rfl, fun j hj => absurd hj (by omega), 0, rfl⟩
  case round =>
    obtain ⟨k, hk1, hk, rfl, hok, n0, hW⟩ := hrel
    have HOK := hide hok
    have HW := hide hW
    have hcw : ∀ p, wr.cell? p = w4.cell? p := fun p => by rw [hW]; rfl
    have hhp : ∀ c : Nat, wr.heap[c]? = w4.heap[c]? := fun c => by rw [hW]; rfl
    have hRr := (hhp w.heap.size).trans hR4
    have hVr := (hhp G).trans hV4
    have hbr : Below w.heap.size w wr := by rw [hW]; exact below_drewN hb4 _
    have hbr4 : Below w4.heap.size w4 wr := by rw [hW]; exact below_drewN (Below.refl _ _) _
    rw [← hcw] at v4
    have HCW := hide hcw
    clear hok hW hcw
    by_cases hlt : k < l.length
    · obtain ⟨k', rfl⟩ : ∃ k', k = k' + 1 := ⟨k - 1, by omega⟩
      obtain ⟨p, off, cp, x, _, _, _, _, _, e1, hx, _, yn, _⟩ := V.elemF HROW.out (k' + 1) hlt
      obtain ⟨p', off', cp', y, _, _, _, _, _, e2, hy, _, zn, _⟩ := V.elemF HROW.out k' (by omega)
      simp only [Value.slice.injEq] at e1
      obtain ⟨rfl, _, rfl⟩ := e1
      simp only [Value.slice.injEq, Option.some.injEq, Addr.mk.injEq] at e2
      obtain ⟨⟨rfl, rfl, _⟩, _, rfl⟩ := e2
      rw [V.pick_get l _ hlt] at hx
      rw [V.pick_get l _ (by omega)] at hy
      cases hx; cases hy
      rw [← HCW.out] at yn zn
      cases he : ((V.fieldAt l (V.ord l)[k' + 1]!).1.toList == (V.fieldAt l (V.ord l)[k']!).1.toList)
      · have HE : Hid (V.nmAt l (V.ord l)[k']! ≠ V.nmAt l (V.ord l)[k' + 1]!) := fun h => by
          rw [beq_eq_false_iff_ne, V.toList_bl, V.toList_bl] at he
          exact he h.symm
        generalize (V.fieldAt l (V.ord l)[k' + 1]!).1 = na at *
        generalize (V.fieldAt l (V.ord l)[k']!).1 = nb at *
        clear hRr hVr hhp hbr hbr4
        go_wp2_with fail
        go_quiet (fail)
        go_wp2_with fail
        go_roundw
        case rel =>
          refine ⟨k' + 1 + 1, by omega, by omega, by go_num, fun j hj => ?_, by rw [HW.out]; exact drewN_some _ _ _⟩
          rcases Nat.lt_or_ge (j + 1) (k' + 1) with h | h
          · exact HOK.out j h
          · rw [show j = k' by omega]; exact HE.out
        case measure => simp [intOf]; omega
      · have E : Hid (V.recF m l = 6) := by
          show _ = _
          have hd : V.dupB l = true := (V.dupB_iff l).2 ((V.adj_dup l).1 ⟨k', by rw [(V.ord_spec l).1]; exact hlt, by
            rw [beq_iff_eq, V.toList_bl, V.toList_bl] at he; exact he.symm⟩)
          rw [V.recF, hd]; rfl
        generalize (V.fieldAt l (V.ord l)[k' + 1]!).1 = na at *
        generalize (V.fieldAt l (V.ord l)[k']!).1 = nb at *
        have z0 := cell_of_block hRr 0 _ rfl
        have f0 := free_of_block hRr 0
        have z1 := cell_of_block hRr 1 _ rfl
        have f1 := free_of_block hRr 1
        have z2 := cell_of_block hRr 2 _ rfl
        have f2 := free_of_block hRr 2
        have z3 := cell_of_block hRr 3 _ rfl
        have f3 := free_of_block hRr 3
        have z4 := cell_of_block hRr 4 _ rfl
        have f4 := free_of_block hRr 4
        clear hVr hhp hbr4
        go_wp2_with fail
        go_quiet (fail)
        go_wp2_with fail
        have hRq : (wr.drewN nq).heap[w.heap.size]? = some (.cells #[.int .i64 0, .int .i64 0, .string ⟨#[]⟩, .slice none 0 0, .slice none 0 0] 34 (0, 0)) := hRr
        have hB2 := set5 hRq (.int .i64 0) (.int .i64 0) (.string ⟨#[]⟩) (.slice none 0 0) (.slice none 0 0)
        have hw2 := below5 (below_drewN hbr nq) (Nat.le_refl w.heap.size) (.int .i64 0) (.int .i64 0) (.string ⟨#[]⟩) (.slice none 0 0) (.slice none 0 0)
        generalize ((((((wr.drewN nq).setCell ⟨w.heap.size, 0, none⟩ (.int .i64 0)).setCell ⟨w.heap.size, 1, none⟩ (.int .i64 0)).setCell ⟨w.heap.size, 2, none⟩ (.string ⟨#[]⟩)).setCell ⟨w.heap.size, 3, none⟩ (.slice none 0 0)).setCell ⟨w.heap.size, 4, none⟩ (.slice none 0 0)) = w9 at *
        have r0 := cell_of_block hB2 0 _ rfl
        have r1 := cell_of_block hB2 1 _ rfl
        have r2 := cell_of_block hB2 2 _ rfl
        have r3 := cell_of_block hB2 3 _ rfl
        have r4 := cell_of_block hB2 4 _ rfl
        refine bodyPost_ret (v := .tuple #[.agg #[.int .i64 0, .int .i64 0, .string ⟨#[]⟩, .slice none 0 0, .slice none 0 0], .iface 23 (.int .i64 6)]) (by simp [results, Tryd.results25, go_sem, r0, r1, r2, r3, r4]) rfl ⟨⟨_, _, _, _, _, by rw [E.out]; rfl, ?_⟩, hw2⟩
        rw [V.recV, if_neg (by rw [E.out]; decide)]
        exact V.Mem.zero m w9
    · have hnd : V.dupB l = false := by
        rw [← Bool.not_eq_true]
        intro hd
        obtain ⟨j, hj, e⟩ := (V.adj_dup l).2 ((V.dupB_iff l).1 hd)
        rw [(V.ord_spec l).1] at hj
        exact HOK.out j (by omega) e
      have HF : Hid (V.recF m l = V.fault (m + 1) (V.recOf l)) := by show _ = _; rw [V.recF, hnd]; rfl
      have v0 := cell_of_block hVr 0 _ rfl
      have v1 := cell_of_block hVr 1 _ rfl
      have v2 := cell_of_block hVr 2 _ rfl
      have v3 := cell_of_block hVr 3 _ rfl
      have hltG : G < wr.heap.size := (Array.getElem?_eq_some_iff.1 hVr).1
      clear hhp
      go_wp2_with fail
      refine (check_any (m + 1) wr (V.recOf l) _ _ _ _ _ (V.Mem.kept _ HM.out hbr4) hbk).mono ?_
      rintro e w5 ⟨rfl, hb5⟩
      have hR5 := (hb5.block w.heap.size (by omega)).trans hRr
      have hV5 := (hb5.block G hltG).trans hVr
      have hB5 := hbr.trans (hb5.mono hbr.size)
      have HM5 := hide (V.Mem.kept _ HM.out (hbr4.trans (hb5.mono hbr4.size)))
      rw [← HF.out]
      generalize hff : V.recF m l = f
      have HFF := hide hff
      clear hff v0 v1 v2 v3 v4
      by_cases h0 : f = 0
      · subst h0
        have v0 := cell_of_block hV5 0 _ rfl
        have v1 := cell_of_block hV5 1 _ rfl
        have v2 := cell_of_block hV5 2 _ rfl
        have v3 := cell_of_block hV5 3 _ rfl
        have v4 := cell_of_block hV5 4 _ rfl
        have hb45 := hbr4.trans (hb5.mono hbr4.size)
        have hl5 : G < w5.heap.size := (Array.getElem?_eq_some_iff.1 hV5).1
        have HCP := hide (copy_all m w w5 (w.heap.size + 1) (by omega) (by omega) (V.recOf l) _ _ _ _ _ hB5 (core_rec m w w4 w5 l ao1 cap1 (w.heap.size + 1) (w5.heap.size + 1) hb45 (HNEW.out.imp id (fun ⟨h, e, q1, q2, q3⟩ => ⟨h, e, q1, by omega, q3⟩))) hbk)
        rw [show V.errOf 0 = .nilIface from rfl]
        clear hb45
        go_wp2_with fail
        refine Calls.mono HCP.out ?_
        rintro e w6 ⟨⟨y0, y1, y2, y3, y4, rfl, hm6⟩, hb6⟩
        have hB6 := hB5.trans (hb6.mono hB5.size)
        obtain ⟨yal, ycl, yaf, ycf, rfl, rfl, rfl, rfl, rfl⟩ := V.Mem.form (hm6 w6 hB6 (fun _ _ => rfl))
        have hR6 := (hb6.block w.heap.size (by omega)).trans hR5
        have HM6 := hide hm6
        clear hm6 v0 v1 v2 v3 v4
        rw [show (V.recOf l).kind = 5 from rfl, show (V.recOf l).n = 0 from rfl, show (V.recOf l).s = ⟨#[]⟩ from rfl]
        have z0 := cell_of_block hR6 0 _ rfl
        have f0 := free_of_block hR6 0
        have z1 := cell_of_block hR6 1 _ rfl
        have f1 := free_of_block hR6 1
        have z2 := cell_of_block hR6 2 _ rfl
        have f2 := free_of_block hR6 2
        have z3 := cell_of_block hR6 3 _ rfl
        have f3 := free_of_block hR6 3
        have z4 := cell_of_block hR6 4 _ rfl
        have f4 := free_of_block hR6 4
        go_wp2_with fail
        have hB2 := set5 hR6 (.int .i64 5) (.int .i64 0) (.string ⟨#[]⟩) (.slice yal (V.recOf l).l.length ycl) (.slice yaf (V.recOf l).f.length ycf)
        have hw2 := below5 hB6 (Nat.le_refl w.heap.size) (.int .i64 5) (.int .i64 0) (.string ⟨#[]⟩) (.slice yal (V.recOf l).l.length ycl) (.slice yaf (V.recOf l).f.length ycf)
        have hot2 : ∀ c, c ≠ w.heap.size → (((((w6.setCell ⟨w.heap.size, 0, none⟩ (.int .i64 5)).setCell ⟨w.heap.size, 1, none⟩ (.int .i64 0)).setCell ⟨w.heap.size, 2, none⟩ (.string ⟨#[]⟩)).setCell ⟨w.heap.size, 3, none⟩ (.slice yal (V.recOf l).l.length ycl)).setCell ⟨w.heap.size, 4, none⟩ (.slice yaf (V.recOf l).f.length ycf)).heap[c]? = w6.heap[c]? := fun c hc => by
          rw [heap_setCell_other _ _ c _ hc, heap_setCell_other _ _ c _ hc, heap_setCell_other _ _ c _ hc, heap_setCell_other _ _ c _ hc, heap_setCell_other _ _ c _ hc]
        generalize (((((w6.setCell ⟨w.heap.size, 0, none⟩ (.int .i64 5)).setCell ⟨w.heap.size, 1, none⟩ (.int .i64 0)).setCell ⟨w.heap.size, 2, none⟩ (.string ⟨#[]⟩)).setCell ⟨w.heap.size, 3, none⟩ (.slice yal (V.recOf l).l.length ycl)).setCell ⟨w.heap.size, 4, none⟩ (.slice yaf (V.recOf l).f.length ycf)) = w9 at *
        have r0 := cell_of_block hB2 0 _ rfl
        have r1 := cell_of_block hB2 1 _ rfl
        have r2 := cell_of_block hB2 2 _ rfl
        have r3 := cell_of_block hB2 3 _ rfl
        have r4 := cell_of_block hB2 4 _ rfl
        refine bodyPost_ret (v := .tuple #[.agg #[.int .i64 5, .int .i64 0, .string ⟨#[]⟩, .slice yal (V.recOf l).l.length ycl, .slice yaf (V.recOf l).f.length ycf], .nilIface]) (by simp [results, Tryd.results25, go_sem, r0, r1, r2, r3, r4]) rfl ⟨⟨_, _, _, _, _, by rw [HFF.out]; rfl, ?_⟩, hw2⟩
        rw [V.recV, if_pos HFF.out]
        exact HM6.out w9 hw2 (fun c hc => hot2 c (by omega))
      · have hE : V.errOf f = .iface 23 (.int .i64 f) := by rw [V.errOf, if_neg h0]
        have HEE := hide hE
        rw [hE]
        clear hE
        have z0 := cell_of_block hR5 0 _ rfl
        have f0 := free_of_block hR5 0
        have z1 := cell_of_block hR5 1 _ rfl
        have f1 := free_of_block hR5 1
        have z2 := cell_of_block hR5 2 _ rfl
        have f2 := free_of_block hR5 2
        have z3 := cell_of_block hR5 3 _ rfl
        have f3 := free_of_block hR5 3
        have z4 := cell_of_block hR5 4 _ rfl
        have f4 := free_of_block hR5 4
        go_wp2_with fail
        have hB2 := set5 hR5 (.int .i64 0) (.int .i64 0) (.string ⟨#[]⟩) (.slice none 0 0) (.slice none 0 0)
        have hw2 := below5 hB5 (Nat.le_refl w.heap.size) (.int .i64 0) (.int .i64 0) (.string ⟨#[]⟩) (.slice none 0 0) (.slice none 0 0)
        generalize (((((w5.setCell ⟨w.heap.size, 0, none⟩ (.int .i64 0)).setCell ⟨w.heap.size, 1, none⟩ (.int .i64 0)).setCell ⟨w.heap.size, 2, none⟩ (.string ⟨#[]⟩)).setCell ⟨w.heap.size, 3, none⟩ (.slice none 0 0)).setCell ⟨w.heap.size, 4, none⟩ (.slice none 0 0)) = w9 at *
        have r0 := cell_of_block hB2 0 _ rfl
        have r1 := cell_of_block hB2 1 _ rfl
        have r2 := cell_of_block hB2 2 _ rfl
        have r3 := cell_of_block hB2 3 _ rfl
        have r4 := cell_of_block hB2 4 _ rfl
        refine bodyPost_ret (v := .tuple #[.agg #[.int .i64 0, .int .i64 0, .string ⟨#[]⟩, .slice none 0 0, .slice none 0 0], .iface 23 (.int .i64 f)]) (by simp [results, Tryd.results25, go_sem, r0, r1, r2, r3, r4]) rfl ⟨⟨_, _, _, _, _, by rw [HFF.out, HEE.out], ?_⟩, hw2⟩
        rw [V.recV, if_neg (by rw [HFF.out]; exact h0)]
        exact V.Mem.zero m w9
end Go.Proofs.YtpoebpknjjfddaaDoor
