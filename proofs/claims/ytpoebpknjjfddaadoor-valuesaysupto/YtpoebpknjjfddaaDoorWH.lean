/- The document's own Record: two of one name. -/
import Derived.Test.YtpoebpknjjfddaaDoorWG
namespace Go.Proofs.YtpoebpknjjfddaaDoor
open Go.RowKit
namespace V
/-- 'append' to a slice that is nil, wherever it was read. -/
theorem wpList_copy2 {P : Program} (w : World) {ops : Array Oper} {rest : List Oper} {o : Oper} {a : Act} {Q : Exit → Act → World → Prop} (hgd : o.guard = none) (s x : Operand) (t : TypeId)
    (ho : o.op = .call { callee := .builtin .append, args := #[s, x], argTypes := #[t, t] })
    (e : TypeId) (i : TypeInfo) (z : Value) (size bytes : Nat) (ht : P.underlying t = some (.slice e)) (hi : P.info? e = some i) (hz : i.zero = some z) (hsize : i.size = size) (hby : i.bytes = bytes) (hzs : z.cells.size = size) (hsz : 0 < size)
    (ao : Option Addr) (n c : Nat) (hs : a.eval s = .slice none 0 0) (hx : a.eval x = .slice ao n c) (hsrc : Source w size ao n) (h63 : n ≤ maxLen) (hbytes : n * bytes ≤ 140737488355328)
    (h : ∀ ao' cap' w', Copied w w' e size ao n ao' → wpList P ops Q rest (a.put o.dst (.slice ao' n cap')) w') : wpList P ops Q (o :: rest) a w := by
  obtain ⟨ao', cap', w', hr, hC⟩ := run_copy (P := P) w t o.type e i z size bytes ht hi hz hsize hby hzs hsz ao n c hsrc h63 hbytes
  refine wpList_plain hgd fun K hK => ?_
  unfold Oper.wp execOp
  simp only [ho, resolve, invoke, builtin, Sem.run_bind, Sem.run_pure, Result.andThen_ok, List.map_toArray, List.map_cons, List.map_nil, hs, hx, hr]
  exact hK _ _ (h ao' cap' w' hC)
theorem dupB_not (l : List (ByteArray × Val)) (h : ∀ j i, j < l.length → i < j → nmAt l i ≠ nmAt l j) : dupB l = false := by
  rw [← Bool.not_eq_true, dupB_iff]
  rintro ⟨i, j, hij, hj, e⟩
  exact h j i hj hij e
/-- While the fields of a record are put in order: its cell, and the block of fields. -/
def SortSt (w : World) (l : List (ByteArray × Val)) (C : List (List Value)) (G : Nat) (ao1 : Option Addr) (cap1 : Nat) (wx : World) (d : Array Nat) : Prop :=
  Below w.heap.size w wx ∧ wx.heap[w.heap.size]? = some (.cells #[.int .i64 0, .int .i64 0, .string ⟨#[]⟩, .slice none 0 0, .slice none 0 0] 34 (0, 0)) ∧ wx.heap[G]? = some (.cells #[.int .i64 5, .int .i64 0, .string ⟨#[]⟩, .slice none 0 0, .slice ao1 l.length cap1] 34 (0, 0)) ∧ d.size = l.length ∧ (l.length = 0 ∨ ∃ h, ao1 = some ⟨h, 0, none⟩ ∧ w.heap.size + 1 < h ∧ h ≠ G ∧ Kind wx h 37 ∧ HasC wx h C d)
theorem sort_start {w wA w2 : World} {m G cl cap1 : Nat} {l : List (ByteArray × Val)} {al ao1 : Option Addr} (hf : Row w (.slice al l.length cl) l.length 6 (fun i c => ∃ x c', l[i]? = some x ∧ c = .string x.1 :: c' ∧ Mem m w x.2 c'))
    (hbA : Below w.heap.size w wA) (hC : Copied wA w2 37 6 al l.length ao1) (hG : G < wA.heap.size) (hGw : G = w.heap.size + 1) (hR : wA.heap[w.heap.size]? = some (.cells #[.int .i64 0, .int .i64 0, .string ⟨#[]⟩, .slice none 0 0, .slice none 0 0] 34 (0, 0))) (hN : wA.heap[G]? = some (.cells #[.int .i64 5, .int .i64 0, .string ⟨#[]⟩, .slice none 0 0, .slice none 0 0] 34 (0, 0))) :
    ∃ C, Six l C ∧ (∀ i, i < l.length → ∃ c', encAt C i = .string (fieldAt l i).1 :: c' ∧ Mem m w (fieldAt l i).2 c') ∧ SortSt w l C G ao1 cap1 (w2.setCell ⟨G, 4, none⟩ (.slice ao1 l.length cap1)) (Array.range l.length) := by
  obtain ⟨hb2, hC⟩ := hC
  have hB2 := hbA.trans (hb2.mono hbA.size)
  have hN2 := (hb2.block G hG).trans hN
  have h1 : Below w.heap.size w (w2.setCell ⟨G, 4, none⟩ (.slice ao1 l.length cap1)) := hB2.setCell (p := ⟨G, 4, none⟩) (by show w.heap.size ≤ G; omega) _
  have h2 : (w2.setCell ⟨G, 4, none⟩ (.slice ao1 l.length cap1)).heap[w.heap.size]? = some (.cells #[.int .i64 0, .int .i64 0, .string ⟨#[]⟩, .slice none 0 0, .slice none 0 0] 34 (0, 0)) := by
    rw [heap_setCell_other w2 _ _ _ (by show w.heap.size ≠ G; omega)]
    exact (hb2.block w.heap.size (by omega)).trans hR
  have h3 : (w2.setCell ⟨G, 4, none⟩ (.slice ao1 l.length cap1)).heap[G]? = some (.cells #[.int .i64 5, .int .i64 0, .string ⟨#[]⟩, .slice none 0 0, .slice ao1 l.length cap1] 34 (0, 0)) := block_set (i := 4) hN2 _
  have hsz : (Array.range l.length).size = l.length := by simp
  rcases Nat.eq_zero_or_pos l.length with h0 | hpos
  · refine ⟨[], ?_, fun i hi => by omega, h1, h2, h3, hsz, .inl h0⟩
    have hl : l = [] := List.length_eq_zero_iff.1 h0
    subst hl
    intro i
    exact ⟨_, _, _, _, _, _, _, _, _, rfl⟩
  · rcases hC with h | ⟨h, p, off, rfl, rfl, hh, ⟨cs, hk⟩, hc⟩
    · omega
    · obtain ⟨hcells, hspec⟩ := cells_spec hf
      have hhG : h ≠ G := by omega
      have hkh : (w2.setCell ⟨G, 4, none⟩ (.slice (some ⟨h, 0, none⟩) l.length cap1)).heap[h]? = w2.heap[h]? := heap_setCell_other w2 _ _ _ hhG
      refine ⟨_, cells_six hf, fun i hi => (hspec i hi).2, h1, h2, h3, hsz, .inr ⟨h, rfl, by omega, hhG, ⟨cs, hkh.trans hk⟩, hasC_kept ?_ hkh⟩⟩
      intro i hi j hj
      rw [hsz] at hi
      obtain ⟨u, hu1, hu2⟩ := hc (i * 6 + j) (by omega)
      have he : (Array.range l.length)[i]! = i := by rw [getElem!_pos _ i (by omega)]; simp
      rw [hu2, he, ← (hspec i hi).1 j hj]
      have hx : ∃ u', w.cell? ⟨p, off + i * 6 + j, none⟩ = some u' := by
        rw [(hspec i hi).1 j hj]
        obtain ⟨_, _, _, _, _, e, _⟩ := hcells i
        rw [e]; exact ⟨_, List.getElem?_eq_getElem (by simpa using hj)⟩
      obtain ⟨u', hu'⟩ := hx
      have := kept_cell hbA hu'
      rw [show off + i * 6 + j = off + (i * 6 + j) by omega, hu1] at this
      rw [hu', ← this]
theorem sortSt_set {w W5 : World} {l : List (ByteArray × Val)} {C : List (List Value)} {G h cap1 k' : Nat} {d' : Array Nat} (h6 : Six l C) (hB : Below w.heap.size w W5) (hR : W5.heap[w.heap.size]? = some (.cells #[.int .i64 0, .int .i64 0, .string ⟨#[]⟩, .slice none 0 0, .slice none 0 0] 34 (0, 0)))
    (hG : W5.heap[G]? = some (.cells #[.int .i64 5, .int .i64 0, .string ⟨#[]⟩, .slice none 0 0, .slice (some ⟨h, 0, none⟩) l.length cap1] 34 (0, 0))) (hds : d'.size = l.length) (hhw : w.heap.size + 1 < h) (hhG : h ≠ G) (hK : Kind W5 h 37) (hH : HasC W5 h C (d'.setIfInBounds (k' + 1) d'[k']!)) (hk : k' + 1 < l.length) (hGw : w.heap.size ≠ h) :
    SortSt w l C G (some ⟨h, 0, none⟩) cap1 (W5.setCells h (k' * 6) (encAt C d'[k' + 1]!)) (Sort.swp d' (k' + 1) k') := by
  refine ⟨below_setCells (by omega) _ _ _ hB, (heap_setCells_other h _ hGw _ _ _).trans hR, (heap_setCells_other h _ (Ne.symm hhG) _ _ _).trans hG, by unfold Sort.swp; simp [hds], .inr ⟨h, rfl, hhw, hhG, kind_setCells h 37 _ _ _ _ hK, ?_⟩⟩
  unfold Sort.swp
  exact hasC_set h6 hH k' _ (by rw [Array.size_setIfInBounds]; omega)
end V
theorem heap_drew (w : World) : w.drew.heap = w.heap := rfl
theorem below_as {B : Nat} {a w w' : World} (h : Below B a w) (e : w' = w.drew) : Below B a w' := by rw [e]; exact below_drewN h 1
set_option maxRecDepth 100000 in
set_option maxHeartbeats 12800000 in
theorem record_any (m : Nat) (w : World) (fv : Value) (l : List (ByteArray × Val)) (hf : V.Row w fv l.length 6 (fun i c => ∃ x c', l[i]? = some x ∧ c = .string x.1 :: c' ∧ V.Mem m w x.2 c')) (h12 : l.length ≤ 12) (hbk : V.bulk (m + 1) (V.recOf l) ≤ 2000000) :
    Calls Tryd.prog 26 #[fv] w fun e w' => (∃ e0 e1 e2 e3 e4, e = .returned (.tuple #[.agg #[e0, e1, e2, e3, e4], .int .i64 (V.recF m l)]) ∧ V.Mem (m + 1) w' (V.recV m l) [e0, e1, e2, e3, e4]) ∧ Below w.heap.size w w' := by
  obtain ⟨i2, hi2, hx0, hx1, hx2⟩ := info_parts info37
  obtain ⟨al, cl, rfl⟩ := hf.shape
  have hbL : Below w.heap.size w (w.alloc (.cells #[.int .i64 0, .int .i64 0, .string ⟨#[]⟩, .slice none 0 0, .slice none 0 0] 34)) := (Below.refl _ _).alloc (Nat.le_refl _) _
  have hR0 : (w.alloc (.cells #[.int .i64 0, .int .i64 0, .string ⟨#[]⟩, .slice none 0 0, .slice none 0 0] 34)).heap[w.heap.size]? = some (.cells #[.int .i64 0, .int .i64 0, .string ⟨#[]⟩, .slice none 0 0, .slice none 0 0] 34 (0, 0)) := heap_alloc_new _ _
  have HF := hide hf
  clear hf
  go_enter Tryd.func26, Tryd.ntmps26
  go_wp2_with fail
  have hw1 : w.heap.size + 1 = (w.alloc (.cells #[.int .i64 0, .int .i64 0, .string ⟨#[]⟩, .slice none 0 0, .slice none 0 0] 34)).heap.size := by simp
  generalize w.alloc (.cells #[.int .i64 0, .int .i64 0, .string ⟨#[]⟩, .slice none 0 0, .slice none 0 0] 34) = w1 at *
  go_loopw [4, 5] (fun vi _ wr => ∃ i : Nat, i ≤ l.length ∧ vi = .int .i64 i ∧ (∀ j k, j < i → k < j → V.nmAt l k ≠ V.nmAt l j) ∧ ∃ n, wr = w1.drewN n) (fun vi _ _ => l.length - (intOf vi).toNat)
  case atStart => exact ⟨0, Nat.zero_le _, rfl, fun j k hj => absurd hj (by omega), 0, rfl⟩
  case round =>
    obtain ⟨i, hi, rfl, hok, n0, hW⟩ := hrel
    have HOK := hide hok
    have HW := hide hW
    clear hok hW
    by_cases hlt : i < l.length
    · go_wp2_with fail
      go_loopw [5] (fun vk wx => ∃ k : Nat, k ≤ i ∧ vk = .int .i64 k ∧ (∀ k', k' < k → V.nmAt l k' ≠ V.nmAt l i) ∧ ∃ n, wx = w1.drewN n) (fun vk _ => i - (intOf vk).toNat)
      case atStart => exact ⟨0, Nat.zero_le _, rfl, fun k hk => absurd hk (by omega), n0, HW.out⟩
      case round =>
        obtain ⟨k, hk, rfl, hok2, n1, hW2⟩ := hrel
        have HOK2 := hide hok2
        have HW2 := hide hW2
        have hcw : ∀ p, wr.cell? p = w1.cell? p := fun p => by rw [hW2]; rfl
        have HCW := hide hcw
        have hRr : wr.heap[w.heap.size]? = some (.cells #[.int .i64 0, .int .i64 0, .string ⟨#[]⟩, .slice none 0 0, .slice none 0 0] 34 (0, 0)) := by rw [hW2]; exact hR0
        have hbr : Below w.heap.size w wr := by rw [hW2]; exact below_drewN hbL _
        clear hok2 hW2 hcw
        by_cases hlk : k < i
        · obtain ⟨p, off, cp, x, _, _, _, _, _, e1, hx, _, yn, _⟩ := V.elemF HF.out i hlt
          obtain ⟨p', off', cp', y, _, _, _, _, _, e2, hy, _, zn, _⟩ := V.elemF HF.out k (by omega)
          simp only [Value.slice.injEq] at e1
          obtain ⟨rfl, _, rfl⟩ := e1
          simp only [Value.slice.injEq, Option.some.injEq, Addr.mk.injEq] at e2
          obtain ⟨⟨rfl, rfl, _⟩, _, rfl⟩ := e2
          rw [V.fieldAt_get l i hlt] at hx
          rw [V.fieldAt_get l k (by omega)] at hy
          cases hx; cases hy
          replace yn := kept_cell hbL yn
          replace zn := kept_cell hbL zn
          rw [← HCW.out] at yn zn
          have hlk2 : k < l.length := by omega
          cases he : ((V.fieldAt l k).1.toList == (V.fieldAt l i).1.toList)
          · have HE : Hid (V.nmAt l k ≠ V.nmAt l i) := fun h => by
              rw [beq_eq_false_iff_ne, V.toList_bl, V.toList_bl] at he
              exact he h
            generalize (V.fieldAt l i).1 = na at *
            generalize (V.fieldAt l k).1 = nb at *
            clear hRr hbr
            go_wp2_with fail
            go_quiet (fail)
            go_wp2_with fail
            go_roundw
            case rel =>
              refine ⟨k + 1, by omega, by go_num, fun k' hk' => ?_, by rw [HW2.out]; exact drewN_some _ _ _⟩
              rcases Nat.lt_or_ge k' k with h | h
              · exact HOK2.out k' h
              · rw [show k' = k by omega]; exact HE.out
            case measure => simp [intOf]; omega
          · have E : Hid (V.recF m l = 6) := by
              show _ = _
              have hd : V.dupB l = true := (V.dupB_iff l).2 ⟨k, i, hlk, hlt, by
                rw [beq_iff_eq, V.toList_bl, V.toList_bl] at he; exact he⟩
              rw [V.recF, hd]; rfl
            generalize (V.fieldAt l i).1 = na at *
            generalize (V.fieldAt l k).1 = nb at *
            have z0 := cell_of_block hRr 0 _ rfl
            have z1 := cell_of_block hRr 1 _ rfl
            have z2 := cell_of_block hRr 2 _ rfl
            have z3 := cell_of_block hRr 3 _ rfl
            have z4 := cell_of_block hRr 4 _ rfl
            have f0 := free_of_block hRr 0
            have f1 := free_of_block hRr 1
            have f2 := free_of_block hRr 2
            have f3 := free_of_block hRr 3
            have f4 := free_of_block hRr 4
            go_wp2_with fail
            go_quiet (fail)
            go_wp2_with fail
            have hRq : (wr.drewN nq).heap[w.heap.size]? = some (.cells #[.int .i64 0, .int .i64 0, .string ⟨#[]⟩, .slice none 0 0, .slice none 0 0] 34 (0, 0)) := hRr
            have hB2 := set5 hRq (.int .i64 0) (.int .i64 0) (.string ⟨#[]⟩) (.slice none 0 0) (.slice none 0 0)
            have hw2 := below5 (below_drewN hbr nq) (Nat.le_refl w.heap.size) (.int .i64 0) (.int .i64 0) (.string ⟨#[]⟩) (.slice none 0 0) (.slice none 0 0)
            generalize (((((wr.drewN nq).setCell ⟨w.heap.size, 0, none⟩ (.int .i64 0)).setCell ⟨w.heap.size, 1, none⟩ (.int .i64 0)).setCell ⟨w.heap.size, 2, none⟩ (.string ⟨#[]⟩)).setCell ⟨w.heap.size, 3, none⟩ (.slice none 0 0)).setCell ⟨w.heap.size, 4, none⟩ (.slice none 0 0) = w9 at *
            have r0 := cell_of_block hB2 0 _ rfl
            have r1 := cell_of_block hB2 1 _ rfl
            have r2 := cell_of_block hB2 2 _ rfl
            have r3 := cell_of_block hB2 3 _ rfl
            have r4 := cell_of_block hB2 4 _ rfl
            refine bodyPost_ret (v := .tuple #[.agg #[.int .i64 0, .int .i64 0, .string ⟨#[]⟩, .slice none 0 0, .slice none 0 0], .int .i64 6]) (by simp [results, Tryd.results26, go_sem, r0, r1, r2, r3, r4]) rfl ⟨⟨_, _, _, _, _, by rw [E.out]; rfl, ?_⟩, hw2⟩
            rw [V.recV, if_neg (by rw [E.out]; decide)]
            exact V.Mem.zero m w9
        · clear hRr hbr
          go_wp2_with fail
          go_roundw
          case rel =>
            refine ⟨i + 1, by omega, by go_num, fun j k2 hj hk2 => ?_, n1, HW2.out⟩
            rcases Nat.lt_or_ge j i with h | h
            · exact HOK.out j k2 h hk2
            · have e : j = i := by omega
              subst e
              exact HOK2.out k2 (by omega)
          case measure => simp [intOf]; omega
    · have hnd : V.dupB l = false := V.dupB_not l (fun j k hj hk => HOK.out j k (by omega) hk)
      have HND := hide hnd
      clear hnd HOK
      have hszr : wr.heap.size = w.heap.size + 1 := by rw [HW.out]; exact hw1.symm
      have hRr : wr.heap[w.heap.size]? = some (.cells #[.int .i64 0, .int .i64 0, .string ⟨#[]⟩, .slice none 0 0, .slice none 0 0] 34 (0, 0)) := by rw [HW.out]; exact hR0
      have hbr : Below w.heap.size w wr := by rw [HW.out]; exact below_drewN hbL _
      have hbA : Below wr.heap.size wr (wr.alloc (.cells #[.int .i64 5, .int .i64 0, .string ⟨#[]⟩, .slice none 0 0, .slice none 0 0] 34)) := (Below.refl _ _).alloc (Nat.le_refl _) _
      have hbA0 := hbr.trans (hbA.mono hbr.size)
      have HS := hide (V.srcF (w0 := w) (Bs := 0) (S := 0) (m := m) (cap := cl) hbA0 (.inl HF.out))
      have hG0 : (wr.alloc (.cells #[.int .i64 5, .int .i64 0, .string ⟨#[]⟩, .slice none 0 0, .slice none 0 0] 34)).heap[wr.heap.size]? = some (.cells #[.int .i64 5, .int .i64 0, .string ⟨#[]⟩, .slice none 0 0, .slice none 0 0] 34 (0, 0)) := heap_alloc_new _ _
      have HG0 := hide hG0
      have hltG : wr.heap.size < (wr.alloc (.cells #[.int .i64 5, .int .i64 0, .string ⟨#[]⟩, .slice none 0 0, .slice none 0 0] 34)).heap.size := by simp
      have HSZ := hide hszr
      clear hG0 hszr
      go_wp2_with (at_builtin; go_must (refine V.wpList_copy2 _ rfl (.tmp 36) (.tmp 37) 32 rfl 37 i2 (.agg #[.string ⟨#[]⟩, .int .i64 0, .int .i64 0, .string ⟨#[]⟩, .slice none 0 0, .slice none 0 0]) 6 96 Tryd.underlying32 hi2 hx0 hx1 hx2 rfl (by decide) al l.length cl rfl rfl HS.out (by unfold maxLen; omega) (by omega) ?_); intro ao1 cap1 w2 hC; have hG2 := (hC.1.block wr.heap.size hltG).trans HG0.out; have g4 := cell_of_block hG2 4 _ rfl; have q4 := free_of_block hG2 4; have HC := hide hC; clear hC)
      obtain ⟨C, hsix, hspec, hst0⟩ := V.sort_start (cap1 := cap1) HF.out hbA0 HC.out hltG HSZ.out ((hbA.block w.heap.size (by rw [HSZ.out]; omega)).trans hRr) HG0.out
      have HSX := hide hsix
      have HSP := hide hspec
      clear hsix hspec HC HS HG0 hltG hbA hbA0 hbr hRr hG2 g4 q4
      generalize w2.setCell ⟨wr.heap.size, 4, none⟩ (.slice ao1 l.length cap1) = W3 at *
      have hGG := HSZ.out
      generalize wr.heap.size = G at *
      have HGG := hide hGG
      clear hGG HSZ
      go_loopw [7, 8, 9] (fun vi _ _ wx => ∃ (i : Nat) (d : Array Nat), 1 ≤ i ∧ (i ≤ l.length ∨ l.length = 0 ∧ i = 1) ∧ vi = .int .i64 i ∧ V.SortSt w l C G ao1 cap1 wx d ∧ Sort.insOuter (V.ltAt l) 0 l.length i d = V.ord l) (fun vi _ _ _ => l.length + 1 - (intOf vi).toNat)
      case atStart => exact ⟨1, _, Nat.le_refl _, by omega, rfl, hst0, rfl⟩
      case round =>
        clear hst0
        obtain ⟨i, d, hi1, hi, rfl, hst, hins⟩ := hrel
        have b4 := cell_of_block hst.2.2.1 4 _ rfl
        by_cases hlt : i < l.length
        · have HINS : Hid (Sort.insOuter (V.ltAt l) 0 l.length (i + 1) (Sort.insInner (V.ltAt l) 0 i d) = V.ord l) := by show _ = _; rw [← hins, insOuter_go _ _ _ _ _ hlt]
          generalize hD : Sort.insInner (V.ltAt l) 0 i d = D at *
          have HD := hide hD
          clear hins hD
          go_wp2_with fail
          go_loopw [8, 9] (fun vk _ wx => ∃ (k : Nat) (d' : Array Nat), k ≤ i ∧ vk = .int .i64 k ∧ V.SortSt w l C G ao1 cap1 wx d' ∧ Sort.insInner (V.ltAt l) 0 k d' = D) (fun vk _ _ => (intOf vk).toNat)
          case atStart => exact ⟨i, d, Nat.le_refl _, rfl, hst, HD.out⟩
          case round =>
            clear hst b4
            obtain ⟨k, d', hk, rfl, hst, hin⟩ := hrel
            have b4 := cell_of_block hst.2.2.1 4 _ rfl
            have hds := hst.2.2.2.1
            obtain ⟨h, hao, hhw, hhG, hkd, hH⟩ : ∃ h, ao1 = some ⟨h, 0, none⟩ ∧ w.heap.size + 1 < h ∧ h ≠ G ∧ V.Kind wr h 37 ∧ V.HasC wr h C d' := by
              rcases hst.2.2.2.2 with h0 | hh
              · omega
              · exact hh
            subst hao
            rcases Nat.eq_zero_or_pos k with hk0 | hkp
            · subst hk0
              have HDD : Hid (d' = D) := by show _ = _; rw [← hin, insInner_stop]; exact .inl (Nat.le_refl _)
              have HST := hide hst
              clear hin hH hst
              go_wp2_with fail
              go_quiet (fail)
              go_wp2_with fail
              go_roundw
              case rel =>
                refine ⟨i + 1, d', by omega, by omega, by go_num, ?_, by rw [HDD.out]; exact HINS.out⟩
                obtain ⟨q1, q2, q3, q4, q5⟩ := HST.out
                exact ⟨below_drewN q1 _, q2, q3, q4, q5⟩
              case measure => simp [intOf]; omega
            · obtain ⟨k', rfl⟩ : ∃ k', k = k' + 1 := ⟨k - 1, by omega⟩
              obtain ⟨xk, xn, xs, xa, xal, xc, xf, xfl, xe, ex⟩ := HSX.out d'[k' + 1]!
              obtain ⟨yk, yn, ys, ya, yal, yc, yf, yfl, ye, ey⟩ := HSX.out d'[k']!
              have p0 := hH (k' + 1) (by omega) 0 (by omega)
              have q0 := hH k' (by omega) 0 (by omega)
              rw [ex] at p0
              rw [ey] at q0
              replace p0 : wr.cell? ⟨h, (k' + 1) * 6, none⟩ = some (.string (V.fieldAt l d'[k' + 1]!).1) := p0
              replace q0 : wr.cell? ⟨h, k' * 6, none⟩ = some (.string (V.fieldAt l d'[k']!).1) := q0
              have hkl : k' + 1 < l.length := by omega
              cases hls : Op.bytesLess (V.bl (V.fieldAt l d'[k' + 1]!).1) (V.bl (V.fieldAt l d'[k']!).1)
              · have HDD : Hid (d' = D) := by show _ = _; rw [← hin, insInner_stop]; exact .inr hls
                have HST := hide hst
                rw [← V.toList_bl, ← V.toList_bl] at hls
                generalize (V.fieldAt l d'[k' + 1]!).1 = na at *
                generalize (V.fieldAt l d'[k']!).1 = nb at *
                clear hin hH hst
                go_wp2_with fail
                go_quiet (fail)
                go_wp2_with fail
                go_roundw
                case rel =>
                  refine ⟨i + 1, d', by omega, by omega, by go_num, ?_, by rw [HDD.out]; exact HINS.out⟩
                  obtain ⟨q1, q2, q3, q4, q5⟩ := HST.out
                  exact ⟨below_drewN q1 _, q2, q3, q4, q5⟩
                case measure => simp [intOf]; omega
              · have HIN : Hid (Sort.insInner (V.ltAt l) 0 k' (Sort.swp d' (k' + 1) k') = D) := by show _ = _; rw [← hin, insInner_go (lt := V.ltAt l) 0 (k' + 1) d' (by omega) hls]; rfl
                have p1 := hH (k' + 1) (by omega) 1 (by omega)
                rw [ex] at p1
                replace p1 : wr.cell? ⟨h, (k' + 1) * 6 + 1, none⟩ = some (.int .i64 xk) := p1
                have q1 := hH k' (by omega) 1 (by omega)
                rw [ey] at q1
                replace q1 : wr.cell? ⟨h, k' * 6 + 1, none⟩ = some (.int .i64 yk) := q1
                have p2 := hH (k' + 1) (by omega) 2 (by omega)
                rw [ex] at p2
                replace p2 : wr.cell? ⟨h, (k' + 1) * 6 + 2, none⟩ = some (.int .i64 xn) := p2
                have q2 := hH k' (by omega) 2 (by omega)
                rw [ey] at q2
                replace q2 : wr.cell? ⟨h, k' * 6 + 2, none⟩ = some (.int .i64 yn) := q2
                have p3 := hH (k' + 1) (by omega) 3 (by omega)
                rw [ex] at p3
                replace p3 : wr.cell? ⟨h, (k' + 1) * 6 + 3, none⟩ = some (.string xs) := p3
                have q3 := hH k' (by omega) 3 (by omega)
                rw [ey] at q3
                replace q3 : wr.cell? ⟨h, k' * 6 + 3, none⟩ = some (.string ys) := q3
                have p4 := hH (k' + 1) (by omega) 4 (by omega)
                rw [ex] at p4
                replace p4 : wr.cell? ⟨h, (k' + 1) * 6 + 4, none⟩ = some (.slice xa xal xc) := p4
                have q4 := hH k' (by omega) 4 (by omega)
                rw [ey] at q4
                replace q4 : wr.cell? ⟨h, k' * 6 + 4, none⟩ = some (.slice ya yal yc) := q4
                have p5 := hH (k' + 1) (by omega) 5 (by omega)
                rw [ex] at p5
                replace p5 : wr.cell? ⟨h, (k' + 1) * 6 + 5, none⟩ = some (.slice xf xfl xe) := p5
                have q5 := hH k' (by omega) 5 (by omega)
                rw [ey] at q5
                replace q5 : wr.cell? ⟨h, k' * 6 + 5, none⟩ = some (.slice yf yfl ye) := q5
                have HST := hide hst
                have HH := hide hH
                have HEX := hide ex
                have HEY := hide ey
                have HKD := hide hkd
                rw [← V.toList_bl, ← V.toList_bl] at hls
                generalize hna : (V.fieldAt l d'[k' + 1]!).1 = na at *
                generalize hnb : (V.fieldAt l d'[k']!).1 = nb at *
                clear hin hH hst ex ey hkd hna hnb
                go_wp2_with fail
                go_quiet (fail)
                have hcq : ∀ p, (wr.drewN nq).cell? p = wr.cell? p := fun _ => rfl
                rw [← hcq] at b4 p0 q0 p1 q1 p2 q2 p3 q3 p4 q4 p5 q5
                have HST2 : Hid (V.SortSt w l C G (some ⟨h, 0, none⟩) cap1 (wr.drewN nq) d') := by
                  obtain ⟨q1, q2, q3, q4, q5⟩ := HST.out
                  exact ⟨below_drewN q1 _, q2, q3, q4, q5⟩
                have HH2 : Hid (V.HasC (wr.drewN nq) h C d') := HH.out
                have HKD2 : Hid (V.Kind (wr.drewN nq) h 37) := HKD.out
                clear HST HH HKD hcq
                generalize wr.drewN nq = wq at *
                go_wp2_with fail
                have hbX : Below wq.heap.size wq (wq.alloc (.cells #[.string na, .int .i64 xk, .int .i64 xn, .string xs, .slice xa xal xc, .slice xf xfl xe] 37)) := (Below.refl _ _).alloc (Nat.le_refl _) _
                have hX0 : (wq.alloc (.cells #[.string na, .int .i64 xk, .int .i64 xn, .string xs, .slice xa xal xc, .slice xf xfl xe] 37)).heap[wq.heap.size]? = some (.cells #[.string na, .int .i64 xk, .int .i64 xn, .string xs, .slice xa xal xc, .slice xf xfl xe] 37 (0, 0)) := heap_alloc_new _ _
                have hgx : h < wq.heap.size := World.block_lt_of_cell? wq _ p0
                generalize wq.alloc (.cells #[.string na, .int .i64 xk, .int .i64 xn, .string xs, .slice xa xal xc, .slice xf xfl xe] 37) = wX at *
                have HBX := hide hbX
                replace b4 := kept_cell hbX b4
                replace p0 := kept_cell hbX p0
                replace q0 := kept_cell hbX q0
                replace p1 := kept_cell hbX p1
                replace q1 := kept_cell hbX q1
                replace p2 := kept_cell hbX p2
                replace q2 := kept_cell hbX q2
                replace p3 := kept_cell hbX p3
                replace q3 := kept_cell hbX q3
                replace p4 := kept_cell hbX p4
                replace q4 := kept_cell hbX q4
                replace p5 := kept_cell hbX p5
                replace q5 := kept_cell hbX q5
                have HKX : Hid (V.Kind wX h 37) := by
                  obtain ⟨cs, hcs⟩ := HKD2.out
                  exact ⟨cs, (hbX.block h hgx).trans hcs⟩
                have hfr : ∀ j, wX.frozen? ⟨h, j, none⟩ = false := fun j => by
                  obtain ⟨cs, hcs⟩ := HKX.out
                  exact free_of_block hcs j
                have fr0 := hfr ((k' + 1) * 6)
                have fr1 := hfr ((k' + 1) * 6 + 1)
                have fr2 := hfr ((k' + 1) * 6 + 2)
                have fr3 := hfr ((k' + 1) * 6 + 3)
                have fr4 := hfr ((k' + 1) * 6 + 4)
                have fr5 := hfr ((k' + 1) * 6 + 5)
                clear hfr hbX
                have iw1 : IntKind.i64.wrap ((k' : Int) + 1 - 1) = k' := by rw [wrap_i64 _ (by omega) (by omega)]; omega
                have iw2 : IntKind.i64.wrap (((k' + 1 : Nat) : Int) - 1) = k' := by rw [wrap_i64 _ (by omega) (by omega)]; omega
                have iw3 : IntKind.i64.wrap (k' : Int) = k' := wrap_i64 _ (by omega) (by omega)
                have ib1 : (0 : Int) ≤ (k' : Int) := by omega
                have ib2 : (k' : Int) < (l.length : Int) := by omega
                have ib3 : (0 : Int) ≤ ((k' + 1 : Nat) : Int) := by omega
                have ib4 : ((k' + 1 : Nat) : Int) < (l.length : Int) := by omega
                have ib5 : (0 : Int) ≤ (k' : Int) + 1 := by omega
                have ib6 : (k' : Int) + 1 < (l.length : Int) := by omega
                go_region_with fail
                all_goals
                  have e5 : ((((((wX.setCell ⟨h, (k' + 1) * 6, none⟩ (.string nb)).setCell ⟨h, (k' + 1) * 6 + 1, none⟩ (.int .i64 yk)).setCell ⟨h, (k' + 1) * 6 + 2, none⟩ (.int .i64 yn)).setCell ⟨h, (k' + 1) * 6 + 3, none⟩ (.string ys)).setCell ⟨h, (k' + 1) * 6 + 4, none⟩ (.slice ya yal yc)).setCell ⟨h, (k' + 1) * 6 + 5, none⟩ (.slice yf yfl ye)).drew = (wX.setCells h ((k' + 1) * 6) [.string nb, .int .i64 yk, .int .i64 yn, .string ys, .slice ya yal yc, .slice yf yfl ye]).drew := rfl
                  generalize ((((((wX.setCell ⟨h, (k' + 1) * 6, none⟩ (.string nb)).setCell ⟨h, (k' + 1) * 6 + 1, none⟩ (.int .i64 yk)).setCell ⟨h, (k' + 1) * 6 + 2, none⟩ (.int .i64 yn)).setCell ⟨h, (k' + 1) * 6 + 3, none⟩ (.string ys)).setCell ⟨h, (k' + 1) * 6 + 4, none⟩ (.slice ya yal yc)).setCell ⟨h, (k' + 1) * 6 + 5, none⟩ (.slice yf yfl ye)).drew = W5 at *
                  have hHX : V.HasC wX h C d' := V.hasC_kept HH2.out (HBX.out.block h hgx)
                  have hds2 := HST2.out.2.2.2.1
                  have hset := V.hasC_set HSX.out hHX (k' + 1) d'[k']! (by omega)
                  rw [HEY.out] at hset
                  have hh5 : W5.heap = (wX.setCells h ((k' + 1) * 6) [.string nb, .int .i64 yk, .int .i64 yn, .string ys, .slice ya yal yc, .slice yf yfl ye]).heap := by rw [e5]; exact heap_drew _
                  have hH5 : V.HasC W5 h C (d'.setIfInBounds (k' + 1) d'[k']!) := V.hasC_kept hset (by rw [hh5])
                  have hK5 : V.Kind W5 h 37 := by
                    obtain ⟨cs, hcs⟩ := V.kind_setCells h 37 [.string nb, .int .i64 yk, .int .i64 yn, .string ys, .slice ya yal yc, .slice yf yfl ye] ((k' + 1) * 6) h wX HKX.out
                    exact ⟨cs, by rw [hh5]; exact hcs⟩
                  have ho5 : ∀ c, c ≠ h → W5.heap[c]? = wX.heap[c]? := fun c hc => by rw [hh5]; exact V.heap_setCells_other h c hc _ _ _
                  have hst := HST2.out
                  have hbX := HBX.out
                  have hB5 : Below w.heap.size w W5 := below_as (V.below_setCells (b := h) (by omega) [.string nb, .int .i64 yk, .int .i64 yn, .string ys, .slice ya yal yc, .slice yf yfl ye] ((k' + 1) * 6) wX (hst.1.trans (hbX.mono hst.1.size))) e5
                  have hG5 := (ho5 G (Ne.symm hhG)).trans ((hbX.block G (Array.getElem?_eq_some_iff.1 hst.2.2.1).1).trans hst.2.2.1)
                  have hR5 := (ho5 w.heap.size (by omega)).trans ((hbX.block w.heap.size (Array.getElem?_eq_some_iff.1 hst.2.1).1).trans hst.2.1)
                  have hX5 := (ho5 wq.heap.size (by omega)).trans hX0
                  have he5 : (d'.setIfInBounds (k' + 1) d'[k']!)[k']! = d'[k']! := Sort.getElem!_set_other d' (k' + 1) k' _ (by omega)
                  clear b4 p0 q0 fr0 p1 q1 fr1 p2 q2 fr2 p3 q3 fr3 p4 q4 fr4 p5 q5 fr5 hHX hset hst hbX
                  have b4 := cell_of_block hG5 4 _ rfl
                  have t0 := hH5 k' (by rw [Array.size_setIfInBounds]; omega) 0 (by omega)
                  rw [he5, HEY.out] at t0
                  replace t0 : W5.cell? ⟨h, k' * 6, none⟩ = some (.string nb) := t0
                  have x0 := cell_of_block hX5 0 _ rfl
                  have t1 := hH5 k' (by rw [Array.size_setIfInBounds]; omega) 1 (by omega)
                  rw [he5, HEY.out] at t1
                  replace t1 : W5.cell? ⟨h, k' * 6 + 1, none⟩ = some (.int .i64 yk) := t1
                  have x1 := cell_of_block hX5 1 _ rfl
                  have t2 := hH5 k' (by rw [Array.size_setIfInBounds]; omega) 2 (by omega)
                  rw [he5, HEY.out] at t2
                  replace t2 : W5.cell? ⟨h, k' * 6 + 2, none⟩ = some (.int .i64 yn) := t2
                  have x2 := cell_of_block hX5 2 _ rfl
                  have t3 := hH5 k' (by rw [Array.size_setIfInBounds]; omega) 3 (by omega)
                  rw [he5, HEY.out] at t3
                  replace t3 : W5.cell? ⟨h, k' * 6 + 3, none⟩ = some (.string ys) := t3
                  have x3 := cell_of_block hX5 3 _ rfl
                  have t4 := hH5 k' (by rw [Array.size_setIfInBounds]; omega) 4 (by omega)
                  rw [he5, HEY.out] at t4
                  replace t4 : W5.cell? ⟨h, k' * 6 + 4, none⟩ = some (.slice ya yal yc) := t4
                  have x4 := cell_of_block hX5 4 _ rfl
                  have t5 := hH5 k' (by rw [Array.size_setIfInBounds]; omega) 5 (by omega)
                  rw [he5, HEY.out] at t5
                  replace t5 : W5.cell? ⟨h, k' * 6 + 5, none⟩ = some (.slice yf yfl ye) := t5
                  have x5 := cell_of_block hX5 5 _ rfl
                  have hfr : ∀ j, W5.frozen? ⟨h, j, none⟩ = false := fun j => by
                    obtain ⟨cs, hcs⟩ := hK5
                    exact free_of_block hcs j
                  have fr0 := hfr (k' * 6)
                  have fr1 := hfr (k' * 6 + 1)
                  have fr2 := hfr (k' * 6 + 2)
                  have fr3 := hfr (k' * 6 + 3)
                  have fr4 := hfr (k' * 6 + 4)
                  have fr5 := hfr (k' * 6 + 5)
                  have HH5 := hide hH5
                  have HK5 := hide hK5
                  have HO5 := hide ho5
                  have HB5 := hide hB5
                  have HG5 := hide hG5
                  have HR5 := hide hR5
                  clear hfr hH5 hK5 ho5 hB5 e5 hh5 hG5 hR5 hX5 he5
                  go_wp2_with fail
                  go_roundw
                  case rel =>
                    refine ⟨k', Sort.swp d' (k' + 1) k', by omega, rfl, ?_, HIN.out⟩
                    have e6 : ((((((W5.setCell ⟨h, k' * 6, none⟩ (.string na)).setCell ⟨h, k' * 6 + 1, none⟩ (.int .i64 xk)).setCell ⟨h, k' * 6 + 2, none⟩ (.int .i64 xn)).setCell ⟨h, k' * 6 + 3, none⟩ (.string xs)).setCell ⟨h, k' * 6 + 4, none⟩ (.slice xa xal xc)).setCell ⟨h, k' * 6 + 5, none⟩ (.slice xf xfl xe)) = W5.setCells h (k' * 6) (V.encAt C d'[k' + 1]!) := by rw [HEX.out]; rfl
                    rw [e6]
                    exact V.sortSt_set HSX.out HB5.out HR5.out HG5.out hds2 hhw hhG HK5.out HH5.out (by omega) (by have := HGG.out; omega)
                  case measure => simp [intOf]
        · have hd : d = V.ord l := (insOuter_stop (V.ltAt l) 0 l.length i d (by omega)).symm.trans hins
          subst hd
          obtain ⟨hb4, hR4, hV4, _, hH4⟩ := hst
          have hrow : V.Row wr (.slice ao1 l.length cap1) l.length 6 (fun i c => ∃ x c', (V.pickF l (V.ord l))[i]? = some x ∧ c = .string x.1 :: c' ∧ V.Mem m wr x.2 c') := by
            refine ⟨ao1, cap1, rfl, ?_⟩
            rcases hH4 with h0 | ⟨h, rfl, _, _, _, hH⟩
            · exact .inl h0
            · refine .inr ⟨h, 0, rfl, fun i hi => ?_⟩
              have hil := V.ord_lt l i hi
              obtain ⟨c', ec, hm⟩ := HSP.out _ hil
              refine ⟨V.encAt C (V.ord l)[i]!, HSX.out.len _, fun j hj => ?_, _, c', V.pick_get l i hi, ec, V.Mem.kept m hm hb4⟩
              rw [Nat.zero_add]
              exact hH i (by rw [(V.ord_spec l).1]; exact hi) j hj
          have hmem : V.Mem (m + 1) wr (V.recOf l) [.int .i64 5, .int .i64 0, .string ⟨#[]⟩, .slice none 0 0, .slice ao1 l.length cap1] := by
            refine ⟨_, _, rfl, V.Row.zero _ _ _, ?_⟩
            rw [show (V.recOf l).f = V.pickF l (V.ord l) from rfl, V.pick_len l]
            exact hrow
          have HM := hide hmem
          have HROW := hide hrow
          have HH4 := hide hH4
          have HF2 : Hid (V.recF m l = V.fault (m + 1) (V.recOf l)) := by show _ = _; rw [V.recF, HND.out]; rfl
          have v0 := cell_of_block hV4 0 _ rfl
          have v1 := cell_of_block hV4 1 _ rfl
          have v2 := cell_of_block hV4 2 _ rfl
          have v3 := cell_of_block hV4 3 _ rfl
          have hGl : G < wr.heap.size := (Array.getElem?_eq_some_iff.1 hV4).1
          have hRl : w.heap.size < wr.heap.size := (Array.getElem?_eq_some_iff.1 hR4).1
          clear hins hmem hrow hH4
          go_wp2_with fail
          refine (fault_any (m + 1) wr (V.recOf l) _ _ _ _ _ HM.out hbk).mono ?_
          rintro e w5 ⟨rfl, hb5⟩
          have hR5 := (hb5.block w.heap.size hRl).trans hR4
          have hV5 := (hb5.block G hGl).trans hV4
          have hB5 := hb4.trans (hb5.mono hb4.size)
          have HB45 := hide hb5
          rw [← HF2.out]
          generalize hff : V.recF m l = f
          have HFF := hide hff
          clear hff v0 v1 v2 v3 b4 hb5 hb4 hR4 hV4
          by_cases h0 : f = 0
          · subst h0
            have v0 := cell_of_block hV5 0 _ rfl
            have v1 := cell_of_block hV5 1 _ rfl
            have v2 := cell_of_block hV5 2 _ rfl
            have v3 := cell_of_block hV5 3 _ rfl
            have v4 := cell_of_block hV5 4 _ rfl
            have z0 := cell_of_block hR5 0 _ rfl
            have f0 := free_of_block hR5 0
            have z1 := cell_of_block hR5 1 _ rfl
            have f1 := free_of_block hR5 1
            have z2 := cell_of_block hR5 2 _ rfl
            have f2 := free_of_block hR5 2
            have z3 := cell_of_block hR5 3 _ rfl
            have f3 := free_of_block hR5 3
            have z4 := cell_of_block hR5 4 _ rfl
            have f4 := free_of_block hR5 4
            go_wp2_with fail
            have hB2 := set5 hR5 (.int .i64 5) (.int .i64 0) (.string ⟨#[]⟩) (.slice none 0 0) (.slice ao1 l.length cap1)
            have hw2 := below5 hB5 (Nat.le_refl w.heap.size) (.int .i64 5) (.int .i64 0) (.string ⟨#[]⟩) (.slice none 0 0) (.slice ao1 l.length cap1)
            have hot2 : ∀ c, c ≠ w.heap.size → (((((w5.setCell ⟨w.heap.size, 0, none⟩ (.int .i64 5)).setCell ⟨w.heap.size, 1, none⟩ (.int .i64 0)).setCell ⟨w.heap.size, 2, none⟩ (.string ⟨#[]⟩)).setCell ⟨w.heap.size, 3, none⟩ (.slice none 0 0)).setCell ⟨w.heap.size, 4, none⟩ (.slice ao1 l.length cap1)).heap[c]? = w5.heap[c]? := fun c hc => by
              rw [heap_setCell_other _ _ c _ hc, heap_setCell_other _ _ c _ hc, heap_setCell_other _ _ c _ hc, heap_setCell_other _ _ c _ hc, heap_setCell_other _ _ c _ hc]
            generalize (((((w5.setCell ⟨w.heap.size, 0, none⟩ (.int .i64 5)).setCell ⟨w.heap.size, 1, none⟩ (.int .i64 0)).setCell ⟨w.heap.size, 2, none⟩ (.string ⟨#[]⟩)).setCell ⟨w.heap.size, 3, none⟩ (.slice none 0 0)).setCell ⟨w.heap.size, 4, none⟩ (.slice ao1 l.length cap1)) = w9 at *
            have r0 := cell_of_block hB2 0 _ rfl
            have r1 := cell_of_block hB2 1 _ rfl
            have r2 := cell_of_block hB2 2 _ rfl
            have r3 := cell_of_block hB2 3 _ rfl
            have r4 := cell_of_block hB2 4 _ rfl
            refine bodyPost_ret (v := .tuple #[.agg #[.int .i64 5, .int .i64 0, .string ⟨#[]⟩, .slice none 0 0, .slice ao1 l.length cap1], .int .i64 0]) (by simp [results, Tryd.results26, go_sem, r0, r1, r2, r3, r4]) rfl ⟨⟨_, _, _, _, _, by rw [HFF.out]; rfl, ?_⟩, hw2⟩
            rw [V.recV, if_pos HFF.out]
            refine ⟨_, _, rfl, V.Row.zero _ _ _, ?_⟩
            rw [show (V.recOf l).f = V.pickF l (V.ord l) from rfl, V.pick_len l]
            refine ⟨ao1, cap1, rfl, ?_⟩
            rcases HH4.out with h0 | ⟨h, rfl, hh1, _, ⟨cs, hcs⟩, hH⟩
            · exact .inl h0
            · refine .inr ⟨h, 0, rfl, fun i hi => ?_⟩
              have hil := V.ord_lt l i hi
              obtain ⟨c', ec, hm⟩ := HSP.out _ hil
              have hh9 : w9.heap[h]? = wr.heap[h]? := (hot2 h (by omega)).trans (HB45.out.block h (Array.getElem?_eq_some_iff.1 hcs).1)
              refine ⟨V.encAt C (V.ord l)[i]!, HSX.out.len _, fun j hj => ?_, _, c', V.pick_get l i hi, ec, V.Mem.kept m hm hw2⟩
              rw [Nat.zero_add]
              exact V.hasC_kept hH hh9 i (by rw [(V.ord_spec l).1]; exact hi) j hj
          · have hfp : 0 < f := by omega
            have hfb : f ≤ 10 := by
              have h1 := HFF.out
              rw [HF2.out, V.fault] at h1
              split at h1
              · omega
              · split at h1 <;> omega
            have z0 := cell_of_block hR5 0 _ rfl
            have f0 := free_of_block hR5 0
            have z1 := cell_of_block hR5 1 _ rfl
            have f1 := free_of_block hR5 1
            have z2 := cell_of_block hR5 2 _ rfl
            have f2 := free_of_block hR5 2
            have z3 := cell_of_block hR5 3 _ rfl
            have f3 := free_of_block hR5 3
            have z4 := cell_of_block hR5 4 _ rfl
            have f4 := free_of_block hR5 4
            go_wp2_with fail
            have hB2 := set5 hR5 (.int .i64 0) (.int .i64 0) (.string ⟨#[]⟩) (.slice none 0 0) (.slice none 0 0)
            have hw2 := below5 hB5 (Nat.le_refl w.heap.size) (.int .i64 0) (.int .i64 0) (.string ⟨#[]⟩) (.slice none 0 0) (.slice none 0 0)
            generalize (((((w5.setCell ⟨w.heap.size, 0, none⟩ (.int .i64 0)).setCell ⟨w.heap.size, 1, none⟩ (.int .i64 0)).setCell ⟨w.heap.size, 2, none⟩ (.string ⟨#[]⟩)).setCell ⟨w.heap.size, 3, none⟩ (.slice none 0 0)).setCell ⟨w.heap.size, 4, none⟩ (.slice none 0 0)) = w9 at *
            have r0 := cell_of_block hB2 0 _ rfl
            have r1 := cell_of_block hB2 1 _ rfl
            have r2 := cell_of_block hB2 2 _ rfl
            have r3 := cell_of_block hB2 3 _ rfl
            have r4 := cell_of_block hB2 4 _ rfl
            refine bodyPost_ret (v := .tuple #[.agg #[.int .i64 0, .int .i64 0, .string ⟨#[]⟩, .slice none 0 0, .slice none 0 0], .int .i64 f]) (by simp [results, Tryd.results26, go_sem, r0, r1, r2, r3, r4]) rfl ⟨⟨_, _, _, _, _, by rw [HFF.out], ?_⟩, hw2⟩
            rw [V.recV, if_neg (by rw [HFF.out]; exact h0)]
            exact V.Mem.zero m w9
end Go.Proofs.YtpoebpknjjfddaaDoor
