/- value.Get. -/
import Derived.Test.YtplhieahcajjeaaDoorVY
namespace Go.Proofs.YtplhieahcajjeaaDoor
open Go.RowKit
set_option maxRecDepth 100000 in
set_option maxHeartbeats 1600000 in
theorem get_any (m : Nat) (w : World) (v : Val) (s : ByteArray) (c0 c1 c2 c3 c4 : Value) (h : V.Mem (m + 1) w v [c0, c1, c2, c3, c4]) (hbk : V.bulk (m + 1) v ≤ 2000000) :
    Calls Tryd.prog 15 #[.agg #[c0, c1, c2, c3, c4], .string s] w fun e w' => (∃ e0 e1 e2 e3 e4, e = .returned (.tuple #[.agg #[e0, e1, e2, e3, e4], .bool (V.find v.f s).isSome]) ∧ V.Mem (m + 1) w' (V.found v.f s) [e0, e1, e2, e3, e4]) ∧ Below w.heap.size w w' := by
  obtain ⟨lv, fv, hcs, hl, hf⟩ := h
  simp only [List.cons.injEq, and_true] at hcs
  obtain ⟨rfl, rfl, rfl, rfl, rfl⟩ := hcs
  obtain ⟨al, cl, rfl⟩ := hl.shape
  obtain ⟨af, cf, rfl⟩ := hf.shape
  obtain ⟨bs, bl, bf, bn⟩ := V.bulk_s m v _ hbk
  have hbL : Below w.heap.size w ((w.alloc (.cells #[.int .i64 v.kind, .int .i64 v.n, .string v.s, .slice al v.l.length cl, .slice af v.f.length cf] 34)).alloc (.cells #[.int .i64 0, .int .i64 0, .string ⟨#[]⟩, .slice none 0 0, .slice none 0 0] 34)) := ((Below.refl _ _).alloc (Nat.le_refl _) _).alloc (by simp) _
  have hA0 : ((w.alloc (.cells #[.int .i64 v.kind, .int .i64 v.n, .string v.s, .slice al v.l.length cl, .slice af v.f.length cf] 34)).alloc (.cells #[.int .i64 0, .int .i64 0, .string ⟨#[]⟩, .slice none 0 0, .slice none 0 0] 34)).heap[w.heap.size]? = some (.cells #[.int .i64 v.kind, .int .i64 v.n, .string v.s, .slice al v.l.length cl, .slice af v.f.length cf] 34 (0, 0)) := by rw [heap_alloc_old _ _ (by simp)]; exact heap_alloc_new _ _
  have hB0 : ((w.alloc (.cells #[.int .i64 v.kind, .int .i64 v.n, .string v.s, .slice al v.l.length cl, .slice af v.f.length cf] 34)).alloc (.cells #[.int .i64 0, .int .i64 0, .string ⟨#[]⟩, .slice none 0 0, .slice none 0 0] 34)).heap[w.heap.size + 1]? = some (.cells #[.int .i64 0, .int .i64 0, .string ⟨#[]⟩, .slice none 0 0, .slice none 0 0] 34 (0, 0)) := by rw [show w.heap.size + 1 = (w.alloc (.cells #[.int .i64 v.kind, .int .i64 v.n, .string v.s, .slice al v.l.length cl, .slice af v.f.length cf] 34)).heap.size by simp]; exact heap_alloc_new _ _
  have HF : Hid _ := hf
  clear hl hf bn
  go_enter Tryd.func15, Tryd.ntmps15
  go_wp2_with fail
  generalize (w.alloc (.cells #[.int .i64 v.kind, .int .i64 v.n, .string v.s, .slice al v.l.length cl, .slice af v.f.length cf] 34)).alloc (.cells #[.int .i64 0, .int .i64 0, .string ⟨#[]⟩, .slice none 0 0, .slice none 0 0] 34) = w1 at *
  have a4 := cell_of_block hA0 4 _ rfl
  have z0 := cell_of_block hB0 0 _ rfl
  have z1 := cell_of_block hB0 1 _ rfl
  have z2 := cell_of_block hB0 2 _ rfl
  have z3 := cell_of_block hB0 3 _ rfl
  have z4 := cell_of_block hB0 4 _ rfl
  have f0 := free_of_block hB0 0
  have f1 := free_of_block hB0 1
  have f2 := free_of_block hB0 2
  have f3 := free_of_block hB0 3
  have f4 := free_of_block hB0 4
  go_loop [10, 6] (fun vi _ => ∃ k : Nat, k ≤ v.f.length ∧ vi = .int .i64 k ∧ (∀ (j : Nat) (y : ByteArray × Val), j < k → v.f[j]? = some y → (y.1.toList == s.toList) = false)) (fun vi _ => v.f.length - (intOf vi).toNat)
  case atStart => exact ⟨0, Nat.zero_le _, rfl, fun j _ hj => absurd hj (by omega)⟩
  case round =>
    obtain ⟨k, hk, rfl, hok⟩ := hrel
    have HOK : Hid _ := hok
    clear hok
    by_cases hlt : k < v.f.length
    · obtain ⟨p, off, cap, x, x0, x1, x2, x3, x4, e1, hx, hm, un, u0, u1, u2, u3, u4⟩ := V.elemF HF.out k hlt
      replace un := kept_cell hbL un
      replace u0 := kept_cell hbL u0
      replace u1 := kept_cell hbL u1
      replace u2 := kept_cell hbL u2
      replace u3 := kept_cell hbL u3
      replace u4 := kept_cell hbL u4
      simp only [Value.slice.injEq] at e1
      obtain ⟨rfl, _, rfl⟩ := e1
      obtain ⟨xal, xcl, xaf, xcf, rfl, rfl, rfl, rfl, rfl⟩ := V.Mem.form hm
      cases hn : (x.1.toList == s.toList)
      · have HN : Hid _ := hn
        have HX : Hid _ := hx
        clear hm hx
        go_wp2_with fail
        go_round
        case rel =>
          refine ⟨k + 1, by omega, by go_num, fun j y hj hy => ?_⟩
          rcases Nat.lt_or_ge j k with h | h
          · exact HOK.out j y h hy
          · rw [show j = k by omega, HX.out] at hy; cases hy; exact HN.out
        case measure => simp [intOf]; omega
      · have E : Hid (V.find v.f s = some x.2) := V.find_some v.f s k x hx hn HOK.out
        have hm1 := V.Mem.up m hm
        have hbx : V.bulk (m + 1) x.2 ≤ 2000000 := by
          rw [V.bulk_up m hm]
          have h1 := V.sumF_le (fun x => x.1.size + V.bulk m x.2) v.f k x hx
          rw [V.bulk] at hbk
          omega
        have HC := hide (copy_all m w w1 w1.heap.size hbL.size (Nat.le_refl _) x.2 _ _ _ _ _ hbL (V.Core5.old hm1) hbx)
        have hlt1 : w.heap.size + 1 < w1.heap.size := (Array.getElem?_eq_some_iff.1 hB0).1
        clear hm hx hm1
        go_wp2_with fail
        refine Calls.mono HC.out ?_
        rintro e w3 ⟨⟨y0, y1, y2, y3, y4, rfl, hm3⟩, hb3⟩
        obtain ⟨yal, ycl, yaf, ycf, rfl, rfl, rfl, rfl, rfl⟩ := V.Mem.form (hm3 w3 (hbL.trans (hb3.mono hbL.size)) (fun _ _ => rfl))
        have hB3 := (hb3.block (w.heap.size + 1) hlt1).trans hB0
        have hw3 := hbL.trans (hb3.mono hbL.size)
        have HM3 := hide hm3
        clear z0 z1 z2 z3 z4 f0 f1 f2 f3 f4 hm3
        have z0 := cell_of_block hB3 0 _ rfl
        have z1 := cell_of_block hB3 1 _ rfl
        have z2 := cell_of_block hB3 2 _ rfl
        have z3 := cell_of_block hB3 3 _ rfl
        have z4 := cell_of_block hB3 4 _ rfl
        have f0 := free_of_block hB3 0
        have f1 := free_of_block hB3 1
        have f2 := free_of_block hB3 2
        have f3 := free_of_block hB3 3
        have f4 := free_of_block hB3 4
        go_wp2_with fail
        have hB2 := set5 hB3 (.int .i64 x.2.kind) (.int .i64 x.2.n) (.string x.2.s) (.slice yal x.2.l.length ycl) (.slice yaf x.2.f.length ycf)
        have hw2 := below5 hw3 (Nat.le_succ w.heap.size) (.int .i64 x.2.kind) (.int .i64 x.2.n) (.string x.2.s) (.slice yal x.2.l.length ycl) (.slice yaf x.2.f.length ycf)
        have hoth : ∀ c, c ≠ w.heap.size + 1 → (((((w3.setCell ⟨w.heap.size + 1, 0, none⟩ (.int .i64 x.2.kind)).setCell ⟨w.heap.size + 1, 1, none⟩ (.int .i64 x.2.n)).setCell ⟨w.heap.size + 1, 2, none⟩ (.string x.2.s)).setCell ⟨w.heap.size + 1, 3, none⟩ (.slice yal x.2.l.length ycl)).setCell ⟨w.heap.size + 1, 4, none⟩ (.slice yaf x.2.f.length ycf)).heap[c]? = w3.heap[c]? := fun c hc => by
          rw [heap_setCell_other _ _ c _ hc, heap_setCell_other _ _ c _ hc, heap_setCell_other _ _ c _ hc, heap_setCell_other _ _ c _ hc, heap_setCell_other _ _ c _ hc]
        generalize (((((w3.setCell ⟨w.heap.size + 1, 0, none⟩ (.int .i64 x.2.kind)).setCell ⟨w.heap.size + 1, 1, none⟩ (.int .i64 x.2.n)).setCell ⟨w.heap.size + 1, 2, none⟩ (.string x.2.s)).setCell ⟨w.heap.size + 1, 3, none⟩ (.slice yal x.2.l.length ycl)).setCell ⟨w.heap.size + 1, 4, none⟩ (.slice yaf x.2.f.length ycf)) = w2 at *
        have r0 := cell_of_block hB2 0 _ rfl
        have r1 := cell_of_block hB2 1 _ rfl
        have r2 := cell_of_block hB2 2 _ rfl
        have r3 := cell_of_block hB2 3 _ rfl
        have r4 := cell_of_block hB2 4 _ rfl
        refine bodyPost_ret (v := .tuple #[.agg #[.int .i64 x.2.kind, .int .i64 x.2.n, .string x.2.s, .slice yal x.2.l.length ycl, .slice yaf x.2.f.length ycf], .bool true]) (by simp [results, Tryd.results15, go_sem, r0, r1, r2, r3, r4]) rfl ⟨⟨_, _, _, _, _, by rw [E.out]; rfl, ?_⟩, hw2⟩
        rw [V.found, E.out]
        exact HM3.out w2 hw2 (fun c hc => hoth c (by omega))
    · have E : Hid (V.find v.f s = none) := V.find_none v.f s (fun j x hj => HOK.out j x (by have := V.lt_of_get hj; omega) hj)
      go_wp2_with fail
      have hB2 := set5 hB0 (.int .i64 0) (.int .i64 0) (.string ⟨#[]⟩) (.slice none 0 0) (.slice none 0 0)
      have hw2 := below5 hbL (Nat.le_succ _) (.int .i64 0) (.int .i64 0) (.string ⟨#[]⟩) (.slice none 0 0) (.slice none 0 0)
      generalize ((((w1.setCell ⟨w.heap.size + 1, 0, none⟩ (.int .i64 0)).setCell ⟨w.heap.size + 1, 1, none⟩ (.int .i64 0)).setCell ⟨w.heap.size + 1, 2, none⟩ (.string ⟨#[]⟩)).setCell ⟨w.heap.size + 1, 3, none⟩ (.slice none 0 0)).setCell ⟨w.heap.size + 1, 4, none⟩ (.slice none 0 0) = w2 at *
      have r0 := cell_of_block hB2 0 _ rfl
      have r1 := cell_of_block hB2 1 _ rfl
      have r2 := cell_of_block hB2 2 _ rfl
      have r3 := cell_of_block hB2 3 _ rfl
      have r4 := cell_of_block hB2 4 _ rfl
      refine bodyPost_ret (v := .tuple #[.agg #[.int .i64 0, .int .i64 0, .string ⟨#[]⟩, .slice none 0 0, .slice none 0 0], .bool false]) (by simp [results, Tryd.results15, go_sem, r0, r1, r2, r3, r4]) rfl ⟨⟨_, _, _, _, _, by rw [E.out]; rfl, ?_⟩, hw2⟩
      rw [V.found, E.out]
      exact V.Mem.zero m w2
end Go.Proofs.YtplhieahcajjeaaDoor
