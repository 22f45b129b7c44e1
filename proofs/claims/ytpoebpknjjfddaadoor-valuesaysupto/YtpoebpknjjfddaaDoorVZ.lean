/- value.Find, value.Get. -/
import Derived.Test.YtpoebpknjjfddaaDoorVY
import Derived.Laws.EntriesVeiled
namespace Go.Proofs.YtpoebpknjjfddaaDoor
open Go.RowKit
/-- Where the first field of that name is, or -1. -/
def V.Hit (f : List (ByteArray × Val)) (s : ByteArray) (r : Int) : Prop :=
  (∃ (k : Nat) (x : ByteArray × Val), r = k ∧ f[k]? = some x ∧ (x.1.toList == s.toList) = true ∧ ∀ (j : Nat) (y : ByteArray × Val), j < k → f[j]? = some y → (y.1.toList == s.toList) = false) ∨ (r = -1 ∧ ∀ (j : Nat) (y : ByteArray × Val), f[j]? = some y → (y.1.toList == s.toList) = false)
set_option maxRecDepth 100000 in
theorem named_any (B : Nat) (n s x2 : ByteArray) (x0 x1 : Int) (a3 a4 : Option Addr) (n3 n4 k3 k4 : Nat) (w : World) (hB : w.cell? ⟨B, 0, none⟩ = some (.string s)) :
    Calls Tryd.prog 53 #[.agg #[.string n, .int .i64 x0, .int .i64 x1, .string x2, .slice a3 n3 k3, .slice a4 n4 k4], .pointer (some ⟨B, 0, none⟩)] w fun e w' => e = .returned (.bool (n.toList == s.toList)) ∧ Below w.heap.size w w' := by
  have hb : Below w.heap.size w (w.alloc (.cells #[.string n, .int .i64 x0, .int .i64 x1, .string x2, .slice a3 n3 k3, .slice a4 n4 k4] 37)) := (Below.refl _ _).alloc (Nat.le_refl _) _
  have hB2 := kept_cell hb hB
  clear hB
  go_enter Tryd.func53, Tryd.ntmps53
  go_wp2_with fail
  go_ret
  exact ⟨rfl, hb⟩
set_option maxRecDepth 100000 in
set_option maxHeartbeats 1600000 in
theorem indexFunc_any (m : Nat) (fv : Value) (f : List (ByteArray × Val)) (s : ByteArray) (B : Nat) (w : World) (hlen : f.length ≤ 2000000) (hf : V.Row w fv f.length 6 (fun i c => ∃ x c', f[i]? = some x ∧ c = .string x.1 :: c' ∧ V.Mem m w x.2 c')) (hB : w.cell? ⟨B, 0, none⟩ = some (.string s)) :
    Calls Tryd.prog 52 #[fv, .func (.func 53) #[] #[.pointer (some ⟨B, 0, none⟩)]] w fun e w' => (∃ r : Int, e = .returned (.int .i64 r) ∧ V.Hit f s r) ∧ Below w.heap.size w w' := by
  obtain ⟨af, cf, rfl⟩ := hf.shape
  have HF := hide hf
  clear hf
  go_enter Tryd.func52, Tryd.ntmps52
  go_wp2_with fail
  go_loopw [8, 5] (fun vi _ wr => ∃ k : Nat, k ≤ f.length ∧ vi = .int .i64 k ∧ Below w.heap.size w wr ∧ (∀ (j : Nat) (y : ByteArray × Val), j < k → f[j]? = some y → (y.1.toList == s.toList) = false)) (fun vi _ _ => f.length - (intOf vi).toNat)
  case atStart => exact ⟨0, Nat.zero_le _, rfl, Below.refl _ _, fun j _ hj => absurd hj (by omega)⟩
  case round =>
    obtain ⟨k, hk, rfl, hbr, hok⟩ := hrel
    have HOK : Hid _ := hok
    clear hok
    by_cases hlt : k < f.length
    · obtain ⟨p, off, cap, x, x0, x1, x2, x3, x4, e1, hx, hm, un, u0, u1, u2, u3, u4⟩ := V.elemF HF.out k hlt
      replace un := kept_cell hbr un
      replace u0 := kept_cell hbr u0
      replace u1 := kept_cell hbr u1
      replace u2 := kept_cell hbr u2
      replace u3 := kept_cell hbr u3
      replace u4 := kept_cell hbr u4
      simp only [Value.slice.injEq] at e1
      obtain ⟨rfl, _, rfl⟩ := e1
      obtain ⟨xal, xcl, xaf, xcf, rfl, rfl, rfl, rfl, rfl⟩ := V.Mem.form hm
      have HNM := hide (named_any B x.1 s x.2.s x.2.kind x.2.n xal xaf x.2.l.length x.2.f.length xcl xcf wr (kept_cell hbr hB))
      have HX := hide hx
      have HBR := hide hbr
      clear hm hx hbr
      cases hn : (x.1.toList == s.toList)
      · rw [hn] at HNM
        have HN := hide hn
        clear hn
        go_wp2_with (go_at_call 53; refine HNM.out.mono ?_; rintro e w3 ⟨rfl, hb3⟩)
        have HB3 := hide (HBR.out.trans (hb3.mono HBR.out.size))
        clear hb3
        go_roundw
        case rel =>
          refine ⟨k + 1, by omega, by go_num, HB3.out, fun j y hj hy => ?_⟩
          rcases Nat.lt_or_ge j k with h | h
          · exact HOK.out j y h hy
          · rw [show j = k by omega, HX.out] at hy; cases hy; exact HN.out
        case measure => simp [intOf]; omega
      · rw [hn] at HNM
        have HN := hide hn
        clear hn
        go_wp2_with (go_at_call 53; refine HNM.out.mono ?_; rintro e w3 ⟨rfl, hb3⟩)
        have HB3 := hide (HBR.out.trans (hb3.mono HBR.out.size))
        clear hb3
        go_ret
        exact ⟨⟨_, rfl, .inl ⟨k, x, rfl, HX.out, HN.out, HOK.out⟩⟩, HB3.out⟩
    · have HBR := hide hbr
      clear hbr
      go_wp2_with fail
      go_ret
      exact ⟨⟨_, rfl, .inr ⟨rfl, fun j y hj => HOK.out j y (by have := V.lt_of_get hj; omega) hj⟩⟩, HBR.out⟩
set_option maxRecDepth 100000 in
set_option maxHeartbeats 400000 in
theorem find_any (m : Nat) (fv : Value) (f : List (ByteArray × Val)) (s : ByteArray) (w : World) (hlen : f.length ≤ 2000000) (hf : V.Row w fv f.length 6 (fun i c => ∃ x c', f[i]? = some x ∧ c = .string x.1 :: c' ∧ V.Mem m w x.2 c')) :
    Calls Tryd.prog 35 #[fv, .string s] w fun e w' => (∃ r : Int, e = .returned (.int .i64 r) ∧ V.Hit f s r) ∧ Below w.heap.size w w' := by
  have hb : Below w.heap.size w (w.alloc (.cells #[.string s] 9)) := (Below.refl _ _).alloc (Nat.le_refl _) _
  have HIX := hide (indexFunc_any m fv f s w.heap.size (w.alloc (.cells #[.string s] 9)) hlen (hf.kept hb (fun _ _ ⟨x, c', hx, hc, hm⟩ => ⟨x, c', hx, hc, V.Mem.kept m hm hb⟩)) (cell_of_block (heap_alloc_new _ _) 0 _ rfl))
  obtain ⟨af, cf, rfl⟩ := hf.shape
  have HB := hide hb
  clear hf hb
  go_enter Tryd.func35, Tryd.ntmps35
  go_wp2_with fail
  refine HIX.out.mono ?_
  rintro e w1 ⟨⟨r, rfl, hr⟩, hb1⟩
  have HB1 := hide (HB.out.trans (hb1.mono HB.out.size))
  have HR := hide hr
  clear hb1 hr
  go_wp2_with fail
  go_ret
  exact ⟨⟨_, rfl, HR.out⟩, HB1.out⟩
set_option maxRecDepth 100000 in
set_option maxHeartbeats 1600000 in
theorem get_any (m : Nat) (w : World) (v : Val) (s : ByteArray) (c0 c1 c2 c3 c4 : Value) (h : V.Mem (m + 1) w v [c0, c1, c2, c3, c4]) (hbk : V.bulk (m + 1) v ≤ 2000000) :
    Calls Tryd.prog 15 #[.agg #[c0, c1, c2, c3, c4], .string s] w fun e w' => (∃ e0 e1 e2 e3 e4, e = .returned (.tuple #[.agg #[e0, e1, e2, e3, e4], .bool (V.find v.f s).isSome]) ∧ V.Mem (m + 1) w' (V.found v.f s) [e0, e1, e2, e3, e4]) ∧ Below w.heap.size w w' := by
  obtain ⟨lv, fv, hcs, hl, hf⟩ := h
  simp only [List.cons.injEq, and_true] at hcs
  obtain ⟨rfl, rfl, rfl, rfl, rfl⟩ := hcs
  obtain ⟨al, cl, rfl⟩ := hl.shape
  obtain ⟨af, cf, rfl⟩ := hf.shape
  obtain ⟨bs, bl, bf, bn⟩ := V.bulk_s m v _ hbk
  have hbL0 : Below w.heap.size w ((w.alloc (.cells #[.int .i64 v.kind, .int .i64 v.n, .string v.s, .slice al v.l.length cl, .slice af v.f.length cf] 34)).alloc (.cells #[.int .i64 0, .int .i64 0, .string ⟨#[]⟩, .slice none 0 0, .slice none 0 0] 34)) := ((Below.refl _ _).alloc (Nat.le_refl _) _).alloc (by simp) _
  have hA00 : ((w.alloc (.cells #[.int .i64 v.kind, .int .i64 v.n, .string v.s, .slice al v.l.length cl, .slice af v.f.length cf] 34)).alloc (.cells #[.int .i64 0, .int .i64 0, .string ⟨#[]⟩, .slice none 0 0, .slice none 0 0] 34)).heap[w.heap.size]? = some (.cells #[.int .i64 v.kind, .int .i64 v.n, .string v.s, .slice al v.l.length cl, .slice af v.f.length cf] 34 (0, 0)) := by rw [heap_alloc_old _ _ (by simp)]; exact heap_alloc_new _ _
  have hB00 : ((w.alloc (.cells #[.int .i64 v.kind, .int .i64 v.n, .string v.s, .slice al v.l.length cl, .slice af v.f.length cf] 34)).alloc (.cells #[.int .i64 0, .int .i64 0, .string ⟨#[]⟩, .slice none 0 0, .slice none 0 0] 34)).heap[w.heap.size + 1]? = some (.cells #[.int .i64 0, .int .i64 0, .string ⟨#[]⟩, .slice none 0 0, .slice none 0 0] 34 (0, 0)) := by rw [show w.heap.size + 1 = (w.alloc (.cells #[.int .i64 v.kind, .int .i64 v.n, .string v.s, .slice al v.l.length cl, .slice af v.f.length cf] 34)).heap.size by simp]; exact heap_alloc_new _ _
  have HF := hide hf
  clear hl hf bn
  go_enter Tryd.func15, Tryd.ntmps15
  go_wp2_with fail
  generalize (w.alloc (.cells #[.int .i64 v.kind, .int .i64 v.n, .string v.s, .slice al v.l.length cl, .slice af v.f.length cf] 34)).alloc (.cells #[.int .i64 0, .int .i64 0, .string ⟨#[]⟩, .slice none 0 0, .slice none 0 0] 34) = w0 at *
  have hltA : w.heap.size < w0.heap.size := (Array.getElem?_eq_some_iff.1 hA00).1
  have hltB : w.heap.size + 1 < w0.heap.size := (Array.getElem?_eq_some_iff.1 hB00).1
  refine (find_any m _ v.f s w0 (by omega) (HF.out.kept hbL0 (fun _ _ ⟨x, c', hx, hc, hm⟩ => ⟨x, c', hx, hc, V.Mem.kept m hm hbL0⟩))).mono ?_
  rintro e w1 ⟨⟨r, rfl, hr⟩, hb1⟩
  have hA0 := (hb1.block _ hltA).trans hA00
  have hB0 := (hb1.block _ hltB).trans hB00
  have hbL := hbL0.trans (hb1.mono hbL0.size)
  clear hA00 hB00 hbL0 hb1 hltA hltB
  have a4 := cell_of_block hA0 4 _ rfl
  have z0 := cell_of_block hB0 0 _ rfl
  have z1 := cell_of_block hB0 1 _ rfl
  have z2 := cell_of_block hB0 2 _ rfl
  have z3 := cell_of_block hB0 3 _ rfl
  have z4 := cell_of_block hB0 4 _ rfl
  have f0 := free_of_block hB0 0
  have f1 := free_of_block hB0 1
  have f2 := free_of_block hB0 2
  have f3 := free_of_block hB0 3
  have f4 := free_of_block hB0 4
  rcases hr with ⟨k, x, rfl, hx, hn, hok⟩ | ⟨rfl, hok⟩
  · have hlt : k < v.f.length := V.lt_of_get hx
    obtain ⟨p, off, cap, x', x0, x1, x2, x3, x4, e1, hx', hm, un, u0, u1, u2, u3, u4⟩ := V.elemF HF.out k hlt
    obtain rfl : x' = x := by rw [hx] at hx'; exact (Option.some.inj hx').symm
    replace u0 := kept_cell hbL u0
    replace u1 := kept_cell hbL u1
    replace u2 := kept_cell hbL u2
    replace u3 := kept_cell hbL u3
    replace u4 := kept_cell hbL u4
    simp only [Value.slice.injEq] at e1
    obtain ⟨rfl, _, rfl⟩ := e1
    obtain ⟨xal, xcl, xaf, xcf, rfl, rfl, rfl, rfl, rfl⟩ := V.Mem.form hm
    have HOK : Hid _ := hok
    clear hok hx'
    have E : Hid (V.find v.f s = some x'.2) := V.find_some v.f s k x' hx hn HOK.out
    have hm1 := V.Mem.up m hm
    have hbx : V.bulk (m + 1) x'.2 ≤ 2000000 := by
      rw [V.bulk_up m hm]
      have h1 := V.sumF_le (fun x => x.1.size + V.bulk m x.2) v.f k x' hx
      rw [V.bulk] at hbk
      omega
    have HC := hide (copy_all m w w1 w1.heap.size hbL.size (Nat.le_refl _) x'.2 _ _ _ _ _ hbL (V.Core5.old hm1) hbx)
    have hlt1 : w.heap.size + 1 < w1.heap.size := (Array.getElem?_eq_some_iff.1 hB0).1
    clear hm hx hm1
    go_wp2_with fail
    refine Calls.mono HC.out ?_
    rintro e w3 ⟨⟨y0, y1, y2, y3, y4, rfl, hm3⟩, hb3⟩
    obtain ⟨yal, ycl, yaf, ycf, rfl, rfl, rfl, rfl, rfl⟩ := V.Mem.form (hm3 w3 (hbL.trans (hb3.mono hbL.size)) (fun _ _ => rfl))
    have hB3 := (hb3.block (w.heap.size + 1) hlt1).trans hB0
    have hw3 := hbL.trans (hb3.mono hbL.size)
    have HM3 := hide hm3
    clear z0 z1 z2 z3 z4 f0 f1 f2 f3 f4 hm3
    have z0 := cell_of_block hB3 0 _ rfl
    have z1 := cell_of_block hB3 1 _ rfl
    have z2 := cell_of_block hB3 2 _ rfl
    have z3 := cell_of_block hB3 3 _ rfl
    have z4 := cell_of_block hB3 4 _ rfl
    have f0 := free_of_block hB3 0
    have f1 := free_of_block hB3 1
    have f2 := free_of_block hB3 2
    have f3 := free_of_block hB3 3
    have f4 := free_of_block hB3 4
    go_wp2_with fail
    have hB2 := set5 hB3 (.int .i64 x'.2.kind) (.int .i64 x'.2.n) (.string x'.2.s) (.slice yal x'.2.l.length ycl) (.slice yaf x'.2.f.length ycf)
    have hw2 := below5 hw3 (Nat.le_succ w.heap.size) (.int .i64 x'.2.kind) (.int .i64 x'.2.n) (.string x'.2.s) (.slice yal x'.2.l.length ycl) (.slice yaf x'.2.f.length ycf)
    have hoth : ∀ c, c ≠ w.heap.size + 1 → (((((w3.setCell ⟨w.heap.size + 1, 0, none⟩ (.int .i64 x'.2.kind)).setCell ⟨w.heap.size + 1, 1, none⟩ (.int .i64 x'.2.n)).setCell ⟨w.heap.size + 1, 2, none⟩ (.string x'.2.s)).setCell ⟨w.heap.size + 1, 3, none⟩ (.slice yal x'.2.l.length ycl)).setCell ⟨w.heap.size + 1, 4, none⟩ (.slice yaf x'.2.f.length ycf)).heap[c]? = w3.heap[c]? := fun c hc => by
      rw [heap_setCell_other _ _ c _ hc, heap_setCell_other _ _ c _ hc, heap_setCell_other _ _ c _ hc, heap_setCell_other _ _ c _ hc, heap_setCell_other _ _ c _ hc]
    generalize (((((w3.setCell ⟨w.heap.size + 1, 0, none⟩ (.int .i64 x'.2.kind)).setCell ⟨w.heap.size + 1, 1, none⟩ (.int .i64 x'.2.n)).setCell ⟨w.heap.size + 1, 2, none⟩ (.string x'.2.s)).setCell ⟨w.heap.size + 1, 3, none⟩ (.slice yal x'.2.l.length ycl)).setCell ⟨w.heap.size + 1, 4, none⟩ (.slice yaf x'.2.f.length ycf)) = w2 at *
    have r0 := cell_of_block hB2 0 _ rfl
    have r1 := cell_of_block hB2 1 _ rfl
    have r2 := cell_of_block hB2 2 _ rfl
    have r3 := cell_of_block hB2 3 _ rfl
    have r4 := cell_of_block hB2 4 _ rfl
    refine bodyPost_ret (v := .tuple #[.agg #[.int .i64 x'.2.kind, .int .i64 x'.2.n, .string x'.2.s, .slice yal x'.2.l.length ycl, .slice yaf x'.2.f.length ycf], .bool true]) (by simp [results, Tryd.results15, go_sem, r0, r1, r2, r3, r4]) rfl ⟨⟨_, _, _, _, _, by rw [E.out]; rfl, ?_⟩, hw2⟩
    rw [V.found, E.out]
    exact HM3.out w2 hw2 (fun c hc => hoth c (by omega))
  · have E : Hid (V.find v.f s = none) := V.find_none v.f s hok
    go_wp2_with fail
    have hB2 := set5 hB0 (.int .i64 0) (.int .i64 0) (.string ⟨#[]⟩) (.slice none 0 0) (.slice none 0 0)
    have hw2 := below5 hbL (Nat.le_succ _) (.int .i64 0) (.int .i64 0) (.string ⟨#[]⟩) (.slice none 0 0) (.slice none 0 0)
    generalize ((((w1.setCell ⟨w.heap.size + 1, 0, none⟩ (.int .i64 0)).setCell ⟨w.heap.size + 1, 1, none⟩ (.int .i64 0)).setCell ⟨w.heap.size + 1, 2, none⟩ (.string ⟨#[]⟩)).setCell ⟨w.heap.size + 1, 3, none⟩ (.slice none 0 0)).setCell ⟨w.heap.size + 1, 4, none⟩ (.slice none 0 0) = w2 at *
    have r0 := cell_of_block hB2 0 _ rfl
    have r1 := cell_of_block hB2 1 _ rfl
    have r2 := cell_of_block hB2 2 _ rfl
    have r3 := cell_of_block hB2 3 _ rfl
    have r4 := cell_of_block hB2 4 _ rfl
    refine bodyPost_ret (v := .tuple #[.agg #[.int .i64 0, .int .i64 0, .string ⟨#[]⟩, .slice none 0 0, .slice none 0 0], .bool false]) (by simp [results, Tryd.results15, go_sem, r0, r1, r2, r3, r4]) rfl ⟨⟨_, _, _, _, _, by rw [E.out]; rfl, ?_⟩, hw2⟩
    rw [V.found, E.out]
    exact V.Mem.zero m w2
end Go.Proofs.YtpoebpknjjfddaaDoor
