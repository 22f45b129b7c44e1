/- The document's own Get. -/
import Derived.Test.YtpoebpknjjfddaaDoorVR
namespace Go.Proofs.YtpoebpknjjfddaaDoor
open Go.RowKit
namespace V
def zero : Val := ⟨0, 0, ⟨#[]⟩, [], []⟩
def find (l : List (ByteArray × Val)) (s : ByteArray) : Option Val := (l.find? (fun x => x.1.toList == s.toList)).map (·.2)
def found (l : List (ByteArray × Val)) (s : ByteArray) : Val := (find l s).getD zero
theorem find_none (l : List (ByteArray × Val)) (s : ByteArray) (h : ∀ (j : Nat) (x : ByteArray × Val), l[j]? = some x → (x.1.toList == s.toList) = false) : find l s = none := by
  unfold find
  rw [List.find?_eq_none.2 (fun x hx => by obtain ⟨j, hj⟩ := List.getElem?_of_mem hx; simp [h j x hj])]; rfl
theorem find_some (l : List (ByteArray × Val)) (s : ByteArray) (k : Nat) (x : ByteArray × Val) (hx : l[k]? = some x) (hs : (x.1.toList == s.toList) = true) (h : ∀ (j : Nat) (y : ByteArray × Val), j < k → l[j]? = some y → (y.1.toList == s.toList) = false) : find l s = some x.2 := by
  unfold find
  have : l.find? (fun x => x.1.toList == s.toList) = some x := by
    rw [List.find?_eq_some_iff_getElem]
    obtain ⟨hk, e⟩ := List.getElem?_eq_some_iff.1 hx
    refine ⟨hs, k, hk, e, fun j hj => ?_⟩
    have := h j l[j] hj (List.getElem?_eq_getElem (by omega))
    simp [this]
  rw [this]; rfl
theorem Row.zero (w : World) (sz : Nat) (P : Nat → List Value → Prop) : Row w (.slice none 0 0) 0 sz P := ⟨none, 0, rfl, .inl rfl⟩
theorem Mem.zero (m : Nat) (w : World) : Mem (m + 1) w zero [.int .i64 0, .int .i64 0, .string ⟨#[]⟩, .slice none 0 0, .slice none 0 0] := ⟨_, _, rfl, Row.zero _ _ _, Row.zero _ _ _⟩
theorem Row.imp {w : World} {v : Value} {n sz : Nat} {P Q : Nat → List Value → Prop} (h : Row w v n sz P) (hPQ : ∀ i c, P i c → Q i c) : Row w v n sz Q := by
  obtain ⟨ao, cap, rfl, h⟩ := h
  refine ⟨ao, cap, rfl, ?_⟩
  rcases h with h | ⟨b, off, rfl, h⟩
  · exact .inl h
  · refine .inr ⟨b, off, rfl, fun i hi => ?_⟩
    obtain ⟨cs, h1, h2, h3⟩ := h i hi
    exact ⟨cs, h1, h2, hPQ i cs h3⟩
theorem Mem.up : ∀ (m : Nat) {w : World} {v : Val} {cs : List Value}, Mem m w v cs → Mem (m + 1) w v cs
  | 0, _, _, _, h => h.elim
  | m + 1, _, _, _, ⟨lv, fv, h1, h2, h3⟩ => ⟨lv, fv, h1, h2.imp (fun _ _ ⟨x, hx, hm⟩ => ⟨x, hx, Mem.up m hm⟩), h3.imp (fun _ _ ⟨x, c', hx, hc, hm⟩ => ⟨x, c', hx, hc, Mem.up m hm⟩)⟩
theorem Row.all {w : World} {v : Value} {n sz : Nat} {P : Nat → List Value → Prop} (h : Row w v n sz P) (i : Nat) (hi : i < n) : ∃ c, P i c := by
  obtain ⟨ao, cap, rfl, h⟩ := h
  rcases h with h | ⟨b, off, rfl, h⟩
  · omega
  · obtain ⟨cs, _, _, h3⟩ := h i hi; exact ⟨cs, h3⟩
theorem sumL_congr (g h : Val → Nat) (l : List Val) (hh : ∀ x ∈ l, g x = h x) : sumL g l = sumL h l := by
  unfold sumL; rw [List.map_congr_left hh]
theorem sumF_congr (g h : ByteArray × Val → Nat) (l : List (ByteArray × Val)) (hh : ∀ x ∈ l, g x = h x) : sumF g l = sumF h l := by
  unfold sumF; rw [List.map_congr_left hh]
theorem bulk_up : ∀ (m : Nat) {w : World} {v : Val} {cs : List Value}, Mem m w v cs → bulk (m + 1) v = bulk m v
  | 0, _, _, _, h => h.elim
  | m + 1, w, v, cs, ⟨lv, fv, h1, h2, h3⟩ => by
    rw [bulk, bulk, sumL_congr (bulk (m + 1)) (bulk m) v.l (fun x hx => by
      obtain ⟨j, hj⟩ := List.getElem?_of_mem hx
      obtain ⟨c, y, hy, hm⟩ := h2.all j (lt_of_get hj)
      rw [hj] at hy; cases hy; exact bulk_up m hm), sumF_congr (fun x => x.1.size + bulk (m + 1) x.2) (fun x => x.1.size + bulk m x.2) v.f (fun x hx => by
      obtain ⟨j, hj⟩ := List.getElem?_of_mem hx
      obtain ⟨c, y, c', hy, _, hm⟩ := h3.all j (lt_of_get hj)
      rw [hj] at hy; cases hy
      show _ + _ = _ + _
      rw [bulk_up m hm])]
end V
theorem block_set {w : World} {g i : Nat} {cs : Array Value} {t : TypeId} {fr : Nat × Nat} (h : w.heap[g]? = some (.cells cs t fr)) (v : Value) : (w.setCell ⟨g, i, none⟩ v).heap[g]? = some (.cells (cs.setIfInBounds i v) t fr) := by
  rw [setCell_eq_setRow w g i cs t fr v h]
  exact setRow_heap w g _ _ t _ h
theorem set5 {w : World} {g : Nat} {t : TypeId} {z0 z1 z2 z3 z4 : Value} (h : w.heap[g]? = some (.cells #[z0, z1, z2, z3, z4] t (0, 0))) (y0 y1 y2 y3 y4 : Value) :
    (((((w.setCell ⟨g, 0, none⟩ y0).setCell ⟨g, 1, none⟩ y1).setCell ⟨g, 2, none⟩ y2).setCell ⟨g, 3, none⟩ y3).setCell ⟨g, 4, none⟩ y4).heap[g]? = some (.cells #[y0, y1, y2, y3, y4] t (0, 0)) := by
  have h0 := block_set (i := 0) h y0
  have h1 := block_set (i := 1) h0 y1
  have h2 := block_set (i := 2) h1 y2
  have h3 := block_set (i := 3) h2 y3
  exact block_set (i := 4) h3 y4
theorem below5 {w0 w : World} {B g : Nat} (hb : Below B w0 w) (hg : B ≤ g) (y0 y1 y2 y3 y4 : Value) :
    Below B w0 (((((w.setCell ⟨g, 0, none⟩ y0).setCell ⟨g, 1, none⟩ y1).setCell ⟨g, 2, none⟩ y2).setCell ⟨g, 3, none⟩ y3).setCell ⟨g, 4, none⟩ y4) :=
  ((((hb.setCell (p := ⟨g, 0, none⟩) hg _).setCell (p := ⟨g, 1, none⟩) hg _).setCell (p := ⟨g, 2, none⟩) hg _).setCell (p := ⟨g, 3, none⟩) hg _).setCell (p := ⟨g, 4, none⟩) hg _
set_option maxRecDepth 100000 in
set_option maxHeartbeats 1600000 in
theorem refGet_any (m : Nat) (w : World) (v : Val) (s : ByteArray) (c0 c1 c2 c3 c4 : Value) (h : V.Mem (m + 1) w v [c0, c1, c2, c3, c4]) (hbk : V.bulk (m + 1) v ≤ 2000000) :
    Calls Tryd.prog 16 #[.agg #[c0, c1, c2, c3, c4], .string s] w fun e w' => (∃ e0 e1 e2 e3 e4, e = .returned (.tuple #[.agg #[e0, e1, e2, e3, e4], .bool (V.find v.f s).isSome]) ∧ V.Mem (m + 1) w' (V.found v.f s) [e0, e1, e2, e3, e4]) ∧ Below w.heap.size w w' := by
  obtain ⟨lv, fv, hcs, hl, hf⟩ := h
  simp only [List.cons.injEq, and_true] at hcs
  obtain ⟨rfl, rfl, rfl, rfl, rfl⟩ := hcs
  obtain ⟨al, cl, rfl⟩ := hl.shape
  obtain ⟨af, cf, rfl⟩ := hf.shape
  obtain ⟨bs, bl, bf, bn⟩ := V.bulk_s m v _ hbk
  have hbL : Below w.heap.size w ((w.alloc (.cells #[.int .i64 v.kind, .int .i64 v.n, .string v.s, .slice al v.l.length cl, .slice af v.f.length cf] 34)).alloc (.cells #[.int .i64 0, .int .i64 0, .string ⟨#[]⟩, .slice none 0 0, .slice none 0 0] 34)) := ((Below.refl _ _).alloc (Nat.le_refl _) _).alloc (by simp) _
  have hA0 : ((w.alloc (.cells #[.int .i64 v.kind, .int .i64 v.n, .string v.s, .slice al v.l.length cl, .slice af v.f.length cf] 34)).alloc (.cells #[.int .i64 0, .int .i64 0, .string ⟨#[]⟩, .slice none 0 0, .slice none 0 0] 34)).heap[w.heap.size]? = some (.cells #[.int .i64 v.kind, .int .i64 v.n, .string v.s, .slice al v.l.length cl, .slice af v.f.length cf] 34 (0, 0)) := by rw [heap_alloc_old _ _ (by simp)]; exact heap_alloc_new _ _
  have hB0 : ((w.alloc (.cells #[.int .i64 v.kind, .int .i64 v.n, .string v.s, .slice al v.l.length cl, .slice af v.f.length cf] 34)).alloc (.cells #[.int .i64 0, .int .i64 0, .string ⟨#[]⟩, .slice none 0 0, .slice none 0 0] 34)).heap[w.heap.size + 1]? = some (.cells #[.int .i64 0, .int .i64 0, .string ⟨#[]⟩, .slice none 0 0, .slice none 0 0] 34 (0, 0)) := by rw [show w.heap.size + 1 = (w.alloc (.cells #[.int .i64 v.kind, .int .i64 v.n, .string v.s, .slice al v.l.length cl, .slice af v.f.length cf] 34)).heap.size by simp]; exact heap_alloc_new _ _
  have HF : Hid _ := hf
  clear hl hf bn
  go_enter Tryd.func16, Tryd.ntmps16
  go_wp2_with fail
  generalize (w.alloc (.cells #[.int .i64 v.kind, .int .i64 v.n, .string v.s, .slice al v.l.length cl, .slice af v.f.length cf] 34)).alloc (.cells #[.int .i64 0, .int .i64 0, .string ⟨#[]⟩, .slice none 0 0, .slice none 0 0] 34) = w1 at *
  have a4 := cell_of_block hA0 4 _ rfl
  have z0 := cell_of_block hB0 0 _ rfl
  have z1 := cell_of_block hB0 1 _ rfl
  have z2 := cell_of_block hB0 2 _ rfl
  have z3 := cell_of_block hB0 3 _ rfl
  have z4 := cell_of_block hB0 4 _ rfl
  have f0 := free_of_block hB0 0
  have f1 := free_of_block hB0 1
  have f2 := free_of_block hB0 2
  have f3 := free_of_block hB0 3
  have f4 := free_of_block hB0 4
  go_loop [6] (fun vi => ∃ k : Nat, k ≤ v.f.length ∧ vi = .int .i64 k ∧ (∀ (j : Nat) (y : ByteArray × Val), j < k → v.f[j]? = some y → (y.1.toList == s.toList) = false)) (fun vi => v.f.length - (intOf vi).toNat)
  case atStart => exact ⟨0, Nat.zero_le _, rfl, fun j _ hj => absurd hj (by omega)⟩
  case round =>
    obtain ⟨k, hk, rfl, hok⟩ := hrel
    have HOK : Hid _ := hok
    clear hok
    by_cases hlt : k < v.f.length
    · obtain ⟨p, off, cap, x, x0, x1, x2, x3, x4, e1, hx, hm, un, u0, u1, u2, u3, u4⟩ := V.elemF HF.out k hlt
      replace un := kept_cell hbL un
      replace u0 := kept_cell hbL u0
      replace u1 := kept_cell hbL u1
      replace u2 := kept_cell hbL u2
      replace u3 := kept_cell hbL u3
      replace u4 := kept_cell hbL u4
      simp only [Value.slice.injEq] at e1
      obtain ⟨rfl, _, rfl⟩ := e1
      obtain ⟨xal, xcl, xaf, xcf, rfl, rfl, rfl, rfl, rfl⟩ := V.Mem.form hm
      cases hn : (x.1.toList == s.toList)
      · have HN : Hid _ := hn
        have HX : Hid _ := hx
        clear hm hx
        go_wp2_with fail
        go_round
        case rel =>
          refine ⟨k + 1, by omega, by go_num, fun j y hj hy => ?_⟩
          rcases Nat.lt_or_ge j k with h | h
          · exact HOK.out j y h hy
          · rw [show j = k by omega, HX.out] at hy; cases hy; exact HN.out
        case measure => simp [intOf]; omega
      · have E : Hid (V.find v.f s = some x.2) := V.find_some v.f s k x hx hn HOK.out
        have HM : Hid _ := hm
        clear hm hx
        go_wp2_with fail
        have hB2 := set5 hB0 (.int .i64 x.2.kind) (.int .i64 x.2.n) (.string x.2.s) (.slice xal x.2.l.length xcl) (.slice xaf x.2.f.length xcf)
        have hw2 := below5 hbL (Nat.le_succ _) (.int .i64 x.2.kind) (.int .i64 x.2.n) (.string x.2.s) (.slice xal x.2.l.length xcl) (.slice xaf x.2.f.length xcf)
        generalize (((((w1.setCell ⟨w.heap.size + 1, 0, none⟩ (.int .i64 x.2.kind)).setCell ⟨w.heap.size + 1, 1, none⟩ (.int .i64 x.2.n)).setCell ⟨w.heap.size + 1, 2, none⟩ (.string x.2.s)).setCell ⟨w.heap.size + 1, 3, none⟩ (.slice xal x.2.l.length xcl)).setCell ⟨w.heap.size + 1, 4, none⟩ (.slice xaf x.2.f.length xcf)) = w2 at *
        have r0 := cell_of_block hB2 0 _ rfl
        have r1 := cell_of_block hB2 1 _ rfl
        have r2 := cell_of_block hB2 2 _ rfl
        have r3 := cell_of_block hB2 3 _ rfl
        have r4 := cell_of_block hB2 4 _ rfl
        refine bodyPost_ret (v := .tuple #[.agg #[.int .i64 x.2.kind, .int .i64 x.2.n, .string x.2.s, .slice xal x.2.l.length xcl, .slice xaf x.2.f.length xcf], .bool true]) (by simp [results, Tryd.results16, go_sem, r0, r1, r2, r3, r4]) rfl ⟨⟨_, _, _, _, _, by rw [E.out]; rfl, ?_⟩, hw2⟩
        rw [V.found, E.out]
        exact V.Mem.up m (V.Mem.kept m HM.out hw2)
    · have E : Hid (V.find v.f s = none) := V.find_none v.f s (fun j x hj => HOK.out j x (by have := V.lt_of_get hj; omega) hj)
      go_wp2_with fail
      have hB2 := set5 hB0 (.int .i64 0) (.int .i64 0) (.string ⟨#[]⟩) (.slice none 0 0) (.slice none 0 0)
      have hw2 := below5 hbL (Nat.le_succ _) (.int .i64 0) (.int .i64 0) (.string ⟨#[]⟩) (.slice none 0 0) (.slice none 0 0)
      generalize ((((w1.setCell ⟨w.heap.size + 1, 0, none⟩ (.int .i64 0)).setCell ⟨w.heap.size + 1, 1, none⟩ (.int .i64 0)).setCell ⟨w.heap.size + 1, 2, none⟩ (.string ⟨#[]⟩)).setCell ⟨w.heap.size + 1, 3, none⟩ (.slice none 0 0)).setCell ⟨w.heap.size + 1, 4, none⟩ (.slice none 0 0) = w2 at *
      have r0 := cell_of_block hB2 0 _ rfl
      have r1 := cell_of_block hB2 1 _ rfl
      have r2 := cell_of_block hB2 2 _ rfl
      have r3 := cell_of_block hB2 3 _ rfl
      have r4 := cell_of_block hB2 4 _ rfl
      refine bodyPost_ret (v := .tuple #[.agg #[.int .i64 0, .int .i64 0, .string ⟨#[]⟩, .slice none 0 0, .slice none 0 0], .bool false]) (by simp [results, Tryd.results16, go_sem, r0, r1, r2, r3, r4]) rfl ⟨⟨_, _, _, _, _, by rw [E.out]; rfl, ?_⟩, hw2⟩
      rw [V.found, E.out]
      exact V.Mem.zero m w2
end Go.Proofs.YtpoebpknjjfddaaDoor
