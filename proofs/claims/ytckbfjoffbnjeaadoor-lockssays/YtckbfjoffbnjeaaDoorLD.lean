/- For TopLocks: slices.Sorted laid at this program; slices.Values' own loop, and what slices.AppendSeq collects of it. -/
import Derived.Shelf.SlIter.Sorted
import Derived.Test.YtckbfjoffbnjeaaDoorLC
import Derived.OwnWalkIn
import Derived.TacticsInMore
import Derived.RegionIn
import Derived.LoopNIn
import Derived.LoopIn
namespace Go.Proofs.YtckbfjoffbnjeaaDoor
open Go.RowKit Go.Sort Go.Shelf
def sh_sorted_ren : Go.Shelf.Ren := ⟨fun | 6 => 42 | 8 => 56 | 9 => 51 | 11 => 67 | n => n, fun | 0 => 0 | 24 => 33 | 26 => 9 | 28 => 84 | 33 => 43 | n => n, fun | n => n⟩
theorem sh_sorted : SlLaysZ.n6 Tryd.prog sh_sorted_ren := {
  mixed := by kernel_rfl
  f6 := ⟨ "slices.Sorted[string]", by decide, Tryd.func42.trans (congrArg some (by kernel_rfl))⟩
  f8 := ⟨ "slices.Collect[string]", by decide, Tryd.func56.trans (congrArg some (by kernel_rfl))⟩
  f11 := ⟨ "slices.AppendSeq[[]string,string]", by decide, Tryd.func67.trans (congrArg some (by kernel_rfl))⟩
  t0 := Tryd.underlying0
  a0 := Tryd.isAgg0
  z0 := Tryd.sizeOf0
  v0 := Tryd.zeroValue0
  t24 := Tryd.underlying33
  a24 := Tryd.isAgg33
  z24 := Tryd.sizeOf33
  v24 := Tryd.zeroValue33
  t26 := Tryd.underlying9
  a26 := Tryd.isAgg9
  z26 := Tryd.sizeOf9
  v26 := Tryd.zeroValue9
  t28 := Tryd.underlying84
  a28 := Tryd.isAgg84
  z28 := Tryd.sizeOf84
  v28 := Tryd.zeroValue84
  i26 := by kernel_rfl }
theorem enc_bl (s : ByteArray) : encStr (N.bl s) = .string s := by unfold encStr N.bl; simp
set_option maxRecDepth 100000 in
set_option maxHeartbeats 2000000 in
/-- slices.Values' iterator hands its texts, one by one, to a loop that collects them. -/
theorem values_in (n : Nat) (hn : 2 ≤ n) (w0 : World) (fn : FuncId) (sv : Value) (Bs l D Bm c : Nat) (a : Option Addr) (L : List ByteArray) (W : World) (h : AnyZ.ApAt sh_sorted_ren w0 fn sv Bs l D [] W) (hBl : Bs ≠ l) (hDl : D ≠ l) (hDB : D ≠ Bs) (h0B : w0.heap.size ≤ Bs) (h0l : w0.heap.size ≤ l)
    (hm : w0.cell? ⟨Bm, 0, none⟩ = some (.slice a L.length c)) (hs : Strs w0 (.slice a L.length c) L) (hL : L.length ≤ 1000) :
    CallsIn Fence.wide n Tryd.prog 57 #[.func (.yield l) #[] #[], .pointer (some ⟨Bm, 0, none⟩)] W fun e W' => (∃ v, e = .returned v) ∧ AnyZ.ApAt sh_sorted_ren w0 fn sv Bs l D (L.map N.bl) W' := by
  have hm1 : W.cell? ⟨Bm, 0, none⟩ = some (.slice a L.length c) := kept_cell h.below hm
  refine callsIn_of_wp Tryd.func57 rfl trivial ?_ rfl
  simp only [Tryd.ntmps57, List.size_toArray, List.length_cons, List.length_nil, Nat.reduceAdd, Nat.reduceSub, Array.replicate_succ, Array.replicate_zero, List.push_toArray, List.append_toArray, List.nil_append, List.cons_append]
  gi_wp2
  gi_loopw [7, 4] (fun vi _ wr => ∃ k : Nat, k ≤ L.length ∧ vi = .int .i64 k ∧ AnyZ.ApAt sh_sorted_ren w0 fn sv Bs l D ((L.take k).map N.bl) wr) (fun vi _ _ => L.length - (intOf vi).toNat)
  case atStart => exact ⟨0, Nat.zero_le _, rfl, h⟩
  case round =>
    obtain ⟨wx, hwx⟩ : ∃ z, z = wr := ⟨_, rfl⟩
    subst hwx
    obtain ⟨k, hk, rfl, hJ⟩ := hrel
    by_cases hlt : k < L.length
    · obtain ⟨x, hx⟩ : ∃ x, L[k]? = some x := ⟨_, List.getElem?_eq_getElem hlt⟩
      obtain ⟨b, off, rfl, y0⟩ := (hs.kept hJ.below (Nat.le_refl _)).at hx
      have hlen : ((L.take k).map N.bl).length < L.length := by rw [List.length_map, List.length_take]; omega
      have hY := AnyZ.apYield { sh_sorted with } Fence.wide (n - 1) w0 fn trivial sv Bs l D hBl hDl hDB h0B h0l L.length (by unfold maxLen; omega) (by omega) ((L.take k).map N.bl) (N.bl x) wx hJ hlen
      rw [enc_bl] at hY
      have e : (L.take k).map N.bl ++ [N.bl x] = (L.take (k + 1)).map N.bl := by rw [List.take_add_one, hx]; simp
      rw [e] at hY
      obtain ⟨fn2, tmps, assign, body, hy, hR⟩ := hY
      clear hm1 hx e hlen hJ
      gi_wp2
      refine ⟨fun _ => by omega, hR.mono ?_⟩
      rintro e W3 ⟨rfl, hJ3, _⟩
      gi_wp2
      go_roundw
      case rel => exact ⟨k + 1, by omega, by go_num, hJ3⟩
      case measure => simp [intOf]; omega
    · have hkk : L.take k = L := List.take_of_length_le (by omega)
      rw [hkk] at hJ
      clear hm1
      gi_wp2
      go_end0
      exact ⟨⟨_, rfl⟩, hJ⟩
set_option maxRecDepth 100000 in
set_option maxHeartbeats 2000000 in
/-- slices.AppendSeq(nil, slices.Values(l)): a row of its own with l's texts. -/
theorem appendSeq_any (Bm c : Nat) (a : Option Addr) (L : List ByteArray) (w : World) (hm : w.cell? ⟨Bm, 0, none⟩ = some (.slice a L.length c)) (hs : Strs w (.slice a L.length c) L) (hL : L.length ≤ 1000) :
    CallsIn Fence.wide 4 Tryd.prog 67 #[.slice none 0 0, .func (.func 57) #[] #[.pointer (some ⟨Bm, 0, none⟩)]] w fun e w' => ∃ v, e = .returned v ∧ w'.ownsRow w.heap.size 9 1 v L.length (strs L) ∧ Fr w w' (fun _ => False) := by
  refine callsIn_of_wp_marks Tryd.func67 rfl trivial ?_ rfl
  simp only [Tryd.ntmps67, List.size_toArray, List.length_cons, List.length_nil, Nat.reduceAdd, Nat.reduceSub, Array.replicate_succ, Array.replicate_zero, List.push_toArray, List.append_toArray, List.nil_append, List.cons_append]
  gi_wp2
  refine wpIn_rangeFunc ?_
  intro fn _
  have eb : ∀ args w, (callFunc 57 args).run Tryd.prog w = .ok (.enter 57 args) w := enters_of Tryd.func57 (by kernel_rfl) rfl
  have hne : (33 : TypeId) ≠ 9 := by decide
  obtain ⟨x, hx⟩ : ∃ x, x = w.alloc (.cells #[.slice none 0 0] 33) := ⟨_, rfl⟩
  have xs : x.heap.size = w.heap.size + 1 := by rw [hx]; simp
  have xb : x.heap[w.heap.size]? = some (.cells #[.slice none 0 0] 33 (0, 0)) := by rw [hx]; exact heap_alloc_new _ _
  have xw : Below w.heap.size w x := by rw [hx]; exact (Below.refl _ w).alloc (Nat.le_refl _) _
  rw [← hx]
  clear hx
  obtain ⟨y, hy⟩ : ∃ y, y = (x.alloc (.deferred (some []))).alloc (.loop (AnyZ.apRec sh_sorted_ren fn (.func (.func 57) #[] #[.pointer (some ⟨Bm, 0, none⟩)]) w.heap.size x.heap.size .ready none)) := ⟨_, rfl⟩
  have yx : Fr x y (fun _ => False) := by rw [hy]; exact ((Fr.refl x _).alloc _).alloc _
  have yw : Below w.heap.size w y := by rw [hy]; exact (xw.alloc xw.size _).alloc (by have := xw.size; simp; omega) _
  have yd : y.heap[x.heap.size]? = some (.deferred (some [])) := by
    rw [hy]
    exact (((Fr.refl (x.alloc (.deferred (some []))) (fun _ => False)).alloc _).block x.heap.size (by simp) (fun e => e)).trans (heap_alloc_new x _)
  have yl : y.heap[x.heap.size + 1]? = some (.loop (AnyZ.apRec sh_sorted_ren fn (.func (.func 57) #[] #[.pointer (some ⟨Bm, 0, none⟩)]) w.heap.size x.heap.size .ready none)) := by
    rw [hy]
    have := heap_alloc_new (x.alloc (.deferred (some []))) (.loop (AnyZ.apRec sh_sorted_ren fn (.func (.func 57) #[] #[.pointer (some ⟨Bm, 0, none⟩)]) w.heap.size x.heap.size .ready none))
    rwa [World.size_alloc] at this
  have hAt : AnyZ.ApAt sh_sorted_ren w fn (.func (.func 57) #[] #[.pointer (some ⟨Bm, 0, none⟩)]) w.heap.size (x.heap.size + 1) x.heap.size [] y :=
    ⟨⟨_, (yx.block w.heap.size (by omega) (fun e => e)).trans xb, World.ownsRow_nil .., by simp⟩, yl, yd, yw⟩
  have hV := values_in 3 (by decide) w fn (.func (.func 57) #[] #[.pointer (some ⟨Bm, 0, none⟩)]) w.heap.size (x.heap.size + 1) x.heap.size Bm c a L y hAt (by omega) (by omega) (by omega) (Nat.le_refl _) (by omega) hm hs hL
  refine ⟨x.heap.size + 1, [{ target := .collected x.heap.size, args := #[] }], y, { target := .fn (.func 57) #[.pointer (some ⟨Bm, 0, none⟩)], args := #[.func (.yield (x.heap.size + 1)) #[] #[]] }, y, 57, #[.func (.yield (x.heap.size + 1)) #[] #[], .pointer (some ⟨Bm, 0, none⟩)], y, ?_, ?_, ?_, ?_, fun _ => by decide, ?_⟩
  · rw [hy]; exact run_enterLoop_outer _ _ _ _ _
  · simp [resolve, go_sem]
  · intro f' hf'; trivial
  · simp [invoke, go_sem, eb]
  · clear hy
    refine hV.mono ?_
    rintro e W2 ⟨⟨v0, rfl⟩, h2⟩
    obtain ⟨v, hv, hrow, _⟩ := h2.box
    have hend := run_endLoop (P := Tryd.prog) h2.L (by simp [AnyZ.apRec])
    obtain ⟨W3, hW3⟩ : ∃ W3, W2.putObj (x.heap.size + 1) (.loop { AnyZ.apRec sh_sorted_ren fn (.func (.func 57) #[] #[.pointer (some ⟨Bm, 0, none⟩)]) w.heap.size x.heap.size .ready none with state := .exhausted }) = W3 := ⟨_, rfl⟩
    rw [hW3] at hend
    have hg3 : W2.grownBy W3 (some (x.heap.size + 1)) := by rw [← hW3]; exact grownBy_putObj_a _ _ _
    have hv3 : W3.heap[w.heap.size]? = some (.cells #[v] 33 (0, 0)) := by rw [← hW3]; exact (World.putObj_heap_other (by omega)).trans hv
    have hK3 : W3.heap[x.heap.size]? = some (.deferred (some [])) := by rw [← hW3]; exact (World.putObj_heap_other (by omega)).trans h2.K
    have hrow3 := hrow.kept hg3 (ownsRow_ne_a hrow h2.L (fun cur e => by first | cases e | exact hne (Obj.cells.inj e).2.1))
    have hb3 : Below w.heap.size w W3 := h2.below.grown hg3 h2.below.size (fun k e => by cases e; omega)
    obtain ⟨hc3, hf3⟩ := cell_of_box_a hv3
    have hrow4 := hrow3.kept (grownBy_putObj_a W3 x.heap.size (.deferred none)) (ownsRow_ne_a hrow3 hK3 (fun cur e => by first | cases e | exact hne (Obj.cells.inj e).2.1))
    have eL : (L.map N.bl).map encStr = strs L := by rw [List.map_map]; exact List.map_congr_left (fun s _ => enc_bl s)
    rw [eL, List.length_map] at hrow4
    have hb4 : Below w.heap.size w (W3.putObj x.heap.size (.deferred none)) := hb3.grown (grownBy_putObj_a _ _ _) hb3.size (fun k e => by cases e; omega)
    clear hW3
    refine ⟨none, W3, hend, ?_⟩
    gi_wp2
    rw [xs] at hK3 hrow4 hb4
    refine ⟨by simp, .inl ⟨_, _, rfl, run_takeDeferred hK3, ?_⟩⟩
    exact ⟨_, results_tmp rfl _ _ _, v, rfl, hrow4, fr_below hb4⟩
end Go.Proofs.YtckbfjoffbnjeaaDoor
