/- slices.SortFunc of fields by their names. -/
import Derived.Test.YtpoebpknjjfddaaDoorWB
namespace Go.Proofs.YtpoebpknjjfddaaDoor
open Go.RowKit
theorem alloc_grow (w : World) (o1 o2 : Obj) : (w.alloc o1).alloc o2 = Sort.grow (w.drewN 0) #[o1, o2] := by
  unfold World.alloc Sort.grow World.drewN
  simp only [World.mk.injEq, and_true, true_and]
  refine ⟨?_, rfl⟩
  apply Array.ext'
  simp
set_option maxRecDepth 100000 in
set_option maxHeartbeats 400000 in
theorem cmp_any (a b : ByteArray) (x1 x2 x3 x4 x5 y1 y2 y3 y4 y5 : Value) (w : World) :
    Calls Tryd.prog 43 #[.agg #[.string a, x1, x2, x3, x4, x5], .agg #[.string b, y1, y2, y3, y4, y5]] w fun e w' => e = .returned (.int .i64 (Lib.compareBytes (V.bl a) (V.bl b))) ∧ ∃ q os', w' = Sort.grow (w.drewN q) os' := by
  go_enter Tryd.func43, Tryd.ntmps43
  go_wp2_with fail
  refine (sh_strings_Compare a b _).mono ?_
  rintro e w1 ⟨rfl, hw1⟩
  rw [hw1]
  clear hw1
  go_wp2_with fail
  go_ret
  exact ⟨rfl, 0, _, alloc_grow _ _ _⟩
namespace V
def dcells : List Value := [.string ⟨#[]⟩, .int .i64 0, .int .i64 0, .string ⟨#[]⟩, .slice none 0 0, .slice none 0 0]
def encAt (C : List (List Value)) (i : Nat) : List Value := C.getD i dcells
/-- Six cells for each field, the first its name. -/
def CellsOf (l : List (ByteArray × Val)) (C : List (List Value)) : Prop := ∀ i, ∃ x1 x2 x3 x4 x5, encAt C i = [.string (fieldAt l i).1, x1, x2, x3, x4, x5] ∧ ∀ v ∈ encAt C i, v.oneCell' = true
def HasF (w : World) (h : Nat) (C : List (List Value)) (d : Array Nat) : Prop := ∀ i, i < d.size → ∀ j, j < 6 → w.cell? ⟨h, i * 6 + j, none⟩ = (encAt C d[i]!)[j]? ∧ w.frozen? ⟨h, i * 6 + j, none⟩ = false
end V
theorem get_some (L : List Value) (j : Nat) (h : j < L.length) : L[j]? = some L[j]! := by rw [List.getElem?_eq_getElem h, getElem!_pos L j h]
theorem heap_putRow_other (w : World) (blk off c : Nat) (d : Array Value) (h : c ≠ blk) : (Sort.putRow id w blk off d).heap[c]? = w.heap[c]? := by
  unfold Sort.putRow Sort.mapBlock
  simp [Array.getElem?_modify, Ne.symm h]
theorem kind_putRow (w : World) (blk off : Nat) (d : Array Value) (t : TypeId) (h : V.Kind w blk t) : V.Kind (Sort.putRow id w blk off d) blk t := by
  obtain ⟨cs, h⟩ := h
  refine ⟨Sort.putCells id off d cs, ?_⟩
  unfold Sort.putRow Sort.mapBlock
  simp only [Array.getElem?_modify, h, if_true, Option.map_some]
  rfl
theorem sort_any (l : List (ByteArray × Val)) (C : List (List Value)) (hC : V.CellsOf l C) (w : World) (h cap : Nat) (hb : h < w.heap.size) (hH : V.HasF w h C (Array.range l.length)) (h12 : l.length ≤ 12) :
    Calls Tryd.prog 42 #[.slice (some ⟨h, 0, none⟩) l.length cap, .func (.func 43) #[] #[]] w fun e w' => e = .returned (.tuple #[]) ∧ V.HasF w' h C (V.ord l) ∧ (∀ c, c < w.heap.size → c ≠ h → w'.heap[c]? = w.heap[c]?) ∧ w.heap.size ≤ w'.heap.size ∧ w'.os = w.os ∧ w'.tape = w.tape ∧ w'.output = w.output ∧ (V.Kind w h 37 → V.Kind w' h 37) := by
  have hlen : ∀ x, (V.encAt C x).length = 6 := fun x => by obtain ⟨_, _, _, _, _, e, _⟩ := hC x; rw [e]; rfl
  have hone : ∀ x, ∀ v ∈ V.encAt C x, v.oneCell' = true := fun x => by obtain ⟨_, _, _, _, _, _, h⟩ := hC x; exact h
  have hsz : (Array.range l.length).size = l.length := by simp
  have hHK : Sort.HoldsK (V.encAt C) 6 w h 0 (Array.range l.length) := by
    intro t ht
    rw [Sort.size_flatK] at ht
    have hi : t / 6 < (Array.range l.length).size := by omega
    obtain ⟨e1, e2⟩ := hH (t / 6) hi (t % 6) (by omega)
    rw [show t / 6 * 6 + t % 6 = t by omega] at e1 e2
    rw [Nat.zero_add, Sort.get_flatK _ _ _ _ ht]
    refine ⟨?_, e2⟩
    rw [e1]; exact get_some _ _ (by rw [hlen]; omega)
  have hct := sh_slices_SortFunc_small 6 (fun w => Tryd.isAgg37 w) (fun w => Tryd.sizeOf37 w) (V.encAt C) hlen hone (fun i j => Lib.compareBytes (V.nmAt l i) (V.nmAt l j)) 43 #[] h 0 cap (Array.range l.length) w ?_ ?_ hHK hb (by omega) ?_
  · rw [hsz] at hct
    have hord : Sort.insertionSort (ltOf fun i j => Lib.compareBytes (V.nmAt l i) (V.nmAt l j)) (Array.range l.length) 0 l.length = V.ord l := by
      unfold V.ord
      congr 1
      funext i j
      exact V.cmp_less _ _
    rw [hord] at hct
    refine hct.mono ?_
    rintro e w' ⟨rfl, n, os, hw'⟩
    have hso := (V.ord_spec l).1
    have hK := holdsK_sortWorldK_c (V.encAt C) 6 w h 0 (Array.range l.length) (V.ord l) n os hHK hb (by rw [hso, hsz])
    refine ⟨rfl, fun i hi j hj => ?_, fun c hc hch => ?_, ?_, ?_, ?_, ?_, fun hkd => ?_⟩
    · have hk := hK (i * 6 + j) (by rw [Sort.size_flatK]; omega)
      rw [Sort.get_flatK _ _ _ _ (by omega), Nat.zero_add, show (i * 6 + j) / 6 = i by omega, show (i * 6 + j) % 6 = j by omega] at hk
      rw [hw']
      exact ⟨by rw [hk.1]; exact (get_some _ _ (by rw [hlen]; omega)).symm, hk.2⟩
    · rw [hw']
      show ((Sort.putRow id (Sort.ahead w n) h 0 _).heap ++ os)[c]? = _
      rw [Array.getElem?_append_left (by rw [Sort.size_putRow]; exact hc), heap_putRow_other _ _ _ _ _ hch]; rfl
    · rw [hw']; exact size_sortWorldK_c (V.encAt C) 6 w h 0 n (V.ord l) os
    · rw [hw']; rfl
    · rw [hw']; rfl
    · rw [hw']; rfl
    · rw [hw']
      obtain ⟨cs, hcs⟩ := kind_putRow (Sort.ahead w n) h 0 (Sort.flatK (V.encAt C) 6 (V.ord l)) 37 hkd
      refine ⟨cs, ?_⟩
      show ((Sort.putRow id (Sort.ahead w n) h 0 _).heap ++ os)[h]? = _
      rw [Array.getElem?_append_left (by rw [Sort.size_putRow]; exact hb)]
      exact hcs
  · exact enters_of Tryd.func43 (by kernel_rfl) rfl
  · intro k os dk hs x y
    obtain ⟨x1, x2, x3, x4, x5, ex, _⟩ := hC x
    obtain ⟨y1, y2, y3, y4, y5, ey, _⟩ := hC y
    rw [ex, ey]
    exact cmp_any _ _ x1 x2 x3 x4 x5 y1 y2 y3 y4 y5 _
  · intro n W hn
    refine (sh_bits_Len n W (by omega) (by omega)).mono ?_
    rintro e w' ⟨rfl, rfl⟩
    exact ⟨⟨_, rfl⟩, rfl⟩
end Go.Proofs.YtpoebpknjjfddaaDoor
