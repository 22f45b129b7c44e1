/- A record of fields: what it is; its memory behind the sort. -/
import Derived.Test.YtpoebpknjjfddaaDoorWD
namespace Go.Proofs.YtpoebpknjjfddaaDoor
open Go.RowKit
namespace V
def dupB (l : List (ByteArray × Val)) : Bool := (List.range l.length).any fun j => (List.range j).any fun i => nmAt l i == nmAt l j
theorem dupB_iff (l : List (ByteArray × Val)) : dupB l = true ↔ dupF l := by
  unfold dupB dupF
  simp only [List.any_eq_true, List.mem_range, beq_iff_eq]
  constructor
  · rintro ⟨j, hj, i, hi, e⟩; exact ⟨i, j, hi, hj, e⟩
  · rintro ⟨i, j, hi, hj, e⟩; exact ⟨j, hj, i, hi, e⟩
def recOf (l : List (ByteArray × Val)) : Val := ⟨5, 0, ⟨#[]⟩, [], pickF l (ord l)⟩
def recF (m : Nat) (l : List (ByteArray × Val)) : Nat := if dupB l then 6 else fault (m + 1) (recOf l)
def recV (m : Nat) (l : List (ByteArray × Val)) : Val := if recF m l = 0 then recOf l else zero
theorem pick_len (l : List (ByteArray × Val)) : (pickF l (ord l)).length = l.length := by
  unfold pickF; rw [List.length_map, Array.length_toList, (ord_spec l).1]
theorem pick_get (l : List (ByteArray × Val)) (i : Nat) (hi : i < l.length) : (pickF l (ord l))[i]? = some (fieldAt l (ord l)[i]!) := by
  have hs := (ord_spec l).1
  unfold pickF
  rw [List.getElem?_map, List.getElem?_eq_getElem (by simp; omega), Option.map_some, getElem!_pos (ord l) i (by omega)]
  simp
theorem fieldAt_get (l : List (ByteArray × Val)) (i : Nat) (hi : i < l.length) : l[i]? = some (fieldAt l i) := by
  unfold fieldAt; rw [List.getD_eq_getElem?_getD, List.getElem?_eq_getElem hi]; rfl
theorem pick_perm (l : List (ByteArray × Val)) : (pickF l (ord l)).Perm l := by
  have h := ((ord_spec l).2.1).map (fieldAt l)
  have e : (List.range l.length).map (fieldAt l) = l := by
    apply List.ext_getElem?
    intro i
    rw [List.getElem?_map]
    rcases Nat.lt_or_ge i l.length with hi | hi
    · rw [List.getElem?_range hi, Option.map_some, fieldAt_get l i hi]
    · rw [List.getElem?_eq_none (by simpa using hi), List.getElem?_eq_none hi]; rfl
  rw [e] at h
  exact h
/-- The cells of a list of fields, as they lie. -/
def cellsAt (w : World) (p off n : Nat) : List (List Value) := (List.range n).map fun i => (List.range 6).map fun j => (w.cell? ⟨p, off + i * 6 + j, none⟩).getD undef
theorem cellsAt_get (w : World) (p off n i : Nat) (hi : i < n) : encAt (cellsAt w p off n) i = (List.range 6).map fun j => (w.cell? ⟨p, off + i * 6 + j, none⟩).getD undef := by
  unfold encAt cellsAt
  rw [List.getD_eq_getElem?_getD, List.getElem?_map, List.getElem?_range hi]; rfl
theorem cells_spec {w : World} {m p off cap : Nat} {l : List (ByteArray × Val)} (hf : Row w (.slice (some ⟨p, off, none⟩) l.length cap) l.length 6 (fun i c => ∃ x c', l[i]? = some x ∧ c = .string x.1 :: c' ∧ Mem m w x.2 c')) :
    CellsOf l (cellsAt w p off l.length) ∧ (∀ i, i < l.length → (∀ j, j < 6 → w.cell? ⟨p, off + i * 6 + j, none⟩ = (encAt (cellsAt w p off l.length) i)[j]?) ∧ ∃ c', encAt (cellsAt w p off l.length) i = .string (fieldAt l i).1 :: c' ∧ Mem m w (fieldAt l i).2 c') := by
  have key : ∀ i, i < l.length → ∃ c0 c1 c2 c3 c4, encAt (cellsAt w p off l.length) i = [.string (fieldAt l i).1, c0, c1, c2, c3, c4] ∧ Mem m w (fieldAt l i).2 [c0, c1, c2, c3, c4] ∧ ∀ j, j < 6 → w.cell? ⟨p, off + i * 6 + j, none⟩ = [.string (fieldAt l i).1, c0, c1, c2, c3, c4][j]? := fun i hi => by
    obtain ⟨b, o, cp, x, c0, c1, c2, c3, c4, e1, hx, hm, yn, y0, y1, y2, y3, y4⟩ := elemF hf i hi
    simp only [Value.slice.injEq, Option.some.injEq, Addr.mk.injEq, and_true] at e1
    obtain ⟨⟨rfl, rfl⟩, _, rfl⟩ := e1
    have hxe : x = fieldAt l i := by rw [fieldAt_get l i hi] at hx; exact (Option.some.inj hx).symm
    subst hxe
    refine ⟨c0, c1, c2, c3, c4, ?_, hm, fun j hj => ?_⟩
    · rw [cellsAt_get w p off l.length i hi]
      simp only [List.range_succ_eq_map, List.range_zero, List.map_nil, List.map_cons, Nat.add_zero, Nat.succ_eq_add_one, Nat.zero_add]
      rw [yn, y0, y1, y2, y3, y4]; rfl
    · match j, hj with
      | 0, _ => exact yn
      | 1, _ => exact y0
      | 2, _ => exact y1
      | 3, _ => exact y2
      | 4, _ => exact y3
      | 5, _ => exact y4
  refine ⟨fun i => ?_, fun i hi => ?_⟩
  · rcases Nat.lt_or_ge i l.length with hi | hi
    · obtain ⟨c0, c1, c2, c3, c4, e, hm, _⟩ := key i hi
      refine ⟨c0, c1, c2, c3, c4, e, ?_⟩
      rw [e]
      obtain ⟨_, _, _, _, rfl, rfl, rfl, rfl, rfl⟩ := Mem.form hm
      intro v hv
      simp only [List.mem_cons, List.not_mem_nil, or_false] at hv
      rcases hv with rfl | rfl | rfl | rfl | rfl | rfl <;> rfl
    · have e1 : encAt (cellsAt w p off l.length) i = dcells := by
        unfold encAt cellsAt
        rw [List.getD_eq_getElem?_getD, List.getElem?_eq_none (by simpa using hi)]; rfl
      have e2 : fieldAt l i = dflt := by unfold fieldAt; rw [List.getD_eq_getElem?_getD, List.getElem?_eq_none hi]; rfl
      rw [e1, e2]
      exact ⟨_, _, _, _, _, rfl, by decide⟩
  · obtain ⟨c0, c1, c2, c3, c4, e, hm, hc⟩ := key i hi
    rw [e]
    exact ⟨hc, _, rfl, hm⟩
end V
end Go.Proofs.YtpoebpknjjfddaaDoor
