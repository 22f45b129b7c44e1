/- A list of fields in one block, and two of them that change places. -/
import Derived.Test.YtpoebpknjjfddaaDoorWF
namespace Go.Proofs.YtpoebpknjjfddaaDoor
open Go.RowKit
namespace V
def HasC (w : World) (h : Nat) (C : List (List Value)) (d : Array Nat) : Prop := ∀ i, i < d.size → ∀ j, j < 6 → w.cell? ⟨h, i * 6 + j, none⟩ = (encAt C d[i]!)[j]?
def Six (l : List (ByteArray × Val)) (C : List (List Value)) : Prop := ∀ i, ∃ k n s al a cl af b cf, encAt C i = [.string (fieldAt l i).1, .int .i64 k, .int .i64 n, .string s, .slice al a cl, .slice af b cf]
theorem Six.len {l : List (ByteArray × Val)} {C : List (List Value)} (h : Six l C) (i : Nat) : (encAt C i).length = 6 := by
  obtain ⟨_, _, _, _, _, _, _, _, _, e⟩ := h i; rw [e]; rfl
theorem hasC_set {w : World} {h : Nat} {C : List (List Value)} {d : Array Nat} {l : List (ByteArray × Val)} (h6 : Six l C) (hH : HasC w h C d) (p q : Nat) (hp : p < d.size) : HasC (w.setCells h (p * 6) (encAt C q)) h C (d.setIfInBounds p q) := by
  intro i hi j hj
  rw [Array.size_setIfInBounds] at hi
  by_cases hip : i = p
  · subst hip
    have hx := World.cell?_setCells_in h (encAt C q) (i * 6) w (fun j hj => by
      rw [h6.len] at hj
      rw [hH i hi j hj, List.getElem?_eq_getElem (by rw [h6.len]; exact hj)]; rfl) j (by rw [h6.len]; exact hj)
    have e : (d.setIfInBounds i q)[i]! = q := by
      rw [getElem!_pos _ i (by simpa using hi)]; simp
    rw [e, hx, List.getElem?_eq_getElem (by rw [h6.len]; exact hj)]
  · have e : (d.setIfInBounds p q)[i]! = d[i]! := Sort.getElem!_set_other d p i q hip
    rw [e, World.cell?_setCells_out]
    · exact hH i hi j hj
    · intro _ _
      rw [h6.len]
      show i * 6 + j < p * 6 ∨ p * 6 + 6 ≤ i * 6 + j
      omega
theorem kind_setCells (b : Nat) (t : TypeId) : ∀ (vs : List Value) (o c : Nat) (w : World), Kind w b t → Kind (w.setCells c o vs) b t
  | [], _, _, _, h => h
  | _ :: r, o, c, _, h => kind_setCells b t r (o + 1) c _ (h.set _ _)
theorem heap_setCells_other (b c : Nat) (hc : c ≠ b) : ∀ (vs : List Value) (o : Nat) (w : World), (w.setCells b o vs).heap[c]? = w.heap[c]?
  | [], _, _ => rfl
  | v :: r, o, w => by rw [World.setCells, heap_setCells_other b c hc r (o + 1), heap_setCell_other w _ c _ hc]
theorem below_setCells {w0 : World} {B b : Nat} (hb : B ≤ b) : ∀ (vs : List Value) (o : Nat) (w : World), Below B w0 w → Below B w0 (w.setCells b o vs)
  | [], _, _, h => h
  | v :: r, o, _, h => below_setCells hb r (o + 1) _ (h.setCell (p := ⟨b, o, none⟩) hb v)
theorem hasC_kept {w w' : World} {h : Nat} {C : List (List Value)} {d : Array Nat} (hH : HasC w h C d) (hw : w'.heap[h]? = w.heap[h]?) : HasC w' h C d := by
  intro i hi j hj
  rw [← hH i hi j hj]
  unfold World.cell?
  simp only
  rw [hw]
theorem cells_six {w : World} {m p off cap : Nat} {l : List (ByteArray × Val)} (hf : Row w (.slice (some ⟨p, off, none⟩) l.length cap) l.length 6 (fun i c => ∃ x c', l[i]? = some x ∧ c = .string x.1 :: c' ∧ Mem m w x.2 c')) : Six l (cellsAt w p off l.length) := by
  obtain ⟨hcells, hspec⟩ := cells_spec hf
  intro i
  rcases Nat.lt_or_ge i l.length with hi | hi
  · obtain ⟨_, c', e, hm⟩ := hspec i hi
    obtain ⟨x1, x2, x3, x4, x5, e2, _⟩ := hcells i
    rw [e] at e2
    simp only [List.cons.injEq, true_and] at e2
    subst e2
    obtain ⟨al, cl, af, cf, rfl, rfl, rfl, rfl, rfl⟩ := Mem.form hm
    exact ⟨_, _, _, _, _, _, _, _, _, e⟩
  · have e1 : encAt (cellsAt w p off l.length) i = dcells := by
      unfold encAt cellsAt
      rw [List.getD_eq_getElem?_getD, List.getElem?_eq_none (by simpa using hi)]; rfl
    have e2 : fieldAt l i = dflt := by unfold fieldAt; rw [List.getD_eq_getElem?_getD, List.getElem?_eq_none hi]; rfl
    rw [e1, e2]
    exact ⟨_, _, _, _, _, _, _, _, _, rfl⟩
end V
end Go.Proofs.YtpoebpknjjfddaaDoor
