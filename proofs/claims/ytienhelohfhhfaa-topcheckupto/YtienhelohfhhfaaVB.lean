/- The document's own answer: how many parts a value has, and how deep it is. -/
import Derived.Test.YtienhelohfhhfaaVA
namespace Go.Proofs.Ytienhelohfhhfaa.Vx
open Go.RowKit
theorem free_of_block {w : World} {g : Nat} {cs : Array Value} {e : TypeId} (h : w.heap[g]? = some (.cells cs e (0, 0))) (j : Nat) : w.frozen? ⟨g, j, none⟩ = false := by simp [World.frozen?, h]
theorem cell_of_block {w : World} {g : Nat} {cs : Array Value} {e : TypeId} (h : w.heap[g]? = some (.cells cs e (0, 0))) (j : Nat) (u : Value) (hu : cs[j]? = some u) : w.cell? ⟨g, j, none⟩ = some u := by rw [cell_of_row w g j cs e (0, 0) h]; exact hu
namespace V
/-- One element of a list of values, cell by cell. -/
theorem elemL {w : World} {v : Value} {n m : Nat} {l : List Val} (h : Row w v n 5 (fun i c => ∃ x, l[i]? = some x ∧ Mem m w x c)) (i : Nat) (hi : i < n) :
    ∃ b off cap x c0 c1 c2 c3 c4, v = .slice (some ⟨b, off, none⟩) n cap ∧ l[i]? = some x ∧ Mem m w x [c0, c1, c2, c3, c4] ∧
      w.cell? ⟨b, off + i * 5, none⟩ = some c0 ∧ w.cell? ⟨b, off + i * 5 + 1, none⟩ = some c1 ∧ w.cell? ⟨b, off + i * 5 + 2, none⟩ = some c2 ∧ w.cell? ⟨b, off + i * 5 + 3, none⟩ = some c3 ∧ w.cell? ⟨b, off + i * 5 + 4, none⟩ = some c4 := by
  obtain ⟨ao, cap, rfl, h | ⟨b, off, rfl, h⟩⟩ := h
  · omega
  · obtain ⟨cs, h1, h2, x, hx, hm⟩ := h i hi
    match cs, h1 with
    | [c0, c1, c2, c3, c4], _ => exact ⟨b, off, cap, x, c0, c1, c2, c3, c4, rfl, hx, hm, h2 0 (by omega), h2 1 (by omega), h2 2 (by omega), h2 3 (by omega), h2 4 (by omega)⟩
/-- One field of a record, cell by cell. -/
theorem elemF {w : World} {v : Value} {n m : Nat} {l : List (ByteArray × Val)} (h : Row w v n 6 (fun i c => ∃ x c', l[i]? = some x ∧ c = .string x.1 :: c' ∧ Mem m w x.2 c')) (i : Nat) (hi : i < n) :
    ∃ b off cap x c0 c1 c2 c3 c4, v = .slice (some ⟨b, off, none⟩) n cap ∧ l[i]? = some x ∧ Mem m w x.2 [c0, c1, c2, c3, c4] ∧ w.cell? ⟨b, off + i * 6, none⟩ = some (.string x.1) ∧
      w.cell? ⟨b, off + i * 6 + 1, none⟩ = some c0 ∧ w.cell? ⟨b, off + i * 6 + 2, none⟩ = some c1 ∧ w.cell? ⟨b, off + i * 6 + 3, none⟩ = some c2 ∧ w.cell? ⟨b, off + i * 6 + 4, none⟩ = some c3 ∧ w.cell? ⟨b, off + i * 6 + 5, none⟩ = some c4 := by
  obtain ⟨ao, cap, rfl, h | ⟨b, off, rfl, h⟩⟩ := h
  · omega
  · obtain ⟨cs, h1, h2, x, c', hx, rfl, hm⟩ := h i hi
    match c', h1 with
    | [c0, c1, c2, c3, c4], _ => exact ⟨b, off, cap, x, c0, c1, c2, c3, c4, rfl, hx, hm, h2 0 (by omega), h2 1 (by omega), h2 2 (by omega), h2 3 (by omega), h2 4 (by omega), h2 5 (by omega)⟩
theorem Row.shape {w : World} {v : Value} {n sz : Nat} {P : Nat → List Value → Prop} (h : Row w v n sz P) : ∃ ao cap, v = .slice ao n cap := by
  obtain ⟨ao, cap, h, _⟩ := h; exact ⟨ao, cap, h⟩
end V
theorem max_if (a b : Nat) : (if a < b then (b : Int) else (a : Int)) = ((max a b : Nat) : Int) := by split <;> omega
end Go.Proofs.Ytienhelohfhhfaa.Vx
