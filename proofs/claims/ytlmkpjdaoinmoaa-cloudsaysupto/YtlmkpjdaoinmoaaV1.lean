/- One memory that says no more than another; memory with holes. -/
import Derived.Test.YtlmkpjdaoinmoaaVU
namespace Go.Proofs.Ytlmkpjdaoinmoaa
open Go.RowKit
/-- What the one's cells say, the other's say too. -/
structure Sub (w w' : World) : Prop where
  cell : ∀ {a : Addr} {v : Value}, w.cell? a = some v → w'.cell? a = some v
  size : w.heap.size ≤ w'.heap.size
theorem Sub.refl (w : World) : Sub w w := ⟨fun h => h, Nat.le_refl _⟩
theorem Sub.of_below {w w' : World} (h : Below w.heap.size w w') : Sub w w' := ⟨fun hc => kept_cell h hc, h.size⟩
theorem Sub.trans {w w1 w2 : World} (h : Sub w w1) (h2 : Sub w1 w2) : Sub w w2 := ⟨fun hc => h2.cell (h.cell hc), Nat.le_trans h.size h2.size⟩
theorem Sub.below {w w1 w2 : World} (h : Sub w w1) (h2 : Below w1.heap.size w1 w2) : Sub w w2 := h.trans (Sub.of_below h2)
theorem Sub.setCell {w w1 : World} (h : Sub w w1) {p : Addr} (hp : w.heap.size ≤ p.block) (u : Value) : Sub w (w1.setCell p u) := by
  refine ⟨fun {a} {v} hc => ?_, by simpa using h.size⟩
  have hlt := World.block_lt_of_cell? w _ hc
  have hne : a.block ≠ p.block := by omega
  have h1 := h.cell hc
  have hb := Below.heap_setCell w1 p u a.block hne
  unfold World.cell? at h1 ⊢
  rw [hb]
  exact h1
theorem Sub.grown {w w1 w2 : World} (h : Sub w w1) {row : Option Nat} (hg : w1.grownBy w2 row) (hr : ∀ c, row = some c → w.heap.size ≤ c) : Sub w w2 := by
  refine ⟨fun {a} {v} hc => ?_, Nat.le_trans h.size hg.size⟩
  have hlt := World.block_lt_of_cell? w _ hc
  have h1 := h.cell hc
  have hlt1 := World.block_lt_of_cell? w1 _ h1
  have hb := hg.block a.block hlt1 (fun e => by have := hr _ e.symm; omega)
  unfold World.cell? at h1 ⊢
  rw [hb]
  exact h1
namespace V
theorem Row.sub {w w' : World} {v : Value} {n sz : Nat} {P Q : Nat → List Value → Prop} (h : Row w v n sz P) (hb : Sub w w') (hPQ : ∀ i c, P i c → Q i c) : Row w' v n sz Q := by
  obtain ⟨ao, cap, rfl, h⟩ := h
  refine ⟨ao, cap, rfl, ?_⟩
  rcases h with h | ⟨b, off, rfl, h⟩
  · exact .inl h
  · refine .inr ⟨b, off, rfl, fun i hi => ?_⟩
    obtain ⟨cs, h1, h2, h3⟩ := h i hi
    refine ⟨cs, h1, fun j hj => ?_, hPQ i cs h3⟩
    rw [← h2 j hj]
    have hc : ∃ u, w.cell? ⟨b, off + i * sz + j, none⟩ = some u := by
      rw [h2 j hj]; exact ⟨_, List.getElem?_eq_getElem (by omega)⟩
    obtain ⟨u, hu⟩ := hc
    rw [hu, hb.cell hu]
theorem Mem.sub : ∀ (m : Nat) {w w' : World} {v : Val} {cs : List Value}, Mem m w v cs → Sub w w' → Mem m w' v cs
  | 0, _, _, _, _, h, _ => h.elim
  | m + 1, _, _, _, _, ⟨lv, fv, h1, h2, h3⟩, hb =>
    ⟨lv, fv, h1, h2.sub hb (fun _ _ ⟨x, hx, hm⟩ => ⟨x, hx, Mem.sub m hm hb⟩), h3.sub hb (fun _ _ ⟨x, c', hx, hc, hm⟩ => ⟨x, c', hx, hc, Mem.sub m hm hb⟩)⟩
end V
end Go.Proofs.Ytlmkpjdaoinmoaa
