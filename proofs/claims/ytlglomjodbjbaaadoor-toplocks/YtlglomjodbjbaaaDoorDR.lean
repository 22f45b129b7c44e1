/- Lists of texts: SameTexts, Records; the number of an error. -/
import Derived.Test.YtlglomjodbjbaaaDoorDM
namespace Go.Proofs.YtlglomjodbjbaaaDoor
open Go.RowKit
attribute [local go_sem ↓] Go.wp_at_zero Go.wp_at_succ
/-- v is a slice of these texts. -/
def Strs (w : World) (v : Value) (l : List ByteArray) : Prop :=
  ∃ ao cap, v = .slice ao l.length cap ∧ (l = [] ∨ ∃ b off, ao = some ⟨b, off, none⟩ ∧ ∀ i x, l[i]? = some x → w.cell? ⟨b, off + i, none⟩ = some (.string x))
theorem Strs.kept {w w' : World} {B : Nat} {v : Value} {l : List ByteArray} (h : Strs w v l) (hb : Below B w w') (hB : w.heap.size ≤ B) : Strs w' v l := by
  obtain ⟨ao, cap, rfl, h⟩ := h
  refine ⟨ao, cap, rfl, ?_⟩
  rcases h with h | ⟨b, off, rfl, h⟩
  · exact .inl h
  · exact .inr ⟨b, off, rfl, fun i x hx => by rw [hb.cell (Nat.lt_of_lt_of_le (World.block_lt_of_cell? w _ (h i x hx)) hB)]; exact h i x hx⟩
theorem Strs.of_owns {w : World} {v : Value} {l : List ByteArray} {base : Nat} (h : w.ownsRow base 9 1 v l.length (strs l)) : Strs w v l := by
  rcases h.2 with ⟨rfl, h0⟩ | ⟨g, cap, cur, rfl, _, hg, _⟩
  · have : l = [] := List.eq_nil_of_length_eq_zero h0
    subst this
    exact ⟨none, 0, rfl, .inl rfl⟩
  · refine ⟨some ⟨g, 0, none⟩, cap, rfl, .inr ⟨g, 0, rfl, fun i x hx => ?_⟩⟩
    have h3 := h.cells (g := g) rfl i (.string x) (by rw [strs, List.getElem?_map, hx]; rfl)
    have e : (⟨g, 0, none⟩ : Addr).add i = ⟨g, i, none⟩ := by unfold Addr.add; split <;> simp_all
    rw [e] at h3
    rw [Nat.zero_add]; exact h3
theorem Strs.at {w : World} {ao : Option Addr} {n cap : Nat} {l : List ByteArray} (h : Strs w (.slice ao n cap) l) {i : Nat} {x : ByteArray} (hx : l[i]? = some x) : ∃ b off, ao = some ⟨b, off, none⟩ ∧ w.cell? ⟨b, off + i, none⟩ = some (.string x) := by
  obtain ⟨ao', cap', q5, q6⟩ := h
  simp only [Value.slice.injEq] at q5
  obtain ⟨rfl, _, rfl⟩ := q5
  rcases q6 with q6 | ⟨b, off, rfl, q6⟩
  · rw [q6] at hx; simp at hx
  · exact ⟨b, off, rfl, q6 i x hx⟩
/-- Some answer; true, if both are the same. -/
def Same (A B : List ByteArray) (o : Ending) : Prop := ∃ b : Bool, o = .returned (.bool b) ∧ (A = B → b = true)

theorem ta_errno (n : Int) (w : World) : (Instr.typeAssert (.iface 49 (.int .i64 n)) 26 49 true).run Tryd.prog w = .ok (.tuple #[.int .i64 n, .bool true]) w := by kernel_rfl

end Go.Proofs.YtlglomjodbjbaaaDoor
