/- For TopToken and CloudSays: values that lie apart from the blocks that change; Copy of them; attributes. -/
import Derived.Test.YtlmkpjdaoinmoaaCB
namespace Go.Proofs.Ytlmkpjdaoinmoaa
open Go.RowKit
attribute [local go_sem ↓] Go.wp_at_zero Go.wp_at_succ
theorem cell_block {w w' : World} {a : Addr} {v : Value} (h : w.cell? a = some v) (hb : w'.heap[a.block]? = w.heap[a.block]?) : w'.cell? a = some v := by
  unfold World.cell? at h ⊢
  rw [hb]
  exact h
/-- A memory in which these blocks say nothing, and the others what they say. -/
theorem hole_exists (w : World) (ex : Nat → Prop) : ∃ w0 : World, w0.heap.size = w.heap.size ∧ (∀ c, ¬ ex c → w0.heap[c]? = w.heap[c]?) ∧ ∀ a v, ex a.block → w0.cell? a ≠ some v := by
  classical
  refine ⟨{ w with heap := w.heap.mapIdx (fun i o => if ex i then .map #[] 0 else o) }, by simp, fun c hc => ?_, fun a v he h => ?_⟩
  · simp only [Array.getElem?_mapIdx, if_neg hc]
    cases w.heap[c]? <;> rfl
  · unfold World.cell? at h
    simp only [Array.getElem?_mapIdx, if_pos he] at h
    cases hh : w.heap[a.block]? with
    | none => rw [hh] at h; cases h
    | some o => rw [hh] at h; cases h
/-- A memory cut off at a size. -/
theorem cut_exists (w : World) (n : Nat) (hn : n ≤ w.heap.size) : ∃ w0 : World, w0.heap.size = n ∧ (∀ c, c < n → w0.heap[c]? = w.heap[c]?) ∧ Sub w0 w := by
  refine ⟨{ w with heap := w.heap.extract 0 n }, by simp; omega, fun c hc => ?_, ⟨fun {a} {v} h => ?_, by simp; omega⟩⟩
  · simp [Array.getElem?_extract]
    omega
  · have hlt := World.block_lt_of_cell? _ _ h
    have hlt2 : a.block < n := by simpa using Nat.lt_of_lt_of_le hlt (by simp; omega)
    refine cell_block h ?_
    simp [Array.getElem?_extract]
    omega
/-- These cells hold that tree, whatever becomes of these blocks. -/
def V.MemX (ex : Nat → Prop) (m : Nat) (w : World) (v : Val) (cs : List Value) : Prop := ∀ w2 : World, w.heap.size ≤ w2.heap.size → (∀ c, c < w.heap.size → ¬ ex c → w2.heap[c]? = w.heap[c]?) → V.Mem m w2 v cs
theorem V.MemX.mem {ex : Nat → Prop} {m : Nat} {w : World} {v : Val} {cs : List Value} (h : V.MemX ex m w v cs) : V.Mem m w v cs := h w (Nat.le_refl _) (fun _ _ _ => rfl)
theorem V.MemX.fr {ex : Nat → Prop} {m : Nat} {w w' : World} {v : Val} {cs : List Value} (h : V.MemX ex m w v cs) (hf : Fr w w' ex) : V.MemX ex m w' v cs := fun w2 hs hc =>
  h w2 (Nat.le_trans hf.size hs) (fun c hlt hn => (hc c (Nat.lt_of_lt_of_le hlt hf.size) hn).trans (hf.block c hlt hn))
theorem V.MemX.more {ex ex2 : Nat → Prop} {m : Nat} {w : World} {v : Val} {cs : List Value} (h : V.MemX ex m w v cs) (hx : ∀ c, ex2 c → ex c ∨ w.heap.size ≤ c) : V.MemX ex2 m w v cs := fun w2 hs hc =>
  h w2 hs (fun c hlt hn => hc c hlt (fun e => (hx c e).elim hn (fun h2 => by omega)))
/-- What came in lies apart from all that was made since. -/
theorem V.MemX.old {ex : Nat → Prop} {m : Nat} {w0 w : World} {v : Val} {cs : List Value} (h : V.Mem m w0 v cs) (hb : Below w0.heap.size w0 w) (hx : ∀ c, ex c → w0.heap.size ≤ c) : V.MemX ex m w v cs := fun w2 hs hc =>
  h.sub m ⟨fun {a} {u} hu => by
    have hlt := World.block_lt_of_cell? _ _ hu
    exact cell_block hu ((hc a.block (Nat.lt_of_lt_of_le hlt hb.size) (fun e => by have := hx _ e; omega)).trans (hb.block a.block hlt)), Nat.le_trans hb.size hs⟩
/-- A copy of a value that lies apart lies apart. -/
theorem copyX_any (ex : Nat → Prop) (m : Nat) (w : World) (v : Val) (c0 c1 c2 c3 c4 : Value) (hM : V.MemX ex (m + 1) w v [c0, c1, c2, c3, c4]) (hex : ∀ c, ex c → c < w.heap.size) (hbk : V.bulk (m + 1) v ≤ 2000000) :
    Calls Try.prog 36 #[.agg #[c0, c1, c2, c3, c4]] w fun e w' => (∃ e0 e1 e2 e3 e4, e = .returned (.agg #[e0, e1, e2, e3, e4]) ∧ V.MemX ex (m + 1) w' v [e0, e1, e2, e3, e4]) ∧ Below w.heap.size w w' := by
  obtain ⟨w0, hz, hsame, hnone⟩ := hole_exists w ex
  have hnot : ∀ {a : Addr} {u : Value}, w0.cell? a = some u → ¬ ex a.block := fun {a} {u} hu he => hnone a u he hu
  have hM0 : V.Mem (m + 1) w0 v [c0, c1, c2, c3, c4] := hM w0 (by omega) (fun c _ hn => hsame c hn)
  have hs0 : Sub w0 w := ⟨fun {a} {u} hu => cell_block hu (hsame a.block (hnot hu)).symm, by omega⟩
  refine (copy_all m w0 w w.heap.size (by omega) (Nat.le_refl _) v c0 c1 c2 c3 c4 hs0 (V.Core5.old hM0) hbk).mono ?_
  rintro e w' ⟨⟨e0, e1, e2, e3, e4, rfl, h⟩, hb⟩
  refine ⟨⟨e0, e1, e2, e3, e4, rfl, fun w2 hs hc => ?_⟩, hb⟩
  obtain ⟨w3, hz3, hc3, hs3⟩ := cut_exists w2 w'.heap.size hs
  refine (h w3 ⟨fun {a} {u} hu => ?_, by have := hb.size; omega⟩ (fun c hcs => ?_)).sub (m + 1) hs3
  · have hlt := World.block_lt_of_cell? _ _ hu
    have hn := hnot hu
    have h1 : a.block < w'.heap.size := by have := hb.size; omega
    refine cell_block hu ?_
    rw [hc3 _ h1, hc _ h1 hn, hb.block _ (by omega), hsame _ hn]
  · by_cases h1 : c < w'.heap.size
    · rw [hc3 _ h1]
      exact hc c h1 (fun e => by have := hex c e; omega)
    · rw [Array.getElem?_eq_none (by omega), Array.getElem?_eq_none (by omega)]
end Go.Proofs.Ytlmkpjdaoinmoaa
