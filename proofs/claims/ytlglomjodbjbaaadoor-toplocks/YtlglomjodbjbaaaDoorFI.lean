/- A disk that does not fall: what is kept of it, and its state in memory beside a row of texts. -/
import Derived.Test.YtlglomjodbjbaaaDoorFH
import Derived.Test.YtlglomjodbjbaaaDoorEH
namespace Go.Proofs.YtlglomjodbjbaaaDoor
open Go.RowKit
attribute [local go_sem ↓] Go.wp_at_zero Go.wp_at_succ
theorem N.bext {a b : ByteArray} (h : a.data.toList = b.data.toList) : a = b := ByteArray.ext (Array.toList_inj.1 h)
theorem step_m1 {D : Dk} (h : D.left = -1) : D.step.left = -1 := by
  show (if 0 < D.left then D.left - 1 else D.left) = -1
  rw [h]; decide
theorem fr_below {w w' : World} (h : Below w.heap.size w w') : Fr w w' (fun _ => False) := ⟨h.1, h.2, h.3, h.4, fun c hc _ => h.5 c hc⟩
theorem below_fr' {w w' : World} (h : Fr w w' (fun _ => False)) : Below w.heap.size w w' := h.below (Nat.le_refl _) (fun _ e => e.elim)
/-- What holds of a disk that has not fallen. -/
structure Inv (D : Dk) (b : Int) (m : Nat) : Prop where
  files : D.files = D.keep4 D.chg.length
  good : ∀ k, k ≤ D.chg.length → M.Good (D.keep4 k)
  kinds : ∀ c ∈ D.chg, c.kinds
  data : ∀ c ∈ D.chg, c.data.size ≤ 4000
  len : D.chg.length ≤ m
  down : D.down = false
  steps : 0 ≤ D.steps ∧ D.steps ≤ b
  left : D.left = -1
theorem Inv.new : Inv Dk.new 0 0 := by
  refine ⟨rfl, fun k _ => ?_, fun c hc => (by cases hc), fun c hc => (by cases hc), Nat.le_refl _, rfl, (by decide), rfl⟩
  have : Dk.new.keep4 k = [] := by unfold Dk.keep4; show ((([] : List Ch).take k)).foldl _ [] = []; simp
  rw [this]; exact M.Good.empty
theorem Inv.goodF {D : Dk} {b : Int} {m : Nat} (h : Inv D b m) : M.Good D.files := by rw [h.files]; exact h.good _ (Nat.le_refl _)
theorem Inv.not_fails {D : Dk} {b : Int} {m : Nat} (h : Inv D b m) : ¬ D.fails := fun hf => by
  rcases hf with hf | hf
  · rw [h.left] at hf; cases hf
  · rw [h.down] at hf; cases hf
theorem Inv.up {D : Dk} {b b2 : Int} {m m2 : Nat} (h : Inv D b m) (hb : b ≤ b2) (hm : m ≤ m2) : Inv D b2 m2 := ⟨h.files, h.good, h.kinds, h.data, Nat.le_trans h.len hm, h.down, ⟨h.steps.1, by have := h.steps.2; omega⟩, h.left⟩
theorem did4_keep (D : Dk) (c : Ch) {k : Nat} (hk : k ≤ D.chg.length) : (D.did4 c).keep4 k = D.keep4 k := by
  unfold Dk.keep4
  have e : (D.did4 c).chg = D.chg ++ [c] := rfl
  rw [e, List.take_append_of_le_length hk]
  rfl
theorem did4_last (D : Dk) (c : Ch) : (D.did4 c).keep4 (D.chg.length + 1) = c.act (D.keep4 D.chg.length) := by
  have e2 : (D.did4 c).chg[D.chg.length]? = some c := by show (D.chg ++ [c])[D.chg.length]? = _; simp
  rw [Dk.keep4_next e2, did4_keep D c (Nat.le_refl _)]
theorem Inv.did {D : Dk} {b : Int} {m : Nat} (h : Inv D b m) {c : Ch} (hk : c.kinds) (hd : c.data.size ≤ 4000) (hg : M.Good (c.act D.files)) : Inv (D.did4 c) (b + 1) (m + 1) := by
  have e : (D.did4 c).chg = D.chg ++ [c] := rfl
  have el : (D.did4 c).chg.length = D.chg.length + 1 := by rw [e]; simp
  refine ⟨?_, ?_, ?_, ?_, by rw [el]; have := h.len; omega, h.down, ⟨?_, ?_⟩, step_m1 h.left⟩
  · rw [el, did4_last, ← h.files]; rfl
  · intro k hk2
    rw [el] at hk2
    by_cases hlt : k ≤ D.chg.length
    · rw [did4_keep D c hlt]; exact h.good k hlt
    · have : k = D.chg.length + 1 := by omega
      rw [this, did4_last, ← h.files]; exact hg
  · intro x hx
    rw [e] at hx
    rcases List.mem_append.1 hx with hx | hx
    · exact h.kinds x hx
    · have : x = c := by simpa using hx
      rw [this]; exact hk
  · intro x hx
    rw [e] at hx
    rcases List.mem_append.1 hx with hx | hx
    · exact h.data x hx
    · have : x = c := by simpa using hx
      rw [this]; exact hd
  · show 0 ≤ D.steps + 1; have := h.steps; omega
  · show D.steps + 1 ≤ b + 1; have := h.steps; omega
theorem Inv.step {D : Dk} {b : Int} {m : Nat} (h : Inv D b m) : Inv D.step (b + 1) m :=
  ⟨h.files, h.good, h.kinds, h.data, h.len, h.down, (by show 0 ≤ D.steps + 1 ∧ D.steps + 1 ≤ b + 1; have := h.steps; omega), step_m1 h.left⟩
theorem Inv.sync {D : Dk} {b : Int} {m : Nat} (h : Inv D b m) : Inv D.synced4 (b + 1) 0 := by
  have e : ∀ k, D.synced4.keep4 k = D.files := by
    intro k
    unfold Dk.keep4
    show (([] : List Ch).take k).foldl _ (D.keep4 D.chg.length) = _
    rw [h.files]; simp
  refine ⟨?_, fun k _ => by rw [e]; exact h.goodF, fun c hc => (by cases hc), fun c hc => (by cases hc), Nat.le_refl _, h.down, (by show 0 ≤ D.steps + 1 ∧ D.steps + 1 ≤ b + 1; have := h.steps; omega), step_m1 h.left⟩
  rw [e]; rfl
theorem Inv.sizes {D : Dk} {b : Int} {m : Nat} (h : Inv D b m) : ∀ k c, D.chg[k]? = some c → c.data.size ≤ 1000000 ∧ ((M.get (D.keep4 k) c.name).getD ⟨#[]⟩).size ≤ 1000000 := by
  intro k c hc
  have h1 := h.data c (List.mem_of_getElem? hc)
  have h2 := (h.good k (Nat.le_of_lt (List.getElem?_eq_some_iff.1 hc).1)).get c.name
  exact ⟨by omega, by omega⟩
end Go.Proofs.YtlglomjodbjbaaaDoor
