/- A disk that does not fall: what is kept of it, and its state in memory beside a row of texts. -/
import Derived.Test.YtmlbcdofogffkabFH
import Derived.Test.YtmlbcdofogffkabEH
namespace Go.Proofs.Ytmlbcdofogffkab
open Go.RowKit
attribute [local go_sem ↓] Go.wp_at_zero Go.wp_at_succ
/-- What holds of a disk that has not fallen. -/
structure Inv (D : Dk) (b : Int) (m : Nat) : Prop where
  files : D.files = D.keep4 D.chg.length
  good : ∀ k, k ≤ D.chg.length → M.Good (D.keep4 k)
  kinds : ∀ c ∈ D.chg, c.kinds
  data : ∀ c ∈ D.chg, c.data.size ≤ 4000
  len : D.chg.length ≤ m
  down : D.down = false
  steps : 0 ≤ D.steps ∧ D.steps ≤ b
  left : D.left = -1
theorem Inv.new : Inv Dk.new 0 0 := by
  refine ⟨rfl, fun k _ => ?_, fun c hc => (by cases hc), fun c hc => (by cases hc), Nat.le_refl _, rfl, (by decide), rfl⟩
  have : Dk.new.keep4 k = [] := by unfold Dk.keep4; show ((([] : List Ch).take k)).foldl _ [] = []; simp
  rw [this]; exact M.Good.empty
theorem Inv.goodF {D : Dk} {b : Int} {m : Nat} (h : Inv D b m) : M.Good D.files := by rw [h.files]; exact h.good _ (Nat.le_refl _)
theorem Inv.not_fails {D : Dk} {b : Int} {m : Nat} (h : Inv D b m) : ¬ D.fails := fun hf => by
  rcases hf with hf | hf
  · rw [h.left] at hf; cases hf
  · rw [h.down] at hf; cases hf
theorem Inv.up {D : Dk} {b b2 : Int} {m m2 : Nat} (h : Inv D b m) (hb : b ≤ b2) (hm : m ≤ m2) : Inv D b2 m2 := ⟨h.files, h.good, h.kinds, h.data, Nat.le_trans h.len hm, h.down, ⟨h.steps.1, by have := h.steps.2; omega⟩, h.left⟩
theorem did4_keep (D : Dk) (c : Ch) {k : Nat} (hk : k ≤ D.chg.length) : (D.did4 c).keep4 k = D.keep4 k := by
  unfold Dk.keep4
  have e : (D.did4 c).chg = D.chg ++ [c] := rfl
  rw [e, List.take_append_of_le_length hk]
  rfl
theorem did4_last (D : Dk) (c : Ch) : (D.did4 c).keep4 (D.chg.length + 1) = c.act (D.keep4 D.chg.length) := by
  have e2 : (D.did4 c).chg[D.chg.length]? = some c := by show (D.chg ++ [c])[D.chg.length]? = _; simp
  rw [Dk.keep4_next e2, did4_keep D c (Nat.le_refl _)]
theorem Inv.did {D : Dk} {b : Int} {m : Nat} (h : Inv D b m) {c : Ch} (hk : c.kinds) (hd : c.data.size ≤ 4000) (hg : M.Good (c.act D.files)) : Inv (D.did4 c) (b + 1) (m + 1) := by
  have e : (D.did4 c).chg = D.chg ++ [c] := rfl
  have el : (D.did4 c).chg.length = D.chg.length + 1 := by rw [e]; simp
  refine ⟨?_, ?_, ?_, ?_, by rw [el]; have := h.len; omega, h.down, ⟨?_, ?_⟩, step_m1 h.left⟩
  · rw [el, did4_last, ← h.files]; rfl
  · intro k hk2
    rw [el] at hk2
    by_cases hlt : k ≤ D.chg.length
    · rw [did4_keep D c hlt]; exact h.good k hlt
    · have : k = D.chg.length + 1 := by omega
      rw [this, did4_last, ← h.files]; exact hg
  · intro x hx
    rw [e] at hx
    rcases List.mem_append.1 hx with hx | hx
    · exact h.kinds x hx
    · have : x = c := by simpa using hx
      rw [this]; exact hk
  · intro x hx
    rw [e] at hx
    rcases List.mem_append.1 hx with hx | hx
    · exact h.data x hx
    · have : x = c := by simpa using hx
      rw [this]; exact hd
  · show 0 ≤ D.steps + 1; have := h.steps; omega
  · show D.steps + 1 ≤ b + 1; have := h.steps; omega
theorem Inv.step {D : Dk} {b : Int} {m : Nat} (h : Inv D b m) : Inv D.step (b + 1) m :=
  ⟨h.files, h.good, h.kinds, h.data, h.len, h.down, (by show 0 ≤ D.steps + 1 ∧ D.steps + 1 ≤ b + 1; have := h.steps; omega), step_m1 h.left⟩
theorem Inv.sync {D : Dk} {b : Int} {m : Nat} (h : Inv D b m) : Inv D.synced4 (b + 1) 0 := by
  have e : ∀ k, D.synced4.keep4 k = D.files := by
    intro k
    unfold Dk.keep4
    show (([] : List Ch).take k).foldl _ (D.keep4 D.chg.length) = _
    rw [h.files]; simp
  refine ⟨?_, fun k _ => by rw [e]; exact h.goodF, fun c hc => (by cases hc), fun c hc => (by cases hc), Nat.le_refl _, h.down, (by show 0 ≤ D.steps + 1 ∧ D.steps + 1 ≤ b + 1; have := h.steps; omega), step_m1 h.left⟩
  rw [e]; rfl
theorem Inv.sizes {D : Dk} {b : Int} {m : Nat} (h : Inv D b m) : ∀ k c, D.chg[k]? = some c → c.data.size ≤ 1000000 ∧ ((M.get (D.keep4 k) c.name).getD ⟨#[]⟩).size ≤ 1000000 := by
  intro k c hc
  have h1 := h.data c (List.mem_of_getElem? hc)
  have h2 := (h.good k (Nat.le_of_lt (List.getElem?_eq_some_iff.1 hc).1)).get c.name
  exact ⟨by omega, by omega⟩
/-- The disk in memory, beside a row of texts. -/
def Dsk (w wx : World) (g : Nat) (vw : Value) (G : List ByteArray) (D : Dk) (b : Int) (m : Nat) : Prop :=
  ∃ B, Disk wx B g D ∧ Inv D b m ∧ (∀ x, B x → w.heap.size ≤ x ∧ x < wx.heap.size) ∧ Beside w.heap.size wx B vw G ∧ Fr w wx (fun _ => False)
theorem Dsk.fr {w wx : World} {g : Nat} {vw : Value} {G : List ByteArray} {D : Dk} {b : Int} {m : Nat} (h : Dsk w wx g vw G D b m) : Fr w wx (fun _ => False) := by
  obtain ⟨B, _, _, _, _, h5⟩ := h; exact h5
theorem Dsk.inv {w wx : World} {g : Nat} {vw : Value} {G : List ByteArray} {D : Dk} {b : Int} {m : Nat} (h : Dsk w wx g vw G D b m) : Inv D b m := by
  obtain ⟨B, _, h2, _⟩ := h; exact h2
theorem Dsk.strs {w wx : World} {g : Nat} {vw : Value} {G : List ByteArray} {D : Dk} {b : Int} {m : Nat} (h : Dsk w wx g vw G D b m) : Strs wx vw G := by
  obtain ⟨B, _, _, _, h4, _⟩ := h; exact h4.strs
theorem Dsk.up {w wx : World} {g : Nat} {vw : Value} {G : List ByteArray} {D : Dk} {b b2 : Int} {m m2 : Nat} (h : Dsk w wx g vw G D b m) (hb : b ≤ b2) (hm : m ≤ m2) : Dsk w wx g vw G D b2 m2 := by
  obtain ⟨B, h1, h2, h3⟩ := h; exact ⟨B, h1, h2.up hb hm, h3⟩
theorem Dsk.kept {w wx w2 : World} {g : Nat} {vw : Value} {G : List ByteArray} {D : Dk} {b : Int} {m : Nat} (h : Dsk w wx g vw G D b m) (hf : Fr wx w2 (fun _ => False)) : Dsk w w2 g vw G D b m := by
  obtain ⟨B, h1, h2, h3, h4, h5⟩ := h
  have hs := hf.size
  exact ⟨B, h1.fr hf (fun _ _ e => e), h2, fun x hx => ⟨(h3 x hx).1, by have := (h3 x hx).2; omega⟩, h4.fr hf (fun c e => e.elim) (fun c e => .inl e), h5.trans hf (fun _ _ e => e)⟩
/-- Another row, in new blocks. -/
theorem Dsk.turn {w wx w2 : World} {g : Nat} {vw v2 : Value} {G G2 : List ByteArray} {D : Dk} {b : Int} {m : Nat} (h : Dsk w wx g vw G D b m) (hf : Fr wx w2 (fun _ => False)) (ho : w2.ownsRow wx.heap.size 9 1 v2 G2.length (_root_.Go.Proofs.Ytmlbcdofogffkab.strs G2)) : Dsk w w2 g v2 G2 D b m := by
  obtain ⟨B, h1, h2, h3, h4, h5⟩ := h
  have hs := hf.size
  have h0 := h5.size
  refine ⟨B, h1.fr hf (fun _ _ e => e), h2, fun x hx => ⟨(h3 x hx).1, by have := (h3 x hx).2; omega⟩, ⟨⟨ho.1, ?_⟩, ?_⟩, h5.trans hf (fun _ _ e => e)⟩
  · rcases ho.2 with a | ⟨gr, cap, cur, a1, a2, a3⟩
    · exact .inl a
    · exact .inr ⟨gr, cap, cur, a1, by omega, a3⟩
  · intro c hc
    rcases ho.2 with ⟨a, _⟩ | ⟨gr, cap, cur, a1, a2, a3, _⟩
    · rw [a] at hc; cases hc
    · rw [a1] at hc
      have : c = gr := by simp [Value.ownBlock] at hc; omega
      subst this
      exact ⟨(Array.getElem?_eq_some_iff.1 a3).1, fun e => by have := (h3 c e).2; omega⟩
/-- The row itself has grown. -/
theorem Dsk.grows {w wx w2 : World} {g : Nat} {vw v2 : Value} {G G2 : List ByteArray} {D : Dk} {b : Int} {m : Nat} (h : Dsk w wx g vw G D b m) {W : World} (hW : Fr wx W (fun _ => False)) (hg : W.grownBy w2 vw.ownBlock) (ho : w2.ownsRow w.heap.size 9 1 v2 G2.length (_root_.Go.Proofs.Ytmlbcdofogffkab.strs G2)) (hat : ∀ c, v2.ownBlock = some c → vw.ownBlock = some c ∨ W.heap.size ≤ c) : Dsk w w2 g v2 G2 D b m := by
  obtain ⟨B, h1, h2, h3, h4, h5⟩ := h.kept hW
  have hs := hg.size
  have hfr : Fr W w2 (fun c => vw.ownBlock = some c) := ⟨hg.os, hg.tape, hg.output, hg.size, fun c hc he => hg.block c hc (fun e => he e.symm)⟩
  have hdis : ∀ c, B c → ¬ vw.ownBlock = some c := fun c hc e => (h4.2 c e).2 hc
  refine ⟨B, h1.fr hfr hdis, h2, fun x hx => ⟨(h3 x hx).1, by have := (h3 x hx).2; omega⟩, ⟨ho, fun c hc => ⟨(ho.lt c hc).2, fun e => ?_⟩⟩, h5.trans hfr (fun c hc e => ?_)⟩
  · rcases hat c hc with h6 | h6
    · exact hdis c e h6
    · have := (h3 c e).2; omega
  · have := (h4.1.lt c e).1
    omega
/-- What a change makes of it. -/
theorem dsk_changed {w wx w2 : World} {B : Nat → Prop} {g : Nat} {vw : Value} {G : List ByteArray} {D D' : Dk} {k : Nat} {o : Ending} {b : Int} {m : Nat} (h1 : Disk wx B g D) (h2 : Inv D b m) (h3 : ∀ x, B x → w.heap.size ≤ x ∧ x < wx.heap.size) (h4 : Beside w.heap.size wx B vw G) (h5 : Fr w wx (fun _ => False))
    (hI : k = 0 → Inv D' (b + 1) (m + 1)) (hc : Changed wx w2 B g D D' k o) : (∃ e : Int, o = .returned (.iface 128 (.int .i64 e)) ∧ Dsk w w2 g vw G D b m) ∨ (k = 0 ∧ o = .returned .nilIface ∧ Dsk w w2 g vw G D' (b + 1) (m + 1)) := by
  have hs := h5.size
  rcases hc with ⟨hk, rfl, hf⟩ | ⟨hk, hd, hf⟩
  · exact .inl ⟨k, by rw [errV_ne hk], Dsk.kept ⟨B, h1, h2, h3, h4, h5⟩ hf⟩
  · rcases hd with ⟨hfa, _⟩ | ⟨_, rfl, B', hD', hB'⟩
    · exact absurd hfa h2.not_fails
    · have hs2 := hf.size
      refine .inr ⟨hk, rfl, _, hD'.shrink, hI hk, fun x hx => ⟨?_, hx.2⟩, h4.fr hf (fun c e => .inl e) (fun c e => hB' c e.1), h5.trans hf (fun c hc e => by have := (h3 c e).1; omega)⟩
      rcases hB' x hx.1 with h | h
      · exact (h3 x h).1
      · omega
end Go.Proofs.Ytmlbcdofogffkab
