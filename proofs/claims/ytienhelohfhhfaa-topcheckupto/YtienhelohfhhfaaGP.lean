/- From the reading of an argument to the lists that its cells hold. -/
import Derived.Test.YtienhelohfhhfaaGO
import Derived.Test.YtienhelohfhhfaaRows
import Derived.ChangeArms
import Derived.DataReads
import Derived.ProofKit
import Derived.OpenShut
import Derived.ShutString
import Derived.ReadAgain
import Derived.Carry
import Derived.Lib.LaidTab
import Derived.ChangeReads
import Derived.ChangeOld
import Derived.RowKit3
import Derived.LaidMore
namespace Go.Proofs.Ytienhelohfhhfaa
open Go.RowKit
open Gr (Ints Lists)
/-- A slice of n elements of sz cells each: what each one's cells are is said by P. -/
def Gr.Row (w : World) (v : Value) (n sz : Nat) (P : Nat → List Value → Prop) : Prop :=
  ∃ ao cap, v = .slice ao n cap ∧ (n = 0 ∨ ∃ b off, ao = some ⟨b, off, none⟩ ∧ ∀ i, i < n → ∃ cs : List Value, cs.length = sz ∧ (∀ j, j < sz → w.cell? ⟨b, off + i * sz + j, none⟩ = cs[j]?) ∧ P i cs)
section
variable {H : Type} {enc : TypeId × Value → H} {w : World} {base : Nat} {sp : Nat → Bool} {held : Bool}
set_option maxRecDepth 100000 in
theorem row_of_trod {fuel : Nat} {t e : TypeId} {cs : List Value} {x : DataW H × List MemPlace} (sz : Nat) (ht : Try.prog.underlying t = some (.slice e)) (hc : Try.prog.cellsOf e = sz) (h0 : 0 < sz)
    (h : DataW.trod enc Try.prog w base sp held fuel t cs = some x) :
    ∃ (v : Value) (elems : List (DataW H × List MemPlace)) (k : Nat), cs = [v] ∧ Gr.Row w v elems.length sz (fun i c => ∃ y, elems[i]? = some y ∧ DataW.trod enc Try.prog w base sp held k e c = some y) := by
  rcases DataW.trod_slice ht h with ⟨rfl, rfl⟩ | ⟨a, len, cap, elems, rest, n, rfl, rfl, rfl, _, _, _, hlen, hel, _⟩
  · exact ⟨_, [], 0, rfl, none, 0, rfl, .inl rfl⟩
  · refine ⟨_, elems, n, rfl, ?_⟩
    subst hlen
    refine ⟨some a, cap, rfl, ?_⟩
    by_cases hz : elems.length = 0
    · exact .inl hz
    · have key : ∀ i, i < elems.length → ∃ cs : List Value, cs.length = sz ∧ (∀ j, j < sz → w.cell? ((a.add (i * sz)).add j) = cs[j]?) ∧ ∃ y, elems[i]? = some y ∧ DataW.trod enc Try.prog w base sp held n e cs = some y := by
        intro i hi
        have hE := hel i hi
        rw [hc, List.getElem?_eq_getElem hi, Option.bind_eq_some_iff] at hE
        obtain ⟨c1, h1, h2⟩ := hE
        obtain ⟨_, g1, g2⟩ := World.cells?_some h1
        exact ⟨c1, g1, g2, _, List.getElem?_eq_getElem hi, h2⟩
      have hs : a.spot = none := by
        obtain ⟨c1, g1, g2, _⟩ := key 0 (by omega)
        have := g2 0 h0
        rw [List.getElem?_eq_getElem (by omega)] at this
        have := World.cell?_spot this
        simpa [Addr.add] using this
      obtain ⟨b, off, s⟩ := a
      have hs' : s = none := hs
      subst hs'
      refine .inr ⟨b, off, rfl, fun i hi => ?_⟩
      obtain ⟨c1, g1, g2, g3⟩ := key i hi
      refine ⟨c1, g1, fun j hj => ?_, g3⟩
      rw [← g2 j hj]
      congr 1
      simp only [Addr.add]
      split <;> split <;> simp_all
theorem list_for {β : Type} : ∀ (n : Nat) (R : Nat → β → Prop), (∀ i, i < n → ∃ b, R i b) → ∃ l : List β, l.length = n ∧ ∀ i b, l[i]? = some b → R i b
  | 0, _, _ => ⟨[], rfl, fun i b h => by simp at h⟩
  | n + 1, R, h => by
    obtain ⟨b, hb⟩ := h 0 (by omega)
    obtain ⟨l, h1, h2⟩ := list_for n (fun i => R (i + 1)) (fun i hi => h (i + 1) (by omega))
    refine ⟨b :: l, by simp [h1], fun i x hx => ?_⟩
    cases i with
    | zero => cases hx; exact hb
    | succ i => exact h2 i x (by simpa using hx)
theorem one_cell {w : World} {b off i : Nat} {cs : List Value} {v : Value} (hcs : cs = [v]) (h : ∀ j, j < 1 → w.cell? ⟨b, off + i * 1 + j, none⟩ = cs[j]?) : w.cell? ⟨b, off + i, none⟩ = some v := by
  have := h 0 (by omega)
  rw [hcs, Nat.mul_one, Nat.add_zero] at this
  exact this
theorem u3 : Try.prog.underlying 3 = some (.int .i64) := by kernel_rfl
theorem c3 : Try.prog.cellsOf 3 = 1 := by kernel_rfl
theorem c37 : Try.prog.cellsOf 37 = 1 := by kernel_rfl
theorem ints_of_trod {fuel : Nat} {cs : List Value} {x : DataW H × List MemPlace} (h : DataW.trod enc Try.prog w base sp held fuel 37 cs = some x) : ∃ v l, cs = [v] ∧ Ints w v l := by
  obtain ⟨v, elems, k, rfl, ao, cap, rfl, hR⟩ := row_of_trod 1 Try.underlying37 c3 (by omega) h
  refine ⟨.slice ao elems.length cap, ?_⟩
  rcases hR with h0 | ⟨b, off, rfl, hR⟩
  · exact ⟨[], rfl, ao, cap, by rw [h0]; rfl, .inl rfl⟩
  · obtain ⟨l, h1, h2⟩ := list_for elems.length (fun i (z : Int) => w.cell? ⟨b, off + i, none⟩ = some (.int .i64 z)) (fun i hi => by
      obtain ⟨c, _, q2, y, _, q4⟩ := hR i hi
      obtain ⟨z, hz, _⟩ := DataW.trod_int u3 q4
      exact ⟨z, one_cell hz q2⟩)
    exact ⟨l, rfl, some ⟨b, off, none⟩, cap, by rw [h1], .inr ⟨b, off, rfl, h2⟩⟩
theorem lists_of_trod {fuel : Nat} {cs : List Value} {x : DataW H × List MemPlace} (h : DataW.trod enc Try.prog w base sp held fuel 36 cs = some x) : ∃ v L, cs = [v] ∧ Lists w v L := by
  obtain ⟨v, elems, k, rfl, ao, cap, rfl, hR⟩ := row_of_trod 1 Try.underlying36 c37 (by omega) h
  refine ⟨.slice ao elems.length cap, ?_⟩
  rcases hR with h0 | ⟨b, off, rfl, hR⟩
  · exact ⟨[], rfl, ao, cap, by rw [h0]; rfl, .inl rfl⟩
  · obtain ⟨L, h1, h2⟩ := list_for elems.length (fun i (l : List Int) => ∃ u, w.cell? ⟨b, off + i, none⟩ = some u ∧ Ints w u l) (fun i hi => by
      obtain ⟨c, _, q2, y, _, q4⟩ := hR i hi
      obtain ⟨u, l, hu, hl⟩ := ints_of_trod q4
      exact ⟨l, u, one_cell hu q2, hl⟩)
    exact ⟨L, rfl, some ⟨b, off, none⟩, cap, by rw [h1], .inr ⟨b, off, rfl, h2⟩⟩
end
theorem trodAll_kept {H : Type} {enc : TypeId × Value → H} {w w' : World} {base : Nat} {sp : Nat → Bool} {held : Bool} (hb : Below w.heap.size w w') : ∀ {ts : List TypeId} {vs : List Value} {ds : List (DataW H)} {ps : List MemPlace},
    DataW.TrodAll enc Try.prog w base sp held ts vs ds ps → DataW.TrodAll enc Try.prog w' base sp held ts vs ds ps
  | [], [], [], _, h => h
  | _ :: _, _ :: _, _ :: _, _, ⟨p, q, ⟨n, hn⟩, h2, h3⟩ => ⟨p, q, ⟨n, DataW.trod_carry n _ _ _ hn (fun x hx => hb.same (DataW.trod_lt n _ _ _ hn x hx))⟩, trodAll_kept hb h2, h3⟩
end Go.Proofs.Ytienhelohfhhfaa
