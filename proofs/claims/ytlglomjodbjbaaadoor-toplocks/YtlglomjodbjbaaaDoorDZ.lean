/- From the reading of an argument to the texts that its cells hold. -/
import Derived.Test.YtlglomjodbjbaaaDoorDR
import Derived.Deep.CutBlock
import Derived.Test.YtlglomjodbjbaaaDoorRows
import Derived.ChangeArms
import Derived.DataReads
import Derived.ProofKit
import Derived.OpenShut
import Derived.ShutString
import Derived.ReadAgain
import Derived.Carry
import Derived.Lib.LaidTab
import Derived.ChangeReads
import Derived.ChangeOld
import Derived.RowKit3
import Derived.LaidMore
namespace Go.Proofs.YtlglomjodbjbaaaDoor
open Go.RowKit
section
variable {H : Type} {enc : TypeId × Value → H} {w : World} {base : Nat} {sp : Nat → Bool} {held : Bool}
theorem list_for {β : Type} : ∀ (n : Nat) (R : Nat → β → Prop), (∀ i, i < n → ∃ b, R i b) → ∃ l : List β, l.length = n ∧ ∀ i b, l[i]? = some b → R i b
  | 0, _, _ => ⟨[], rfl, fun i b h => by simp at h⟩
  | n + 1, R, h => by
    obtain ⟨b, hb⟩ := h 0 (by omega)
    obtain ⟨l, h1, h2⟩ := list_for n (fun i => R (i + 1)) (fun i hi => h (i + 1) (by omega))
    refine ⟨b :: l, by simp [h1], fun i x hx => ?_⟩
    cases i with
    | zero => cases hx; exact hb
    | succ i => exact h2 i x (by simpa using hx)
theorem u9 : Tryd.prog.underlying 9 = some .string := by kernel_rfl
theorem u3 : Tryd.prog.underlying 3 = some (.int .i64) := by kernel_rfl
theorem c9 : Tryd.prog.cellsOf 9 = 1 := by kernel_rfl
set_option maxRecDepth 100000 in
theorem strs_of_trod {fuel : Nat} {cs : List Value} {x : DataW H × List MemPlace} (h : DataW.trod enc Tryd.prog w base sp held fuel 28 cs = some x) : ∃ v l, cs = [v] ∧ Strs w v l := by
  rcases DataW.trod_slice u27 h with ⟨rfl, rfl⟩ | ⟨a, len, cap, elems, rest, n, rfl, rfl, rfl, _, _, _, hlen, hel, _⟩
  · exact ⟨_, [], rfl, none, 0, rfl, .inl rfl⟩
  · subst hlen
    by_cases hz : elems.length = 0
    · exact ⟨_, [], rfl, some a, cap, by rw [hz]; rfl, .inl rfl⟩
    · have key : ∀ i, i < elems.length → ∃ s, w.cell? (a.add i) = some (.string s) := by
        intro i hi
        have hE := hel i hi
        rw [c9, List.getElem?_eq_getElem hi, Option.bind_eq_some_iff] at hE
        obtain ⟨c1, h1, h2⟩ := hE
        obtain ⟨_, g1, g2⟩ := World.cells?_some h1
        obtain ⟨s, hs, _⟩ := DataW.trod_string u9 h2
        refine ⟨s, ?_⟩
        have := g2 0 (by omega)
        rw [hs] at this
        have e : (a.add (i * 1)).add 0 = a.add i := by simp only [Addr.add]; split <;> split <;> simp_all
        rw [e] at this
        exact this
      have hs : a.spot = none := by
        obtain ⟨s, g2⟩ := key 0 (by omega)
        have := World.cell?_spot g2
        simpa [Addr.add] using this
      obtain ⟨b, off, s⟩ := a
      have hs' : s = none := hs
      subst hs'
      obtain ⟨l, h1, h2⟩ := list_for elems.length (fun i (z : ByteArray) => w.cell? ⟨b, off + i, none⟩ = some (.string z)) (fun i hi => by
        obtain ⟨s, g⟩ := key i hi
        refine ⟨s, ?_⟩
        rw [← g]
        congr 1
        unfold Addr.add; split <;> simp_all)
      exact ⟨_, l, rfl, some ⟨b, off, none⟩, cap, by rw [h1], .inr ⟨b, off, rfl, h2⟩⟩
end
theorem trodAll_kept {H : Type} {enc : TypeId × Value → H} {w w' : World} {base : Nat} {sp : Nat → Bool} {held : Bool} (hb : Below w.heap.size w w') : ∀ {ts : List TypeId} {vs : List Value} {ds : List (DataW H)} {ps : List MemPlace},
    DataW.TrodAll enc Tryd.prog w base sp held ts vs ds ps → DataW.TrodAll enc Tryd.prog w' base sp held ts vs ds ps
  | [], [], [], _, h => h
  | _ :: _, _ :: _, _ :: _, _, ⟨p, q, ⟨n, hn⟩, h2, h3⟩ => ⟨p, q, ⟨n, DataW.trod_carry n _ _ _ hn (fun x hx => hb.same (DataW.trod_lt n _ _ _ hn x hx))⟩, trodAll_kept hb h2, h3⟩
end Go.Proofs.YtlglomjodbjbaaaDoor
