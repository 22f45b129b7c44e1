/- value.alikeAbove. -/
import Derived.Test.YtlmkpjdaoinmoaaVS
namespace Go.Proofs.Ytlmkpjdaoinmoaa
open Go.RowKit
namespace V
/-- The five cells at a place hold that value. -/
def At (m : Nat) (w : World) (v : Val) (b o : Nat) : Prop := ∃ c0 c1 c2 c3 c4, Mem m w v [c0, c1, c2, c3, c4] ∧ w.cell? ⟨b, o, none⟩ = some c0 ∧ w.cell? ⟨b, o + 1, none⟩ = some c1 ∧ w.cell? ⟨b, o + 2, none⟩ = some c2 ∧ w.cell? ⟨b, o + 3, none⟩ = some c3 ∧ w.cell? ⟨b, o + 4, none⟩ = some c4
def names (l : List (ByteArray × Val)) : List ByteArray := l.map (·.1)
def near (a b : Val) : Bool := above a b && decide (names a.f = names b.f)
theorem near_false1 (a b : Val) (h : above a b = false) : near a b = false := by unfold near; simp [h]
theorem near_false2 (a b : Val) (k : Nat) (x y : ByteArray × Val) (hx : a.f[k]? = some x) (hy : b.f[k]? = some y) (hn : x.1.toList ≠ y.1.toList) : near a b = false := by
  unfold near
  have : ¬ names a.f = names b.f := by
    intro h
    have h2 : (names a.f)[k]? = (names b.f)[k]? := by rw [h]
    unfold names at h2
    rw [List.getElem?_map, List.getElem?_map, hx, hy] at h2
    simp at h2
    exact hn (by rw [h2])
  simp [this]
theorem near_true (a b : Val) (h : above a b = true) (hn : ∀ (j : Nat) (x y : ByteArray × Val), a.f[j]? = some x → b.f[j]? = some y → x.1.toList = y.1.toList) : near a b = true := by
  unfold near
  have h5 := (above_true a b h).2.2.2.2
  have : names a.f = names b.f := by
    unfold names
    apply List.ext_getElem?
    intro j
    rw [List.getElem?_map, List.getElem?_map]
    rcases Nat.lt_or_ge j a.f.length with h | h
    · rw [List.getElem?_eq_getElem h, List.getElem?_eq_getElem (by omega : j < b.f.length)]
      have := hn j _ _ (List.getElem?_eq_getElem h) (List.getElem?_eq_getElem (by omega : j < b.f.length))
      simp only [Option.map_some, Option.some.injEq]
      exact toList_inj this
    · rw [List.getElem?_eq_none h, List.getElem?_eq_none (by omega)]
  simp [h, this]
end V

end Go.Proofs.Ytlmkpjdaoinmoaa
