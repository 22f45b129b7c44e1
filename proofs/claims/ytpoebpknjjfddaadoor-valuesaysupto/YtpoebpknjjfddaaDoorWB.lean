/- Fields in the order of their names: the same insertion sort in both. -/
import Derived.Test.YtpoebpknjjfddaaDoorWA
namespace Go.Proofs.YtpoebpknjjfddaaDoor
open Go.RowKit
namespace V
theorem less_irrefl (x : List UInt8) : Op.bytesLess x x = false := by
  have := less_flip x x
  rw [beq_self_eq_true, Bool.or_true] at this
  cases h : Op.bytesLess x x
  · rfl
  · rw [h] at this; exact absurd this (by decide)
theorem less_trans : ∀ (x y z : List UInt8), Op.bytesLess x y = true → Op.bytesLess y z = true → Op.bytesLess x z = true
  | [], [], _, h, _ => by simp [Op.bytesLess] at h
  | [], _ :: _, [], _, h => by simp [Op.bytesLess] at h
  | [], _ :: _, _ :: _, _, _ => rfl
  | _ :: _, [], _, h, _ => by simp [Op.bytesLess] at h
  | _ :: _, _ :: _, [], _, h => by simp [Op.bytesLess] at h
  | a :: x, b :: y, c :: z, h1, h2 => by
    have ih := less_trans x y z
    rw [Op.bytesLess] at h1 h2 ⊢
    simp only [Bool.or_eq_true, decide_eq_true_eq, Bool.and_eq_true, beq_iff_eq] at h1 h2 ⊢
    rcases h1 with h1 | ⟨rfl, h1⟩ <;> rcases h2 with h2 | ⟨rfl, h2⟩
    · exact .inl (UInt8.lt_trans h1 h2)
    · exact .inl h1
    · exact .inl h2
    · exact .inr ⟨rfl, ih h1 h2⟩
theorem less_tri (x y : List UInt8) (h1 : Op.bytesLess x y = false) (h2 : Op.bytesLess y x = false) : x = y := by
  have := less_flip x y
  rw [h1, h2, Bool.false_or] at this
  simpa using this
theorem less_asym (x y : List UInt8) (h : Op.bytesLess x y = true) : Op.bytesLess y x = false := by
  cases h2 : Op.bytesLess y x
  · rfl
  · have := less_trans x y x h h2
    rw [less_irrefl] at this; exact absurd this (by decide)
theorem less_ntrans (x y z : List UInt8) (h1 : Op.bytesLess x y = false) (h2 : Op.bytesLess y z = false) : Op.bytesLess x z = false := by
  cases h3 : Op.bytesLess y x
  · rw [less_tri x y h1 h3]; exact h2
  · cases h4 : Op.bytesLess z y
    · rw [← less_tri y z h2 h4]; exact h1
    · exact less_asym z x (less_trans z y x h4 h3)
theorem cmp_less : ∀ (x y : List UInt8), decide (Lib.compareBytes x y < 0) = Op.bytesLess x y
  | [], [] => rfl
  | [], _ :: _ => rfl
  | _ :: _, [] => rfl
  | a :: x, b :: y => by
    have ih := cmp_less x y
    rw [Lib.compareBytes, Op.bytesLess]
    by_cases h1 : a < b
    · simp [h1]
    · rw [if_neg h1]
      by_cases h2 : b < a
      · rw [if_pos h2]
        have : (a == b) = false := beq_eq_false_iff_ne.2 (fun e => by subst e; exact h1 h2)
        simp [h1, this]
      · rw [if_neg h2, ih]
        have : a = b := UInt8.toNat_inj.1 (by rw [UInt8.lt_iff_toNat_lt] at h1 h2; omega)
        simp [this]
def dflt : ByteArray × Val := (⟨#[]⟩, zero)
def fieldAt (l : List (ByteArray × Val)) (i : Nat) : ByteArray × Val := l.getD i dflt
def nmAt (l : List (ByteArray × Val)) (i : Nat) : List UInt8 := bl (fieldAt l i).1
def ltAt (l : List (ByteArray × Val)) (i j : Nat) : Bool := Op.bytesLess (nmAt l i) (nmAt l j)
def ord (l : List (ByteArray × Val)) : Array Nat := Sort.insertionSort (ltAt l) (Array.range l.length) 0 l.length
def pickF (l : List (ByteArray × Val)) (d : Array Nat) : List (ByteArray × Val) := d.toList.map (fieldAt l)
def dupF (l : List (ByteArray × Val)) : Prop := ∃ i j, i < j ∧ j < l.length ∧ nmAt l i = nmAt l j
def adjF (l : List (ByteArray × Val)) (d : Array Nat) : Prop := ∃ i, i + 1 < d.size ∧ nmAt l d[i]! = nmAt l d[i + 1]!
theorem swo (l : List (ByteArray × Val)) : Sort.SWO (ltAt l) := ⟨fun _ => less_irrefl _, fun _ _ _ => less_trans _ _ _, fun _ _ _ => less_ntrans _ _ _⟩
theorem ord_spec (l : List (ByteArray × Val)) : (ord l).size = l.length ∧ (ord l).toList.Perm (List.range l.length) ∧ Sort.SortedIn (ltAt l) 0 l.length (ord l) := by
  obtain ⟨⟨h1, _, h3⟩, h4⟩ := Sort.insertionSort_holds (lt := ltAt l) (swo l) (Array.range l.length) 0 l.length (Nat.zero_le _) (by simp)
  have hs : (ord l).size = l.length := by rw [ord, h1]; simp
  refine ⟨hs, ?_, h4⟩
  have e1 : (Sort.insertionSort (ltAt l) (Array.range l.length) 0 l.length).extract 0 l.length = ord l := by
    show (ord l).extract 0 l.length = ord l
    rw [← hs]; simp
  have e2 : (Array.range l.length).extract 0 l.length = Array.range l.length := by
    have : l.length = (Array.range l.length).size := by simp
    conv => lhs; rw [show (Array.range l.length).extract 0 l.length = (Array.range l.length).extract 0 (Array.range l.length).size by rw [← this]]
    simp
  rw [e1, e2] at h3
  simpa using h3
theorem ord_lt (l : List (ByteArray × Val)) (p : Nat) (hp : p < l.length) : (ord l)[p]! < l.length := by
  obtain ⟨hs, hperm, _⟩ := ord_spec l
  have hm : (ord l)[p]! ∈ (ord l).toList := by
    rw [getElem!_pos (ord l) p (by omega)]
    simp
  exact List.mem_range.1 (hperm.mem_iff.1 hm)
theorem ord_inj (l : List (ByteArray × Val)) (p q : Nat) (hp : p < l.length) (hq : q < l.length) (h : (ord l)[p]! = (ord l)[q]!) : p = q := by
  obtain ⟨hs, hperm, _⟩ := ord_spec l
  have hn : (ord l).toList.Nodup := (hperm.nodup_iff).2 List.nodup_range
  rw [getElem!_pos (ord l) p (by omega), getElem!_pos (ord l) q (by omega)] at h
  have h' : (ord l).toList[p]'(by simp; omega) = (ord l).toList[q]'(by simp; omega) := by simpa using h
  have hpw := List.pairwise_iff_getElem.1 hn
  rcases Nat.lt_trichotomy p q with hlt | he | hlt
  · exact absurd h' (hpw p q _ _ hlt)
  · exact he
  · exact absurd h'.symm (hpw q p _ _ hlt)
theorem ord_surj (l : List (ByteArray × Val)) (i : Nat) (hi : i < l.length) : ∃ p, p < l.length ∧ (ord l)[p]! = i := by
  obtain ⟨hs, hperm, _⟩ := ord_spec l
  have hm : i ∈ (ord l).toList := hperm.mem_iff.2 (List.mem_range.2 hi)
  obtain ⟨p, hp, e⟩ := List.getElem_of_mem hm
  have hp2 : p < (ord l).size := by simpa using hp
  refine ⟨p, by omega, ?_⟩
  rw [getElem!_pos (ord l) p hp2]
  simpa using e
/-- Two are of one name just if, in order, two stand side by side that are. -/
theorem adj_dup (l : List (ByteArray × Val)) : adjF l (ord l) ↔ dupF l := by
  obtain ⟨hs, _, hsort⟩ := ord_spec l
  constructor
  · rintro ⟨p, hp, e⟩
    have hne : (ord l)[p]! ≠ (ord l)[p + 1]! := fun h => by have := ord_inj l p (p + 1) (by omega) (by omega) h; omega
    have l1 := ord_lt l p (by omega)
    have l2 := ord_lt l (p + 1) (by omega)
    rcases Nat.lt_or_gt_of_ne hne with h | h
    · exact ⟨_, _, h, l2, e⟩
    · exact ⟨_, _, h, l1, e.symm⟩
  · rintro ⟨i, j, hij, hj, e⟩
    obtain ⟨p, hp, ep⟩ := ord_surj l i (by omega)
    obtain ⟨q, hq, eq⟩ := ord_surj l j hj
    have key : ∀ p q, p < q → q < l.length → nmAt l (ord l)[p]! = nmAt l (ord l)[q]! → adjF l (ord l) := fun p q hpq hq e => by
      refine ⟨p, by omega, ?_⟩
      have s1 := hsort p (p + 1) (Nat.zero_le _) (by omega) (by omega)
      refine less_tri _ _ ?_ s1
      by_cases h : p + 1 = q
      · rw [h, ← e]; exact less_irrefl _
      · have s2 := hsort (p + 1) q (Nat.zero_le _) (by omega) hq
        unfold ltAt at s2
        rw [← e] at s2
        exact s2
    have hne : p ≠ q := fun h => by rw [h, eq] at ep; omega
    rcases Nat.lt_or_gt_of_ne hne with h | h
    · exact key p q h hq (by rw [ep, eq]; exact e)
    · exact key q p h hp (by rw [ep, eq]; exact e.symm)
end V
end Go.Proofs.YtpoebpknjjfddaaDoor
