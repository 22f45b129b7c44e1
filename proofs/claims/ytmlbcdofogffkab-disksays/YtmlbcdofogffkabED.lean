/- For WalogSays: the first record from a place on. -/
import Derived.Test.YtmlbcdofogffkabEC
namespace Go.Proofs.Ytmlbcdofogffkab
open Go.RowKit
namespace N
theorem ex_ex (d : ByteArray) (o i j : Nat) : (d.extract o d.size).extract i j = d.extract (o + i) (o + j) := by
  apply bext
  rw [bl_extract, bl_extract, bl_extract, List.take_of_length_le (l := d.data.toList) (by rw [← bl_size]; exact Nat.le_refl _)]
  rw [List.take_drop, List.drop_drop]
theorem count_at (d : ByteArray) (o : Nat) (h0 : o < d.size) (h1 : o + 1 < d.size) : count (d.extract o d.size) = d[o].toNat + 256 * d[o + 1].toNat := by
  have e : ∀ i (h : o + i < d.size), ((d.extract o d.size).data.toList[i]?).getD 0 = d[o + i] := by
    intro i h
    rw [bl_extract, List.take_of_length_le (l := d.data.toList) (by rw [← bl_size]; exact Nat.le_refl _), List.getElem?_drop]
    have := bl_get d (o + i) h
    unfold bl at this
    rw [this]; rfl
  unfold count
  rw [getD_bl, getD_bl, e 0 (by omega), e 1 h1]
  rfl
theorem first_short (d : ByteArray) (o : Nat) (h : d.size < o + 6) : first (d.extract o d.size) = none := by
  unfold first
  rw [if_pos (.inl (by rw [ByteArray.size_extract]; omega))]
theorem first_at (d : ByteArray) (o c : Nat) (h : o + 6 ≤ d.size) (hc : c = count (d.extract o d.size)) :
    first (d.extract o d.size) = if 400 < c ∨ d.size < o + 6 + c then none else if head (d.extract (o + 6) (o + 6 + c)) ++ d.extract (o + 6) (o + 6 + c) = d.extract o (o + 6 + c) then some (d.extract (o + 6) (o + 6 + c)) else none := by
  have hts : (d.extract o d.size).size = d.size - o := by rw [ByteArray.size_extract]; omega
  unfold first
  rw [← hc, hts]
  by_cases hx : 400 < c ∨ d.size < o + 6 + c
  · rw [if_pos hx, if_pos]
    rcases hx with hx | hx
    · exact .inr (.inl hx)
    · exact .inr (.inr (by omega))
  · have hx1 : ¬ 400 < c := fun e => hx (.inl e)
    have hx2 : ¬ d.size < o + 6 + c := fun e => hx (.inr e)
    rw [if_neg hx, if_neg (by omega), ex_ex, ex_ex]
    have e1 : o + (6 + c) = o + 6 + c := by omega
    rw [e1, Nat.add_zero]
    generalize hX : d.extract (o + 6) (o + 6 + c) = X
    have hsplit : d.extract o (o + 6 + c) = d.extract o (o + 6) ++ X := by
      rw [← hX]
      apply bext
      rw [bl_append, bl_extract, bl_extract, bl_extract]
      have e2 : (d.data.toList.take (o + 6)) = (d.data.toList.take (o + 6 + c)).take (o + 6) := by rw [List.take_take]; congr 1; omega
      rw [e2]
      generalize d.data.toList.take (o + 6 + c) = l
      have e4 := (List.take_append_drop 6 (l.drop o)).symm
      rw [List.take_drop, List.drop_drop] at e4
      exact e4
    rw [hsplit]
    have hh : (head X).size = (d.extract o (o + 6)).size := by rw [head_size, ByteArray.size_extract]; omega
    by_cases he : d.extract o (o + 6) = head X
    · rw [if_pos ((MapKept.bytes_beq _ _).2 he), if_pos (by rw [he])]
    · rw [if_neg (fun e => he ((MapKept.bytes_beq _ _).1 e)), if_neg]
      intro e
      apply he
      have e3 : (head X ++ X).extract 0 (head X).size = (d.extract o (o + 6) ++ X).extract 0 (head X).size := by rw [e]
      rw [ex_left, hh, ex_left] at e3
      exact e3.symm
end N
end Go.Proofs.Ytmlbcdofogffkab
