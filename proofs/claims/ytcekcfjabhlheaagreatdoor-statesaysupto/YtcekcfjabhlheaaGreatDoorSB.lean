/- StateSays: SB. -/
import Derived.Test.YtcekcfjabhlheaaGreatDoorFE
namespace Go.Proofs.YtcekcfjabhlheaaGreatDoor.Dx
open Go.RowKit
namespace M
theorem beq_iff (a b : ByteArray) : (a == b) = true ↔ a = b := MapKept.bytes_beq a b
theorem beq_self (a : ByteArray) : (a == a) = true := (beq_iff a a).2 rfl
theorem at_shift (n : ByteArray) : ∀ (S : List (ByteArray × ByteArray)) (i : Nat), at_ n S i = (at_ n S 0).map (fun p => (p.1 + i, p.2))
 | [], _ => rfl
 | x :: S, i => by
  rw [at_, at_];split
  ·simp
  ·rw [at_shift n S (i + 1), at_shift n S (0 + 1)];cases at_ n S 0 with
   | none => rfl
   | some p => simp; omega
theorem get_cons (x : ByteArray × ByteArray) (F : List (ByteArray × ByteArray)) (n : ByteArray) : get (x :: F) n = if n == x.1 then some x.2 else get F n := by
 unfold get;rw [at_];split
 ·rfl
 ·rw [at_shift];cases at_ n F 0 with
  | none => rfl
  | some p => rfl
theorem put_cons (x : ByteArray × ByteArray) (F : List (ByteArray × ByteArray)) (n d : ByteArray) : put (x :: F) n d = if n == x.1 then (n, d) :: F else x :: put F n d := by
 unfold put;rw [at_];by_cases h : (n == x.1) = true
 ·rw [if_pos h, if_pos h];rfl
 ·rw [if_neg h, if_neg h, at_shift];cases at_ n F 0 with
  | none => rfl
  | some p => rfl
theorem del_cons (x : ByteArray × ByteArray) (F : List (ByteArray × ByteArray)) (n : ByteArray) : del (x :: F) n = if n == x.1 then F else x :: del F n := by
 unfold del;rw [at_];by_cases h : (n == x.1) = true
 ·rw [if_pos h, if_pos h];rfl
 ·rw [if_neg h, if_neg h, at_shift];cases at_ n F 0 with
  | none => rfl
  | some p => rfl
theorem get_put (n d m : ByteArray) : ∀ F : List (ByteArray × ByteArray), get (put F n d) m = if m == n then some d else get F m
 | [] => by
  have e : put [] n d = [(n, d)] := rfl;rw [e, get_cons]
 | x :: F => by
  rw [put_cons];by_cases h : (n == x.1) = true
  ·have e := (beq_iff _ _).1 h;rw [if_pos h, get_cons, get_cons, e];split <;> rfl
  ·rw [if_neg h, get_cons, get_cons, get_put n d m F];by_cases h2 : (m == x.1) = true
   ·rw [if_pos h2, if_pos h2];have e := (beq_iff _ _).1 h2;rw [if_neg (fun k => h ((beq_iff _ _).2 (((beq_iff _ _).1 k).symm.trans e)))]
   ·rw [if_neg h2, if_neg h2]
theorem mem_put {n d : ByteArray} : ∀ {F : List (ByteArray × ByteArray)} {k : ByteArray}, k ∈ (put F n d).map (·.1) -> k = n \/ k ∈ F.map (·.1)
 | [], k, h => by
  have e : put [] n d = [(n, d)] := rfl;rw [e] at h;exact .inl (by simpa using h)
 | x :: F, k, h => by
  rw [put_cons] at h;split at h
  ·rcases List.mem_cons.1 h with h | h
   ·exact .inl h
   ·exact .inr (List.mem_cons_of_mem _ h)
  ·rcases List.mem_cons.1 h with h | h
   ·exact .inr (by rw [h]; simp)
   ·rcases mem_put h with h | h
    ·exact .inl h
    ·exact .inr (List.mem_cons_of_mem _ h)
theorem nodup_put {n d : ByteArray} : ∀ {F : List (ByteArray × ByteArray)}, (F.map (·.1)).Nodup -> ((put F n d).map (·.1)).Nodup
 | [], _ => by
  have e : put [] n d = [(n, d)] := rfl;rw [e];simp
 | x :: F, h => by
  rw [List.map_cons, List.nodup_cons] at h;rw [put_cons];split
  ·rename_i hn;have e := (beq_iff _ _).1 hn;rw [List.map_cons, List.nodup_cons];exact ⟨by show n ∉ _; rw [e]; exact h.1, h.2⟩
  ·rename_i hn;rw [List.map_cons, List.nodup_cons];refine ⟨fun k => ?_, nodup_put h.2⟩;rcases mem_put k with k | k
   ·exact hn ((beq_iff _ _).2 k.symm)
   ·exact h.1 k
theorem len_put (n d : ByteArray) : ∀ F : List (ByteArray × ByteArray), (put F n d).length <= F.length + 1
 | [] => Nat.le_refl _
 | x :: F => by
  rw [put_cons];split
  ·simp
  ·have := len_put n d F;simp only [List.length_cons];omega
theorem del_sub (n : ByteArray) : ∀ F : List (ByteArray × ByteArray), (del F n).Sublist F
 | [] => List.Sublist.refl _
 | x :: F => by
  rw [del_cons];split
  ·exact List.sublist_cons_self _ _
  ·exact (del_sub n F).cons_cons _
theorem nodup_del {n : ByteArray} {F : List (ByteArray × ByteArray)} (h : (F.map (·.1)).Nodup) : ((del F n).map (·.1)).Nodup := h.sublist ((del_sub n F).map _)
theorem get_none {n : ByteArray} : ∀ {F : List (ByteArray × ByteArray)}, n ∉ F.map (·.1) -> get F n = none
 | [], _ => rfl
 | x :: F, h => by
  rw [get_cons, if_neg (fun k => h (by rw [(beq_iff _ _).1 k]; simp))];exact get_none (fun k => h (List.mem_cons_of_mem _ k))
theorem get_del (n m : ByteArray) : ∀ {F : List (ByteArray × ByteArray)}, (F.map (·.1)).Nodup -> get (del F n) m = if m == n then none else get F m
 | [], _ => by
  have e : del [] n = [] := rfl;rw [e];split <;> rfl
 | x :: F, h => by
  rw [List.map_cons, List.nodup_cons] at h;rw [del_cons];by_cases hn : (n == x.1) = true
  ·have e := (beq_iff _ _).1 hn;rw [if_pos hn, get_cons];by_cases hm : (m == n) = true
   ·have e2 := (beq_iff _ _).1 hm;rw [if_pos hm, e2, e];exact get_none h.1
   ·rw [if_neg hm, <- e, if_neg hm]
  ·rw [if_neg hn, get_cons, get_cons, get_del n m h.2];by_cases h2 : (m == x.1) = true
   ·rw [if_pos h2, if_pos h2];have e := (beq_iff _ _).1 h2;rw [if_neg (fun k => hn ((beq_iff _ _).2 (((beq_iff _ _).1 k).symm.trans e)))]
   ·rw [if_neg h2, if_neg h2]
end M
end Go.Proofs.YtcekcfjabhlheaaGreatDoor.Dx
