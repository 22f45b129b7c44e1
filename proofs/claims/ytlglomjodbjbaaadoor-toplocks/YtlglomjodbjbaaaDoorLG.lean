/- For TopLocks: the locks on a disk, as a list: one more, one less. -/
import Derived.Test.YtlglomjodbjbaaaDoorLF
namespace Go.Proofs.YtlglomjodbjbaaaDoor
open Go.RowKit
namespace K
theorem beq_iff (a b : ByteArray) : (a == b) = true ↔ a = b := MapKept.bytes_beq a b
theorem at_shift (n : ByteArray) : ∀ (S : List (ByteArray × ByteArray)) (i : Nat), M.at_ n S i = (M.at_ n S 0).map (fun p => (p.1 + i, p.2))
  | [], _ => rfl
  | x :: S, i => by
    rw [M.at_, M.at_]
    split
    · simp
    · rw [at_shift n S (i + 1), at_shift n S (0 + 1), Option.map_map]
      congr 1
      funext p
      simp
      omega
theorem put_cons (x : ByteArray × ByteArray) (F : List (ByteArray × ByteArray)) (n d : ByteArray) : M.put (x :: F) n d = if n == x.1 then (n, d) :: F else x :: M.put F n d := by
  unfold M.put
  rw [M.at_]
  cases h : (n == x.1) with
  | true => simp
  | false =>
    rw [if_neg (by simp), if_neg (by simp), at_shift]
    cases M.at_ n F 0 with
    | none => rfl
    | some p => rfl
theorem del_cons (x : ByteArray × ByteArray) (F : List (ByteArray × ByteArray)) (n : ByteArray) : M.del (x :: F) n = if n == x.1 then F else x :: M.del F n := by
  unfold M.del
  rw [M.at_]
  cases h : (n == x.1) with
  | true => simp
  | false =>
    rw [if_neg (by simp), if_neg (by simp), at_shift]
    cases M.at_ n F 0 with
    | none => rfl
    | some p => rfl
/-- All but those of that name. -/
def less {α : Type} (S : List (ByteArray × α)) (n : ByteArray) : List (ByteArray × α) := S.filter (fun x => !(n == x.1))
theorem less_cons {α : Type} (x : ByteArray × α) (S : List (ByteArray × α)) (n : ByteArray) : less (x :: S) n = (if n == x.1 then [] else [x]) ++ less S n := by
  unfold less
  cases h : (n == x.1) <;> simp [h]
theorem less_absent {α : Type} {F : List (ByteArray × α)} {n : ByteArray} (h : n ∉ F.map (·.1)) : less F n = F := by
  unfold less
  rw [List.filter_eq_self]
  intro x hx
  cases hb : (n == x.1) with
  | false => rfl
  | true => exact absurd (List.mem_map.2 ⟨x, hx, ((beq_iff _ _).1 hb).symm⟩) h
theorem del_less {n : ByteArray} : ∀ {F : List (ByteArray × ByteArray)}, (F.map (·.1)).Nodup → M.del F n = less F n
  | [], _ => rfl
  | x :: F, h => by
    rw [List.map_cons, List.nodup_cons] at h
    rw [del_cons, less_cons]
    cases hb : (n == x.1) with
    | true => rw [if_pos rfl, if_pos rfl, List.nil_append, less_absent (by rw [(beq_iff _ _).1 hb]; exact h.1)]
    | false => rw [if_neg (by simp), if_neg (by simp), del_less h.2]; rfl
theorem put_perm {n d : ByteArray} : ∀ {F : List (ByteArray × ByteArray)}, (F.map (·.1)).Nodup → (M.put F n d).Perm ((n, d) :: less F n)
  | [], _ => List.Perm.refl _
  | x :: F, h => by
    rw [List.map_cons, List.nodup_cons] at h
    rw [put_cons, less_cons]
    cases hb : (n == x.1) with
    | true => rw [if_pos rfl, if_pos rfl, List.nil_append, less_absent (by rw [(beq_iff _ _).1 hb]; exact h.1)]
    | false =>
      rw [if_neg (by simp), if_neg (by simp), List.singleton_append]
      exact ((put_perm h.2).cons x).trans (List.Perm.swap _ _ _)
theorem less_mem {α : Type} {F : List (ByteArray × α)} {n : ByteArray} {x : ByteArray × α} (h : x ∈ less F n) : x ∈ F ∧ n ≠ x.1 := by
  have h2 := List.mem_filter.1 h
  refine ⟨h2.1, fun e => ?_⟩
  have h3 : (n == x.1) = false := by simpa using h2.2
  rw [(beq_iff _ _).2 e] at h3; cases h3
theorem less_sub {α : Type} (F : List (ByteArray × α)) (n : ByteArray) : (less F n).Sublist F := List.filter_sublist
/-- One more lock, or another owner. -/
def put (L : Lo) (n : ByteArray) (k : Nat) : Lo := (n, k) :: less L n
theorem pre_beq (n m : ByteArray) : (pre n == pre m) = (n == m) := by
  cases h : (n == m) with
  | true => rw [(beq_iff _ _).1 h]; exact (beq_iff _ _).2 rfl
  | false =>
    cases h2 : (pre n == pre m) with
    | false => rfl
    | true => rw [pre_inj ((beq_iff _ _).1 h2), (beq_iff m m).2 rfl] at h; cases h
theorem less_file (n : ByteArray) : ∀ L : Lo, less (L.map file) (pre n) = (less L n).map file
  | [] => rfl
  | x :: L => by
    have e : (pre n == (file x).1) = (n == x.1) := pre_beq n x.1
    rw [List.map_cons, less_cons, less_cons, less_file n L, e, List.map_append]
    cases (n == x.1) <;> rfl
theorem On.keys {F : List (ByteArray × ByteArray)} {L : Lo} (h : On F L) : (F.map (·.1)).Nodup := ((h.perm.map (·.1)).nodup_iff).2 (file_nodup h.nodup)
theorem On.put {F : List (ByteArray × ByteArray)} {L : Lo} (h : On F L) {n : ByteArray} {k : Nat} (hn : N.name n = true) (hk : k < 4) : On (M.put F (pre n) (num k)) (K.put L n k) := by
  refine ⟨?_, ?_, ?_⟩
  · refine (put_perm h.keys).trans ?_
    have : ((K.put L n k).map file) = (pre n, num k) :: less (L.map file) (pre n) := by rw [less_file]; rfl
    rw [this]
    exact (h.perm.filter _).cons _
  · unfold K.put
    rw [List.map_cons, List.nodup_cons]
    refine ⟨fun hm => ?_, h.nodup.sublist ((less_sub L n).map _)⟩
    obtain ⟨x, hx, e⟩ := List.mem_map.1 hm
    exact (less_mem hx).2 e.symm
  · intro x hx
    rcases List.mem_cons.1 hx with rfl | hx
    · exact ⟨hn, hk⟩
    · exact h.fine x (less_mem hx).1
theorem On.rm {F : List (ByteArray × ByteArray)} {L : Lo} (h : On F L) (n : ByteArray) : On (M.del F (pre n)) (less L n) := by
  refine ⟨?_, h.nodup.sublist ((less_sub L n).map _), fun x hx => h.fine x (less_mem hx).1⟩
  rw [del_less h.keys, ← less_file]
  exact h.perm.filter _
theorem get_cons (x : ByteArray × Nat) (L : Lo) (m : ByteArray) : get (x :: L) m = if m == x.1 then some x.2 else get L m := by
  unfold get
  rw [List.find?_cons]
  cases (m == x.1) <;> rfl
theorem get_less (n m : ByteArray) : ∀ S : Lo, get (less S n) m = if n == m then none else get S m
  | [] => by simp [less, get]
  | x :: S => by
    have ih := get_less n m S
    rw [less_cons]
    cases h : (n == x.1) with
    | true =>
      have e := (beq_iff _ _).1 h
      rw [if_pos rfl, List.nil_append, ih, get_cons]
      cases k : (n == m) with
      | true => simp
      | false =>
        have : (m == x.1) = false := by
          cases q : (m == x.1) with
          | false => rfl
          | true => rw [e, ← (beq_iff _ _).1 q, (beq_iff m m).2 rfl] at k; cases k
        rw [this]; simp
    | false =>
      rw [if_neg (by simp), List.singleton_append, get_cons, get_cons, ih]
      cases k : (n == m) with
      | true =>
        rw [← (beq_iff _ _).1 k, h]; simp
      | false => simp
theorem get_put (L : Lo) (n m : ByteArray) (k : Nat) : get (put L n k) m = if n == m then some k else get L m := by
  unfold put
  rw [get_cons, get_less]
  cases h : (n == m) with
  | true => rw [(beq_iff _ _).1 h, if_pos ((beq_iff m m).2 rfl)]; simp
  | false =>
    have : (m == n) = false := by
      cases q : (m == n) with
      | false => rfl
      | true => rw [(beq_iff _ _).1 q, (beq_iff n n).2 rfl] at h; cases h
    rw [this]; simp
theorem less_len {α : Type} (L : List (ByteArray × α)) (n : ByteArray) : (less L n).length ≤ L.length := List.length_filter_le _ _
theorem put_len (L : Lo) (n : ByteArray) (k : Nat) : (put L n k).length ≤ L.length + 1 := by unfold put; rw [List.length_cons]; have := less_len L n; omega
theorem from_name : ∀ (l : List UInt8) (i : Nat), N.nameFrom i l = true → N.from_ l = true
  | [], _, _ => rfl
  | c :: r, i, h => by
    unfold N.nameFrom at h
    rw [Bool.and_eq_true] at h
    unfold N.from_
    rw [from_name r (i + 1) h.2, Bool.and_true]
    have h1 := h.1
    unfold N.nameByte at h1
    unfold N.byte
    cases hl : N.letter c with
    | true => rfl
    | false =>
      rw [hl, Bool.false_or, Bool.and_eq_true] at h1
      rw [h1.1]; rfl
theorem may_pre {n : ByteArray} (h : N.name n = true) : N.may (pre n) = true := by
  unfold N.name at h
  simp only [Bool.and_eq_true, decide_eq_true_eq] at h
  have hs : (pre n).size = 5 + n.size := by rw [← N.length_bl, ← N.length_bl, bl_pre, List.length_append]; rfl
  unfold N.may
  rw [bl_pre]
  have hf : N.from_ (pl ++ N.bl n) = true := by
    have := from_name _ _ h.2
    show (N.byte 108 && (N.byte 111 && (N.byte 99 && (N.byte 107 && (N.byte 46 && N.from_ (N.bl n)))))) = true
    rw [this]; decide
  rw [hf, hs]
  simp only [Bool.and_true, Bool.and_eq_true, decide_eq_true_eq]
  omega
theorem pre_size (n : ByteArray) : (pre n).size = 5 + n.size := by rw [← N.length_bl, ← N.length_bl, bl_pre, List.length_append]; rfl
end K
end Go.Proofs.YtlglomjodbjbaaaDoor
