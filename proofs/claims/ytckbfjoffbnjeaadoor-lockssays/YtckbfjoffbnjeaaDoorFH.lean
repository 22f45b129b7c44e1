/- Files as a text, whatever their order; what changes keep of them. -/
import Derived.Shelf.Strings.Builder1
import Derived.Shelf.Strings.OnBuilder
import Derived.Shelf.LaysM
import Derived.Lib.Builder
import Derived.Lib.Bytealg
import Derived.Test.YtckbfjoffbnjeaaDoorFD
import Derived.Test.YtckbfjoffbnjeaaDoorDR
import Derived.Deep.CutBlock
namespace Go.Proofs.YtckbfjoffbnjeaaDoor
open Go.RowKit
namespace M
theorem at_get {n : ByteArray} : ∀ {F : List (ByteArray × ByteArray)} {i : Nat} {p : Nat × ByteArray}, at_ n F i = some p → (n, p.2) ∈ F := by
  intro F i p h
  obtain ⟨j, x, _, h2, h3, h4⟩ := at_spec n F i p h
  have : x = (n, p.2) := by rw [h3, h4]
  rw [← this]
  exact List.mem_of_getElem? h2
theorem get_mem {F : List (ByteArray × ByteArray)} {n d : ByteArray} (h : get F n = some d) : (n, d) ∈ F := by
  unfold get at h
  cases ha : at_ n F 0 with
  | none => rw [ha] at h; cases h
  | some p =>
    rw [ha] at h
    have : p.2 = d := by simpa using h
    rw [← this]
    exact at_get ha
theorem at_none {n : ByteArray} : ∀ {F : List (ByteArray × ByteArray)} {i : Nat}, at_ n F i = none → n ∉ F.map (·.1)
  | [], _, _ => by simp
  | x :: F, i, h => by
    rw [at_] at h
    split at h
    · cases h
    · rename_i hb
      rw [List.map_cons, List.mem_cons, not_or]
      exact ⟨fun e => hb ((MapKept.bytes_beq _ _).2 e), at_none h⟩
theorem get_none {F : List (ByteArray × ByteArray)} {n : ByteArray} (h : get F n = none) : n ∉ F.map (·.1) := by
  unfold get at h
  cases ha : at_ n F 0 with
  | none => exact at_none ha
  | some p => rw [ha] at h; cases h
theorem mem_get {F : List (ByteArray × ByteArray)} (hk : (F.map (·.1)).Nodup) {n d : ByteArray} (h : (n, d) ∈ F) : get F n = some d := by
  cases hg : get F n with
  | none => exact absurd (List.mem_map.2 ⟨_, h, rfl⟩) (get_none hg)
  | some e =>
    have h2 := get_mem hg
    obtain ⟨i, hi⟩ := List.getElem?_of_mem h
    obtain ⟨j, hj⟩ := List.getElem?_of_mem h2
    have hij : i = j := nodup_at hk (x := n) (by rw [List.getElem?_map, hi]; rfl) (by rw [List.getElem?_map, hj]; rfl)
    rw [hij, hj] at hi
    have : (n, e) = (n, d) := by simpa using hi
    have e2 : e = d := by simpa using this
    rw [e2]
theorem get_perm {F G : List (ByteArray × ByteArray)} (hp : F.Perm G) (hk : (G.map (·.1)).Nodup) (n : ByteArray) : get F n = get G n := by
  have hkF : (F.map (·.1)).Nodup := ((hp.map (·.1)).nodup_iff).2 hk
  cases hg : get G n with
  | none =>
    cases hf : get F n with
    | none => rfl
    | some d => exact absurd (List.mem_map.2 ⟨_, (hp.mem_iff).1 (get_mem hf), rfl⟩) (get_none hg)
  | some d => exact mem_get hkF ((hp.mem_iff).2 (get_mem hg))
/-- Names, rising. -/
def rise (F : List (ByteArray × ByteArray)) : List (List UInt8) := (F.map (fun x => N.bl x.1)).mergeSort (fun x y => decide (x ≤ y))
theorem le_total (a b : List UInt8) : (decide (a ≤ b) || decide (b ≤ a)) = true := by
  rcases Std.Total.total (r := fun x y : List UInt8 => x ≤ y) a b with h | h <;> simp [h]
theorem rise_perm {F G : List (ByteArray × ByteArray)} (hp : F.Perm G) : rise F = rise G := by
  unfold rise
  refine List.Perm.eq_of_pairwise (le := fun x y => (decide (x ≤ y)) = true) ?_ (List.pairwise_mergeSort (fun a b c h1 h2 => ?_) le_total _) (List.pairwise_mergeSort (fun a b c h1 h2 => ?_) le_total _) ?_
  · intro a b _ _ h1 h2
    exact List.le_antisymm (by simpa using h1) (by simpa using h2)
  · exact decide_eq_true (List.le_trans (by simpa using h1) (by simpa using h2))
  · exact decide_eq_true (List.le_trans (by simpa using h1) (by simpa using h2))
  · exact (List.mergeSort_perm _ _).trans ((hp.map _).trans (List.mergeSort_perm _ _).symm)
/-- Files that may be. -/
structure Good (F : List (ByteArray × ByteArray)) : Prop where
  nodup : (F.map (·.1)).Nodup
  small : ∀ x ∈ F, x.2.size ≤ 4000
  len : F.length ≤ 40
  name : ∀ x ∈ F, x.1.size ≤ 24
theorem Good.get {F : List (ByteArray × ByteArray)} (h : Good F) (n : ByteArray) : ((M.get F n).getD ⟨#[]⟩).size ≤ 4000 := by
  cases hg : M.get F n with
  | none => exact Nat.zero_le _
  | some d => exact h.small _ (get_mem hg)
theorem Good.empty : Good [] := ⟨List.nodup_nil, (by simp), Nat.zero_le _, (by simp)⟩
theorem map_set_same {F : List (ByteArray × ByteArray)} {j : Nat} {x : ByteArray × ByteArray} (h : F[j]? = some x) (d : ByteArray) : (F.set j (x.1, d)).map (·.1) = F.map (·.1) := by
  apply List.ext_getElem?
  intro i
  rw [List.getElem?_map, List.getElem?_map, List.getElem?_set]
  by_cases hij : j = i
  · subst hij
    have hl := (List.getElem?_eq_some_iff.1 h).1
    rw [if_pos rfl, if_pos hl, h]; rfl
  · rw [if_neg hij]
theorem put_parts {F : List (ByteArray × ByteArray)} (h : Good F) {n d : ByteArray} (hn : n.size ≤ 24) (hd : d.size ≤ 4000) : ((M.put F n d).map (·.1)).Nodup ∧ (∀ x ∈ M.put F n d, x.2.size ≤ 4000) ∧ (∀ x ∈ M.put F n d, x.1.size ≤ 24) ∧ (M.put F n d).length = (if (M.get F n).isSome = true then F.length else F.length + 1) ∧ ∀ x ∈ F, x.1 ∈ (M.put F n d).map (·.1) := by
  unfold M.put M.get
  cases ha : at_ n F 0 with
  | none =>
    have hna := at_none ha
    refine ⟨?_, ?_, ?_, by simp, ?_⟩
    · rw [List.map_append, List.nodup_append]
      refine ⟨h.nodup, by simp, fun a ha b hb e => hna ?_⟩
      have : b = n := by simpa using hb
      rw [← this, ← e]; exact ha
    · intro x hx
      rcases List.mem_append.1 hx with hx | hx
      · exact h.small x hx
      · have : x = (n, d) := by simpa using hx
        rw [this]; exact hd
    · intro x hx
      rcases List.mem_append.1 hx with hx | hx
      · exact h.name x hx
      · have : x = (n, d) := by simpa using hx
        rw [this]; exact hn
    · intro x hx
      rw [List.map_append]
      exact List.mem_append.2 (.inl (List.mem_map.2 ⟨x, hx, rfl⟩))
  | some p =>
    obtain ⟨j, x, h1, h2, h3, h4⟩ := at_spec n F 0 p ha
    have hj : p.1 = j := by omega
    simp only [hj]
    have hm : (F.set j (n, d)).map (·.1) = F.map (·.1) := by rw [h3]; exact map_set_same h2 d
    refine ⟨?_, ?_, ?_, by simp, ?_⟩
    · rw [hm]; exact h.nodup
    · intro y hy
      rcases List.mem_or_eq_of_mem_set hy with hy | hy
      · exact h.small y hy
      · rw [hy]; exact hd
    · intro y hy
      rcases List.mem_or_eq_of_mem_set hy with hy | hy
      · exact h.name y hy
      · rw [hy]; exact hn
    · intro y hy
      rw [hm]
      exact List.mem_map.2 ⟨y, hy, rfl⟩
theorem Good.put {F : List (ByteArray × ByteArray)} (h : Good F) {n d : ByteArray} (hn : n.size ≤ 24) (hd : d.size ≤ 4000) (hl : (M.get F n).isSome = true ∨ F.length < 40) : Good (M.put F n d) := by
  obtain ⟨a, b, c, e, _⟩ := put_parts h hn hd
  refine ⟨a, b, ?_, c⟩
  rw [e]
  have := h.len
  split
  · exact this
  · rename_i hh
    rcases hl with hl | hl
    · exact absurd hl hh
    · omega
theorem Good.sub {F G : List (ByteArray × ByteArray)} (h : Good F) (hs : G.Sublist F) : Good G :=
  ⟨(hs.map _).nodup h.nodup, fun x hx => h.small x (hs.subset hx), Nat.le_trans hs.length_le h.len, fun x hx => h.name x (hs.subset hx)⟩
theorem del_sub (F : List (ByteArray × ByteArray)) (n : ByteArray) : (M.del F n).Sublist F := by
  unfold M.del
  split
  · exact List.eraseIdx_sublist _ _
  · exact List.Sublist.refl _
theorem del_len {F : List (ByteArray × ByteArray)} {n : ByteArray} (h : n ∈ F.map (·.1)) : (M.del F n).length + 1 = F.length := by
  unfold M.del
  cases ha : at_ n F 0 with
  | none => exact absurd h (at_none ha)
  | some p =>
    obtain ⟨j, x, h1, h2, h3, h4⟩ := at_spec n F 0 p ha
    have hj : p.1 < F.length := by rw [show p.1 = j by omega]; exact (List.getElem?_eq_some_iff.1 h2).1
    simp only [List.length_eraseIdx, hj, if_true]
    omega
theorem Good.move {F : List (ByteArray × ByteArray)} (h : Good F) {n t d : ByteArray} (ht : t.size ≤ 24) (hd : d.size ≤ 4000) (hn : (M.get F n).isSome = true) : Good (M.del (M.put F t d) n) := by
  obtain ⟨a, b, c, e, f⟩ := put_parts h ht hd
  have hs := del_sub (M.put F t d) n
  have hmem : n ∈ (M.put F t d).map (·.1) := by
    cases hg : M.get F n with
    | none => rw [hg] at hn; cases hn
    | some z => exact f _ (get_mem hg)
  have h1 := del_len hmem
  have h2 := h.len
  refine ⟨(hs.map _).nodup a, fun x hx => b x (hs.subset hx), ?_, fun x hx => c x (hs.subset hx)⟩
  rw [e] at h1
  split at h1 <;> omega
theorem Good.del {F : List (ByteArray × ByteArray)} (h : Good F) (n : ByteArray) : Good (M.del F n) := h.sub (del_sub F n)
end M
end Go.Proofs.YtckbfjoffbnjeaaDoor
