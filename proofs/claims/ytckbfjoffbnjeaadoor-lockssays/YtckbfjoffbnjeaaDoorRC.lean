/- For LocksSays: a rising list of names, each once, is the program's. -/
import Derived.Test.YtckbfjoffbnjeaaDoorRB
namespace Go.Proofs.YtckbfjoffbnjeaaDoor
open Go.RowKit
theorem strs_set (P : List ByteArray) (i : Nat) (x : ByteArray) : strs (P.set i x) = (strs P).set i (.string x) := by unfold strs; rw [List.map_set]
theorem own_set {w : World} {base g n cap i : Nat} {P : List ByteArray} (h : w.ownsRow base 9 1 (.slice (some ⟨g, 0, none⟩) n cap) n (strs P)) (x : ByteArray) : (w.setCell ⟨g, i, none⟩ (.string x)).ownsRow base 9 1 (.slice (some ⟨g, 0, none⟩) n cap) n (strs (P.set i x)) := by
  obtain ⟨hl, h0 | ⟨g', cap', cur, e, hb, hh, hc, hm, hs, ht⟩⟩ := h
  · cases h0.1
  · simp only [Value.slice.injEq, Option.some.injEq, Addr.mk.injEq, true_and, and_true] at e
    obtain ⟨rfl, rfl⟩ := e
    refine ⟨by rw [strs_set, List.length_set]; exact hl, .inr ⟨g, cap, cur.setIfInBounds i (.string x), rfl, hb, ?_, hc, hm, by simpa using hs, ?_⟩⟩
    · simp [World.setCell, Array.getElem?_modify, hh]
    · rw [strs_set, ← ht]
      simp [List.take_set]
namespace K
theorem bl_str (l : List UInt8) : N.bl (N.str l) = l := by simp [N.bl, N.str]
abbrev Rise (P : List ByteArray) : Prop := (P.map N.bl).Pairwise (fun a b => a ≤ b)
theorem once_rise (N0 : List ByteArray) : Rise (once N0) := by
  unfold Rise once
  rw [List.map_map]
  have e : (N.bl ∘ N.str) = id := by funext y; exact bl_str y
  rw [e, List.map_id]
  have hp : ((N0.map N.bl).mergeSort (fun x y => decide (x ≤ y))).Pairwise (fun x y => x ≤ y) := by
    have := List.pairwise_mergeSort (le := fun x y : List UInt8 => decide (x ≤ y)) (fun a b c h1 h2 => by simp at h1 h2 ⊢; exact List.le_trans h1 h2) M.le_total (N0.map N.bl)
    exact this.imp (fun h => by simpa using h)
  generalize (N0.map N.bl).mergeSort (fun x y => decide (x ≤ y)) = zs at *
  have hd : ∀ i (h : i < zs.length), zs.toArray[i]! = zs[i] := fun i h => by simp [h]
  unfold Lib.compact Lib.compactUpTo
  rw [List.pairwise_map]
  have hr : ((List.range zs.length).filter (Lib.keeps zs.toArray)).Pairwise (fun i j => i < j) := (List.pairwise_lt_range).filter _
  refine List.Pairwise.imp_of_mem ?_ hr
  intro i j hi hj hij
  have hil := List.mem_range.1 (List.mem_filter.1 hi).1
  have hjl := List.mem_range.1 (List.mem_filter.1 hj).1
  rw [hd _ hil, hd _ hjl]
  exact List.pairwise_iff_getElem.1 hp i j hil hjl hij
/-- Two rising lists of the same names, each once, are one. -/
theorem rise_eq {A B : List ByteArray} (hA : A.Nodup) (hB : B.Nodup) (rA : Rise A) (rB : Rise B) (h : ∀ x, x ∈ A ↔ x ∈ B) : A = B := by
  have hp : A.Perm B := (List.perm_ext_iff_of_nodup hA hB).2 h
  have he : A.map N.bl = B.map N.bl := (hp.map N.bl).eq_of_pairwise (fun a b _ _ h1 h2 => List.le_antisymm h1 h2) rA rB
  have h2 := congrArg (List.map N.str) he
  rw [List.map_map, List.map_map] at h2
  have e : (N.str ∘ N.bl) = id := by funext y; exact str_bl y
  rwa [e, List.map_id, List.map_id] at h2
theorem once_skip {N0 : List ByteArray} {i : Nat} {n : ByteArray} (h : N0[i]? = some n) (hm : n ∈ once (N0.take i)) : once (N0.take (i + 1)) = once (N0.take i) := by
  refine rise_eq (once_nodup _) (once_nodup _) (once_rise _) (once_rise _) (fun x => ?_)
  rw [mem_once, mem_once, List.take_add_one, h, Option.toList_some, List.mem_append, List.mem_singleton]
  rw [mem_once] at hm
  exact ⟨fun e => e.elim id (fun e => by rw [e]; exact hm), .inl⟩
theorem once_more {N0 : List ByteArray} {i : Nat} {n : ByteArray} (h : N0[i]? = some n) (hm : n ∉ once (N0.take i)) {R : List ByteArray} (hp : R.Perm (n :: once (N0.take i))) (hr : Rise R) : once (N0.take (i + 1)) = R := by
  refine rise_eq (once_nodup _) (hp.nodup_iff.2 (List.nodup_cons.2 ⟨hm, once_nodup _⟩)) (once_rise _) hr (fun x => ?_)
  rw [mem_once, hp.mem_iff, List.mem_cons, mem_once, List.take_add_one, h, Option.toList_some, List.mem_append, List.mem_singleton]
  exact or_comm
theorem ins_rise {A C : List ByteArray} {n : ByteArray} (hP : Rise (A ++ C)) (hC : ∀ c ∈ C, N.bl n ≤ N.bl c) (hA : ∀ a ∈ A, N.bl a ≤ N.bl n) : Rise (A ++ n :: C) := by
  unfold Rise at *
  rw [List.map_append, List.pairwise_append] at hP
  rw [List.map_append, List.map_cons, List.pairwise_append]
  refine ⟨hP.1, List.pairwise_cons.2 ⟨fun y hy => ?_, hP.2.1⟩, fun a ha b hb => ?_⟩
  · obtain ⟨c, hc, rfl⟩ := List.mem_map.1 hy
    exact hC c hc
  · obtain ⟨a', ha', rfl⟩ := List.mem_map.1 ha
    rcases List.mem_cons.1 hb with rfl | hb
    · exact hA a' ha'
    · exact hP.2.2 _ ha _ hb
/-- The last of the lower ones is not above it: so none is. -/
theorem low_all {A C : List ByteArray} {n y : ByteArray} (hP : Rise (A ++ y :: C)) (hy : N.bl y ≤ N.bl n) : ∀ a ∈ A ++ [y], N.bl a ≤ N.bl n := by
  intro a ha
  rcases List.mem_append.1 ha with ha | ha
  · unfold Rise at hP
    rw [List.map_append, List.pairwise_append] at hP
    exact List.le_trans (hP.2.2 _ (List.mem_map.2 ⟨a, ha, rfl⟩) _ (List.mem_map.2 ⟨y, List.mem_cons_self .., rfl⟩)) hy
  · have : a = y := by simpa using ha
    rw [this]; exact hy
theorem ins_perm (A C : List ByteArray) (n : ByteArray) : (A ++ n :: C).Perm (n :: (A ++ C)) := List.perm_middle
theorem set_swap {A C : List ByteArray} {y n : ByteArray} {k : Nat} (hk : A.length = k) : ((A ++ y :: n :: C).set (k + 1) y).set k n = A ++ n :: y :: C := by
  subst hk
  simp
end K
end Go.Proofs.YtckbfjoffbnjeaaDoor
