/- The disk's states under a log. -/
import Derived.Test.YtmlbcdofogffkabDT
namespace Go.Proofs.Ytmlbcdofogffkab
open Go.RowKit
/-- The log's name. -/
def nl : ByteArray := ⟨#[108, 111, 103]⟩
theorem may_nl : N.may nl = true := by decide
theorem beq_nl : (nl == nl) = true := (MapKept.bytes_beq _ _).2 rfl
theorem at_one (X : ByteArray) : M.at_ nl [(nl, X)] 0 = some (0, X) := by rw [M.at_]; simp only [beq_nl, if_true]
theorem get_one (X : ByteArray) : M.get [(nl, X)] nl = some X := by unfold M.get; rw [at_one]; rfl
theorem put_one (X Y : ByteArray) : M.put [(nl, X)] nl Y = [(nl, Y)] := by unfold M.put; rw [at_one]; rfl
theorem get_none : M.get [] nl = none := rfl
theorem put_none (Y : ByteArray) : M.put [] nl Y = [(nl, Y)] := rfl
/-- A disk on which a log of these records lies, all of it kept. -/
structure Std (D : Dk) (L : List ByteArray) (b : Int) : Prop where
  kept : D.kept = [(nl, N.frames L)]
  files : D.files = [(nl, N.frames L)]
  chg : D.chg = []
  down : D.down = false
  steps : 0 ≤ D.steps ∧ D.steps ≤ b
  left : -1 ≤ D.left ∧ D.left ≤ 100
/-- The change that Add makes. -/
def addCh (s : ByteArray) : Ch := ⟨1, nl, ⟨#[]⟩, N.head s ++ s⟩
theorem Std.fits {D : Dk} {L : List ByteArray} {b : Int} (h : Std D L b) (hb : b ≤ 10000) (hz : N.size L ≤ 5000) : D.Fits nl := by
  refine ⟨⟨h.steps.1, by have := h.steps.2; omega⟩, ⟨by have := h.left.1; omega, by have := h.left.2; omega⟩, by rw [h.files]; simp, ?_, by rw [h.chg]; simp, fun c hc => (by rw [h.chg] at hc; cases hc), fun k c hc => (by rw [h.chg] at hc; cases hc)⟩
  rw [h.files, get_one, Option.getD_some, N.frames_size]; omega
theorem on_add (X s : ByteArray) : (addCh s).on [(nl, X)] = [(nl, X ++ N.frame s)] := by
  show M.put [(nl, X)] nl ((M.get [(nl, X)] nl).getD ⟨#[]⟩ ++ (N.head s ++ s)) = _
  rw [get_one, put_one]; rfl
theorem step_left {D : Dk} (h : -1 ≤ D.left ∧ D.left ≤ 100) : -1 ≤ D.step.left ∧ D.step.left ≤ 100 := by
  show -1 ≤ (if 0 < D.left then D.left - 1 else D.left) ∧ (if 0 < D.left then D.left - 1 else D.left) ≤ 100
  split <;> omega
theorem Std.did_files {D : Dk} {L : List ByteArray} {b : Int} (h : Std D L b) (s : ByteArray) : (D.did (addCh s)).files = [(nl, N.frames (L ++ [s]))] := by
  show (addCh s).on D.files = _
  rw [h.files, on_add, N.frames_append]
theorem Std.did_chg {D : Dk} {L : List ByteArray} {b : Int} (h : Std D L b) (s : ByteArray) : (D.did (addCh s)).chg = [addCh s] := by
  show D.chg ++ [addCh s] = _
  rw [h.chg]; rfl
theorem Std.did_kept {D : Dk} {L : List ByteArray} {b : Int} (h : Std D L b) (s : ByteArray) : (D.did (addCh s)).kept = [(nl, N.frames L)] := h.kept
theorem Std.did_fits {D : Dk} {L : List ByteArray} {b : Int} (h : Std D L b) (s : ByteArray) (hb : b ≤ 10000) (hz : N.size L ≤ 5000) (hs : s.size ≤ 400) : (D.did (addCh s)).Fits nl := by
  have hl := step_left h.left
  refine ⟨⟨?_, ?_⟩, ⟨?_, ?_⟩, by rw [h.did_files]; simp, ?_, by rw [h.did_chg]; simp, ?_, ?_⟩
  · show 0 ≤ D.steps + 1; have := h.steps; omega
  · show D.steps + 1 ≤ 100000; have := h.steps; omega
  · show _ ≤ D.step.left; omega
  · show D.step.left ≤ _; omega
  · rw [h.did_files, get_one, Option.getD_some, N.frames_size, N.size_append]; omega
  · intro c hc
    rw [h.did_chg] at hc
    have : c = addCh s := by simpa using hc
    rw [this]; exact .inr rfl
  · intro k c hc
    rw [h.did_chg] at hc
    have hk : k = 0 := by have := (List.getElem?_eq_some_iff.1 hc).1; simp at this; omega
    subst hk
    have hcc : addCh s = c := by simpa using hc
    subst hcc
    refine ⟨?_, ?_⟩
    · show (N.head s ++ s).size ≤ _
      rw [ByteArray.size_append, N.head_size]; omega
    · have e : (D.did (addCh s)).keepTo 0 = [(nl, N.frames L)] := h.kept
      rw [e]
      show ((M.get [(nl, N.frames L)] nl).getD ⟨#[]⟩).size ≤ _
      rw [get_one, Option.getD_some, N.frames_size]; omega
theorem fit_zero {D : Dk} {b : Int} (hb : b ≤ 4000) (hF : D.files.length < 40) : D.fit nl b = 0 := by
  unfold Dk.fit
  rw [if_neg (by rw [may_nl]; decide), if_neg (by omega)]
theorem Std.more {D : Dk} {L : List ByteArray} {b : Int} (h : Std D L b) (s : ByteArray) (hs : s.size ≤ 400) (hz : N.size L + 6 + s.size ≤ 4000) : D.more nl (N.head s ++ s) = 0 := by
  unfold Dk.more
  have e : (N.head s ++ s).size = 6 + s.size := by rw [ByteArray.size_append, N.head_size]
  rw [e, if_neg (by omega)]
  refine fit_zero ?_ (by rw [h.files]; simp)
  rw [h.files, get_one, Option.getD_some, N.frames_size]; omega
theorem Std.wrote {D : Dk} {L : List ByteArray} {b : Int} (h : Std D L b) (s : ByteArray) : Std (D.wrote (addCh s)) (L ++ [s]) (b + 2) := by
  have hk : (D.did (addCh s)).keepTo (D.did (addCh s)).chg.length = [(nl, N.frames (L ++ [s]))] := by
    rw [h.did_chg]
    unfold Dk.keepTo
    rw [h.did_chg, h.did_kept, N.frames_append, ← on_add]; rfl
  have hl := step_left (D := D.did (addCh s)) (step_left h.left)
  refine ⟨hk, h.did_files s, rfl, h.down, ⟨?_, ?_⟩, hl⟩
  · show 0 ≤ D.steps + 1 + 1; have := h.steps; omega
  · show D.steps + 1 + 1 ≤ b + 2; have := h.steps; omega
/-- The new disk, with one record. -/
theorem new_fits : Dk.new.Fits nl := ⟨by decide, by decide, by decide, by decide, by decide, fun c hc => (by cases hc), fun k c hc => (by cases hc)⟩
theorem new_more (s : ByteArray) (hs : s.size ≤ 400) : Dk.new.more nl (N.head s ++ s) = 0 := by
  unfold Dk.more
  have e : (N.head s ++ s).size = 6 + s.size := by rw [ByteArray.size_append, N.head_size]
  rw [e, if_neg (by omega)]
  refine fit_zero ?_ (by decide)
  show ((0 : Nat) : Int) + _ ≤ _
  omega
theorem new_did (s : ByteArray) : (Dk.new.did (addCh s)).files = [(nl, N.frames [s])] := by
  show M.put [] nl (⟨#[]⟩ ++ (N.head s ++ s)) = _
  rw [put_none, N.empty_append]
  show _ = [(nl, N.frame s ++ ⟨#[]⟩)]
  rw [N.append_empty]; rfl
theorem new_did_fits (s : ByteArray) (hs : s.size ≤ 400) : (Dk.new.did (addCh s)).Fits nl := by
  have e : (N.head s ++ s).size = 6 + s.size := by rw [ByteArray.size_append, N.head_size]
  refine ⟨(show (0 : Int) ≤ 0 + 1 ∧ (0 : Int) + 1 ≤ 100000 by decide), (show -9223372036854775808 ≤ (if (0 : Int) < -1 then (-1 : Int) - 1 else -1) ∧ (if (0 : Int) < -1 then (-1 : Int) - 1 else -1) ≤ 9223372036854775807 by decide), by rw [new_did]; simp, ?_, (show 1 ≤ 1000 by decide), ?_, ?_⟩
  · rw [new_did, get_one, Option.getD_some, N.frames_size]
    show 6 + s.size + 0 ≤ _
    omega
  · intro c hc
    have hc2 : c ∈ [addCh s] := hc
    have : c = addCh s := by simpa using hc2
    rw [this]; exact .inr rfl
  · intro k c hc
    have hc2 : [addCh s][k]? = some c := hc
    have hk : k = 0 := by have := (List.getElem?_eq_some_iff.1 hc2).1; simp at this; omega
    subst hk
    have hcc : addCh s = c := by simpa using hc2
    subst hcc
    refine ⟨?_, ?_⟩
    · show (N.head s ++ s).size ≤ _
      omega
    · show (0 : Nat) ≤ _
      omega
theorem new_wrote (s : ByteArray) : Std (Dk.new.wrote (addCh s)) [s] 2 := by
  have hf := new_did s
  exact ⟨hf, hf, rfl, rfl, (show (0 : Int) ≤ 0 + 1 + 1 ∧ (0 : Int) + 1 + 1 ≤ 2 by decide), step_left (D := Dk.new.did (addCh s)) (step_left (D := Dk.new) (by decide))⟩
end Go.Proofs.Ytmlbcdofogffkab
