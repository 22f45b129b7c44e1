/- Plain facts on the tokens of a text: blanks and remarks tell nothing; what begins a token. -/
import Derived.Test.YtplhieahcajjeaaLexH
namespace Go.Proofs.Ytplhieahcajjeaa
namespace Lx
theorem skips_false (b : UInt8) : skips false b = (decide (b.toNat = 35) || decide (b.toNat = 32) || decide (b.toNat = 10)) := by
  unfold skips nextR
  by_cases h1 : b.toNat = 35
  · simp [h1]
  · by_cases h2 : b.toNat = 10
    · simp [h2]
    · simp [h1, h2]
/-- A blank, or an end of a line, ahead of a place tells nothing. -/
theorem toks_blank (l : List UInt8) (n k : Nat) (acc : List (Nat × Nat × List UInt8)) (c : UInt8) (r : List UInt8) (hd : l.drop k = c :: r) (hr : l.drop (k + 1) = r) (hc : c.toNat = 32 ∨ c.toNat = 10) :
    toks n l k acc = toks n l (k + 1) acc := by
  cases n with
  | zero => rfl
  | succ n =>
    have hg : gapLen false (l.drop k) = gapLen false (l.drop (k + 1)) + 1 := by
      rw [hd, hr, gapLen]
      have hs : skips false c = true := by rw [skips_false]; rcases hc with h | h <;> simp [h]
      have hn : nextR false c = false := by unfold nextR; rcases hc with h | h <;> simp [h]
      rw [hs, hn, if_pos rfl]
    rw [toks, toks, hg, show k + (gapLen false (l.drop (k + 1)) + 1) = k + 1 + gapLen false (l.drop (k + 1)) by omega]
/-- Bytes of a remark. -/
theorem gap_remark : ∀ (j : Nat) (l : List UInt8), (∀ i, i < j → ∃ c, l[i]? = some c ∧ c.toNat ≠ 10) → gapLen true l = j + gapLen true (l.drop j)
  | 0, l, _ => by simp
  | j + 1, l, h => by
    obtain ⟨c, hc, hn⟩ := h 0 (by omega)
    cases l with
    | nil => simp at hc
    | cons b r =>
      simp at hc; subst hc
      rw [gapLen]
      have hx : nextR true b = true := by unfold nextR; by_cases h1 : b.toNat = 35 <;> simp [h1, hn]
      have hs : skips true b = true := by unfold skips; rw [hx]; simp
      rw [hs, hx, if_pos rfl, gap_remark j r (fun i hi => by have := h (i + 1) (by omega); simpa using this)]
      simp only [List.drop_succ_cons]
      omega
theorem gap_remark_end (l : List UInt8) (h : l = [] ∨ ∃ r, l = (10 : UInt8) :: r) : gapLen true l = gapLen false l := by
  rcases h with rfl | ⟨r, rfl⟩
  · rfl
  · rw [gapLen, gapLen]; rfl
theorem toks_remark (l : List UInt8) (n k e : Nat) (acc : List (Nat × Nat × List UInt8)) (c : UInt8) (r : List UInt8) (hd : l.drop k = c :: r) (hc : c.toNat = 35) (hke : k < e)
    (hm : ∀ i, k ≤ i → i < e → ∃ b, l[i]? = some b ∧ b.toNat ≠ 10) (he : l.drop e = [] ∨ ∃ r', l.drop e = (10 : UInt8) :: r') :
    toks n l k acc = toks n l e acc := by
  cases n with
  | zero => rfl
  | succ n =>
    have hr : r = l.drop (k + 1) := by
      have := congrArg (List.drop 1) hd
      simpa [List.drop_drop] using this.symm
    have hg : gapLen false (l.drop k) = e - k + gapLen false (l.drop e) := by
      rw [hd, gapLen]
      have hx : nextR false c = true := by unfold nextR; simp [hc]
      have hs : skips false c = true := by rw [skips_false]; simp [hc]
      rw [hs, hx, if_pos rfl, gap_remark (e - (k + 1)) r ?_, hr, List.drop_drop, show k + 1 + (e - (k + 1)) = e by omega, gap_remark_end _ he]
      · omega
      · intro i hi
        obtain ⟨b, hb, hn⟩ := hm (k + 1 + i) (by omega) (by omega)
        exact ⟨b, by rw [hr, List.getElem?_drop]; exact hb, hn⟩
    rw [toks, toks, hg, show k + (e - k + gapLen false (l.drop e)) = e + gapLen false (l.drop e) by omega]
theorem toks_end (l : List UInt8) (n k : Nat) (acc : List (Nat × Nat × List UInt8)) (h : l.drop k = []) : toks (n + 1) l k acc = .ok acc := by
  rw [toks, h]
  simp only [gapLen, Nat.add_zero, h]
  rfl
theorem toks_step (l : List UInt8) (n k : Nat) (acc : List (Nat × Nat × List UInt8)) (c : UInt8) (r : List UInt8) (hd : l.drop k = c :: r) (h1 : ¬ c.toNat = 32) (h2 : ¬ c.toNat = 10) (h3 : ¬ c.toNat = 35) :
    toks (n + 1) l k acc = if (firstTok (l.drop k)).err ≠ 0 then .error (k, (firstTok (l.drop k)).err) else if (firstTok (l.drop k)).kind = 0 then .ok acc else toks n l (k + (firstTok (l.drop k)).size) (acc ++ [((firstTok (l.drop k)).kind, k, (firstTok (l.drop k)).text)]) := by
  have hg : gapLen false (l.drop k) = 0 := by
    rw [hd, gapLen, if_neg]
    rw [skips_false]; simp [h1, h2, h3]
  rw [toks, hg]
  rfl
/-- A place that is no blank begins a token, or something wrong. -/
theorem qt_kind (l : List UInt8) (k : Nat) (acc : List UInt8) (h : (qt l k acc).err = 0) : (qt l k acc).kind = 3 := by
  induction h' : l.length using Nat.strongRecOn generalizing l k acc with
  | ind n ih =>
    cases l with
    | nil => rw [qt_nil] at h; simp [bad] at h
    | cons c r =>
      rw [qt_cons] at h ⊢
      split at h
      · rename_i h34
        rw [if_pos h34]
        split at h
        · simp [bad] at h
        · rename_i h40; rw [if_neg h40]
      · rename_i h34
        rw [if_neg h34]
        split at h
        · simp [bad] at h
        · rename_i hn
          rw [if_neg hn]
          exact ih _ (by rw [← h', List.length_drop]; simp only [List.length_cons]; omega) _ _ _ h rfl
theorem first_kind (c : UInt8) (r : List UInt8) (h : (firstTok (c :: r)).err = 0) : (firstTok (c :: r)).kind ≠ 0 := by
  rw [firstTok] at h ⊢
  cases hl : letter c
  · cases hd : digit c
    · rw [hl, hd] at h
      simp only [Bool.false_eq_true, if_false] at h ⊢
      by_cases hq : c.toNat = 34
      · rw [if_pos hq] at h ⊢; have := qt_kind _ _ _ h; rw [quotedTok] at *; omega
      · rw [if_neg hq] at h ⊢
        rw [signTok] at h ⊢
        split at h
        · rename_i h1; rw [if_pos h1]; simp
        · rename_i h1; rw [if_neg h1]
          split at h
          · simp [bad] at h
          · rename_i h2; rw [if_neg h2]; simp
    · rw [hl, hd] at h
      simp only [Bool.false_eq_true, if_false, if_true] at h ⊢
      rw [digitsTok] at h ⊢
      split at h
      · simp [bad] at h
      · rename_i h1; rw [if_neg h1]; simp
  · rw [hl] at h
    simp only [if_true] at h ⊢
    rw [wordTok] at h ⊢
    split at h
    · simp [bad] at h
    · rename_i h1; rw [if_neg h1]; simp
end Lx
end Go.Proofs.Ytplhieahcajjeaa
