/- Plain facts: a text that is made of tokens, a line's end behind each, has just these tokens. -/
import Derived.Test.YtplhieahcajjeaaLexM
import Derived.Test.YtplhieahcajjeaaTopA
namespace Go.Proofs.Ytplhieahcajjeaa
namespace Lx
/-- A token as it is written. -/
def rend (k : Nat) (t : List UInt8) : List UInt8 := if k = 3 then quote t else t
/-- It is a token of some text. -/
def Valid (k : Nat) (t : List UInt8) : Prop := k ≠ 0 ∧ ∃ r n, firstTok r = ⟨k, t, n, 0⟩
theorem is_digit' (b : UInt8) (h : digit b = true) : 48 ≤ b.toNat ∧ b.toNat ≤ 57 := by simpa [digit] using h
theorem is_letter' (b : UInt8) (h : letter b = true) : 97 ≤ b.toNat ∧ b.toNat ≤ 122 := by simpa [letter] using h
theorem plen_all (p : UInt8 → Bool) (u : List UInt8) (c : UInt8) (hc : p c = false) : ∀ l : List UInt8, (∀ b ∈ l, p b = true) → plen p (l ++ c :: u) = l.length
  | [], _ => by simp [plen, hc]
  | b :: r, h => by
    rw [List.cons_append, plen, if_pos (h b (by simp)), plen_all p u c hc r (fun x hx => h x (by simp [hx]))]; rfl
theorem plen_take (p : UInt8 → Bool) : ∀ l : List UInt8, ∀ b ∈ l.take (plen p l), p b = true
  | [], b, h => by simp [plen] at h
  | c :: r, b, h => by
    rw [plen] at h
    split at h
    · rename_i hc
      rw [List.take_succ_cons, List.mem_cons] at h
      rcases h with rfl | h
      · exact hc
      · exact plen_take p r b h
    · simp at h
theorem length_take_plen (p : UInt8 → Bool) (l : List UInt8) : (l.take (plen p l)).length = plen p l := by
  rw [List.length_take]; have := plen_le p l; omega
theorem word_again (c : UInt8) (r u : List UInt8) (hl : letter c = true) (h : ¬ plen wordy (c :: r) > 12) :
    firstTok ((c :: r).take (plen wordy (c :: r)) ++ 10 :: u) = ⟨1, (c :: r).take (plen wordy (c :: r)), ((c :: r).take (plen wordy (c :: r))).length, 0⟩ := by
  have hw : wordy c = true := by simp [wordy, hl]
  have hp : plen wordy (c :: r) = plen wordy r + 1 := by rw [plen, if_pos hw]
  have hall := plen_take wordy (c :: r)
  have hlen := length_take_plen wordy (c :: r)
  generalize ht : (c :: r).take (plen wordy (c :: r)) = t at *
  obtain ⟨t', rfl⟩ : ∃ t', t = c :: t' := ⟨r.take (plen wordy r), by rw [← ht, hp, List.take_succ_cons]⟩
  have hpl := plen_all wordy u 10 (by decide) (c :: t') hall
  rw [List.cons_append, firstTok, if_pos hl, wordTok, ← List.cons_append, hpl, if_neg (by omega), List.take_left']
  rfl
theorem digits_again (c : UInt8) (r u : List UInt8) (hl : letter c = false) (hd : digit c = true) (h : ¬ (plen digit (c :: r) > 10 ∨ plen digit (c :: r) > 1 ∧ c = 48)) :
    firstTok ((c :: r).take (plen digit (c :: r)) ++ 10 :: u) = ⟨2, (c :: r).take (plen digit (c :: r)), ((c :: r).take (plen digit (c :: r))).length, 0⟩ := by
  have hp : plen digit (c :: r) = plen digit r + 1 := by rw [plen, if_pos hd]
  have hall := plen_take digit (c :: r)
  have hlen := length_take_plen digit (c :: r)
  generalize ht : (c :: r).take (plen digit (c :: r)) = t at *
  obtain ⟨t', rfl⟩ : ∃ t', t = c :: t' := ⟨r.take (plen digit r), by rw [← ht, hp, List.take_succ_cons]⟩
  have hpl := plen_all digit u 10 (by decide) (c :: t') hall
  rw [List.cons_append, firstTok, if_neg (by simp [hl]), if_pos hd, digitsTok, ← List.cons_append, hpl, if_neg (by rw [hlen]; exact h), List.take_left']
  rfl
theorem sign_again (c : UInt8) (r u : List UInt8) (hl : letter c = false) (hd : digit c = false) (hq : ¬ c.toNat = 34) (T : Tok) (hT : signTok (c :: r) = T) (he : T.err = 0) :
    firstTok (T.text ++ 10 :: u) = ⟨T.kind, T.text, T.text.length, 0⟩ ∧ T.kind = 4 ∧ (∃ t', T.text = c :: t') ∧ (¬ c.toNat = 32 ∧ ¬ c.toNat = 10 ∧ ¬ c.toNat = 35) ∧ T.text.length ≤ 40 := by
  rw [signTok] at hT
  by_cases h2 : (c :: r).take 2 = [61, 61]
  · rw [if_pos h2, h2] at hT
    subst hT
    have hc : c = 61 := by
      cases r with
      | nil => simp at h2
      | cons d r' => simp at h2; exact h2.1
    subst hc
    exact ⟨rfl, rfl, ⟨[61], rfl⟩, by decide, by decide⟩
  · rw [if_neg h2] at hT
    by_cases hi : Lib.indexByte signList ((c :: r).headD 0) < 0
    · rw [if_pos hi] at hT; subst hT; simp [bad] at he
    · rw [if_neg hi] at hT
      subst hT
      have hne : ∀ d : UInt8, Lib.indexByte signList d < 0 → ¬ c = d := fun d hd e => hi (by rw [e]; exact hd)
      refine ⟨?_, rfl, ⟨[], rfl⟩, ⟨fun e => hne 32 (by decide) (UInt8.toNat_inj.1 e), fun e => hne 10 (by decide) (UInt8.toNat_inj.1 e), fun e => hne 35 (by decide) (UInt8.toNat_inj.1 e)⟩, by simp⟩
      show firstTok ([c] ++ 10 :: u) = ⟨4, [c], 1, 0⟩
      rw [List.cons_append, List.nil_append, firstTok, if_neg (by simp [hl]), if_neg (by simp [hd]), if_neg hq, signTok, if_neg (by simp), if_neg (show ¬ Lib.indexByte signList ((c :: 10 :: u).headD 0) < 0 from hi)]
      rfl
/-- Each byte's writing is read as it. -/
theorem hex_getD (n : Nat) (h : n < 16) : hex (hexes.getD n 0) = n := by
  match n, h with
  | 0, _ => rfl
  | 1, _ => rfl
  | 2, _ => rfl
  | 3, _ => rfl
  | 4, _ => rfl
  | 5, _ => rfl
  | 6, _ => rfl
  | 7, _ => rfl
  | 8, _ => rfl
  | 9, _ => rfl
  | 10, _ => rfl
  | 11, _ => rfl
  | 12, _ => rfl
  | 13, _ => rfl
  | 14, _ => rfl
  | 15, _ => rfl
  | n + 16, h => exact absurd h (by omega)
theorem hexByte_pair (c : UInt8) : hexByte (hexes.getD (c.toNat / 16) 0) (hexes.getD (c.toNat % 16) 0) = c := by
  have hc := c.toNat_lt
  have h1 := hex_getD (c.toNat / 16) (by omega)
  have h2 := hex_getD (c.toNat % 16) (by omega)
  apply UInt8.toNat_inj.1
  have := hexByte_toNat (hexes.getD (c.toNat / 16) 0) (hexes.getD (c.toNat % 16) 0) (by omega) (by omega)
  rw [h1, h2] at this
  omega
theorem qt_one (c : UInt8) (v : List UInt8) (k : Nat) (acc : List UInt8) : qt (quoteByte c ++ v) k acc = qt v (k + (quoteByte c).length) (acc ++ [c]) := by
  rw [quoteByte]
  by_cases h1 : c.toNat = 34 ∨ c.toNat = 92
  · rw [if_pos h1]
    show qt (92 :: c :: v) k acc = qt v (k + 2) (acc ++ [c])
    have hu : unq (92 :: c :: v) = (c, 2) := by
      rw [unq, show (92 :: c :: v).getD 0 0 = (92 : UInt8) from rfl, show (92 :: c :: v).getD 1 0 = c from rfl, if_neg (by decide), if_neg (by decide), if_pos ⟨by simp, h1⟩]
    rw [qt_cons, if_neg (by decide), hu, if_neg (by simp)]
    rfl
  · rw [if_neg h1]
    by_cases h2 : c.toNat < 32 ∨ 126 < c.toNat
    · rw [if_pos h2]
      show qt (92 :: 120 :: hexes.getD (c.toNat / 16) 0 :: hexes.getD (c.toNat % 16) 0 :: v) k acc = qt v (k + 4) (acc ++ [c])
      have hc := c.toNat_lt
      have e1 := hex_getD (c.toNat / 16) (by omega)
      have e2 := hex_getD (c.toNat % 16) (by omega)
      have hp := hexByte_pair c
      generalize hexes.getD (c.toNat / 16) 0 = x at *
      generalize hexes.getD (c.toNat % 16) 0 = y at *
      have hu : unq (92 :: 120 :: x :: y :: v) = (c, 4) := by
        rw [unq, show (92 :: 120 :: x :: y :: v).getD 0 0 = (92 : UInt8) from rfl, show (92 :: 120 :: x :: y :: v).getD 1 0 = (120 : UInt8) from rfl, show (92 :: 120 :: x :: y :: v).getD 2 0 = x from rfl, show (92 :: 120 :: x :: y :: v).getD 3 0 = y from rfl, if_neg (by decide), if_neg (by decide), if_neg (fun h => absurd h.2 (by decide)), if_pos ⟨by simp, by decide, by omega, by omega⟩, hp]
      rw [qt_cons, if_neg (by decide), hu, if_neg (by simp)]
      rfl
    · rw [if_neg h2]
      show qt (c :: v) k acc = qt v (k + 1) (acc ++ [c])
      have hu : unq (c :: v) = (c, 1) := by
        rw [unq, show (c :: v).getD 0 0 = c from rfl, if_neg h2, if_pos (by omega)]
      rw [qt_cons, if_neg (by omega), hu, if_neg (by simp)]
      rfl
theorem qt_flat : ∀ (t v : List UInt8) (k : Nat) (acc : List UInt8), (acc ++ t).length ≤ 40 → qt (t.flatMap quoteByte ++ 34 :: v) k acc = ⟨3, acc ++ t, k + (t.flatMap quoteByte).length + 1, 0⟩
  | [], v, k, acc, h => by
    simp only [List.flatMap_nil, List.nil_append, List.append_nil, List.length_nil, Nat.add_zero] at *
    rw [qt_cons, if_pos (by decide), if_neg (by omega)]
  | c :: t, v, k, acc, h => by
    rw [List.flatMap_cons, List.append_assoc, qt_one, qt_flat t v _ (acc ++ [c]) (by simpa using h)]
    simp only [List.append_assoc, List.cons_append, List.nil_append, List.length_append]
    congr 1
    omega
theorem quote_again (t u : List UInt8) (h : t.length ≤ 40) : firstTok (quote t ++ 10 :: u) = ⟨3, t, (quote t).length, 0⟩ := by
  rw [quote]
  show firstTok (34 :: (t.flatMap quoteByte ++ [34] ++ 10 :: u)) = _
  rw [firstTok, if_neg (by decide), if_neg (by decide), if_pos (by decide), quotedTok, List.drop_succ_cons, List.drop_zero, List.append_assoc]
  show qt (t.flatMap quoteByte ++ 34 :: 10 :: u) 1 [] = _
  rw [qt_flat t _ 1 [] (by simpa using h)]
  simp only [List.nil_append, List.length_append, List.length_cons, List.length_nil]
theorem qt_short (l : List UInt8) (k : Nat) (acc : List UInt8) (h : (qt l k acc).err = 0) : (qt l k acc).text.length ≤ 40 := by
  induction h' : l.length using Nat.strongRecOn generalizing l k acc with
  | ind n ih =>
    cases l with
    | nil => rw [qt_nil] at h; simp [bad] at h
    | cons c r =>
      rw [qt_cons] at h ⊢
      split at h
      · rename_i h34
        rw [if_pos h34]
        split at h
        · simp [bad] at h
        · rename_i h40; rw [if_neg h40]; show acc.length ≤ 40; omega
      · rename_i h34
        rw [if_neg h34]
        split at h
        · simp [bad] at h
        · rename_i hn
          rw [if_neg hn]
          exact ih _ (by rw [← h', List.length_drop]; simp only [List.length_cons]; omega) _ _ _ h rfl
theorem head_gap (c : UInt8) (x : List UInt8) (h1 : ¬ c.toNat = 32) (h2 : ¬ c.toNat = 10) (h3 : ¬ c.toNat = 35) : gapLen false (c :: x) = 0 := by
  rw [gapLen, if_neg]
  rw [skips_false]; simp [h1, h2, h3]
/-- A token that is written, a line's end behind it, is read as it; it begins with no blank; it is short. -/
theorem again (k : Nat) (t u : List UInt8) (hv : Valid k t) : firstTok (rend k t ++ 10 :: u) = ⟨k, t, (rend k t).length, 0⟩ ∧ gapLen false (rend k t ++ 10 :: u) = 0 ∧ t.length ≤ 40 ∧ rend k t ≠ [] := by
  obtain ⟨hk, r, n, hf⟩ := hv
  cases r with
  | nil => exact absurd (congrArg Tok.kind hf).symm hk
  | cons c r =>
    rw [firstTok] at hf
    cases hl : letter c
    · cases hd : digit c
      · rw [hl, hd] at hf
        simp only [Bool.false_eq_true, if_false] at hf
        by_cases hq : c.toNat = 34
        · rw [if_pos hq, quotedTok] at hf
          have he : (qt ((c :: r).drop 1) 1 []).err = 0 := by rw [hf]
          have h1 := qt_kind _ _ _ he
          have h2 := qt_short _ _ _ he
          rw [hf] at h1 h2
          simp only at h1 h2
          subst h1
          refine ⟨quote_again t u h2, ?_, h2, by simp [rend, quote]⟩
          rw [rend, if_pos rfl, quote]
          exact head_gap 34 _ (by decide) (by decide) (by decide)
        · rw [if_neg hq] at hf
          obtain ⟨h1, h2, ⟨t', h3⟩, hs, h4⟩ := sign_again c r u hl hd hq _ hf rfl
          simp only at h1 h2 h3 h4
          subst h2
          rw [rend, if_neg (by decide)]
          refine ⟨h1, ?_, ?_, by rw [h3]; simp⟩
          · rw [h3, List.cons_append]; exact head_gap c _ hs.1 hs.2.1 hs.2.2
          · exact h4
      · rw [hl, hd] at hf
        simp only [Bool.false_eq_true, if_false, if_true] at hf
        rw [digitsTok] at hf
        by_cases hb : plen digit (c :: r) > 10 ∨ plen digit (c :: r) > 1 ∧ (c :: r).headD 0 = 48
        · rw [if_pos hb] at hf; exact absurd (congrArg Tok.kind hf).symm hk
        · rw [if_neg hb] at hf
          have h1 := congrArg Tok.kind hf
          have h2 := congrArg Tok.text hf
          simp only at h1 h2
          subst h1 h2
          have hp : plen digit (c :: r) = plen digit r + 1 := by rw [plen, if_pos hd]
          have hdg := is_digit' c hd
          rw [rend, if_neg (by decide)]
          refine ⟨digits_again c r u hl hd hb, ?_, ?_, by rw [hp]; simp⟩
          · rw [hp, List.take_succ_cons, List.cons_append]; exact head_gap c _ (by omega) (by omega) (by omega)
          · rw [length_take_plen]; omega
    · rw [hl] at hf
      simp only [if_true] at hf
      rw [wordTok] at hf
      by_cases hb : plen wordy (c :: r) > 12
      · rw [if_pos hb] at hf; exact absurd (congrArg Tok.kind hf).symm hk
      · rw [if_neg hb] at hf
        have h1 := congrArg Tok.kind hf
        have h2 := congrArg Tok.text hf
        simp only at h1 h2
        subst h1 h2
        have hp : plen wordy (c :: r) = plen wordy r + 1 := by rw [plen, if_pos (by simp [wordy, hl])]
        have hlt := is_letter' c hl
        rw [rend, if_neg (by decide)]
        refine ⟨word_again c r u hl hb, ?_, ?_, by rw [hp]; simp⟩
        · rw [hp, List.take_succ_cons, List.cons_append]; exact head_gap c _ (by omega) (by omega) (by omega)
        · rw [length_take_plen]; omega
/-- Tokens that stand one behind the other, from a place on, each within the text. -/
def Good (m : Nat) : Nat → List (Nat × Nat × List UInt8) → Prop
  | _, [] => True
  | k, t :: r => k ≤ t.2.1 ∧ t.2.1 < m ∧ Valid t.1 t.2.2 ∧ Good m (t.2.1 + 1) r
theorem good_mono (m : Nat) : ∀ (l : List (Nat × Nat × List UInt8)) (k j : Nat), j ≤ k → Good m k l → Good m j l
  | [], _, _, _, _ => trivial
  | _ :: _, _, _, h, ⟨h1, h2⟩ => ⟨Nat.le_trans h h1, h2⟩
theorem toks_good (s : List UInt8) (r : List (Nat × Nat × List UInt8)) : ∀ (n k : Nat) (acc : List (Nat × Nat × List UInt8)), toks n s k acc = .ok r → ∃ ext, r = acc ++ ext ∧ Good s.length k ext
  | 0, k, acc, h => by simp only [toks, Except.ok.injEq] at h; exact ⟨[], by simp [h], trivial⟩
  | n + 1, k, acc, h => by
    rw [toks] at h
    generalize ha : k + gapLen false (s.drop k) = a at h
    by_cases he : (firstTok (s.drop a)).err ≠ 0
    · rw [if_pos he] at h; cases h
    · rw [if_neg he] at h
      by_cases hk : (firstTok (s.drop a)).kind = 0
      · rw [if_pos hk] at h; cases h; exact ⟨[], by simp, trivial⟩
      · rw [if_neg hk] at h
        obtain ⟨ext, h1, h2⟩ := toks_good s r n _ _ h
        have hlt : a < s.length := by
          rcases Nat.lt_or_ge a s.length with h' | h'
          · exact h'
          · rw [List.drop_of_length_le h'] at hk; exact absurd rfl hk
        have hpos := first_pos _ hk
        refine ⟨((firstTok (s.drop a)).kind, a, (firstTok (s.drop a)).text) :: ext, by rw [h1]; simp, by show k ≤ a; omega, hlt, ⟨hk, s.drop a, (firstTok (s.drop a)).size, ?_⟩, good_mono _ _ _ _ (by show a + 1 ≤ _; omega) h2⟩
        have he' : (firstTok (s.drop a)).err = 0 := by omega
        generalize firstTok (s.drop a) = T at *
        obtain ⟨k', t', s', e'⟩ := T
        simp only at he'
        subst he'
        rfl
theorem lexAll_good (s : List UInt8) (r : List (Nat × Nat × List UInt8)) (h : lexAll s = .ok r) : Good s.length 0 r := by
  rw [lexAll] at h
  split at h
  · cases h
  · obtain ⟨ext, h1, h2⟩ := toks_good s r _ _ _ h
    rw [h1]; exact h2
/-- What stands of tokens, written out. -/
def face (t : Nat × Nat × List UInt8) : Nat × List UInt8 := (t.1, t.2.2)
def rendAll (l : List (Nat × Nat × List UInt8)) : List UInt8 := l.flatMap fun t => rend t.1 t.2.2 ++ [10]
theorem relex (x : List UInt8) : ∀ (l : List (Nat × Nat × List UInt8)) (n k : Nat) (acc : List (Nat × Nat × List UInt8)) (m j : Nat), Good m j l → l.length < n → (x.drop k = rendAll l ∨ x.drop k = 10 :: rendAll l) →
    ∃ r, toks n x k acc = .ok (acc ++ r) ∧ r.map face = l.map face
  | l, 0, _, _, _, _, _, h, _ => absurd h (by omega)
  | [], n + 1, k, acc, m, j, _, _, hd => by
    have h1 : toks (n + 1) x k acc = .ok acc := by
      rcases hd with hd | hd
      · exact toks_end x n k acc hd
      · have hr : x.drop (k + 1) = [] := by
          have := congrArg (List.drop 1) hd
          simpa [List.drop_drop, rendAll] using this
        rw [toks_blank x (n + 1) k acc 10 [] (by simpa [rendAll] using hd) hr (by decide)]
        exact toks_end x n (k + 1) acc hr
    exact ⟨[], by simpa using h1, rfl⟩
  | t :: l, n + 1, k, acc, m, j, hg, hn, hd => by
    obtain ⟨_, _, hv, hg'⟩ := hg
    have hR : rendAll (t :: l) = rend t.1 t.2.2 ++ 10 :: rendAll l := by simp [rendAll]
    obtain ⟨a1, a2, _, a4⟩ := again t.1 t.2.2 (rendAll l) hv
    rw [← hR] at a1 a2
    have step : ∀ k', x.drop k' = rendAll (t :: l) → ∃ r, toks (n + 1) x k' acc = .ok (acc ++ r) ∧ r.map face = (t :: l).map face := by
      intro k' hk'
      rw [toks, hk', a2, Nat.add_zero, hk', a1]
      simp only [ne_eq, not_true_eq_false, if_false]
      rw [if_neg hv.1]
      have hd' : x.drop (k' + (rend t.1 t.2.2).length) = 10 :: rendAll l := by
        rw [← List.drop_drop, hk', hR, List.drop_left']; rfl
      obtain ⟨r, h1, h2⟩ := relex x l n (k' + (rend t.1 t.2.2).length) (acc ++ [(t.1, k', t.2.2)]) m _ hg' (by simp at hn; omega) (.inr hd')
      exact ⟨(t.1, k', t.2.2) :: r, by rw [h1]; simp, by simp [h2, face]⟩
    rcases hd with hd | hd
    · exact step k hd
    · have hr : x.drop (k + 1) = rendAll (t :: l) := by
        have := congrArg (List.drop 1) hd
        simpa [List.drop_drop] using this
      rw [toks_blank x (n + 1) k acc 10 _ hd hr (by decide)]
      exact step (k + 1) hr
theorem rend_len (l : List (Nat × Nat × List UInt8)) : ∀ (m k : Nat), Good m k l → l.length ≤ (rendAll l).length ∧ (rendAll l).length ≤ 200 * l.length := by
  induction l with
  | nil => intro m k _; simp [rendAll]
  | cons t l ih =>
    intro m k ⟨_, _, hv, hg⟩
    have h := ih _ _ hg
    obtain ⟨_, _, h40, _⟩ := again t.1 t.2.2 [] hv
    have hq : (rend t.1 t.2.2).length ≤ 170 := by
      rw [rend]; split
      · rw [quote]; have := flat_le t.2.2; simp only [List.length_append, List.length_cons, List.length_nil]; omega
      · omega
    simp only [rendAll, List.flatMap_cons, List.length_append, List.length_cons, List.length_nil] at h ⊢
    omega
theorem relexAll (s : List UInt8) (l : List (Nat × Nat × List UInt8)) (h : lexAll s = .ok l) (hlen : (rendAll l).length ≤ 4000) : ∃ r, lexAll (rendAll l) = .ok r ∧ r.map face = l.map face := by
  have hg := lexAll_good s l h
  have hl := rend_len l _ _ hg
  rw [lexAll, if_neg (by omega)]
  obtain ⟨r, h1, h2⟩ := relex (rendAll l) l ((rendAll l).length + 1) 0 [] _ _ hg (by omega) (.inl (by simp))
  exact ⟨r, by simpa using h1, h2⟩
end Lx
end Go.Proofs.Ytplhieahcajjeaa
