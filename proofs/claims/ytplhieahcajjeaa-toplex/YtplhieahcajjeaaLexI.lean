/- The document's own answer (package wavewrightref), its small parts: digitOf, one's words and digits and signs. -/
import Derived.Test.YtplhieahcajjeaaLexH
namespace Go.Proofs.Ytplhieahcajjeaa
open Go.RowKit
namespace Lx
theorem idx_hit (l : List UInt8) (c : UInt8) : ∀ (k : Nat), l[k]? = some c → (∀ j, j < k → l[j]? ≠ some c) → Lib.indexByte l c = k := by
  induction l with
  | nil => intro k h; simp at h
  | cons b l ih =>
    intro k h hj
    unfold Lib.indexByte
    cases k with
    | zero => simp at h; simp [h]
    | succ k =>
      have hb : (b == c) = false := by
        have := hj 0 (by omega)
        simpa using this
      rw [hb]
      have := ih k (by simpa using h) (fun j hjk => by have := hj (j + 1) (by omega); simpa using this)
      rw [this]
      have hk : (((k : Nat) : Int) == -1) = false := by rw [beq_eq_false_iff_ne]; omega
      rw [hk]
      simp
theorem idx_miss (l : List UInt8) (c : UInt8) (hj : ∀ j : Nat, j < l.length → l[j]? ≠ some c) : Lib.indexByte l c = -1 := by
  induction l with
  | nil => rfl
  | cons b l ih =>
    unfold Lib.indexByte
    have hb : (b == c) = false := by
      have := hj 0 (by simp)
      simpa using this
    rw [hb, ih (fun j hjl => by have := hj (j + 1) (by simp; omega); simpa using this)]
    rfl
end Lx
theorem snoc_miss {l : List UInt8} {k : Nat} {b : UInt8} (h : ∀ j, j < k → l[j]? ≠ some b) (hk : l[k]? ≠ some b) : ∀ j, j < k + 1 → l[j]? ≠ some b := by
  intro j hj
  rcases Nat.lt_or_ge j k with h1 | h1
  · exact h j h1
  · obtain rfl : j = k := by omega
    exact hk
theorem at_hit (s : ByteArray) (k : Nat) (hk : k < s.size) (b : UInt8) (h : ((s[k].toNat : Int) == (b.toNat : Int)) = true) : (Lx.bl s)[k]? = some b := by
  rw [Lx.bl_get s k hk]
  have : s[k].toNat = b.toNat := by rw [beq_iff_eq] at h; omega
  rw [UInt8.toNat_inj.1 this]
theorem at_miss (s : ByteArray) (k : Nat) (hk : k < s.size) (b : UInt8) (h : ((s[k].toNat : Int) == (b.toNat : Int)) = false) : (Lx.bl s)[k]? ≠ some b := by
  rw [Lx.bl_get s k hk]
  intro e
  rw [Option.some.inj e] at h
  simp at h
set_option maxRecDepth 100000 in
set_option maxHeartbeats 400000 in
theorem digitOf_any (b : UInt8) (w : World) :
    Calls Try.prog 29 #[.int .u8 b.toNat] w fun e w' => e = .returned (.int .i64 (Lx.hex b)) ∧ w' = w := by
  go_enter Try.func29, Try.ntmps29
  go_wp2
  go_loop [3] (fun i => ∃ k : Nat, k ≤ 16 ∧ i = .int .i64 k ∧ ∀ j, j < k → Lx.hexes[j]? ≠ some b) (fun i => 16 - (intOf i).toNat)
  case atStart => exact ⟨0, by omega, rfl, fun j hj => absurd hj (by omega)⟩
  case round =>
    obtain ⟨k, hk, rfl, hj⟩ := hrel
    have HJ : Hid _ := hj
    clear hj
    by_cases hlt : k < 16
    · go_wp2
      · go_ret
        have hh := at_hit _ k _ b ‹_›
        exact ⟨ret_int (Lx.idx_hit Lx.hexes b k hh HJ.out).symm, rfl⟩
      · have hh := at_miss _ k _ b ‹_›
        go_round
        case rel => exact ⟨k + 1, by omega, by go_num, snoc_miss HJ.out hh⟩
        case measure => simp [intOf]; omega
    · go_wp2
      go_ret
      exact ⟨ret_int (by have := Lx.idx_miss Lx.hexes b (fun j hjl => HJ.out j (by have : Lx.hexes.length = 16 := rfl; omega)); exact this.symm), rfl⟩
/-- What one and quoted of the document's answer hand back. -/
def Lx.oneV (k : Nat) (T : Lx.Tok) : Value := .tuple #[.int .i64 T.kind, .string (Lx.str T.text), .int .i64 (if T.err = 0 then k + T.size else 0 : Nat), .int .i64 T.err]
theorem Lx.str_mid (s : ByteArray) (k n : Nat) : Lx.str (((Lx.bl s).drop k).take n) = s.extract k (k + n) := by
  rw [← Lx.str_bl (s.extract k (k + n)), Lx.bl_extract]
  rw [show k + n - k = n by omega]
theorem Lx.oneV_bad (k f : Nat) (h : f ≠ 0) : Lx.oneV k (Lx.bad f) = .tuple #[.int .i64 0, .string ⟨#[]⟩, .int .i64 0, .int .i64 f] := by
  unfold Lx.oneV Lx.bad
  show Value.tuple #[_, _, .int .i64 ((if f = 0 then k + 0 else 0 : Nat)), _] = _
  rw [if_neg h]; rfl
theorem Lx.oneV_ok (k d n : Nat) (l : List UInt8) (t : ByteArray) (h : Lx.str l = t) : Lx.oneV k ⟨d, l, n, 0⟩ = .tuple #[.int .i64 d, .string t, .int .i64 ((k : Int) + (n : Int)), .int .i64 0] := by
  subst h
  simp only [Lx.oneV, if_true, Int.natCast_add]; rfl
theorem Lx.word_bad (l : List UInt8) (h : Lx.plen Lx.wordy l > 12) : Lx.wordTok l = Lx.bad 1 := by rw [Lx.wordTok, if_pos h]
theorem Lx.word_ok (l : List UInt8) (h : ¬ Lx.plen Lx.wordy l > 12) : Lx.wordTok l = ⟨1, l.take (Lx.plen Lx.wordy l), Lx.plen Lx.wordy l, 0⟩ := by rw [Lx.wordTok, if_neg h]
theorem Lx.digits_bad (l : List UInt8) (h : Lx.plen Lx.digit l > 10 ∨ Lx.plen Lx.digit l > 1 ∧ l.headD 0 = 48) : Lx.digitsTok l = Lx.bad 1 := by rw [Lx.digitsTok, if_pos h]
theorem Lx.digits_ok (l : List UInt8) (h : ¬ (Lx.plen Lx.digit l > 10 ∨ Lx.plen Lx.digit l > 1 ∧ l.headD 0 = 48)) : Lx.digitsTok l = ⟨2, l.take (Lx.plen Lx.digit l), Lx.plen Lx.digit l, 0⟩ := by rw [Lx.digitsTok, if_neg h]
theorem Lx.not_wordy (b : UInt8) (h : Lx.wordy b = false) : ¬ (97 ≤ b.toNat ∧ b.toNat ≤ 122) ∧ ¬ (48 ≤ b.toNat ∧ b.toNat ≤ 57) := by
  simp only [Lx.wordy, Lx.letter, Lx.digit, Bool.or_eq_false_iff, Bool.and_eq_false_iff, decide_eq_false_iff_not] at h
  omega
theorem Lx.is_wordy (b : UInt8) (h : Lx.wordy b = true) : (97 ≤ b.toNat ∧ b.toNat ≤ 122) ∨ (48 ≤ b.toNat ∧ b.toNat ≤ 57) := by
  simpa [Lx.wordy, Lx.letter, Lx.digit] using h
theorem Lx.not_digit (b : UInt8) (h : Lx.digit b = false) : ¬ (48 ≤ b.toNat ∧ b.toNat ≤ 57) := by
  simp only [Lx.digit, Bool.and_eq_false_iff, decide_eq_false_iff_not] at h
  omega
theorem Lx.is_digit (b : UInt8) (h : Lx.digit b = true) : 48 ≤ b.toNat ∧ b.toNat ≤ 57 := by
  simpa [Lx.digit] using h
theorem Lx.is_letter (b : UInt8) (h : Lx.letter b = true) : 97 ≤ b.toNat ∧ b.toNat ≤ 122 := by
  simpa [Lx.letter] using h
theorem Lx.not_letter (b : UInt8) (h : Lx.letter b = false) : ¬ (97 ≤ b.toNat ∧ b.toNat ≤ 122) := by
  simp only [Lx.letter, Bool.and_eq_false_iff, decide_eq_false_iff_not] at h
  omega
set_option maxRecDepth 100000 in
set_option maxHeartbeats 1600000 in
theorem one_word (s : ByteArray) (k : Nat) (w : World) (hs : s.size ≤ 1000000) (hk : k < s.size) (hc : Lx.letter s[k] = true) :
    Calls Try.prog 12 #[.string s, .int .i64 k] w fun e w' => e = .returned (Lx.oneV k (Lx.wordTok ((Lx.bl s).drop k))) ∧ ∃ n, w' = w.drewN n := by
  obtain ⟨hc1, hc2⟩ := Lx.is_letter _ hc
  clear hc
  go_enter Try.func12, Try.ntmps12
  go_wp2
  go_loop [9] (fun i => ∃ j : Nat, k + j ≤ s.size ∧ i = .int .i64 (k + j : Nat) ∧ Lx.plen Lx.wordy ((Lx.bl s).drop k) = j + Lx.plen Lx.wordy ((Lx.bl s).drop (k + j))) (fun i => s.size - (intOf i).toNat)
  case atStart => exact ⟨0, by omega, by simp, by simp⟩
  case round =>
    obtain ⟨j, hj, rfl, hpl⟩ := hrel
    by_cases hlt : k + j < s.size
    · rw [Lx.bl_drop s (k + j) hlt, Lx.plen] at hpl
      cases hb : Lx.wordy s[k + j]
      · rw [hb, if_neg (by decide), Nat.add_zero] at hpl
        obtain ⟨hb1, hb2⟩ := Lx.not_wordy _ hb
        clear hb
        by_cases h12 : j > 12
        · have E : Hid (Lx.oneV k (Lx.wordTok ((Lx.bl s).drop k)) = .tuple #[.int .i64 0, .string ⟨#[]⟩, .int .i64 0, .int .i64 1]) := by show _ = _; rw [Lx.word_bad _ (by omega)]; exact Lx.oneV_bad k 1 (by omega)
          clear hpl
          go_wp2
          all_goals exact bodyPost_ret (v := .tuple #[.int .i64 0, .string ⟨#[]⟩, .int .i64 0, .int .i64 1]) (by simp [results, Try.results12, go_sem]) rfl ⟨congrArg Ending.returned E.out.symm, 0, rfl⟩
        · have E : Hid (Lx.oneV k (Lx.wordTok ((Lx.bl s).drop k)) = .tuple #[.int .i64 1, .string (s.extract k (k + j)), .int .i64 ((k : Int) + (j : Int)), .int .i64 0]) := by show _ = _; rw [Lx.word_ok _ (by omega), hpl]; exact Lx.oneV_ok k 1 j _ _ (Lx.str_mid s k j)
          clear hpl
          go_wp2
          all_goals go_quiet (fail)
          all_goals go_wp2
          all_goals exact bodyPost_ret (v := .tuple #[.int .i64 1, .string (s.extract k (k + j)), .int .i64 ((k : Int) + (j : Int)), .int .i64 0]) (by simp [results, Try.results12, go_sem]) rfl ⟨congrArg Ending.returned E.out.symm, _, rfl⟩
      · rw [hb, if_pos rfl] at hpl
        have hb1 := Lx.is_wordy _ hb
        clear hb
        have HPL : Hid _ := hpl
        clear hpl
        rcases hb1 with ⟨hb1, hb2⟩ | ⟨hb1, hb2⟩
        all_goals
          go_wp2
          go_round
          case rel => exact ⟨j + 1, by omega, by go_num, by have := HPL.out; rw [show k + (j + 1) = k + j + 1 by omega]; omega⟩
          case measure => simp [intOf]; omega
    · rw [Lx.bl_drop_end s (k + j) hlt, Lx.plen, Nat.add_zero] at hpl
      by_cases h12 : j > 12
      · have E : Hid (Lx.oneV k (Lx.wordTok ((Lx.bl s).drop k)) = .tuple #[.int .i64 0, .string ⟨#[]⟩, .int .i64 0, .int .i64 1]) := by show _ = _; rw [Lx.word_bad _ (by omega)]; exact Lx.oneV_bad k 1 (by omega)
        clear hpl
        go_wp2
        all_goals exact bodyPost_ret (v := .tuple #[.int .i64 0, .string ⟨#[]⟩, .int .i64 0, .int .i64 1]) (by simp [results, Try.results12, go_sem]) rfl ⟨congrArg Ending.returned E.out.symm, 0, rfl⟩
      · have E : Hid (Lx.oneV k (Lx.wordTok ((Lx.bl s).drop k)) = .tuple #[.int .i64 1, .string (s.extract k (k + j)), .int .i64 ((k : Int) + (j : Int)), .int .i64 0]) := by show _ = _; rw [Lx.word_ok _ (by omega), hpl]; exact Lx.oneV_ok k 1 j _ _ (Lx.str_mid s k j)
        clear hpl
        go_wp2
        all_goals go_quiet (fail)
        all_goals go_wp2
        all_goals exact bodyPost_ret (v := .tuple #[.int .i64 1, .string (s.extract k (k + j)), .int .i64 ((k : Int) + (j : Int)), .int .i64 0]) (by simp [results, Try.results12, go_sem]) rfl ⟨congrArg Ending.returned E.out.symm, _, rfl⟩
set_option maxRecDepth 100000 in
set_option maxHeartbeats 1600000 in
theorem one_digits (s : ByteArray) (k : Nat) (w : World) (hs : s.size ≤ 1000000) (hk : k < s.size) (hc : Lx.digit s[k] = true) :
    Calls Try.prog 12 #[.string s, .int .i64 k] w fun e w' => e = .returned (Lx.oneV k (Lx.digitsTok ((Lx.bl s).drop k))) ∧ ∃ n, w' = w.drewN n := by
  obtain ⟨hc1, hc2⟩ := Lx.is_digit _ hc
  clear hc
  have hhd : ((Lx.bl s).drop k).headD 0 = s[k] := by rw [Lx.bl_drop s k hk]; rfl
  go_enter Try.func12, Try.ntmps12
  go_wp2
  go_loop [9] (fun i => ∃ j : Nat, k + j ≤ s.size ∧ i = .int .i64 (k + j : Nat) ∧ Lx.plen Lx.digit ((Lx.bl s).drop k) = j + Lx.plen Lx.digit ((Lx.bl s).drop (k + j))) (fun i => s.size - (intOf i).toNat)
  case atStart => exact ⟨0, by omega, by simp, by simp⟩
  case round =>
    obtain ⟨j, hj, rfl, hpl⟩ := hrel
    by_cases hlt : k + j < s.size
    · rw [Lx.bl_drop s (k + j) hlt, Lx.plen] at hpl
      cases hb : Lx.digit s[k + j]
      · rw [hb, if_neg (by decide), Nat.add_zero] at hpl
        have hb1 := Lx.not_digit _ hb
        clear hb
        by_cases h10 : j > 10
        · have E : Hid (Lx.oneV k (Lx.digitsTok ((Lx.bl s).drop k)) = .tuple #[.int .i64 0, .string ⟨#[]⟩, .int .i64 0, .int .i64 1]) := by show _ = _; rw [Lx.digits_bad _ (.inl (by omega))]; exact Lx.oneV_bad k 1 (by omega)
          clear hpl hhd
          go_wp2
          all_goals exact bodyPost_ret (v := .tuple #[.int .i64 0, .string ⟨#[]⟩, .int .i64 0, .int .i64 1]) (by simp [results, Try.results12, go_sem]) rfl ⟨congrArg Ending.returned E.out.symm, 0, rfl⟩
        · by_cases h48 : s[k].toNat = 48
          · have g48 : ((s[k].toNat : Int) == 48) = true := by simp; omega
            by_cases h1 : j > 1
            · have E : Hid (Lx.oneV k (Lx.digitsTok ((Lx.bl s).drop k)) = .tuple #[.int .i64 0, .string ⟨#[]⟩, .int .i64 0, .int .i64 1]) := by show _ = _; rw [Lx.digits_bad _ (.inr ⟨by omega, by rw [hhd, Lx.u8_eq]; exact h48⟩)]; exact Lx.oneV_bad k 1 (by omega)
              clear hpl h48 hhd
              go_wp2
              all_goals exact bodyPost_ret (v := .tuple #[.int .i64 0, .string ⟨#[]⟩, .int .i64 0, .int .i64 1]) (by simp [results, Try.results12, go_sem]) rfl ⟨congrArg Ending.returned E.out.symm, 0, rfl⟩
            · have E : Hid (Lx.oneV k (Lx.digitsTok ((Lx.bl s).drop k)) = .tuple #[.int .i64 2, .string (s.extract k (k + j)), .int .i64 ((k : Int) + (j : Int)), .int .i64 0]) := by show _ = _; rw [Lx.digits_ok _ (by omega), hpl]; exact Lx.oneV_ok k 2 j _ _ (Lx.str_mid s k j)
              clear hpl h48 hhd
              go_wp2
              all_goals go_quiet (fail)
              all_goals go_wp2
              all_goals exact bodyPost_ret (v := .tuple #[.int .i64 2, .string (s.extract k (k + j)), .int .i64 ((k : Int) + (j : Int)), .int .i64 0]) (by simp [results, Try.results12, go_sem]) rfl ⟨congrArg Ending.returned E.out.symm, _, rfl⟩
          · have g48 : ((s[k].toNat : Int) == 48) = false := by simp; omega
            have E : Hid (Lx.oneV k (Lx.digitsTok ((Lx.bl s).drop k)) = .tuple #[.int .i64 2, .string (s.extract k (k + j)), .int .i64 ((k : Int) + (j : Int)), .int .i64 0]) := by show _ = _; rw [Lx.digits_ok _ (by rintro (h | ⟨_, h⟩); omega; rw [hhd, Lx.u8_eq] at h; exact h48 h), hpl]; exact Lx.oneV_ok k 2 j _ _ (Lx.str_mid s k j)
            clear hpl h48 hhd
            go_wp2
            all_goals go_quiet (fail)
            all_goals go_wp2
            all_goals exact bodyPost_ret (v := .tuple #[.int .i64 2, .string (s.extract k (k + j)), .int .i64 ((k : Int) + (j : Int)), .int .i64 0]) (by simp [results, Try.results12, go_sem]) rfl ⟨congrArg Ending.returned E.out.symm, _, rfl⟩
      · rw [hb, if_pos rfl] at hpl
        obtain ⟨hb1, hb2⟩ := Lx.is_digit _ hb
        clear hb hhd
        have HPL : Hid _ := hpl
        clear hpl
        go_wp2
        go_round
        case rel => exact ⟨j + 1, by omega, by go_num, by have := HPL.out; rw [show k + (j + 1) = k + j + 1 by omega]; omega⟩
        case measure => simp [intOf]; omega
    · rw [Lx.bl_drop_end s (k + j) hlt, Lx.plen, Nat.add_zero] at hpl
      by_cases h10 : j > 10
      · have E : Hid (Lx.oneV k (Lx.digitsTok ((Lx.bl s).drop k)) = .tuple #[.int .i64 0, .string ⟨#[]⟩, .int .i64 0, .int .i64 1]) := by show _ = _; rw [Lx.digits_bad _ (.inl (by omega))]; exact Lx.oneV_bad k 1 (by omega)
        clear hpl hhd
        go_wp2
        all_goals exact bodyPost_ret (v := .tuple #[.int .i64 0, .string ⟨#[]⟩, .int .i64 0, .int .i64 1]) (by simp [results, Try.results12, go_sem]) rfl ⟨congrArg Ending.returned E.out.symm, 0, rfl⟩
      · by_cases h48 : s[k].toNat = 48
        · have g48 : ((s[k].toNat : Int) == 48) = true := by simp; omega
          by_cases h1 : j > 1
          · have E : Hid (Lx.oneV k (Lx.digitsTok ((Lx.bl s).drop k)) = .tuple #[.int .i64 0, .string ⟨#[]⟩, .int .i64 0, .int .i64 1]) := by show _ = _; rw [Lx.digits_bad _ (.inr ⟨by omega, by rw [hhd, Lx.u8_eq]; exact h48⟩)]; exact Lx.oneV_bad k 1 (by omega)
            clear hpl h48 hhd
            go_wp2
            all_goals exact bodyPost_ret (v := .tuple #[.int .i64 0, .string ⟨#[]⟩, .int .i64 0, .int .i64 1]) (by simp [results, Try.results12, go_sem]) rfl ⟨congrArg Ending.returned E.out.symm, 0, rfl⟩
          · have E : Hid (Lx.oneV k (Lx.digitsTok ((Lx.bl s).drop k)) = .tuple #[.int .i64 2, .string (s.extract k (k + j)), .int .i64 ((k : Int) + (j : Int)), .int .i64 0]) := by show _ = _; rw [Lx.digits_ok _ (by omega), hpl]; exact Lx.oneV_ok k 2 j _ _ (Lx.str_mid s k j)
            clear hpl h48 hhd
            go_wp2
            all_goals go_quiet (fail)
            all_goals go_wp2
            all_goals exact bodyPost_ret (v := .tuple #[.int .i64 2, .string (s.extract k (k + j)), .int .i64 ((k : Int) + (j : Int)), .int .i64 0]) (by simp [results, Try.results12, go_sem]) rfl ⟨congrArg Ending.returned E.out.symm, _, rfl⟩
        · have g48 : ((s[k].toNat : Int) == 48) = false := by simp; omega
          have E : Hid (Lx.oneV k (Lx.digitsTok ((Lx.bl s).drop k)) = .tuple #[.int .i64 2, .string (s.extract k (k + j)), .int .i64 ((k : Int) + (j : Int)), .int .i64 0]) := by show _ = _; rw [Lx.digits_ok _ (by rintro (h | ⟨_, h⟩); omega; rw [hhd, Lx.u8_eq] at h; exact h48 h), hpl]; exact Lx.oneV_ok k 2 j _ _ (Lx.str_mid s k j)
          clear hpl h48 hhd
          go_wp2
          all_goals go_quiet (fail)
          all_goals go_wp2
          all_goals exact bodyPost_ret (v := .tuple #[.int .i64 2, .string (s.extract k (k + j)), .int .i64 ((k : Int) + (j : Int)), .int .i64 0]) (by simp [results, Try.results12, go_sem]) rfl ⟨congrArg Ending.returned E.out.symm, _, rfl⟩
end Go.Proofs.Ytplhieahcajjeaa
