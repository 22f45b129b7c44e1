/- Names: value.Name, and the document's own NameMay. -/
import Derived.Test.YtlmkpjdaoinmoaaVB
namespace Go.Proofs.Ytlmkpjdaoinmoaa
open Go.RowKit
namespace V
def letter (b : UInt8) : Bool := decide (97 ≤ b.toNat) && decide (b.toNat ≤ 122)
def digit (b : UInt8) : Bool := decide (48 ≤ b.toNat) && decide (b.toNat ≤ 57)
/-- May this byte stand at place i of a name? -/
def nameByte (i : Nat) (c : UInt8) : Bool := letter c || digit c && decide (0 < i)
def nameFrom : Nat → List UInt8 → Bool
  | _, [] => true
  | i, c :: r => nameByte i c && nameFrom (i + 1) r
def name (l : List UInt8) : Bool := decide (1 ≤ l.length) && decide (l.length ≤ 12) && nameFrom 0 l
def bl (s : ByteArray) : List UInt8 := s.data.toList
def str (l : List UInt8) : ByteArray := ⟨l.toArray⟩
theorem length_bl (s : ByteArray) : (bl s).length = s.size := by simp [bl]
theorem str_bl (s : ByteArray) : str (bl s) = s := by simp [bl, str]
theorem bl_str (l : List UInt8) : bl (str l) = l := by simp [bl, str]
theorem toList_bl (s : ByteArray) : s.toList = bl s := ByteArray.toList_eq s
theorem bl_get (s : ByteArray) (k : Nat) (h : k < s.size) : (bl s)[k]? = some s[k] := by
  have : k < s.data.toList.length := by simpa using h
  unfold bl
  rw [List.getElem?_eq_getElem this]
  simp; rfl
theorem bl_drop (s : ByteArray) (k : Nat) (h : k < s.size) : (bl s).drop k = s[k] :: (bl s).drop (k + 1) := by
  have hl : k < (bl s).length := by rw [length_bl]; exact h
  rw [List.drop_eq_getElem_cons hl]
  have := bl_get s k h
  rw [List.getElem?_eq_getElem hl] at this
  rw [Option.some.inj this]
theorem bl_drop_end (s : ByteArray) (k : Nat) (h : ¬ k < s.size) : (bl s).drop k = [] := by
  rw [List.drop_eq_nil_iff, length_bl]; omega
theorem is_letter (b : UInt8) (h : letter b = true) : 97 ≤ b.toNat ∧ b.toNat ≤ 122 := by simpa [letter] using h
theorem not_letter (b : UInt8) (h : letter b = false) : ¬ (97 ≤ b.toNat ∧ b.toNat ≤ 122) := by
  simp only [letter, Bool.and_eq_false_iff, decide_eq_false_iff_not] at h; omega
theorem is_digit (b : UInt8) (h : digit b = true) : 48 ≤ b.toNat ∧ b.toNat ≤ 57 := by simpa [digit] using h
theorem not_digit (b : UInt8) (h : digit b = false) : ¬ (48 ≤ b.toNat ∧ b.toNat ≤ 57) := by
  simp only [digit, Bool.and_eq_false_iff, decide_eq_false_iff_not] at h; omega
end V
theorem ret_bool {a b : Bool} (h : a = b) : Ending.returned (.bool a) = .returned (.bool b) := by rw [h]
theorem ret_int {k : IntKind} {a b : Int} (h : a = b) : Ending.returned (.int k a) = .returned (.int k b) := by rw [h]
set_option maxRecDepth 100000 in
set_option maxHeartbeats 400000 in
theorem letter_any (b : UInt8) (w : World) :
    Calls Try.prog 55 #[.int .u8 b.toNat] w fun e w' => e = .returned (.bool (V.letter b)) ∧ w' = w := by
  go_enter Try.func55, Try.ntmps55
  go_wp2
  all_goals go_ret
  · exact ⟨ret_bool (by unfold V.letter; rw [Bool.eq_iff_iff]; simp; omega), rfl⟩
  · exact ⟨ret_bool (by unfold V.letter; rw [Bool.eq_iff_iff]; simp; omega), rfl⟩
set_option maxRecDepth 100000 in
set_option maxHeartbeats 400000 in
theorem digit_any (b : UInt8) (w : World) :
    Calls Try.prog 56 #[.int .u8 b.toNat] w fun e w' => e = .returned (.bool (V.digit b)) ∧ w' = w := by
  go_enter Try.func56, Try.ntmps56
  go_wp2
  all_goals go_ret
  · exact ⟨ret_bool (by unfold V.digit; rw [Bool.eq_iff_iff]; simp; omega), rfl⟩
  · exact ⟨ret_bool (by unfold V.digit; rw [Bool.eq_iff_iff]; simp; omega), rfl⟩
set_option maxRecDepth 100000 in
set_option maxHeartbeats 800000 in
theorem name_any (s : ByteArray) (w : World) (hs : s.size ≤ maxLen) :
    Calls Try.prog 33 #[.string s] w fun e w' => e = .returned (.bool (V.name (V.bl s))) ∧ w' = w := by
  unfold maxLen at hs
  by_cases h0 : s.size = 0
  · have E : Hid (V.name (V.bl s) = false) := by show _ = _; rw [V.name, V.length_bl, decide_eq_false (by omega : ¬ 1 ≤ s.size)]; rfl
    go_enter Try.func33, Try.ntmps33
    go_wp2_with fail
    go_ret
    exact ⟨ret_bool E.out.symm, rfl⟩
  by_cases h12 : 12 < s.size
  · have E : Hid (V.name (V.bl s) = false) := by show _ = _; rw [V.name, V.length_bl, decide_eq_false (by omega : ¬ s.size ≤ 12), Bool.and_false]; rfl
    have g0 : ((s.size : Int) == 0) = false := beq_eq_false_iff_ne.2 (by omega)
    go_enter Try.func33, Try.ntmps33
    go_wp2_with fail
    go_ret
    exact ⟨ret_bool E.out.symm, rfl⟩
  have E : V.name (V.bl s) = V.nameFrom 0 (V.bl s) := by
    rw [V.name, V.length_bl, decide_eq_true (by omega : 1 ≤ s.size), decide_eq_true (by omega : s.size ≤ 12)]; rfl
  rw [E]
  clear E
  have g0 : ((s.size : Int) == 0) = false := beq_eq_false_iff_ne.2 (by omega)
  go_enter Try.func33, Try.ntmps33
  go_wp2_with fail
  go_loop [14, 3] (fun i _ => ∃ k : Nat, k ≤ s.size ∧ i = .int .i64 k ∧ V.nameFrom 0 (V.bl s) = V.nameFrom k ((V.bl s).drop k)) (fun i _ => s.size - (intOf i).toNat)
  case atStart => exact ⟨0, Nat.zero_le _, rfl, by simp⟩
  case round =>
    obtain ⟨k, hk, rfl, hq⟩ := hrel
    by_cases hlt : k < s.size
    · rw [V.bl_drop s k hlt, V.nameFrom, V.nameByte] at hq
      cases hl : V.letter s[k]
      · cases hd : V.digit s[k]
        · rw [hl, hd] at hq
          have HQ : Hid _ := hq
          clear hq
          by_cases hk0 : k = 0
          · have gk : ((k : Int) == 0) = true := by simp; omega
            clear hk0
            go_wp2_with (first | (go_at_call 55; refine (letter_any s[k] _).mono ?_; rw [hl]; rintro e w' ⟨rfl, rfl⟩) | (go_at_call 56; refine (digit_any s[k] _).mono ?_; rw [hd]; rintro e w' ⟨rfl, rfl⟩))
            go_ret
            exact ⟨ret_bool (by rw [HQ.out]; rfl), rfl⟩
          · have gk : ((k : Int) == 0) = false := by simp; omega
            clear hk0
            go_wp2_with (first | (go_at_call 55; refine (letter_any s[k] _).mono ?_; rw [hl]; rintro e w' ⟨rfl, rfl⟩) | (go_at_call 56; refine (digit_any s[k] _).mono ?_; rw [hd]; rintro e w' ⟨rfl, rfl⟩))
            go_ret
            exact ⟨ret_bool (by rw [HQ.out]; rfl), rfl⟩
        · rw [hl, hd] at hq
          by_cases hk0 : k = 0
          · have gk : ((k : Int) == 0) = true := by simp; omega
            rw [decide_eq_false (by omega : ¬ 0 < k)] at hq
            have HQ : Hid _ := hq
            clear hq hk0
            go_wp2_with (first | (go_at_call 55; refine (letter_any s[k] _).mono ?_; rw [hl]; rintro e w' ⟨rfl, rfl⟩) | (go_at_call 56; refine (digit_any s[k] _).mono ?_; rw [hd]; rintro e w' ⟨rfl, rfl⟩))
            go_ret
            exact ⟨ret_bool (by rw [HQ.out]; rfl), rfl⟩
          · have gk : ((k : Int) == 0) = false := by simp; omega
            rw [decide_eq_true (by omega : 0 < k)] at hq
            have HQ : Hid _ := hq
            clear hq hk0
            go_wp2_with (first | (go_at_call 55; refine (letter_any s[k] _).mono ?_; rw [hl]; rintro e w' ⟨rfl, rfl⟩) | (go_at_call 56; refine (digit_any s[k] _).mono ?_; rw [hd]; rintro e w' ⟨rfl, rfl⟩))
            go_round
            case rel => exact ⟨k + 1, by omega, by go_num, by rw [HQ.out]; rfl⟩
            case measure => simp [intOf]; omega
      · rw [hl] at hq
        have HQ : Hid _ := hq
        clear hq
        go_wp2_with (first | (go_at_call 55; refine (letter_any s[k] _).mono ?_; rw [hl]; rintro e w' ⟨rfl, rfl⟩))
        go_round
        case rel => exact ⟨k + 1, by omega, by go_num, by rw [HQ.out]; rfl⟩
        case measure => simp [intOf]; omega
    · rw [V.bl_drop_end s k hlt, V.nameFrom] at hq
      have HQ : Hid _ := hq
      clear hq
      go_wp2_with fail
      go_ret
      exact ⟨ret_bool HQ.out.symm, rfl⟩
set_option maxRecDepth 100000 in
set_option maxHeartbeats 1600000 in
theorem nameMay_any (s : ByteArray) (w : World) (hs : s.size ≤ maxLen) :
    Calls Try.prog 38 #[.string s] w fun e w' => e = .returned (.bool (V.name (V.bl s))) ∧ w' = w := by
  unfold maxLen at hs
  by_cases h0 : s.size < 1
  · have E : Hid (V.name (V.bl s) = false) := by show _ = _; rw [V.name, V.length_bl, decide_eq_false (by omega : ¬ 1 ≤ s.size)]; rfl
    go_enter Try.func38, Try.ntmps38
    go_wp2_with fail
    go_ret
    exact ⟨ret_bool E.out.symm, rfl⟩
  by_cases h12 : 12 < s.size
  · have E : Hid (V.name (V.bl s) = false) := by show _ = _; rw [V.name, V.length_bl, decide_eq_false (by omega : ¬ s.size ≤ 12), Bool.and_false]; rfl
    go_enter Try.func38, Try.ntmps38
    go_wp2_with fail
    go_ret
    exact ⟨ret_bool E.out.symm, rfl⟩
  have E : V.name (V.bl s) = V.nameFrom 0 (V.bl s) := by
    rw [V.name, V.length_bl, decide_eq_true (by omega : 1 ≤ s.size), decide_eq_true (by omega : s.size ≤ 12)]; rfl
  rw [E]
  clear E
  go_enter Try.func38, Try.ntmps38
  go_wp2_with fail
  go_loop [3, 4, 5] (fun i _ _ => ∃ k : Nat, k ≤ s.size ∧ i = .int .i64 k ∧ V.nameFrom 0 (V.bl s) = V.nameFrom k ((V.bl s).drop k)) (fun i _ _ => s.size - (intOf i).toNat)
  case atStart => exact ⟨0, Nat.zero_le _, rfl, by simp⟩
  case round =>
    obtain ⟨k, hk, rfl, hq⟩ := hrel
    by_cases hlt : k < s.size
    · rw [V.bl_drop s k hlt, V.nameFrom, V.nameByte] at hq
      cases hl : V.letter s[k]
      · have nl := V.not_letter _ hl
        cases hd : V.digit s[k]
        · have nd := V.not_digit _ hd
          rw [hl, hd] at hq
          have HQ : Hid _ := hq
          clear hq hl hd
          rcases (show s[k].toNat < 48 ∨ (57 < s[k].toNat ∧ s[k].toNat < 97) ∨ 122 < s[k].toNat by omega) with hc | ⟨hc1, hc2⟩ | hc
          · clear nl nd
            go_wp2_with fail
            go_ret
            exact ⟨ret_bool (by rw [HQ.out]; rfl), rfl⟩
          · clear nl nd
            go_wp2_with fail
            go_ret
            exact ⟨ret_bool (by rw [HQ.out]; rfl), rfl⟩
          · have gd1 : decide ((s[k].toNat : Int) ≤ 122) = false := by simp; omega
            have gd2 : decide ((s[k].toNat : Int) ≤ 57) = false := by simp; omega
            clear nl nd
            go_wp2_with fail
            go_ret
            exact ⟨ret_bool (by rw [HQ.out]; rfl), rfl⟩
        · obtain ⟨d1, d2⟩ := V.is_digit _ hd
          rw [hl, hd] at hq
          by_cases hk0 : k = 0
          · have gk : ((k : Int) == 0) = true := by simp; omega
            rw [decide_eq_false (by omega : ¬ 0 < k)] at hq
            have HQ : Hid _ := hq
            clear hq hl hd nl hk0
            go_wp2_with fail
            go_ret
            exact ⟨ret_bool (by rw [HQ.out]; rfl), rfl⟩
          · have gk : ((k : Int) == 0) = false := by simp; omega
            rw [decide_eq_true (by omega : 0 < k)] at hq
            have HQ : Hid _ := hq
            clear hq hl hd nl hk0
            go_wp2_with fail
            go_round
            case rel => exact ⟨k + 1, by omega, by go_num, by rw [HQ.out]; rfl⟩
            case measure => simp [intOf]; omega
      · obtain ⟨d1, d2⟩ := V.is_letter _ hl
        rw [hl] at hq
        have HQ : Hid _ := hq
        clear hq hl
        go_wp2_with fail
        go_round
        case rel => exact ⟨k + 1, by omega, by go_num, by rw [HQ.out]; rfl⟩
        case measure => simp [intOf]; omega
    · rw [V.bl_drop_end s k hlt, V.nameFrom] at hq
      have HQ : Hid _ := hq
      clear hq
      go_wp2_with fail
      go_ret
      exact ⟨ret_bool HQ.out.symm, rfl⟩
end Go.Proofs.Ytlmkpjdaoinmoaa
