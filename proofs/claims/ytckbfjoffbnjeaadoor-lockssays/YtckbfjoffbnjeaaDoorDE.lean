/- disk: Name, fits, Write, Append, Read. -/
import Derived.Test.YtckbfjoffbnjeaaDoorDD
namespace Go.Proofs.YtckbfjoffbnjeaaDoor
open Go.RowKit
attribute [local go_sem ↓] Go.wp_at_zero Go.wp_at_succ
namespace N
def letter (b : UInt8) : Bool := decide (97 ≤ b.toNat) && decide (b.toNat ≤ 122)
def digit (b : UInt8) : Bool := decide (48 ≤ b.toNat) && decide (b.toNat ≤ 57)
def byte (b : UInt8) : Bool := letter b || digit b || decide (b.toNat = 46)
def from_ : List UInt8 → Bool
  | [] => true
  | c :: r => byte c && from_ r
def bl (s : ByteArray) : List UInt8 := s.data.toList
/-- May a file be called so? -/
def may (s : ByteArray) : Bool := decide (1 ≤ s.size) && decide (s.size ≤ 24) && from_ (bl s)
/-- Is it 1 to most bytes, each of them a letter, a digit or a dot? -/
def upto (most : Nat) (s : ByteArray) : Bool := decide (1 ≤ s.size) && decide (s.size ≤ most) && from_ (bl s)
theorem length_bl (s : ByteArray) : (bl s).length = s.size := by simp [bl]
theorem bl_get (s : ByteArray) (k : Nat) (h : k < s.size) : (bl s)[k]? = some s[k] := by
  have : k < s.data.toList.length := by simpa using h
  unfold bl
  rw [List.getElem?_eq_getElem this]
  simp; rfl
theorem bl_drop (s : ByteArray) (k : Nat) (h : k < s.size) : (bl s).drop k = s[k] :: (bl s).drop (k + 1) := by
  have hl : k < (bl s).length := by rw [length_bl]; exact h
  rw [List.drop_eq_getElem_cons hl]
  have := bl_get s k h
  rw [List.getElem?_eq_getElem hl] at this
  rw [Option.some.inj this]
theorem bl_drop_end (s : ByteArray) (k : Nat) (h : ¬ k < s.size) : (bl s).drop k = [] := by
  rw [List.drop_eq_nil_iff, length_bl]; omega
end N
theorem ret_bool {a b : Bool} (h : a = b) : Ending.returned (.bool a) = .returned (.bool b) := by rw [h]
set_option maxRecDepth 100000 in
set_option maxHeartbeats 400000 in
theorem letter_any (b : UInt8) (w : World) :
    Calls Tryd.prog 48 #[.int .u8 b.toNat] w fun e w' => e = .returned (.bool (N.letter b)) ∧ w' = w := by
  go_enter Tryd.func48, Tryd.ntmps48
  go_wp2
  all_goals go_ret
  · exact ⟨ret_bool (by unfold N.letter; rw [Bool.eq_iff_iff]; simp; omega), rfl⟩
  · exact ⟨ret_bool (by unfold N.letter; rw [Bool.eq_iff_iff]; simp; omega), rfl⟩
set_option maxRecDepth 100000 in
set_option maxHeartbeats 400000 in
theorem digit_any (b : UInt8) (w : World) :
    Calls Tryd.prog 49 #[.int .u8 b.toNat] w fun e w' => e = .returned (.bool (N.digit b)) ∧ w' = w := by
  go_enter Tryd.func49, Tryd.ntmps49
  go_wp2
  all_goals go_ret
  · exact ⟨ret_bool (by unfold N.digit; rw [Bool.eq_iff_iff]; simp; omega), rfl⟩
  · exact ⟨ret_bool (by unfold N.digit; rw [Bool.eq_iff_iff]; simp; omega), rfl⟩
set_option maxRecDepth 100000 in
set_option maxHeartbeats 800000 in
theorem dotted_any (s : ByteArray) (most : Nat) (w : World) (hs : s.size ≤ maxLen) :
    Calls Tryd.prog 58 #[.string s, .int .i64 most] w fun e w' => e = .returned (.bool (N.upto most s)) ∧ w' = w := by
  unfold maxLen at hs
  by_cases h0 : s.size = 0
  · have E : Hid (N.upto most s = false) := by show _ = _; rw [N.upto, decide_eq_false (by omega : ¬ 1 ≤ s.size)]; rfl
    go_enter Tryd.func58, Tryd.ntmps58
    go_wp2_with fail
    go_ret
    exact ⟨ret_bool E.out.symm, rfl⟩
  by_cases hmo : most < s.size
  · have E : Hid (N.upto most s = false) := by show _ = _; rw [N.upto, decide_eq_false (by omega : ¬ s.size ≤ most), Bool.and_false]; rfl
    have g0 : ((s.size : Int) == 0) = false := beq_eq_false_iff_ne.2 (by omega)
    go_enter Tryd.func58, Tryd.ntmps58
    go_wp2_with fail
    go_ret
    exact ⟨ret_bool E.out.symm, rfl⟩
  have E : N.upto most s = N.from_ (N.bl s) := by
    rw [N.upto, decide_eq_true (by omega : 1 ≤ s.size), decide_eq_true (by omega : s.size ≤ most)]; rfl
  rw [E]
  clear E
  have g0 : ((s.size : Int) == 0) = false := beq_eq_false_iff_ne.2 (by omega)
  go_enter Tryd.func58, Tryd.ntmps58
  go_wp2_with fail
  go_loop [17, 5] (fun i _ => ∃ k : Nat, k ≤ s.size ∧ i = .int .i64 k ∧ N.from_ (N.bl s) = N.from_ ((N.bl s).drop k)) (fun i _ => s.size - (intOf i).toNat)
  case atStart => exact ⟨0, Nat.zero_le _, rfl, by simp⟩
  case round =>
    obtain ⟨k, hk, rfl, hq⟩ := hrel
    by_cases hlt : k < s.size
    · rw [N.bl_drop s k hlt, N.from_, N.byte] at hq
      cases hl : N.letter s[k]
      · cases hd : N.digit s[k]
        · rw [hl, hd] at hq
          by_cases hp : s[k].toNat = 46
          · have gk : ((s[k].toNat : Int) != 46) = false := by simp; omega
            rw [decide_eq_true hp] at hq
            have HQ : Hid _ := hq
            clear hq hp
            go_wp2_with (first | (go_at_call 48; refine (letter_any s[k] _).mono ?_; rw [hl]; rintro e w' ⟨rfl, rfl⟩) | (go_at_call 49; refine (digit_any s[k] _).mono ?_; rw [hd]; rintro e w' ⟨rfl, rfl⟩))
            go_round
            case rel => exact ⟨k + 1, by omega, by go_num, by rw [HQ.out]; rfl⟩
            case measure => simp [intOf]; omega
          · have gk : ((s[k].toNat : Int) != 46) = true := by simp; omega
            rw [decide_eq_false hp] at hq
            have HQ : Hid _ := hq
            clear hq hp
            go_wp2_with (first | (go_at_call 48; refine (letter_any s[k] _).mono ?_; rw [hl]; rintro e w' ⟨rfl, rfl⟩) | (go_at_call 49; refine (digit_any s[k] _).mono ?_; rw [hd]; rintro e w' ⟨rfl, rfl⟩))
            go_ret
            exact ⟨ret_bool (by rw [HQ.out]; rfl), rfl⟩
        · rw [hl, hd] at hq
          have HQ : Hid _ := hq
          clear hq
          go_wp2_with (first | (go_at_call 48; refine (letter_any s[k] _).mono ?_; rw [hl]; rintro e w' ⟨rfl, rfl⟩) | (go_at_call 49; refine (digit_any s[k] _).mono ?_; rw [hd]; rintro e w' ⟨rfl, rfl⟩))
          go_round
          case rel => exact ⟨k + 1, by omega, by go_num, by rw [HQ.out]; rfl⟩
          case measure => simp [intOf]; omega
      · rw [hl] at hq
        have HQ : Hid _ := hq
        clear hq
        go_wp2_with (first | (go_at_call 48; refine (letter_any s[k] _).mono ?_; rw [hl]; rintro e w' ⟨rfl, rfl⟩))
        go_round
        case rel => exact ⟨k + 1, by omega, by go_num, by rw [HQ.out]; rfl⟩
        case measure => simp [intOf]; omega
    · rw [N.bl_drop_end s k hlt, N.from_] at hq
      have HQ : Hid _ := hq
      clear hq
      go_wp2_with fail
      go_ret
      exact ⟨ret_bool HQ.out.symm, rfl⟩
set_option maxRecDepth 100000 in
set_option maxHeartbeats 400000 in
theorem name_any (s : ByteArray) (w : World) (hs : s.size ≤ maxLen) :
    Calls Tryd.prog 45 #[.string s] w fun e w' => e = .returned (.bool (N.may s)) ∧ w' = w := by
  have HD := hide (dotted_any s 24 w hs)
  go_enter Tryd.func45, Tryd.ntmps45
  go_wp2_with fail
  refine HD.out.mono ?_
  rintro e w' ⟨rfl, hw⟩
  rw [hw]
  clear hw
  go_wp2_with fail
  go_ret
  exact ⟨rfl, rfl⟩
end Go.Proofs.YtckbfjoffbnjeaaDoor
