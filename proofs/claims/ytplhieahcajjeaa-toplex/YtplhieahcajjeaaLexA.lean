/- The words of the lexer: plain functions on lists of bytes, and what the small functions of lex and value return, in whatever world. -/
import Derived.Test.YtplhieahcajjeaaProg
import Derived.WalkKit
import Derived.WalkSpells
import Derived.WalkLawsBesides
import Derived.BigQuiet
import Derived.Deep.QuietTactic
import Derived.Deep.AppendLies
namespace Go.Proofs.Ytplhieahcajjeaa
open Go.RowKit
namespace Lx
def letter (b : UInt8) : Bool := decide (97 ≤ b.toNat) && decide (b.toNat ≤ 122)
def digit (b : UInt8) : Bool := decide (48 ≤ b.toNat) && decide (b.toNat ≤ 57)
def wordy (b : UInt8) : Bool := letter b || digit b
def plen (p : UInt8 → Bool) : List UInt8 → Nat
  | [] => 0
  | b :: r => if p b then plen p r + 1 else 0
def bl (s : ByteArray) : List UInt8 := s.data.toList
def str (l : List UInt8) : ByteArray := ⟨l.toArray⟩
theorem length_bl (s : ByteArray) : (bl s).length = s.size := by simp [bl]
theorem str_bl (s : ByteArray) : str (bl s) = s := by simp [bl, str]
theorem bl_str (l : List UInt8) : bl (str l) = l := by simp [bl, str]
theorem bl_get (s : ByteArray) (k : Nat) (h : k < s.size) : (bl s)[k]? = some s[k] := by
  have : k < s.data.toList.length := by simpa using h
  unfold bl
  rw [List.getElem?_eq_getElem this]
  simp; rfl
theorem bl_drop (s : ByteArray) (k : Nat) (h : k < s.size) : (bl s).drop k = s[k] :: (bl s).drop (k + 1) := by
  have hl : k < (bl s).length := by rw [length_bl]; exact h
  rw [List.drop_eq_getElem_cons hl]
  have := bl_get s k h
  rw [List.getElem?_eq_getElem hl] at this
  rw [Option.some.inj this]
theorem bl_drop_end (s : ByteArray) (k : Nat) (h : ¬ k < s.size) : (bl s).drop k = [] := by
  rw [List.drop_eq_nil_iff, length_bl]; omega
theorem bl_extract (s : ByteArray) (a b : Nat) : bl (s.extract a b) = ((bl s).drop a).take (b - a) := by
  unfold bl
  rw [ByteArray.data_extract, Array.toList_extract]
end Lx

theorem ret_bool {a b : Bool} (h : a = b) : Ending.returned (.bool a) = .returned (.bool b) := by rw [h]
theorem ret_int {k : IntKind} {a b : Int} (h : a = b) : Ending.returned (.int k a) = .returned (.int k b) := by rw [h]
set_option maxRecDepth 100000 in
set_option maxHeartbeats 400000 in
theorem letter_any (b : UInt8) (w : World) :
    Calls Try.prog 23 #[.int .u8 b.toNat] w fun e w' => e = .returned (.bool (Lx.letter b)) ∧ w' = w := by
  go_enter Try.func23, Try.ntmps23
  go_wp2
  all_goals go_ret
  · exact ⟨ret_bool (by unfold Lx.letter; rw [Bool.eq_iff_iff]; simp; omega), rfl⟩
  · exact ⟨ret_bool (by unfold Lx.letter; rw [Bool.eq_iff_iff]; simp; omega), rfl⟩
set_option maxRecDepth 100000 in
set_option maxHeartbeats 400000 in
theorem digit_any (b : UInt8) (w : World) :
    Calls Try.prog 25 #[.int .u8 b.toNat] w fun e w' => e = .returned (.bool (Lx.digit b)) ∧ w' = w := by
  go_enter Try.func25, Try.ntmps25
  go_wp2
  all_goals go_ret
  · exact ⟨ret_bool (by unfold Lx.digit; rw [Bool.eq_iff_iff]; simp; omega), rfl⟩
  · exact ⟨ret_bool (by unfold Lx.digit; rw [Bool.eq_iff_iff]; simp; omega), rfl⟩
set_option maxRecDepth 100000 in
set_option maxHeartbeats 400000 in
theorem wordy_any (b : UInt8) (w : World) :
    Calls Try.prog 31 #[.int .u8 b.toNat] w fun e w' => e = .returned (.bool (Lx.wordy b)) ∧ w' = w := by
  unfold Lx.wordy
  cases h : Lx.letter b
  all_goals
    go_enter Try.func31, Try.ntmps31
    go_wp2_with (first | (go_at_call 23; refine (letter_any b _).mono ?_; rw [h]; rintro e w' ⟨rfl, rfl⟩) | (go_at_call 25; refine (digit_any b _).mono ?_; rintro e w' ⟨rfl, rfl⟩))
    go_ret
    exact ⟨rfl, rfl⟩

set_option maxRecDepth 100000 in
set_option maxHeartbeats 400000 in
theorem length_wordy (s : ByteArray) (w : World) (hs : s.size ≤ 1000000) :
    Calls Try.prog 21 #[.string s, .func (.func 31) #[] #[]] w fun e w' => e = .returned (.int .i64 (Lx.plen Lx.wordy (Lx.bl s))) ∧ w' = w := by
  go_enter Try.func21, Try.ntmps21
  go_wp2_with fail
  go_loop [8, 5] (fun i _ => ∃ k : Nat, k ≤ s.size ∧ i = .int .i64 k ∧ Lx.plen Lx.wordy (Lx.bl s) = k + Lx.plen Lx.wordy ((Lx.bl s).drop k)) (fun i _ => s.size - (intOf i).toNat)
  case atStart => exact ⟨0, Nat.zero_le _, rfl, by simp⟩
  case round =>
    obtain ⟨k, hk, rfl, hpl⟩ := hrel
    by_cases hlt : k < s.size
    · rw [Lx.bl_drop s k hlt, Lx.plen] at hpl
      cases hb : Lx.wordy s[k]
      · rw [hb, if_neg (by decide)] at hpl
        have HPL : Hid _ := hpl
        clear hpl
        go_wp2_with (go_at_call 31; refine (wordy_any s[k] _).mono ?_; rw [hb]; rintro e w' ⟨rfl, rfl⟩)
        go_ret
        exact ⟨ret_int (by have := HPL.out; omega), rfl⟩
      · rw [hb, if_pos rfl] at hpl
        have HPL : Hid _ := hpl
        clear hpl
        go_wp2_with (go_at_call 31; refine (wordy_any s[k] _).mono ?_; rw [hb]; rintro e w' ⟨rfl, rfl⟩)
        go_round
        case rel => exact ⟨k + 1, by omega, by go_num, by have := HPL.out; omega⟩
        case measure => simp [intOf]; omega
    · rw [Lx.bl_drop_end s k hlt, Lx.plen] at hpl
      have HPL : Hid _ := hpl
      clear hpl
      go_wp2_with fail
      go_ret
      exact ⟨ret_int (by have := HPL.out; omega), rfl⟩

set_option maxRecDepth 100000 in
set_option maxHeartbeats 400000 in
theorem length_digit (s : ByteArray) (w : World) (hs : s.size ≤ 1000000) :
    Calls Try.prog 21 #[.string s, .func (.func 25) #[] #[]] w fun e w' => e = .returned (.int .i64 (Lx.plen Lx.digit (Lx.bl s))) ∧ w' = w := by
  go_enter Try.func21, Try.ntmps21
  go_wp2_with fail
  go_loop [8, 5] (fun i _ => ∃ k : Nat, k ≤ s.size ∧ i = .int .i64 k ∧ Lx.plen Lx.digit (Lx.bl s) = k + Lx.plen Lx.digit ((Lx.bl s).drop k)) (fun i _ => s.size - (intOf i).toNat)
  case atStart => exact ⟨0, Nat.zero_le _, rfl, by simp⟩
  case round =>
    obtain ⟨k, hk, rfl, hpl⟩ := hrel
    by_cases hlt : k < s.size
    · rw [Lx.bl_drop s k hlt, Lx.plen] at hpl
      cases hb : Lx.digit s[k]
      · rw [hb, if_neg (by decide)] at hpl
        have HPL : Hid _ := hpl
        clear hpl
        go_wp2_with (go_at_call 25; refine (digit_any s[k] _).mono ?_; rw [hb]; rintro e w' ⟨rfl, rfl⟩)
        go_ret
        exact ⟨ret_int (by have := HPL.out; omega), rfl⟩
      · rw [hb, if_pos rfl] at hpl
        have HPL : Hid _ := hpl
        clear hpl
        go_wp2_with (go_at_call 25; refine (digit_any s[k] _).mono ?_; rw [hb]; rintro e w' ⟨rfl, rfl⟩)
        go_round
        case rel => exact ⟨k + 1, by omega, by go_num, by have := HPL.out; omega⟩
        case measure => simp [intOf]; omega
    · rw [Lx.bl_drop_end s k hlt, Lx.plen] at hpl
      have HPL : Hid _ := hpl
      clear hpl
      go_wp2_with fail
      go_ret
      exact ⟨ret_int (by have := HPL.out; omega), rfl⟩

end Go.Proofs.Ytplhieahcajjeaa
