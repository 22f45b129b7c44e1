/- For TopLocks: value.Name; isOwner. -/
import Derived.Test.YtckbfjoffbnjeaaDoorFJ
import Derived.Test.YtckbfjoffbnjeaaDoorLS
namespace Go.Proofs.YtckbfjoffbnjeaaDoor
open Go.RowKit
attribute [local go_sem ↓] Go.wp_at_zero Go.wp_at_succ
namespace N
/-- May this byte stand at place i of a name? -/
def nameByte (i : Nat) (c : UInt8) : Bool := letter c || digit c && decide (0 < i)
def nameFrom : Nat → List UInt8 → Bool
  | _, [] => true
  | i, c :: r => nameByte i c && nameFrom (i + 1) r
/-- May something be called so? -/
def name (s : ByteArray) : Bool := decide (1 ≤ s.size) && decide (s.size ≤ 12) && nameFrom 0 (bl s)
end N
set_option maxRecDepth 100000 in
set_option maxHeartbeats 800000 in
theorem vname_any (s : ByteArray) (w : World) (hs : s.size ≤ maxLen) :
    Calls Tryd.prog 34 #[.string s] w fun e w' => e = .returned (.bool (N.name s)) ∧ w' = w := by
  unfold maxLen at hs
  by_cases h0 : s.size = 0
  · have E : Hid (N.name s = false) := by show _ = _; rw [N.name, decide_eq_false (by omega : ¬ 1 ≤ s.size)]; rfl
    go_enter Tryd.func34, Tryd.ntmps34
    go_wp2_with fail
    go_ret
    exact ⟨ret_bool E.out.symm, rfl⟩
  by_cases hmo : 12 < s.size
  · have E : Hid (N.name s = false) := by show _ = _; rw [N.name, decide_eq_false (by omega : ¬ s.size ≤ 12), Bool.and_false]; rfl
    have g0 : ((s.size : Int) == 0) = false := beq_eq_false_iff_ne.2 (by omega)
    go_enter Tryd.func34, Tryd.ntmps34
    go_wp2_with fail
    go_ret
    exact ⟨ret_bool E.out.symm, rfl⟩
  have E : N.name s = N.nameFrom 0 (N.bl s) := by
    rw [N.name, decide_eq_true (by omega : 1 ≤ s.size), decide_eq_true (by omega : s.size ≤ 12)]; rfl
  rw [E]
  clear E
  have g0 : ((s.size : Int) == 0) = false := beq_eq_false_iff_ne.2 (by omega)
  go_enter Tryd.func34, Tryd.ntmps34
  go_wp2_with fail
  go_loop [14, 3] (fun i _ => ∃ k : Nat, k ≤ s.size ∧ i = .int .i64 k ∧ N.nameFrom 0 (N.bl s) = N.nameFrom k ((N.bl s).drop k)) (fun i _ => s.size - (intOf i).toNat)
  case atStart => exact ⟨0, Nat.zero_le _, rfl, by simp⟩
  case round =>
    obtain ⟨k, hk, rfl, hq⟩ := hrel
    by_cases hlt : k < s.size
    · rw [N.bl_drop s k hlt, N.nameFrom, N.nameByte] at hq
      cases hl : N.letter s[k]
      · by_cases hk0 : k = 0
        · have gk : ((k : Int) == 0) = true := by rw [beq_iff_eq]; omega
          have HQ : Hid (N.nameFrom 0 (N.bl s) = false) := by show _ = _; rw [hq, hl, decide_eq_false (by omega : ¬ 0 < k)]; simp
          clear hq hk0
          go_wp2_with (first | (go_at_call 48; refine (letter_any s[k] _).mono ?_; rw [hl]; rintro e w' ⟨rfl, rfl⟩))
          go_ret
          exact ⟨ret_bool HQ.out.symm, rfl⟩
        · have gk : ((k : Int) == 0) = false := beq_eq_false_iff_ne.2 (by omega)
          rw [hl, decide_eq_true (by omega : 0 < k)] at hq
          cases hd : N.digit s[k]
          · rw [hd] at hq
            have HQ : Hid (N.nameFrom 0 (N.bl s) = false) := by show _ = _; rw [hq]; rfl
            clear hq hk0
            go_wp2_with (first | (go_at_call 48; refine (letter_any s[k] _).mono ?_; rw [hl]; rintro e w' ⟨rfl, rfl⟩) | (go_at_call 49; refine (digit_any s[k] _).mono ?_; rw [hd]; rintro e w' ⟨rfl, rfl⟩))
            go_ret
            exact ⟨ret_bool HQ.out.symm, rfl⟩
          · rw [hd] at hq
            have HQ : Hid (N.nameFrom 0 (N.bl s) = N.nameFrom (k + 1) ((N.bl s).drop (k + 1))) := by show _ = _; rw [hq]; rfl
            clear hq hk0
            go_wp2_with (first | (go_at_call 48; refine (letter_any s[k] _).mono ?_; rw [hl]; rintro e w' ⟨rfl, rfl⟩) | (go_at_call 49; refine (digit_any s[k] _).mono ?_; rw [hd]; rintro e w' ⟨rfl, rfl⟩))
            go_round
            case rel => exact ⟨k + 1, by omega, by go_num, HQ.out⟩
            case measure => simp [intOf]; omega
      · rw [hl] at hq
        have HQ : Hid (N.nameFrom 0 (N.bl s) = N.nameFrom (k + 1) ((N.bl s).drop (k + 1))) := by show _ = _; rw [hq]; rfl
        clear hq
        go_wp2_with (first | (go_at_call 48; refine (letter_any s[k] _).mono ?_; rw [hl]; rintro e w' ⟨rfl, rfl⟩))
        go_round
        case rel => exact ⟨k + 1, by omega, by go_num, HQ.out⟩
        case measure => simp [intOf]; omega
    · rw [N.bl_drop_end s k hlt, N.nameFrom] at hq
      have HQ : Hid _ := hq
      clear hq
      go_wp2_with fail
      go_ret
      exact ⟨ret_bool HQ.out.symm, rfl⟩
set_option maxRecDepth 100000 in
set_option maxHeartbeats 400000 in
theorem isOwner_any (n : Int) (w : World) : Calls Tryd.prog 22 #[.int .i64 n] w fun e w' => e = .returned (.bool (decide (0 ≤ n) && decide (n < 4))) ∧ w' = w := by
  by_cases h0 : 0 ≤ n
  · by_cases h4 : n < 4
    · go_enter Tryd.func22, Tryd.ntmps22
      go_wp2_with fail
      go_ret
      exact ⟨ret_bool (by simp <;> omega), rfl⟩
    · have h4b : decide (n < 4) = false := decide_eq_false h4
      go_enter Tryd.func22, Tryd.ntmps22
      go_wp2_with fail
      go_ret
      exact ⟨ret_bool (by simp <;> omega), rfl⟩
  · have h0b : decide (0 ≤ n) = false := decide_eq_false h0
    go_enter Tryd.func22, Tryd.ntmps22
    go_wp2_with fail
    go_ret
    exact ⟨ret_bool (by simp <;> omega), rfl⟩
end Go.Proofs.YtckbfjoffbnjeaaDoor
