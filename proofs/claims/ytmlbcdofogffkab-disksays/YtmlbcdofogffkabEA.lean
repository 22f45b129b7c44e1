/- For WalogSays: the reference's Sum, walog's Size, same. -/
import Derived.Test.YtmlbcdofogffkabDX
namespace Go.Proofs.Ytmlbcdofogffkab
open Go.RowKit
attribute [local go_sem ↓] Go.wp_at_zero Go.wp_at_succ
set_option maxRecDepth 100000 in
set_option maxHeartbeats 400000 in
theorem refSum_any (s : ByteArray) (w : World) (hs : s.size ≤ 2000000) :
    Calls Try.prog 96 #[.string s] w fun e w' => e = .returned (.int .u64 (N.sum (N.bl s))) ∧ w' = w := by
  go_enter Try.func96, Try.ntmps96
  go_wp2_with fail
  go_loop [3, 4] (fun h i => ∃ (k : Nat) (n : Int), k ≤ s.size ∧ i = .int .i64 k ∧ h = .int .u64 n ∧ n = ((N.bl s).take k).foldl N.sumStep 14695981039346656037) (fun _ i => s.size - (intOf i).toNat)
  case atStart => exact ⟨0, _, Nat.zero_le _, rfl, rfl, rfl⟩
  case round =>
    obtain ⟨k, n, hk, rfl, rfl, hn⟩ := hrel
    have HN : Hid _ := hn
    clear hn
    by_cases hlt : k < s.size
    · have HT : Hid (((N.bl s).take (k + 1)).foldl N.sumStep 14695981039346656037 = N.sumStep (((N.bl s).take k).foldl N.sumStep 14695981039346656037) s[k]) := by
        show _ = _
        rw [List.take_add_one, N.bl_get s k hlt]; simp
      go_wp2_with fail
      go_round
      case rel => exact ⟨k + 1, _, by omega, by go_num, rfl, by rw [HT.out, ← HN.out]; rfl⟩
      case measure => simp [intOf]; omega
    · have hkk : k = s.size := by omega
      have HT : Hid (N.sum (N.bl s) = n) := by show _ = _; rw [HN.out, N.sum, List.take_of_length_le (by rw [N.length_bl]; omega)]
      clear hkk
      go_wp2_with fail
      go_ret
      exact ⟨ret_int HT.out.symm, rfl⟩
set_option maxRecDepth 100000 in
theorem size_any (w : World) (B : Nat → Prop) (q g : Nat) (n : ByteArray) (R : List ByteArray) (h : Logs w B q g n R) :
    Calls Try.prog 49 #[.pointer (some ⟨q, 0, none⟩)] w fun e w' => e = .returned (.int .i64 (N.size R)) ∧ w' = w := by
  obtain ⟨rv, h1, _⟩ := h
  have c3 := cell_of_block h1 3 _ rfl
  clear h1
  go_enter Try.func49, Try.ntmps49
  go_wp2_with fail
  go_ret
  exact ⟨rfl, rfl⟩
set_option maxRecDepth 100000 in
theorem same_nil (k : Int) (w : World) : Calls Try.prog 22 #[.nilIface, .int .i64 k] w fun e w' => e = .returned (.bool (decide (k = 0))) ∧ w' = w := by
  by_cases hk : k = 0
  · subst hk
    go_enter Try.func22, Try.ntmps22
    go_wp2_with fail
    go_ret
    exact ⟨rfl, rfl⟩
  · have hb : (k == 0) = false := by simp [hk]
    have hd : decide (k = 0) = false := by simp [hk]
    rw [hd]
    go_enter Try.func22, Try.ntmps22
    go_wp2_with fail
    go_ret
    exact ⟨rfl, rfl⟩
set_option maxRecDepth 100000 in
theorem same_err (n k : Int) (w : World) (hk : 0 < k) : Calls Try.prog 22 #[.iface 128 (.int .i64 n), .int .i64 k] w fun e w' => e = .returned (.bool (n == k)) ∧ w' = w := by
  have hta := ta_errno n w
  go_enter Try.func22, Try.ntmps22
  go_wp2_with fail
  go_ret
  exact ⟨rfl, rfl⟩
end Go.Proofs.Ytmlbcdofogffkab
