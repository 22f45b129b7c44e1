/- value.Sum, and the document's own. -/
import Derived.Test.YtpoebpknjjfddaaDoorVP
namespace Go.Proofs.YtpoebpknjjfddaaDoor
open Go.RowKit
namespace V
def sumStep (n : Int) (b : UInt8) : Int := IntKind.u64.wrap (bits BinOp.xor IntKind.u64 n (IntKind.u64.wrap (b.toNat : Int)) * 1099511628211)
def sum (l : List UInt8) : Int := l.foldl sumStep 14695981039346656037
end V
set_option maxRecDepth 100000 in
set_option maxHeartbeats 400000 in
theorem sum_any (s : ByteArray) (w : World) (hs : s.size ≤ 2000000) :
    Calls Tryd.prog 21 #[.string s] w fun e w' => e = .returned (.int .u64 (V.sum (V.bl s))) ∧ w' = w := by
  go_enter Tryd.func21, Tryd.ntmps21
  go_wp2_with fail
  go_loop [3, 7, 4] (fun h i _ => ∃ (k : Nat) (n : Int), k ≤ s.size ∧ i = .int .i64 k ∧ h = .int .u64 n ∧ n = ((V.bl s).take k).foldl V.sumStep 14695981039346656037) (fun _ i _ => s.size - (intOf i).toNat)
  case atStart => exact ⟨0, _, Nat.zero_le _, rfl, rfl, rfl⟩
  case round =>
    obtain ⟨k, n, hk, rfl, rfl, hn⟩ := hrel
    have HN : Hid _ := hn
    clear hn
    by_cases hlt : k < s.size
    · have HT : Hid (((V.bl s).take (k + 1)).foldl V.sumStep 14695981039346656037 = V.sumStep (((V.bl s).take k).foldl V.sumStep 14695981039346656037) s[k]) := by
        show _ = _
        rw [List.take_add_one, V.bl_get s k hlt]; simp
      go_wp2_with fail
      go_round
      case rel => exact ⟨k + 1, _, by omega, by go_num, rfl, by rw [HT.out, ← HN.out]; rfl⟩
      case measure => simp [intOf]; omega
    · have hkk : k = s.size := by omega
      have HT : Hid (V.sum (V.bl s) = n) := by show _ = _; rw [HN.out, V.sum, List.take_of_length_le (by rw [V.length_bl]; omega)]
      clear hkk
      go_wp2_with fail
      go_ret
      exact ⟨ret_int HT.out.symm, rfl⟩
set_option maxRecDepth 100000 in
set_option maxHeartbeats 400000 in
theorem refSum_any (s : ByteArray) (w : World) (hs : s.size ≤ 2000000) :
    Calls Tryd.prog 22 #[.string s] w fun e w' => e = .returned (.int .u64 (V.sum (V.bl s))) ∧ w' = w := by
  go_enter Tryd.func22, Tryd.ntmps22
  go_wp2_with fail
  go_loop [3, 4] (fun h i => ∃ (k : Nat) (n : Int), k ≤ s.size ∧ i = .int .i64 k ∧ h = .int .u64 n ∧ n = ((V.bl s).take k).foldl V.sumStep 14695981039346656037) (fun _ i => s.size - (intOf i).toNat)
  case atStart => exact ⟨0, _, Nat.zero_le _, rfl, rfl, rfl⟩
  case round =>
    obtain ⟨k, n, hk, rfl, rfl, hn⟩ := hrel
    have HN : Hid _ := hn
    clear hn
    by_cases hlt : k < s.size
    · have HT : Hid (((V.bl s).take (k + 1)).foldl V.sumStep 14695981039346656037 = V.sumStep (((V.bl s).take k).foldl V.sumStep 14695981039346656037) s[k]) := by
        show _ = _
        rw [List.take_add_one, V.bl_get s k hlt]; simp
      go_wp2_with fail
      go_round
      case rel => exact ⟨k + 1, _, by omega, by go_num, rfl, by rw [HT.out, ← HN.out]; rfl⟩
      case measure => simp [intOf]; omega
    · have hkk : k = s.size := by omega
      have HT : Hid (V.sum (V.bl s) = n) := by show _ = _; rw [HN.out, V.sum, List.take_of_length_le (by rw [V.length_bl]; omega)]
      clear hkk
      go_wp2_with fail
      go_ret
      exact ⟨ret_int HT.out.symm, rfl⟩
end Go.Proofs.YtpoebpknjjfddaaDoor
