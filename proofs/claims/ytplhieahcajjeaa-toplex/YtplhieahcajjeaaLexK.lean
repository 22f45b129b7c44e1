/- The document's own answer: one's signs; SameTokens. -/
import Derived.Test.YtplhieahcajjeaaLexI
namespace Go.Proofs.Ytplhieahcajjeaa
open Go.RowKit
theorem Lx.take2 (s : ByteArray) (k : Nat) (hk : k < s.size) (h61 : s[k].toNat = 61) (hk1 : k + 1 < s.size) (h62 : s[k + 1].toNat = 61) : ((Lx.bl s).drop k).take 2 = [61, 61] := by
  rw [Lx.bl_drop s k hk, Lx.bl_drop s (k + 1) hk1]
  have e1 : s[k] = 61 := UInt8.toNat_inj.1 h61
  have e2 : s[k + 1] = 61 := UInt8.toNat_inj.1 h62
  rw [e1, e2]; rfl
theorem Lx.take2' (s : ByteArray) (k : Nat) (hk : k < s.size) (h : ((Lx.bl s).drop k).take 2 = [61, 61]) : s[k].toNat = 61 ∧ ∃ hk1 : k + 1 < s.size, s[k + 1].toNat = 61 := by
  rw [Lx.bl_drop s k hk] at h
  by_cases hk1 : k + 1 < s.size
  · rw [Lx.bl_drop s (k + 1) hk1] at h
    simp only [List.take_succ_cons, List.take_zero, List.cons.injEq, and_true] at h
    exact ⟨by rw [h.1]; rfl, hk1, by rw [h.2]; rfl⟩
  · rw [Lx.bl_drop_end s (k + 1) hk1] at h
    simp at h
set_option maxRecDepth 100000 in
set_option maxHeartbeats 1600000 in
theorem one_eqeq (s : ByteArray) (k : Nat) (w : World) (hs : s.size ≤ 1000000) (hk : k < s.size) (h61 : s[k].toNat = 61) (hk1 : k + 1 < s.size) (h62 : s[k + 1].toNat = 61) :
    Calls Try.prog 12 #[.string s, .int .i64 k] w fun e w' => e = .returned (Lx.oneV k (Lx.signTok ((Lx.bl s).drop k))) ∧ ∃ n, w' = w.drewN n := by
  have E : Hid (Lx.oneV k (Lx.signTok ((Lx.bl s).drop k)) = .tuple #[.int .i64 4, .string ⟨#[61, 61]⟩, .int .i64 ((k : Int) + 2), .int .i64 0]) := by
    show _ = _
    have ht := Lx.take2 s k hk h61 hk1 h62
    rw [Lx.signTok, if_pos ht, ht]; exact Lx.oneV_ok k 4 2 _ _ rfl
  have g61 : ((s[k].toNat : Int) == 61) = true := by simp; omega
  have g62 : ((s[k + 1].toNat : Int) == 61) = true := by simp; omega
  have g34 : ((s[k].toNat : Int) == 34) = false := by simp; omega
  have c1 : s[k].toNat < 97 := by omega
  have c2 : 57 < s[k].toNat := by omega
  clear h61 h62
  go_enter Try.func12, Try.ntmps12
  go_wp2_with fail
  exact bodyPost_ret (v := .tuple #[.int .i64 4, .string ⟨#[61, 61]⟩, .int .i64 ((k : Int) + 2), .int .i64 0]) (by simp [results, Try.results12, go_sem]) rfl ⟨congrArg Ending.returned E.out.symm, 0, rfl⟩
set_option maxRecDepth 100000 in
set_option maxHeartbeats 1600000 in
theorem one_eq_other (s : ByteArray) (k : Nat) (w : World) (hs : s.size ≤ 1000000) (hk : k < s.size) (h61 : s[k].toNat = 61) (hk1 : k + 1 < s.size) (h62 : ¬ s[k + 1].toNat = 61) :
    Calls Try.prog 12 #[.string s, .int .i64 k] w fun e w' => e = .returned (Lx.oneV k (Lx.signTok ((Lx.bl s).drop k))) ∧ ∃ n, w' = w.drewN n := by
  have hn : ¬ ((Lx.bl s).drop k).take 2 = [61, 61] := fun h => by obtain ⟨_, _, h2⟩ := Lx.take2' s k hk h; exact h62 h2
  have hhd : ((Lx.bl s).drop k).headD 0 = s[k] := by rw [Lx.bl_drop s k hk]; rfl
  have HE : Hid (Lx.signTok ((Lx.bl s).drop k) = if Lib.indexByte Lx.signList s[k] < 0 then Lx.bad 4 else ⟨4, ((Lx.bl s).drop k).take 1, 1, 0⟩) := by show _ = _; rw [Lx.signTok, if_neg hn, hhd]
  have g61 : ((s[k].toNat : Int) == 61) = true := by simp; omega
  have g34 : ((s[k].toNat : Int) == 34) = false := by simp; omega
  have c1 : s[k].toNat < 97 := by omega
  have c2 : 57 < s[k].toNat := by omega
  have g62 : ((s[k + 1].toNat : Int) == 61) = false := by simp; omega
  clear h61 h62 hhd hn
  go_enter Try.func12, Try.ntmps12
  go_wp2_with fail
  go_loop [11] (fun i => ∃ j : Nat, j ≤ 13 ∧ i = .int .i64 j ∧ ∀ t, t < j → Lx.signList[t]? ≠ some s[k]) (fun i => 13 - (intOf i).toNat)
  case atStart => exact ⟨0, by omega, rfl, fun j hj => absurd hj (by omega)⟩
  case round =>
    obtain ⟨j, hj, rfl, hmiss⟩ := hrel
    have HM : Hid _ := hmiss
    clear hmiss
    by_cases hlt : j < 13
    · go_wp2_with fail
      · have hh := at_hit _ j _ s[k] ‹_›
        have hi := Lx.idx_hit Lx.signList s[k] j hh HM.out
        have E : Hid (Lx.oneV k (Lx.signTok ((Lx.bl s).drop k)) = .tuple #[.int .i64 4, .string (s.extract k (k + 1)), .int .i64 ((k : Int) + 1), .int .i64 0]) := by
          show _ = _
          rw [HE.out, hi, if_neg (by omega)]; exact Lx.oneV_ok k 4 1 _ _ (Lx.str_mid s k 1)
        clear hh hi
        go_quiet (fail)
        go_wp2_with fail
        exact bodyPost_ret (v := .tuple #[.int .i64 4, .string (s.extract k (k + 1)), .int .i64 ((k : Int) + 1), .int .i64 0]) (by simp [results, Try.results12, go_sem]) rfl ⟨congrArg Ending.returned E.out.symm, _, rfl⟩
      · have hh := at_miss _ j _ s[k] ‹_›
        go_round
        case rel => exact ⟨j + 1, by omega, by go_num, snoc_miss HM.out hh⟩
        case measure => simp [intOf]; omega
    · have E : Hid (Lx.oneV k (Lx.signTok ((Lx.bl s).drop k)) = .tuple #[.int .i64 0, .string ⟨#[]⟩, .int .i64 0, .int .i64 4]) := by
        show _ = _
        rw [HE.out, Lx.idx_miss Lx.signList s[k] (fun t ht => HM.out t (by have : Lx.signList.length = 13 := rfl; omega)), if_pos (by decide)]; exact Lx.oneV_bad _ 4 (by omega)
      go_wp2_with fail
      exact bodyPost_ret (v := .tuple #[.int .i64 0, .string ⟨#[]⟩, .int .i64 0, .int .i64 4]) (by simp [results, Try.results12, go_sem]) rfl ⟨congrArg Ending.returned E.out.symm, 0, rfl⟩
set_option maxRecDepth 100000 in
set_option maxHeartbeats 1600000 in
theorem one_eq_end (s : ByteArray) (k : Nat) (w : World) (hs : s.size ≤ 1000000) (hk : k < s.size) (h61 : s[k].toNat = 61) (hk1 : ¬ k + 1 < s.size) :
    Calls Try.prog 12 #[.string s, .int .i64 k] w fun e w' => e = .returned (Lx.oneV k (Lx.signTok ((Lx.bl s).drop k))) ∧ ∃ n, w' = w.drewN n := by
  have hn : ¬ ((Lx.bl s).drop k).take 2 = [61, 61] := fun h => by obtain ⟨_, h1, _⟩ := Lx.take2' s k hk h; exact hk1 h1
  have hhd : ((Lx.bl s).drop k).headD 0 = s[k] := by rw [Lx.bl_drop s k hk]; rfl
  have HE : Hid (Lx.signTok ((Lx.bl s).drop k) = if Lib.indexByte Lx.signList s[k] < 0 then Lx.bad 4 else ⟨4, ((Lx.bl s).drop k).take 1, 1, 0⟩) := by show _ = _; rw [Lx.signTok, if_neg hn, hhd]
  have g61 : ((s[k].toNat : Int) == 61) = true := by simp; omega
  have g34 : ((s[k].toNat : Int) == 34) = false := by simp; omega
  have c1 : s[k].toNat < 97 := by omega
  have c2 : 57 < s[k].toNat := by omega
  clear h61 hhd hn
  go_enter Try.func12, Try.ntmps12
  go_wp2_with fail
  go_loop [11] (fun i => ∃ j : Nat, j ≤ 13 ∧ i = .int .i64 j ∧ ∀ t, t < j → Lx.signList[t]? ≠ some s[k]) (fun i => 13 - (intOf i).toNat)
  case atStart => exact ⟨0, by omega, rfl, fun j hj => absurd hj (by omega)⟩
  case round =>
    obtain ⟨j, hj, rfl, hmiss⟩ := hrel
    have HM : Hid _ := hmiss
    clear hmiss
    by_cases hlt : j < 13
    · go_wp2_with fail
      · have hh := at_hit _ j _ s[k] ‹_›
        have hi := Lx.idx_hit Lx.signList s[k] j hh HM.out
        have E : Hid (Lx.oneV k (Lx.signTok ((Lx.bl s).drop k)) = .tuple #[.int .i64 4, .string (s.extract k (k + 1)), .int .i64 ((k : Int) + 1), .int .i64 0]) := by
          show _ = _
          rw [HE.out, hi, if_neg (by omega)]; exact Lx.oneV_ok k 4 1 _ _ (Lx.str_mid s k 1)
        clear hh hi
        go_quiet (fail)
        go_wp2_with fail
        exact bodyPost_ret (v := .tuple #[.int .i64 4, .string (s.extract k (k + 1)), .int .i64 ((k : Int) + 1), .int .i64 0]) (by simp [results, Try.results12, go_sem]) rfl ⟨congrArg Ending.returned E.out.symm, _, rfl⟩
      · have hh := at_miss _ j _ s[k] ‹_›
        go_round
        case rel => exact ⟨j + 1, by omega, by go_num, snoc_miss HM.out hh⟩
        case measure => simp [intOf]; omega
    · have E : Hid (Lx.oneV k (Lx.signTok ((Lx.bl s).drop k)) = .tuple #[.int .i64 0, .string ⟨#[]⟩, .int .i64 0, .int .i64 4]) := by
        show _ = _
        rw [HE.out, Lx.idx_miss Lx.signList s[k] (fun t ht => HM.out t (by have : Lx.signList.length = 13 := rfl; omega)), if_pos (by decide)]; exact Lx.oneV_bad _ 4 (by omega)
      go_wp2_with fail
      exact bodyPost_ret (v := .tuple #[.int .i64 0, .string ⟨#[]⟩, .int .i64 0, .int .i64 4]) (by simp [results, Try.results12, go_sem]) rfl ⟨congrArg Ending.returned E.out.symm, 0, rfl⟩
set_option maxRecDepth 100000 in
set_option maxHeartbeats 1600000 in
theorem one_hi (s : ByteArray) (k : Nat) (w : World) (hs : s.size ≤ 1000000) (hk : k < s.size) (h61 : ¬ s[k].toNat = 61) (_h34 : ¬ s[k].toNat = 34) (c1 : 122 < s[k].toNat) :
    Calls Try.prog 12 #[.string s, .int .i64 k] w fun e w' => e = .returned (Lx.oneV k (Lx.signTok ((Lx.bl s).drop k))) ∧ ∃ n, w' = w.drewN n := by
  have hn : ¬ ((Lx.bl s).drop k).take 2 = [61, 61] := fun h => by obtain ⟨h1, _⟩ := Lx.take2' s k hk h; exact h61 h1
  have hhd : ((Lx.bl s).drop k).headD 0 = s[k] := by rw [Lx.bl_drop s k hk]; rfl
  have HE : Hid (Lx.signTok ((Lx.bl s).drop k) = if Lib.indexByte Lx.signList s[k] < 0 then Lx.bad 4 else ⟨4, ((Lx.bl s).drop k).take 1, 1, 0⟩) := by show _ = _; rw [Lx.signTok, if_neg hn, hhd]
  have g61 : ((s[k].toNat : Int) == 61) = false := by simp; omega
  have g34 : ((s[k].toNat : Int) == 34) = false := by simp; omega
  clear h61 hhd hn
  go_enter Try.func12, Try.ntmps12
  go_wp2_with fail
  go_loop [11] (fun i => ∃ j : Nat, j ≤ 13 ∧ i = .int .i64 j ∧ ∀ t, t < j → Lx.signList[t]? ≠ some s[k]) (fun i => 13 - (intOf i).toNat)
  case atStart => exact ⟨0, by omega, rfl, fun j hj => absurd hj (by omega)⟩
  case round =>
    obtain ⟨j, hj, rfl, hmiss⟩ := hrel
    have HM : Hid _ := hmiss
    clear hmiss
    by_cases hlt : j < 13
    · go_wp2_with fail
      · have hh := at_hit _ j _ s[k] ‹_›
        have hi := Lx.idx_hit Lx.signList s[k] j hh HM.out
        have E : Hid (Lx.oneV k (Lx.signTok ((Lx.bl s).drop k)) = .tuple #[.int .i64 4, .string (s.extract k (k + 1)), .int .i64 ((k : Int) + 1), .int .i64 0]) := by
          show _ = _
          rw [HE.out, hi, if_neg (by omega)]; exact Lx.oneV_ok k 4 1 _ _ (Lx.str_mid s k 1)
        clear hh hi
        go_quiet (fail)
        go_wp2_with fail
        exact bodyPost_ret (v := .tuple #[.int .i64 4, .string (s.extract k (k + 1)), .int .i64 ((k : Int) + 1), .int .i64 0]) (by simp [results, Try.results12, go_sem]) rfl ⟨congrArg Ending.returned E.out.symm, _, rfl⟩
      · have hh := at_miss _ j _ s[k] ‹_›
        go_round
        case rel => exact ⟨j + 1, by omega, by go_num, snoc_miss HM.out hh⟩
        case measure => simp [intOf]; omega
    · have E : Hid (Lx.oneV k (Lx.signTok ((Lx.bl s).drop k)) = .tuple #[.int .i64 0, .string ⟨#[]⟩, .int .i64 0, .int .i64 4]) := by
        show _ = _
        rw [HE.out, Lx.idx_miss Lx.signList s[k] (fun t ht => HM.out t (by have : Lx.signList.length = 13 := rfl; omega)), if_pos (by decide)]; exact Lx.oneV_bad _ 4 (by omega)
      go_wp2_with fail
      exact bodyPost_ret (v := .tuple #[.int .i64 0, .string ⟨#[]⟩, .int .i64 0, .int .i64 4]) (by simp [results, Try.results12, go_sem]) rfl ⟨congrArg Ending.returned E.out.symm, 0, rfl⟩
set_option maxRecDepth 100000 in
set_option maxHeartbeats 1600000 in
theorem one_mid (s : ByteArray) (k : Nat) (w : World) (hs : s.size ≤ 1000000) (hk : k < s.size) (h61 : ¬ s[k].toNat = 61) (h34 : ¬ s[k].toNat = 34) (c1 : 57 < s[k].toNat) (c2 : s[k].toNat < 97) :
    Calls Try.prog 12 #[.string s, .int .i64 k] w fun e w' => e = .returned (Lx.oneV k (Lx.signTok ((Lx.bl s).drop k))) ∧ ∃ n, w' = w.drewN n := by
  have hn : ¬ ((Lx.bl s).drop k).take 2 = [61, 61] := fun h => by obtain ⟨h1, _⟩ := Lx.take2' s k hk h; exact h61 h1
  have hhd : ((Lx.bl s).drop k).headD 0 = s[k] := by rw [Lx.bl_drop s k hk]; rfl
  have HE : Hid (Lx.signTok ((Lx.bl s).drop k) = if Lib.indexByte Lx.signList s[k] < 0 then Lx.bad 4 else ⟨4, ((Lx.bl s).drop k).take 1, 1, 0⟩) := by show _ = _; rw [Lx.signTok, if_neg hn, hhd]
  have g61 : ((s[k].toNat : Int) == 61) = false := by simp; omega
  have g34 : ((s[k].toNat : Int) == 34) = false := by simp; omega
  clear h61 h34 hhd hn
  go_enter Try.func12, Try.ntmps12
  go_wp2_with fail
  go_loop [11] (fun i => ∃ j : Nat, j ≤ 13 ∧ i = .int .i64 j ∧ ∀ t, t < j → Lx.signList[t]? ≠ some s[k]) (fun i => 13 - (intOf i).toNat)
  case atStart => exact ⟨0, by omega, rfl, fun j hj => absurd hj (by omega)⟩
  case round =>
    obtain ⟨j, hj, rfl, hmiss⟩ := hrel
    have HM : Hid _ := hmiss
    clear hmiss
    by_cases hlt : j < 13
    · go_wp2_with fail
      · have hh := at_hit _ j _ s[k] ‹_›
        have hi := Lx.idx_hit Lx.signList s[k] j hh HM.out
        have E : Hid (Lx.oneV k (Lx.signTok ((Lx.bl s).drop k)) = .tuple #[.int .i64 4, .string (s.extract k (k + 1)), .int .i64 ((k : Int) + 1), .int .i64 0]) := by
          show _ = _
          rw [HE.out, hi, if_neg (by omega)]; exact Lx.oneV_ok k 4 1 _ _ (Lx.str_mid s k 1)
        clear hh hi
        go_quiet (fail)
        go_wp2_with fail
        exact bodyPost_ret (v := .tuple #[.int .i64 4, .string (s.extract k (k + 1)), .int .i64 ((k : Int) + 1), .int .i64 0]) (by simp [results, Try.results12, go_sem]) rfl ⟨congrArg Ending.returned E.out.symm, _, rfl⟩
      · have hh := at_miss _ j _ s[k] ‹_›
        go_round
        case rel => exact ⟨j + 1, by omega, by go_num, snoc_miss HM.out hh⟩
        case measure => simp [intOf]; omega
    · have E : Hid (Lx.oneV k (Lx.signTok ((Lx.bl s).drop k)) = .tuple #[.int .i64 0, .string ⟨#[]⟩, .int .i64 0, .int .i64 4]) := by
        show _ = _
        rw [HE.out, Lx.idx_miss Lx.signList s[k] (fun t ht => HM.out t (by have : Lx.signList.length = 13 := rfl; omega)), if_pos (by decide)]; exact Lx.oneV_bad _ 4 (by omega)
      go_wp2_with fail
      exact bodyPost_ret (v := .tuple #[.int .i64 0, .string ⟨#[]⟩, .int .i64 0, .int .i64 4]) (by simp [results, Try.results12, go_sem]) rfl ⟨congrArg Ending.returned E.out.symm, 0, rfl⟩
set_option maxRecDepth 100000 in
set_option maxHeartbeats 1600000 in
theorem one_lo (s : ByteArray) (k : Nat) (w : World) (hs : s.size ≤ 1000000) (hk : k < s.size) (h61 : ¬ s[k].toNat = 61) (h34 : ¬ s[k].toNat = 34) (c1 : s[k].toNat < 48) :
    Calls Try.prog 12 #[.string s, .int .i64 k] w fun e w' => e = .returned (Lx.oneV k (Lx.signTok ((Lx.bl s).drop k))) ∧ ∃ n, w' = w.drewN n := by
  have hn : ¬ ((Lx.bl s).drop k).take 2 = [61, 61] := fun h => by obtain ⟨h1, _⟩ := Lx.take2' s k hk h; exact h61 h1
  have hhd : ((Lx.bl s).drop k).headD 0 = s[k] := by rw [Lx.bl_drop s k hk]; rfl
  have HE : Hid (Lx.signTok ((Lx.bl s).drop k) = if Lib.indexByte Lx.signList s[k] < 0 then Lx.bad 4 else ⟨4, ((Lx.bl s).drop k).take 1, 1, 0⟩) := by show _ = _; rw [Lx.signTok, if_neg hn, hhd]
  have g61 : ((s[k].toNat : Int) == 61) = false := by simp; omega
  have g34 : ((s[k].toNat : Int) == 34) = false := by simp; omega
  clear h61 h34 hhd hn
  go_enter Try.func12, Try.ntmps12
  go_wp2_with fail
  go_loop [11] (fun i => ∃ j : Nat, j ≤ 13 ∧ i = .int .i64 j ∧ ∀ t, t < j → Lx.signList[t]? ≠ some s[k]) (fun i => 13 - (intOf i).toNat)
  case atStart => exact ⟨0, by omega, rfl, fun j hj => absurd hj (by omega)⟩
  case round =>
    obtain ⟨j, hj, rfl, hmiss⟩ := hrel
    have HM : Hid _ := hmiss
    clear hmiss
    by_cases hlt : j < 13
    · go_wp2_with fail
      · have hh := at_hit _ j _ s[k] ‹_›
        have hi := Lx.idx_hit Lx.signList s[k] j hh HM.out
        have E : Hid (Lx.oneV k (Lx.signTok ((Lx.bl s).drop k)) = .tuple #[.int .i64 4, .string (s.extract k (k + 1)), .int .i64 ((k : Int) + 1), .int .i64 0]) := by
          show _ = _
          rw [HE.out, hi, if_neg (by omega)]; exact Lx.oneV_ok k 4 1 _ _ (Lx.str_mid s k 1)
        clear hh hi
        go_quiet (fail)
        go_wp2_with fail
        exact bodyPost_ret (v := .tuple #[.int .i64 4, .string (s.extract k (k + 1)), .int .i64 ((k : Int) + 1), .int .i64 0]) (by simp [results, Try.results12, go_sem]) rfl ⟨congrArg Ending.returned E.out.symm, _, rfl⟩
      · have hh := at_miss _ j _ s[k] ‹_›
        go_round
        case rel => exact ⟨j + 1, by omega, by go_num, snoc_miss HM.out hh⟩
        case measure => simp [intOf]; omega
    · have E : Hid (Lx.oneV k (Lx.signTok ((Lx.bl s).drop k)) = .tuple #[.int .i64 0, .string ⟨#[]⟩, .int .i64 0, .int .i64 4]) := by
        show _ = _
        rw [HE.out, Lx.idx_miss Lx.signList s[k] (fun t ht => HM.out t (by have : Lx.signList.length = 13 := rfl; omega)), if_pos (by decide)]; exact Lx.oneV_bad _ 4 (by omega)
      go_wp2_with fail
      exact bodyPost_ret (v := .tuple #[.int .i64 0, .string ⟨#[]⟩, .int .i64 0, .int .i64 4]) (by simp [results, Try.results12, go_sem]) rfl ⟨congrArg Ending.returned E.out.symm, 0, rfl⟩
theorem one_sign (s : ByteArray) (k : Nat) (w : World) (hs : s.size ≤ 1000000) (hk : k < s.size) (hl : Lx.letter s[k] = false) (hd : Lx.digit s[k] = false) (h34 : ¬ s[k].toNat = 34) :
    Calls Try.prog 12 #[.string s, .int .i64 k] w fun e w' => e = .returned (Lx.oneV k (Lx.signTok ((Lx.bl s).drop k))) ∧ ∃ n, w' = w.drewN n := by
  have hnl := Lx.not_letter _ hl
  have hnd := Lx.not_digit _ hd
  by_cases h61 : s[k].toNat = 61
  · by_cases hk1 : k + 1 < s.size
    · by_cases h62 : s[k + 1].toNat = 61
      · exact one_eqeq s k w hs hk h61 hk1 h62
      · exact one_eq_other s k w hs hk h61 hk1 h62
    · exact one_eq_end s k w hs hk h61 hk1
  · by_cases c1 : 122 < s[k].toNat
    · exact one_hi s k w hs hk h61 h34 c1
    · by_cases c2 : s[k].toNat < 48
      · exact one_lo s k w hs hk h61 h34 c2
      · exact one_mid s k w hs hk h61 h34 (by omega) (by omega)
end Go.Proofs.Ytplhieahcajjeaa
