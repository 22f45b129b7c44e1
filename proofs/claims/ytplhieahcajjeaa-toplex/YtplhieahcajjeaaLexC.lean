/- What first's parts return: word, digits, sign, in whatever world. -/
import Derived.Test.YtplhieahcajjeaaLexB
import Derived.Lib.Bytealg
namespace Go.Proofs.Ytplhieahcajjeaa
open Go.RowKit
namespace Lx
def errV (f : Nat) : Value := if f = 0 then .nilIface else .iface 36 (.int .i64 f)
def hexes : List UInt8 := [48, 49, 50, 51, 52, 53, 54, 55, 56, 57, 97, 98, 99, 100, 101, 102]
def signList : List UInt8 := [61, 123, 125, 91, 93, 40, 41, 58, 44, 46, 43, 63, 45]
structure Tok where
  kind : Nat
  text : List UInt8
  size : Nat
  err : Nat
def bad (f : Nat) : Tok := ⟨0, [], 0, f⟩
/-- The value that the functions of lex return for it. -/
def tokV (t : Tok) : Value := .tuple #[.agg #[.int .i64 t.kind, .int .i64 0, .string (str t.text)], .int .i64 t.size, errV t.err]
def wordTok (l : List UInt8) : Tok := if plen wordy l > 12 then bad 1 else ⟨1, l.take (plen wordy l), plen wordy l, 0⟩
def digitsTok (l : List UInt8) : Tok := if plen digit l > 10 ∨ plen digit l > 1 ∧ l.headD 0 = 48 then bad 1 else ⟨2, l.take (plen digit l), plen digit l, 0⟩
def signTok (l : List UInt8) : Tok :=
  if l.take 2 = [61, 61] then ⟨4, l.take 2, 2, 0⟩ else if Lib.indexByte signList (l.headD 0) < 0 then bad 4 else ⟨4, l.take 1, 1, 0⟩
theorem plen_le (p : UInt8 → Bool) (l : List UInt8) : plen p l ≤ l.length := by
  induction l with
  | nil => exact Nat.le_refl _
  | cons b r ih => rw [plen]; split <;> simp <;> omega
theorem str_take (s : ByteArray) (n : Nat) : str ((bl s).take n) = s.extract 0 n := by
  rw [← str_bl (s.extract 0 n), bl_extract]; simp
theorem bl_head (s : ByteArray) (h : 0 < s.size) : (bl s).headD 0 = s[0] := by
  have := bl_drop s 0 h
  rw [List.drop_zero] at this
  rw [this]; rfl
theorem bl_head? (s : ByteArray) (h : 0 < s.size) : ∃ r, bl s = s[0] :: r := ⟨_, by have := bl_drop s 0 h; rwa [List.drop_zero] at this⟩
theorem u8_eq (b c : UInt8) : (b = c) ↔ b.toNat = c.toNat := UInt8.toNat_inj.symm
theorem tokV_bad (f : Nat) : tokV (bad f) = .tuple #[.agg #[.int .i64 0, .int .i64 0, .string ⟨#[]⟩], .int .i64 0, errV f] := rfl
theorem tokV_some (k n : Nat) (t : ByteArray) (l : List UInt8) (h : str l = t) : tokV ⟨k, l, n, 0⟩ = .tuple #[.agg #[.int .i64 k, .int .i64 0, .string t], .int .i64 n, .nilIface] := by
  rw [← h]; rfl
end Lx
theorem callIdx (s : ByteArray) (c : Int) (w : World) : (callFunc 37 #[.string s, .int .u8 c]).run Try.prog w = .ok (.value (.int .i64 (Lib.indexByte s.data.toList c.toNat.toUInt8))) w := by
  rw [run_callFunc_extern Try.func37 (by kernel_rfl) (by kernel_rfl) (by kernel_rfl) (e := Extern.BytealgIndexByte.indexByte) (by kernel_rfl), Lib.run_indexByteString]
  rfl
theorem byte_back (b : UInt8) : ((b.toNat : Int)).toNat.toUInt8 = b := by simp
set_option maxRecDepth 100000 in
set_option maxHeartbeats 400000 in
theorem indexByte_any (s : ByteArray) (b : UInt8) (w : World) :
    Calls Try.prog 34 #[.string s, .int .u8 b.toNat] w fun e w' => e = .returned (.int .i64 (Lib.indexByte (Lx.bl s) b)) ∧ w' = w := by
  have hx := callIdx s b.toNat
  rw [byte_back] at hx
  go_enter Try.func34, Try.ntmps34
  go_wp2
  go_ret
  exact ⟨rfl, rfl⟩
theorem toList_bl (s : ByteArray) : s.toList = Lx.bl s := ByteArray.toList_eq s
set_option maxRecDepth 100000 in
set_option maxHeartbeats 400000 in
theorem hasPrefix_any (s : ByteArray) (w : World) (hs : s.size ≤ 1000000) :
    Calls Try.prog 33 #[.string s, .string ⟨#[61, 61]⟩] w fun e w' => e = .returned (.bool (decide ((Lx.bl s).take 2 = [61, 61]))) ∧ w' = w := by
  by_cases h2 : 2 ≤ s.size
  · go_enter Try.func33, Try.ntmps33
    go_wp2
    go_ret
    refine ⟨ret_bool ?_, rfl⟩
    show ((s.extract 0 2).toList == [61, 61]) = _
    rw [toList_bl, Lx.bl_extract]
    rw [Bool.eq_iff_iff]; simp
  · have E : Hid (decide ((Lx.bl s).take 2 = [61, 61]) = false) := by
      show _ = _
      simp only [decide_eq_false_iff_not]
      intro h
      have := congrArg List.length h
      simp only [List.length_take, Lx.length_bl, List.length_cons, List.length_nil] at this
      omega
    go_enter Try.func33, Try.ntmps33
    go_wp2
    go_ret
    exact ⟨ret_bool E.out.symm, rfl⟩
set_option maxRecDepth 100000 in
set_option maxHeartbeats 400000 in
theorem word_any (s : ByteArray) (w : World) (hs : s.size ≤ 1000000) :
    Calls Try.prog 24 #[.string s] w fun e w' => e = .returned (Lx.tokV (Lx.wordTok (Lx.bl s))) ∧ Below w.heap.size w w' := by
  have hle := Lx.plen_le Lx.wordy (Lx.bl s)
  rw [Lx.length_bl] at hle
  by_cases h : Lx.plen Lx.wordy (Lx.bl s) > 12
  · have E : Hid (Lx.tokV (Lx.wordTok (Lx.bl s)) = .tuple #[.agg #[.int .i64 0, .int .i64 0, .string ⟨#[]⟩], .int .i64 0, .iface 36 (.int .i64 1)]) := by
      show _ = _; rw [Lx.wordTok, if_pos h]; rfl
    go_enter Try.func24, Try.ntmps24
    go_wp2_with (go_at_call 21; refine (length_wordy s _ hs).mono ?_; rintro e w' ⟨rfl, rfl⟩)
    exact bodyPost_ret (v := .tuple #[.agg #[.int .i64 0, .int .i64 0, .string ⟨#[]⟩], .int .i64 0, .iface 36 (.int .i64 1)]) (by simp [results, Try.results24, go_sem]) rfl ⟨congrArg Ending.returned E.out.symm, (Below.refl _ _).alloc (Nat.le_refl _) _⟩
  · have E : Hid (Lx.tokV (Lx.wordTok (Lx.bl s)) = .tuple #[.agg #[.int .i64 1, .int .i64 0, .string (s.extract 0 (Lx.plen Lx.wordy (Lx.bl s)))], .int .i64 (Lx.plen Lx.wordy (Lx.bl s)), .nilIface]) := by
      show _ = _; rw [Lx.wordTok, if_neg h]; exact Lx.tokV_some 1 _ _ _ (Lx.str_take s _)
    go_enter Try.func24, Try.ntmps24
    go_wp2_with (go_at_call 21; refine (length_wordy s _ hs).mono ?_; rintro e w' ⟨rfl, rfl⟩)
    exact bodyPost_ret (v := .tuple #[.agg #[.int .i64 1, .int .i64 0, .string (s.extract 0 (Lx.plen Lx.wordy (Lx.bl s)))], .int .i64 (Lx.plen Lx.wordy (Lx.bl s)), .nilIface]) (by simp [results, Try.results24, go_sem]) rfl ⟨congrArg Ending.returned E.out.symm, (Below.refl _ _).alloc (Nat.le_refl _) _⟩
set_option maxRecDepth 100000 in
set_option maxHeartbeats 800000 in
theorem digits_any (s : ByteArray) (w : World) (hs : s.size ≤ 1000000) :
    Calls Try.prog 26 #[.string s] w fun e w' => e = .returned (Lx.tokV (Lx.digitsTok (Lx.bl s))) ∧ Below w.heap.size w w' := by
  have hle := Lx.plen_le Lx.digit (Lx.bl s)
  rw [Lx.length_bl] at hle
  by_cases h : Lx.plen Lx.digit (Lx.bl s) > 10 ∨ Lx.plen Lx.digit (Lx.bl s) > 1 ∧ (Lx.bl s).headD 0 = 48
  · have E : Hid (Lx.tokV (Lx.digitsTok (Lx.bl s)) = .tuple #[.agg #[.int .i64 0, .int .i64 0, .string ⟨#[]⟩], .int .i64 0, .iface 36 (.int .i64 1)]) := by
      show _ = _; rw [Lx.digitsTok, if_pos h]; rfl
    by_cases h10 : Lx.plen Lx.digit (Lx.bl s) > 10
    · go_enter Try.func26, Try.ntmps26
      go_wp2_with (go_at_call 21; refine (length_digit s _ hs).mono ?_; rintro e w' ⟨rfl, rfl⟩)
      exact bodyPost_ret (v := .tuple #[.agg #[.int .i64 0, .int .i64 0, .string ⟨#[]⟩], .int .i64 0, .iface 36 (.int .i64 1)]) (by simp [results, Try.results26, go_sem]) rfl ⟨congrArg Ending.returned E.out.symm, (Below.refl _ _).alloc (Nat.le_refl _) _⟩
    · have h1 : Lx.plen Lx.digit (Lx.bl s) > 1 ∧ (Lx.bl s).headD 0 = 48 := h.resolve_left h10
      obtain ⟨h1, h48⟩ := h1
      have hpos : 0 < s.size := by omega
      rw [Lx.bl_head s hpos] at h48
      have g48 : ((s[0].toNat : Int) == 48) = true := by rw [h48]; rfl
      clear h48 h
      go_enter Try.func26, Try.ntmps26
      go_wp2_with (go_at_call 21; refine (length_digit s _ hs).mono ?_; rintro e w' ⟨rfl, rfl⟩)
      all_goals exact bodyPost_ret (v := .tuple #[.agg #[.int .i64 0, .int .i64 0, .string ⟨#[]⟩], .int .i64 0, .iface 36 (.int .i64 1)]) (by simp [results, Try.results26, go_sem]) rfl ⟨congrArg Ending.returned E.out.symm, (Below.refl _ _).alloc (Nat.le_refl _) _⟩
  · have E : Hid (Lx.tokV (Lx.digitsTok (Lx.bl s)) = .tuple #[.agg #[.int .i64 2, .int .i64 0, .string (s.extract 0 (Lx.plen Lx.digit (Lx.bl s)))], .int .i64 (Lx.plen Lx.digit (Lx.bl s)), .nilIface]) := by
      show _ = _; rw [Lx.digitsTok, if_neg h]; exact Lx.tokV_some 2 _ _ _ (Lx.str_take s _)
    by_cases h1 : Lx.plen Lx.digit (Lx.bl s) > 1
    · have h10 : Lx.plen Lx.digit (Lx.bl s) ≤ 10 := by omega
      have hpos : 0 < s.size := by omega
      have h48 : ¬ (Lx.bl s).headD 0 = 48 := fun e => h (.inr ⟨h1, e⟩)
      rw [Lx.bl_head s hpos, Lx.u8_eq] at h48
      have g48 : ((s[0].toNat : Int) == 48) = false := by rw [show (48 : UInt8).toNat = 48 from rfl] at h48; rw [beq_eq_false_iff_ne]; omega
      clear h48 h
      go_enter Try.func26, Try.ntmps26
      go_wp2_with (go_at_call 21; refine (length_digit s _ hs).mono ?_; rintro e w' ⟨rfl, rfl⟩)
      all_goals exact bodyPost_ret (v := .tuple #[.agg #[.int .i64 2, .int .i64 0, .string (s.extract 0 (Lx.plen Lx.digit (Lx.bl s)))], .int .i64 (Lx.plen Lx.digit (Lx.bl s)), .nilIface]) (by simp [results, Try.results26, go_sem]) rfl ⟨congrArg Ending.returned E.out.symm, (Below.refl _ _).alloc (Nat.le_refl _) _⟩
    · clear h
      go_enter Try.func26, Try.ntmps26
      go_wp2_with (go_at_call 21; refine (length_digit s _ hs).mono ?_; rintro e w' ⟨rfl, rfl⟩)
      all_goals exact bodyPost_ret (v := .tuple #[.agg #[.int .i64 2, .int .i64 0, .string (s.extract 0 (Lx.plen Lx.digit (Lx.bl s)))], .int .i64 (Lx.plen Lx.digit (Lx.bl s)), .nilIface]) (by simp [results, Try.results26, go_sem]) rfl ⟨congrArg Ending.returned E.out.symm, (Below.refl _ _).alloc (Nat.le_refl _) _⟩
set_option maxRecDepth 100000 in
set_option maxHeartbeats 800000 in
theorem sign_any (s : ByteArray) (w : World) (hs : s.size ≤ 1000000) (h0 : 0 < s.size) :
    Calls Try.prog 28 #[.string s] w fun e w' => e = .returned (Lx.tokV (Lx.signTok (Lx.bl s))) ∧ Below w.heap.size w w' := by
  by_cases h : (Lx.bl s).take 2 = [61, 61]
  · have h2 : 2 ≤ s.size := by
      have := congrArg List.length h
      simp only [List.length_take, Lx.length_bl, List.length_cons, List.length_nil] at this
      omega
    have E : Hid (Lx.tokV (Lx.signTok (Lx.bl s)) = .tuple #[.agg #[.int .i64 4, .int .i64 0, .string (s.extract 0 2)], .int .i64 2, .nilIface]) := by
      show _ = _; rw [Lx.signTok, if_pos h]; exact Lx.tokV_some 4 2 _ _ (Lx.str_take s _)
    have D : Hid (decide ((Lx.bl s).take 2 = [61, 61]) = true) := by show _ = _; simpa using h
    clear h
    go_enter Try.func28, Try.ntmps28
    go_wp2_with (go_at_call 33; refine (hasPrefix_any s _ hs).mono ?_; rw [D.out]; rintro e w' ⟨rfl, rfl⟩)
    exact bodyPost_ret (v := .tuple #[.agg #[.int .i64 4, .int .i64 0, .string (s.extract 0 2)], .int .i64 2, .nilIface]) (by simp [results, Try.results28, go_sem]) rfl ⟨congrArg Ending.returned E.out.symm, (Below.refl _ _).alloc (Nat.le_refl _) _⟩
  · have D : Hid (decide ((Lx.bl s).take 2 = [61, 61]) = false) := by show _ = _; simpa using h
    have hh := Lx.bl_head s h0
    by_cases hi : Lib.indexByte Lx.signList s[0] < 0
    · have E : Hid (Lx.tokV (Lx.signTok (Lx.bl s)) = .tuple #[.agg #[.int .i64 0, .int .i64 0, .string ⟨#[]⟩], .int .i64 0, .iface 36 (.int .i64 4)]) := by
        show _ = _; rw [Lx.signTok, if_neg h, hh, if_pos hi]; rfl
      clear h hh
      go_enter Try.func28, Try.ntmps28
      go_wp2_with (first | (go_at_call 33; refine (hasPrefix_any s _ hs).mono ?_; rw [D.out]; rintro e w' ⟨rfl, rfl⟩) | (go_at_call 34; refine (indexByte_any ⟨#[61, 123, 125, 91, 93, 40, 41, 58, 44, 46, 43, 63, 45]⟩ s[0] _).mono ?_; rw [show Lx.bl ⟨#[61, 123, 125, 91, 93, 40, 41, 58, 44, 46, 43, 63, 45]⟩ = Lx.signList from rfl]; rintro e w' ⟨rfl, rfl⟩))
      exact bodyPost_ret (v := .tuple #[.agg #[.int .i64 0, .int .i64 0, .string ⟨#[]⟩], .int .i64 0, .iface 36 (.int .i64 4)]) (by simp [results, Try.results28, go_sem]) rfl ⟨congrArg Ending.returned E.out.symm, (Below.refl _ _).alloc (Nat.le_refl _) _⟩
    · have E : Hid (Lx.tokV (Lx.signTok (Lx.bl s)) = .tuple #[.agg #[.int .i64 4, .int .i64 0, .string (s.extract 0 1)], .int .i64 1, .nilIface]) := by
        show _ = _; rw [Lx.signTok, if_neg h, hh, if_neg hi]; exact Lx.tokV_some 4 1 _ _ (Lx.str_take s _)
      clear h hh
      go_enter Try.func28, Try.ntmps28
      go_wp2_with (first | (go_at_call 33; refine (hasPrefix_any s _ hs).mono ?_; rw [D.out]; rintro e w' ⟨rfl, rfl⟩) | (go_at_call 34; refine (indexByte_any ⟨#[61, 123, 125, 91, 93, 40, 41, 58, 44, 46, 43, 63, 45]⟩ s[0] _).mono ?_; rw [show Lx.bl ⟨#[61, 123, 125, 91, 93, 40, 41, 58, 44, 46, 43, 63, 45]⟩ = Lx.signList from rfl]; rintro e w' ⟨rfl, rfl⟩))
      exact bodyPost_ret (v := .tuple #[.agg #[.int .i64 4, .int .i64 0, .string (s.extract 0 1)], .int .i64 1, .nilIface]) (by simp [results, Try.results28, go_sem]) rfl ⟨congrArg Ending.returned E.out.symm, (Below.refl _ _).alloc (Nat.le_refl _) _⟩
end Go.Proofs.Ytplhieahcajjeaa
