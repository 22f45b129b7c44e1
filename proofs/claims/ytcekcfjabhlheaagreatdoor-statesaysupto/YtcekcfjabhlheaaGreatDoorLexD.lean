/- StateSays: LexA LexB LexC LexD. -/
import Derived.Test.YtcekcfjabhlheaaGreatDoorProg
import Derived.WalkKit
import Derived.WalkSpells
import Derived.WalkLawsBesides
import Derived.BigQuiet
import Derived.Deep.QuietTactic
import Derived.Deep.AppendLies
import Derived.Lib.Bytealg
import Derived.Lib.IndexLaws
set_option maxRecDepth 100000
set_option maxHeartbeats 800000
namespace Go.Proofs.YtcekcfjabhlheaaGreatDoor
open Go.RowKit
namespace Lx
def letter (b : UInt8) : Bool := decide (97 <= b.toNat) && decide (b.toNat <= 122)
def digit (b : UInt8) : Bool := decide (48 <= b.toNat) && decide (b.toNat <= 57)
def wordy (b : UInt8) : Bool := letter b || digit b
def plen (p : UInt8 -> Bool) : List UInt8 -> Nat
 | [] => 0
 | b :: r => if p b then plen p r + 1 else 0
def bl (s : ByteArray) : List UInt8 := s.data.toList
def str (l : List UInt8) : ByteArray := ⟨l.toArray⟩
theorem length_bl (s : ByteArray) : (bl s).length = s.size := by simp [bl]
theorem str_bl (s : ByteArray) : str (bl s) = s := by simp [bl, str]
theorem bl_str (l : List UInt8) : bl (str l) = l := by simp [bl, str]
theorem bl_get (s : ByteArray) (k : Nat) (h : k < s.size) : (bl s)[k]? = some s[k] := by
 have : k < s.data.toList.length := by simpa using h
 unfold bl;rw [List.getElem?_eq_getElem this];simp; rfl
theorem bl_drop (s : ByteArray) (k : Nat) (h : k < s.size) : (bl s).drop k = s[k] :: (bl s).drop (k + 1) := by
 have hl : k < (bl s).length := by rw [length_bl]; exact h
 rw [List.drop_eq_getElem_cons hl];have := bl_get s k h;rw [List.getElem?_eq_getElem hl] at this;rw [Option.some.inj this]
theorem bl_drop_end (s : ByteArray) (k : Nat) (h : ¬ k < s.size) : (bl s).drop k = [] := by
 rw [List.drop_eq_nil_iff, length_bl]; omega
theorem bl_extract (s : ByteArray) (a b : Nat) : bl (s.extract a b) = ((bl s).drop a).take (b - a) := by
 unfold bl;rw [ByteArray.data_extract, Array.toList_extract]
end Lx
theorem ret_bool {a b : Bool} (h : a = b) : Ending.returned (.bool a) = .returned (.bool b) := by rw [h]
theorem ret_int {k : IntKind} {a b : Int} (h : a = b) : Ending.returned (.int k a) = .returned (.int k b) := by rw [h]
theorem letter_any (b : UInt8) (w : World) :
  Calls Tryz.prog 45 #[.int .u8 b.toNat] w fun e w' => e = .returned (.bool (Lx.letter b)) /\ w' = w := by
 go_enter Tryz.func45, Tryz.ntmps45
 go_wp2
 all_goals go_ret
 ·exact ⟨ret_bool (by unfold Lx.letter; rw [Bool.eq_iff_iff]; simp; omega), rfl⟩
 ·exact ⟨ret_bool (by unfold Lx.letter; rw [Bool.eq_iff_iff]; simp; omega), rfl⟩
theorem digit_any (b : UInt8) (w : World) :
  Calls Tryz.prog 46 #[.int .u8 b.toNat] w fun e w' => e = .returned (.bool (Lx.digit b)) /\ w' = w := by
 go_enter Tryz.func46, Tryz.ntmps46
 go_wp2
 all_goals go_ret
 ·exact ⟨ret_bool (by unfold Lx.digit; rw [Bool.eq_iff_iff]; simp; omega), rfl⟩
 ·exact ⟨ret_bool (by unfold Lx.digit; rw [Bool.eq_iff_iff]; simp; omega), rfl⟩
theorem wordy_any (b : UInt8) (w : World) :
  Calls Tryz.prog 225 #[.int .u8 b.toNat] w fun e w' => e = .returned (.bool (Lx.wordy b)) /\ w' = w := by
 unfold Lx.wordy;cases h : Lx.letter b
 all_goals
  go_enter Tryz.func225, Tryz.ntmps225;go_wp2_with (first | (go_at_call 45; refine (letter_any b _).mono ?_; rw [h]; rintro e w' ⟨rfl, rfl⟩) | (go_at_call 46; refine (digit_any b _).mono ?_; rintro e w' ⟨rfl, rfl⟩));go_ret;exact ⟨rfl, rfl⟩
theorem length_wordy (s : ByteArray) (w : World) (hs : s.size <= 1000000) :
  Calls Tryz.prog 213 #[.string s, .func (.func 225) #[] #[]] w fun e w' => e = .returned (.int .i64 (Lx.plen Lx.wordy (Lx.bl s))) /\ w' = w := by
 go_enter Tryz.func213, Tryz.ntmps213;go_wp2_with fail;go_loop [8, 5] (fun i _ => ∃ k : Nat, k <= s.size /\ i = .int .i64 k /\ Lx.plen Lx.wordy (Lx.bl s) = k + Lx.plen Lx.wordy ((Lx.bl s).drop k)) (fun i _ => s.size - (intOf i).toNat)
 case atStart => exact ⟨0, Nat.zero_le _, rfl, by simp⟩
 case round =>
  obtain ⟨k, hk, rfl, hpl⟩ := hrel;by_cases hlt : k < s.size
  ·rw [Lx.bl_drop s k hlt, Lx.plen] at hpl;cases hb : Lx.wordy s[k]
   ·rw [hb, if_neg (by decide)] at hpl;have HPL : Hid _ := hpl;clear hpl;go_wp2_with (go_at_call 225; refine (wordy_any s[k] _).mono ?_; rw [hb]; rintro e w' ⟨rfl, rfl⟩);go_ret;exact ⟨ret_int (by have := HPL.out; omega), rfl⟩
   ·rw [hb, if_pos rfl] at hpl;have HPL : Hid _ := hpl;clear hpl;go_wp2_with (go_at_call 225; refine (wordy_any s[k] _).mono ?_; rw [hb]; rintro e w' ⟨rfl, rfl⟩);go_round
    case rel => exact ⟨k + 1, by omega, by go_num, by have := HPL.out; omega⟩
    case measure => simp [intOf]; omega
  ·rw [Lx.bl_drop_end s k hlt, Lx.plen] at hpl;have HPL : Hid _ := hpl;clear hpl;go_wp2_with fail;go_ret;exact ⟨ret_int (by have := HPL.out; omega), rfl⟩
theorem length_digit (s : ByteArray) (w : World) (hs : s.size <= 1000000) :
  Calls Tryz.prog 213 #[.string s, .func (.func 46) #[] #[]] w fun e w' => e = .returned (.int .i64 (Lx.plen Lx.digit (Lx.bl s))) /\ w' = w := by
 go_enter Tryz.func213, Tryz.ntmps213;go_wp2_with fail;go_loop [8, 5] (fun i _ => ∃ k : Nat, k <= s.size /\ i = .int .i64 k /\ Lx.plen Lx.digit (Lx.bl s) = k + Lx.plen Lx.digit ((Lx.bl s).drop k)) (fun i _ => s.size - (intOf i).toNat)
 case atStart => exact ⟨0, Nat.zero_le _, rfl, by simp⟩
 case round =>
  obtain ⟨k, hk, rfl, hpl⟩ := hrel;by_cases hlt : k < s.size
  ·rw [Lx.bl_drop s k hlt, Lx.plen] at hpl;cases hb : Lx.digit s[k]
   ·rw [hb, if_neg (by decide)] at hpl;have HPL : Hid _ := hpl;clear hpl;go_wp2_with (go_at_call 46; refine (digit_any s[k] _).mono ?_; rw [hb]; rintro e w' ⟨rfl, rfl⟩);go_ret;exact ⟨ret_int (by have := HPL.out; omega), rfl⟩
   ·rw [hb, if_pos rfl] at hpl;have HPL : Hid _ := hpl;clear hpl;go_wp2_with (go_at_call 46; refine (digit_any s[k] _).mono ?_; rw [hb]; rintro e w' ⟨rfl, rfl⟩);go_round
    case rel => exact ⟨k + 1, by omega, by go_num, by have := HPL.out; omega⟩
    case measure => simp [intOf]; omega
  ·rw [Lx.bl_drop_end s k hlt, Lx.plen] at hpl;have HPL : Hid _ := hpl;clear hpl;go_wp2_with fail;go_ret;exact ⟨ret_int (by have := HPL.out; omega), rfl⟩
namespace Lx
def nextR (r : Bool) (b : UInt8) : Bool := if b.toNat = 35 then true else if b.toNat = 10 then false else r
def skips (r : Bool) (b : UInt8) : Bool := nextR r b || decide (b.toNat = 32) || decide (b.toNat = 10)
def gapLen (r : Bool) : List UInt8 -> Nat
 | [] => 0
 | b :: t => if skips r b then gapLen (nextR r b) t + 1 else 0
end Lx
theorem gap1_any (b : UInt8) (r : Bool) (B : Nat) (w : World) (hc : w.cell? ⟨B, 0, none⟩ = some (.bool r)) (hf : w.frozen? ⟨B, 0, none⟩ = false) :
  Calls Tryz.prog 214 #[.int .u8 b.toNat, .pointer (some ⟨B, 0, none⟩)] w fun e w' => e = .returned (.bool (Lx.skips r b)) /\ w'.cell? ⟨B, 0, none⟩ = some (.bool (Lx.nextR r b)) /\ w'.frozen? ⟨B, 0, none⟩ = false /\ Below B w w' := by
 by_cases h35 : b.toNat = 35
 ·have E1 : Hid (Lx.skips r b = true) := by show _ = _; simp [Lx.skips, Lx.nextR, h35]
  have E2 : Hid (Lx.nextR r b = true) := by show _ = _; simp [Lx.nextR, h35]
  have g35 : ((b.toNat : Int) == 35) = true := by simp; omega
  go_enter Tryz.func214, Tryz.ntmps214
  go_wp2
  go_ret;exact ⟨ret_bool E1.out.symm, by rw [E2.out]; go_simp, by go_simp, (Below.refl B w).setCell (p := ⟨B, 0, none⟩) (Nat.le_refl B) _⟩
 ·by_cases h10 : b.toNat = 10
  ·have E1 : Hid (Lx.skips r b = true) := by show _ = _; simp [Lx.skips, h10]
   have E2 : Hid (Lx.nextR r b = false) := by show _ = _; simp [Lx.nextR, h10]
   have g35 : ((b.toNat : Int) == 35) = false := by simp; omega
   have g10 : ((b.toNat : Int) == 10) = true := by simp; omega
   go_enter Tryz.func214, Tryz.ntmps214
   go_wp2
   all_goals go_ret
   all_goals exact ⟨ret_bool E1.out.symm, by rw [E2.out]; go_simp, by go_simp, (Below.refl B w).setCell (p := ⟨B, 0, none⟩) (Nat.le_refl B) _⟩
  ·have g35 : ((b.toNat : Int) == 35) = false := by simp; omega
   have g10 : ((b.toNat : Int) == 10) = false := by simp; omega
   have E1 : Hid (Lx.skips r b = (r || decide (b.toNat = 32))) := by show _ = _; simp [Lx.skips, Lx.nextR, h35, h10]
   have E2 : Hid (Lx.nextR r b = r) := by show _ = _; simp [Lx.nextR, h35, h10]
   cases r
   ·by_cases h32 : b.toNat = 32
    ·have g32 : ((b.toNat : Int) == 32) = true := by simp; omega
     go_enter Tryz.func214, Tryz.ntmps214
     go_wp2
     all_goals go_ret
     all_goals exact ⟨ret_bool (by rw [E1.out]; simp [h32]), by rw [E2.out]; exact hc, hf, Below.refl _ _⟩
    ·have g32 : ((b.toNat : Int) == 32) = false := by simp; omega
     go_enter Tryz.func214, Tryz.ntmps214
     go_wp2
     all_goals go_ret
     all_goals exact ⟨ret_bool (by rw [E1.out]; simp [h32]), by rw [E2.out]; exact hc, hf, Below.refl _ _⟩
   ·go_enter Tryz.func214, Tryz.ntmps214
    go_wp2
    all_goals go_ret
    all_goals exact ⟨ret_bool (by rw [E1.out]; simp), by rw [E2.out]; exact hc, hf, Below.refl _ _⟩
theorem length_gap (s : ByteArray) (B : Nat) (w : World) (hs : s.size <= 1000000) (hc : w.cell? ⟨B, 0, none⟩ = some (.bool false)) (hf : w.frozen? ⟨B, 0, none⟩ = false) :
  Calls Tryz.prog 213 #[.string s, .func (.func 214) #[] #[.pointer (some ⟨B, 0, none⟩)]] w fun e w' => e = .returned (.int .i64 (Lx.gapLen false (Lx.bl s))) /\ Below B w w' := by
 go_enter Tryz.func213, Tryz.ntmps213;go_wp2_with fail;go_loopw [8, 5] (fun i _ wr => ∃ k : Nat, k <= s.size /\ i = .int .i64 k /\ ∃ r, Lx.gapLen false (Lx.bl s) = k + Lx.gapLen r ((Lx.bl s).drop k) /\ wr.cell? ⟨B, 0, none⟩ = some (.bool r) /\ wr.frozen? ⟨B, 0, none⟩ = false /\ Below B w wr) (fun i _ _ => s.size - (intOf i).toNat)
 case atStart => exact ⟨0, Nat.zero_le _, rfl, false, by simp, hc, hf, Below.refl _ _⟩
 case round =>
  obtain ⟨k, hk, rfl, r, hpl, hcr, hfr, hbr⟩ := hrel;clear hc hf;by_cases hlt : k < s.size
  ·rw [Lx.bl_drop s k hlt, Lx.gapLen] at hpl;cases hb : Lx.skips r s[k]
   ·rw [hb, if_neg (by decide)] at hpl;have HPL : Hid _ := hpl;clear hpl;go_wp2_with (go_at_call 214; refine (gap1_any s[k] r B _ hcr hfr).mono ?_; rw [hb]; rintro e w' ⟨rfl, hc2, hf2, hb2⟩);go_ret;exact ⟨ret_int (by have := HPL.out; omega), hbr.trans hb2⟩
   ·rw [hb, if_pos rfl] at hpl;have HPL : Hid _ := hpl;clear hpl;go_wp2_with (go_at_call 214; refine (gap1_any s[k] r B _ hcr hfr).mono ?_; rw [hb]; rintro e w' ⟨rfl, hc2, hf2, hb2⟩);go_roundw
    case rel => exact ⟨k + 1, by omega, by go_num, _, by have := HPL.out; omega, hc2, hf2, hbr.trans hb2⟩
    case measure => simp [intOf]; omega
  ·rw [Lx.bl_drop_end s k hlt, Lx.gapLen] at hpl;have HPL : Hid _ := hpl;clear hpl;go_wp2_with fail;go_ret;exact ⟨ret_int (by have := HPL.out; omega), hbr⟩
theorem gap_any (s : ByteArray) (w : World) (hs : s.size <= 1000000) :
  Calls Tryz.prog 194 #[.string s] w fun e w' => e = .returned (.int .i64 (Lx.gapLen false (Lx.bl s))) /\ Below w.heap.size w w' := by
 go_enter Tryz.func194, Tryz.ntmps194;go_wp2_with (go_at_call 213; refine (length_gap s w.heap.size _ hs (by go_simp) (by go_simp)).mono ?_; rintro e w' ⟨rfl, hb2⟩);go_ret;exact ⟨rfl, ((Below.refl _ _).alloc (Nat.le_refl _) _).trans hb2⟩
namespace Lx
def errV (f : Nat) : Value := if f = 0 then .nilIface else .iface 54 (.int .i64 f)
def hexes : List UInt8 := [48, 49, 50, 51, 52, 53, 54, 55, 56, 57, 97, 98, 99, 100, 101, 102]
def signList : List UInt8 := [61, 123, 125, 91, 93, 40, 41, 58, 44, 46, 43, 63, 45]
structure Tok where
 kind : Nat
 text : List UInt8
 size : Nat
 err : Nat
def bad (f : Nat) : Tok := ⟨0, [], 0, f⟩
def tokV (t : Tok) : Value := .tuple #[.agg #[.int .i64 t.kind, .int .i64 0, .string (str t.text)], .int .i64 t.size, errV t.err]
def wordTok (l : List UInt8) : Tok := if plen wordy l > 12 then bad 1 else ⟨1, l.take (plen wordy l), plen wordy l, 0⟩
def digitsTok (l : List UInt8) : Tok := if plen digit l > 10 \/ plen digit l > 1 /\ l.headD 0 = 48 then bad 1 else ⟨2, l.take (plen digit l), plen digit l, 0⟩
def signTok (l : List UInt8) : Tok :=
 if l.take 2 = [61, 61] then ⟨4, l.take 2, 2, 0⟩ else if Lib.indexByte signList (l.headD 0) < 0 then bad 4 else ⟨4, l.take 1, 1, 0⟩
theorem plen_le (p : UInt8 -> Bool) (l : List UInt8) : plen p l <= l.length := by
 induction l with
 | nil => exact Nat.le_refl _
 | cons b r ih => rw [plen]; split <;> simp <;> omega
theorem str_take (s : ByteArray) (n : Nat) : str ((bl s).take n) = s.extract 0 n := by
 rw [<- str_bl (s.extract 0 n), bl_extract]; simp
theorem bl_head (s : ByteArray) (h : 0 < s.size) : (bl s).headD 0 = s[0] := by
 have := bl_drop s 0 h;rw [List.drop_zero] at this;rw [this]; rfl
theorem bl_head? (s : ByteArray) (h : 0 < s.size) : ∃ r, bl s = s[0] :: r := ⟨_, by have := bl_drop s 0 h; rwa [List.drop_zero] at this⟩
theorem u8_eq (b c : UInt8) : (b = c) ↔ b.toNat = c.toNat := UInt8.toNat_inj.symm
theorem tokV_some (k n : Nat) (t : ByteArray) (l : List UInt8) (h : str l = t) : tokV ⟨k, l, n, 0⟩ = .tuple #[.agg #[.int .i64 k, .int .i64 0, .string t], .int .i64 n, .nilIface] := by
 rw [<- h]; rfl
end Lx
theorem callIdx (s : ByteArray) (c : Int) (w : World) : (callFunc 124 #[.string s, .int .u8 c]).run Tryz.prog w = .ok (.value (.int .i64 (Lib.indexByte s.data.toList c.toNat.toUInt8))) w := by
 rw [run_callFunc_extern Tryz.func124 (by kernel_rfl) (by kernel_rfl) (by kernel_rfl) (e := Extern.BytealgIndexByte.indexByte) (by kernel_rfl), Lib.run_indexByteString];rfl
theorem byte_back (b : UInt8) : ((b.toNat : Int)).toNat.toUInt8 = b := by simp
theorem indexByte_any (s : ByteArray) (b : UInt8) (w : World) :
  Calls Tryz.prog 89 #[.string s, .int .u8 b.toNat] w fun e w' => e = .returned (.int .i64 (Lib.indexByte (Lx.bl s) b)) /\ w' = w := by
 have hx := callIdx s b.toNat;rw [byte_back] at hx;go_enter Tryz.func89, Tryz.ntmps89
 go_wp2
 go_ret;exact ⟨rfl, rfl⟩
theorem toList_bl (s : ByteArray) : s.toList = Lx.bl s := ByteArray.toList_eq s
theorem hasPrefix_any (s : ByteArray) (w : World) (hs : s.size <= 1000000) :
  Calls Tryz.prog 227 #[.string s, .string ⟨#[61, 61]⟩] w fun e w' => e = .returned (.bool (decide ((Lx.bl s).take 2 = [61, 61]))) /\ w' = w := by
 by_cases h2 : 2 <= s.size
 ·go_enter Tryz.func227, Tryz.ntmps227
  go_wp2
  go_ret;refine ⟨ret_bool ?_, rfl⟩;show ((s.extract 0 2).toList == [61, 61]) = _;rw [toList_bl, Lx.bl_extract];rw [Bool.eq_iff_iff]; simp
 ·have E : Hid (decide ((Lx.bl s).take 2 = [61, 61]) = false) := by
   show _ = _;simp only [decide_eq_false_iff_not];intro h;have := congrArg List.length h;simp only [List.length_take, Lx.length_bl, List.length_cons, List.length_nil] at this;omega
  go_enter Tryz.func227, Tryz.ntmps227
  go_wp2
  go_ret;exact ⟨ret_bool E.out.symm, rfl⟩
theorem word_any (s : ByteArray) (w : World) (hs : s.size <= 1000000) :
  Calls Tryz.prog 215 #[.string s] w fun e w' => e = .returned (Lx.tokV (Lx.wordTok (Lx.bl s))) /\ Below w.heap.size w w' := by
 have hle := Lx.plen_le Lx.wordy (Lx.bl s);rw [Lx.length_bl] at hle;by_cases h : Lx.plen Lx.wordy (Lx.bl s) > 12
 ·have E : Hid (Lx.tokV (Lx.wordTok (Lx.bl s)) = .tuple #[.agg #[.int .i64 0, .int .i64 0, .string ⟨#[]⟩], .int .i64 0, .iface 54 (.int .i64 1)]) := by
   show _ = _; rw [Lx.wordTok, if_pos h]; rfl
  go_enter Tryz.func215, Tryz.ntmps215;go_wp2_with (go_at_call 213; refine (length_wordy s _ hs).mono ?_; rintro e w' ⟨rfl, rfl⟩);exact bodyPost_ret (v := .tuple #[.agg #[.int .i64 0, .int .i64 0, .string ⟨#[]⟩], .int .i64 0, .iface 54 (.int .i64 1)]) (by simp [results, Tryz.results215, go_sem]) rfl ⟨congrArg Ending.returned E.out.symm, (Below.refl _ _).alloc (Nat.le_refl _) _⟩
 ·have E : Hid (Lx.tokV (Lx.wordTok (Lx.bl s)) = .tuple #[.agg #[.int .i64 1, .int .i64 0, .string (s.extract 0 (Lx.plen Lx.wordy (Lx.bl s)))], .int .i64 (Lx.plen Lx.wordy (Lx.bl s)), .nilIface]) := by
   show _ = _; rw [Lx.wordTok, if_neg h]; exact Lx.tokV_some 1 _ _ _ (Lx.str_take s _)
  go_enter Tryz.func215, Tryz.ntmps215;go_wp2_with (go_at_call 213; refine (length_wordy s _ hs).mono ?_; rintro e w' ⟨rfl, rfl⟩);exact bodyPost_ret (v := .tuple #[.agg #[.int .i64 1, .int .i64 0, .string (s.extract 0 (Lx.plen Lx.wordy (Lx.bl s)))], .int .i64 (Lx.plen Lx.wordy (Lx.bl s)), .nilIface]) (by simp [results, Tryz.results215, go_sem]) rfl ⟨congrArg Ending.returned E.out.symm, (Below.refl _ _).alloc (Nat.le_refl _) _⟩
theorem digits_any (s : ByteArray) (w : World) (hs : s.size <= 1000000) :
  Calls Tryz.prog 216 #[.string s] w fun e w' => e = .returned (Lx.tokV (Lx.digitsTok (Lx.bl s))) /\ Below w.heap.size w w' := by
 have hle := Lx.plen_le Lx.digit (Lx.bl s);rw [Lx.length_bl] at hle;by_cases h : Lx.plen Lx.digit (Lx.bl s) > 10 \/ Lx.plen Lx.digit (Lx.bl s) > 1 /\ (Lx.bl s).headD 0 = 48
 ·have E : Hid (Lx.tokV (Lx.digitsTok (Lx.bl s)) = .tuple #[.agg #[.int .i64 0, .int .i64 0, .string ⟨#[]⟩], .int .i64 0, .iface 54 (.int .i64 1)]) := by
   show _ = _; rw [Lx.digitsTok, if_pos h]; rfl
  by_cases h10 : Lx.plen Lx.digit (Lx.bl s) > 10
  ·go_enter Tryz.func216, Tryz.ntmps216;go_wp2_with (go_at_call 213; refine (length_digit s _ hs).mono ?_; rintro e w' ⟨rfl, rfl⟩);exact bodyPost_ret (v := .tuple #[.agg #[.int .i64 0, .int .i64 0, .string ⟨#[]⟩], .int .i64 0, .iface 54 (.int .i64 1)]) (by simp [results, Tryz.results216, go_sem]) rfl ⟨congrArg Ending.returned E.out.symm, (Below.refl _ _).alloc (Nat.le_refl _) _⟩
  ·have h1 : Lx.plen Lx.digit (Lx.bl s) > 1 /\ (Lx.bl s).headD 0 = 48 := h.resolve_left h10;obtain ⟨h1, h48⟩ := h1;have hpos : 0 < s.size := by omega
   rw [Lx.bl_head s hpos] at h48;have g48 : ((s[0].toNat : Int) == 48) = true := by rw [h48]; rfl
   clear h48 h;go_enter Tryz.func216, Tryz.ntmps216;go_wp2_with (go_at_call 213; refine (length_digit s _ hs).mono ?_; rintro e w' ⟨rfl, rfl⟩)
   all_goals exact bodyPost_ret (v := .tuple #[.agg #[.int .i64 0, .int .i64 0, .string ⟨#[]⟩], .int .i64 0, .iface 54 (.int .i64 1)]) (by simp [results, Tryz.results216, go_sem]) rfl ⟨congrArg Ending.returned E.out.symm, (Below.refl _ _).alloc (Nat.le_refl _) _⟩
 ·have E : Hid (Lx.tokV (Lx.digitsTok (Lx.bl s)) = .tuple #[.agg #[.int .i64 2, .int .i64 0, .string (s.extract 0 (Lx.plen Lx.digit (Lx.bl s)))], .int .i64 (Lx.plen Lx.digit (Lx.bl s)), .nilIface]) := by
   show _ = _; rw [Lx.digitsTok, if_neg h]; exact Lx.tokV_some 2 _ _ _ (Lx.str_take s _)
  by_cases h1 : Lx.plen Lx.digit (Lx.bl s) > 1
  ·have h10 : Lx.plen Lx.digit (Lx.bl s) <= 10 := by omega
   have hpos : 0 < s.size := by omega
   have h48 : ¬ (Lx.bl s).headD 0 = 48 := fun e => h (.inr ⟨h1, e⟩)
   rw [Lx.bl_head s hpos, Lx.u8_eq] at h48;have g48 : ((s[0].toNat : Int) == 48) = false := by rw [show (48 : UInt8).toNat = 48 from rfl] at h48; rw [beq_eq_false_iff_ne]; omega
   clear h48 h;go_enter Tryz.func216, Tryz.ntmps216;go_wp2_with (go_at_call 213; refine (length_digit s _ hs).mono ?_; rintro e w' ⟨rfl, rfl⟩)
   all_goals exact bodyPost_ret (v := .tuple #[.agg #[.int .i64 2, .int .i64 0, .string (s.extract 0 (Lx.plen Lx.digit (Lx.bl s)))], .int .i64 (Lx.plen Lx.digit (Lx.bl s)), .nilIface]) (by simp [results, Tryz.results216, go_sem]) rfl ⟨congrArg Ending.returned E.out.symm, (Below.refl _ _).alloc (Nat.le_refl _) _⟩
  ·clear h;go_enter Tryz.func216, Tryz.ntmps216;go_wp2_with (go_at_call 213; refine (length_digit s _ hs).mono ?_; rintro e w' ⟨rfl, rfl⟩)
   all_goals exact bodyPost_ret (v := .tuple #[.agg #[.int .i64 2, .int .i64 0, .string (s.extract 0 (Lx.plen Lx.digit (Lx.bl s)))], .int .i64 (Lx.plen Lx.digit (Lx.bl s)), .nilIface]) (by simp [results, Tryz.results216, go_sem]) rfl ⟨congrArg Ending.returned E.out.symm, (Below.refl _ _).alloc (Nat.le_refl _) _⟩
theorem sign_any (s : ByteArray) (w : World) (hs : s.size <= 1000000) (h0 : 0 < s.size) :
  Calls Tryz.prog 218 #[.string s] w fun e w' => e = .returned (Lx.tokV (Lx.signTok (Lx.bl s))) /\ Below w.heap.size w w' := by
 by_cases h : (Lx.bl s).take 2 = [61, 61]
 ·have h2 : 2 <= s.size := by
   have := congrArg List.length h;simp only [List.length_take, Lx.length_bl, List.length_cons, List.length_nil] at this;omega
  have E : Hid (Lx.tokV (Lx.signTok (Lx.bl s)) = .tuple #[.agg #[.int .i64 4, .int .i64 0, .string (s.extract 0 2)], .int .i64 2, .nilIface]) := by
   show _ = _; rw [Lx.signTok, if_pos h]; exact Lx.tokV_some 4 2 _ _ (Lx.str_take s _)
  have D : Hid (decide ((Lx.bl s).take 2 = [61, 61]) = true) := by show _ = _; simpa using h
  clear h;go_enter Tryz.func218, Tryz.ntmps218;go_wp2_with (go_at_call 227; refine (hasPrefix_any s _ hs).mono ?_; rw [D.out]; rintro e w' ⟨rfl, rfl⟩);exact bodyPost_ret (v := .tuple #[.agg #[.int .i64 4, .int .i64 0, .string (s.extract 0 2)], .int .i64 2, .nilIface]) (by simp [results, Tryz.results218, go_sem]) rfl ⟨congrArg Ending.returned E.out.symm, (Below.refl _ _).alloc (Nat.le_refl _) _⟩
 ·have D : Hid (decide ((Lx.bl s).take 2 = [61, 61]) = false) := by show _ = _; simpa using h
  have hh := Lx.bl_head s h0;by_cases hi : Lib.indexByte Lx.signList s[0] < 0
  ·have E : Hid (Lx.tokV (Lx.signTok (Lx.bl s)) = .tuple #[.agg #[.int .i64 0, .int .i64 0, .string ⟨#[]⟩], .int .i64 0, .iface 54 (.int .i64 4)]) := by
    show _ = _; rw [Lx.signTok, if_neg h, hh, if_pos hi]; rfl
   clear h hh;go_enter Tryz.func218, Tryz.ntmps218;go_wp2_with (first | (go_at_call 227; refine (hasPrefix_any s _ hs).mono ?_; rw [D.out]; rintro e w' ⟨rfl, rfl⟩) | (go_at_call 89; refine (indexByte_any ⟨#[61, 123, 125, 91, 93, 40, 41, 58, 44, 46, 43, 63, 45]⟩ s[0] _).mono ?_; rw [show Lx.bl ⟨#[61, 123, 125, 91, 93, 40, 41, 58, 44, 46, 43, 63, 45]⟩ = Lx.signList from rfl]; rintro e w' ⟨rfl, rfl⟩));exact bodyPost_ret (v := .tuple #[.agg #[.int .i64 0, .int .i64 0, .string ⟨#[]⟩], .int .i64 0, .iface 54 (.int .i64 4)]) (by simp [results, Tryz.results218, go_sem]) rfl ⟨congrArg Ending.returned E.out.symm, (Below.refl _ _).alloc (Nat.le_refl _) _⟩
  ·have E : Hid (Lx.tokV (Lx.signTok (Lx.bl s)) = .tuple #[.agg #[.int .i64 4, .int .i64 0, .string (s.extract 0 1)], .int .i64 1, .nilIface]) := by
    show _ = _; rw [Lx.signTok, if_neg h, hh, if_neg hi]; exact Lx.tokV_some 4 1 _ _ (Lx.str_take s _)
   clear h hh;go_enter Tryz.func218, Tryz.ntmps218;go_wp2_with (first | (go_at_call 227; refine (hasPrefix_any s _ hs).mono ?_; rw [D.out]; rintro e w' ⟨rfl, rfl⟩) | (go_at_call 89; refine (indexByte_any ⟨#[61, 123, 125, 91, 93, 40, 41, 58, 44, 46, 43, 63, 45]⟩ s[0] _).mono ?_; rw [show Lx.bl ⟨#[61, 123, 125, 91, 93, 40, 41, 58, 44, 46, 43, 63, 45]⟩ = Lx.signList from rfl]; rintro e w' ⟨rfl, rfl⟩));exact bodyPost_ret (v := .tuple #[.agg #[.int .i64 4, .int .i64 0, .string (s.extract 0 1)], .int .i64 1, .nilIface]) (by simp [results, Tryz.results218, go_sem]) rfl ⟨congrArg Ending.returned E.out.symm, (Below.refl _ _).alloc (Nat.le_refl _) _⟩
namespace Lx
def hex (b : UInt8) : Int := Lib.indexByte hexes b
def hexByte (e f : UInt8) : UInt8 := (16 * hex e + hex f).toNat.toUInt8
def unq (l : List UInt8) : UInt8 × Nat :=
 if (l.getD 0 0).toNat < 32 \/ 126 < (l.getD 0 0).toNat then (0, 0)
 else if ¬ (l.getD 0 0).toNat = 92 then (l.getD 0 0, 1)
 else if 1 < l.length /\ ((l.getD 1 0).toNat = 34 \/ (l.getD 1 0).toNat = 92) then (l.getD 1 0, 2)
 else if 3 < l.length /\ (l.getD 1 0).toNat = 120 /\ 0 <= hex (l.getD 2 0) /\ 0 <= hex (l.getD 3 0) then (hexByte (l.getD 2 0) (l.getD 3 0), 4)
 else (0, 0)
theorem bl_getD (s : ByteArray) (k : Nat) (h : k < s.size) : (bl s).getD k 0 = s[k] := by
 rw [List.getD_eq_getElem?_getD, bl_get s k h]; rfl
theorem indexByte_lt (l : List UInt8) (c : UInt8) : Lib.indexByte l c < l.length := by
 induction l with
 | nil => exact (by decide : (-1 : Int) < 0)
 | cons b l ih =>
  unfold Lib.indexByte;rw [List.length_cons];split
  ·omega
  ·split <;> omega
theorem hex_bd (b : UInt8) : -1 <= hex b /\ hex b <= 15 :=
 ⟨Lib.indexByte_ge _ _, by have := indexByte_lt hexes b; unfold hex; rw [show hexes.length = 16 from rfl] at this; omega⟩
theorem hexByte_toNat (e f : UInt8) (h1 : 0 <= hex e) (h2 : 0 <= hex f) : ((hexByte e f).toNat : Int) = 16 * hex e + hex f := by
 have a := hex_bd e;have b := hex_bd f;unfold hexByte;simp only [UInt8.toNat_ofNat', Nat.toUInt8];omega
end Lx
theorem ret_u8 {a b n : Int} (h : a = b) : Ending.returned (.tuple #[.int .u8 a, .int .i64 n]) = .returned (.tuple #[.int .u8 b, .int .i64 n]) := by rw [h]
theorem hexCall (b : UInt8) (w : World) :
  Calls Tryz.prog 89 #[.string ⟨#[48, 49, 50, 51, 52, 53, 54, 55, 56, 57, 97, 98, 99, 100, 101, 102]⟩, .int .u8 b.toNat] w fun e w' => e = .returned (.int .i64 (Lx.hex b)) /\ w' = w :=
 indexByte_any _ b w
theorem unq_low (s : ByteArray) (w : World) (_hs : s.size <= 1000000) (h0 : 0 < s.size) (hc : s[0].toNat < 32) :
  Calls Tryz.prog 226 #[.string s] w fun e w' => e = .returned (.tuple #[.int .u8 (Lx.unq (Lx.bl s)).1.toNat, .int .i64 (Lx.unq (Lx.bl s)).2]) /\ w' = w := by
 have d0 := Lx.bl_getD s 0 h0;have E : Hid (Lx.unq (Lx.bl s) = (0, 0)) := by show _ = _; rw [Lx.unq, d0, if_pos (.inl hc)]
 clear d0;go_enter Tryz.func226, Tryz.ntmps226;go_wp2_with fail
 all_goals go_ret2
 all_goals exact ⟨by rw [E.out]; rfl, rfl⟩
theorem unq_high (s : ByteArray) (w : World) (_hs : s.size <= 1000000) (h0 : 0 < s.size) (hc : 126 < s[0].toNat) :
  Calls Tryz.prog 226 #[.string s] w fun e w' => e = .returned (.tuple #[.int .u8 (Lx.unq (Lx.bl s)).1.toNat, .int .i64 (Lx.unq (Lx.bl s)).2]) /\ w' = w := by
 have d0 := Lx.bl_getD s 0 h0;have E : Hid (Lx.unq (Lx.bl s) = (0, 0)) := by show _ = _; rw [Lx.unq, d0, if_pos (.inr hc)]
 clear d0;go_enter Tryz.func226, Tryz.ntmps226;go_wp2_with fail
 all_goals go_ret2
 all_goals exact ⟨by rw [E.out]; rfl, rfl⟩
theorem unq_plain (s : ByteArray) (w : World) (_hs : s.size <= 1000000) (h0 : 0 < s.size) (hc1 : 32 <= s[0].toNat) (hc2 : s[0].toNat <= 126) (h92 : ¬ s[0].toNat = 92) :
  Calls Tryz.prog 226 #[.string s] w fun e w' => e = .returned (.tuple #[.int .u8 (Lx.unq (Lx.bl s)).1.toNat, .int .i64 (Lx.unq (Lx.bl s)).2]) /\ w' = w := by
 have d0 := Lx.bl_getD s 0 h0;have E : Hid (Lx.unq (Lx.bl s) = (s[0], 1)) := by show _ = _; rw [Lx.unq, d0, if_neg (by omega), if_pos h92]
 have g92 : ((s[0].toNat : Int) != 92) = true := by simp; omega
 clear d0;go_enter Tryz.func226, Tryz.ntmps226;go_wp2_with fail
 all_goals go_ret2
 all_goals exact ⟨by rw [E.out]; rfl, rfl⟩
theorem unq_one (s : ByteArray) (w : World) (hs : s.size <= 1000000) (h0 : 0 < s.size) (h92 : s[0].toNat = 92) (h1 : ¬ 1 < s.size) :
  Calls Tryz.prog 226 #[.string s] w fun e w' => e = .returned (.tuple #[.int .u8 (Lx.unq (Lx.bl s)).1.toNat, .int .i64 (Lx.unq (Lx.bl s)).2]) /\ w' = w := by
 have d0 := Lx.bl_getD s 0 h0;have E : Hid (Lx.unq (Lx.bl s) = (0, 0)) := by show _ = _; rw [Lx.unq, d0, if_neg (by omega), if_neg (by simp [h92]), Lx.length_bl, if_neg (by omega), if_neg (by omega)]
 have g92 : ((s[0].toNat : Int) != 92) = false := by simp; omega
 have hc1 : 32 <= s[0].toNat := by omega
 have hc2 : s[0].toNat <= 126 := by omega
 clear d0 h92;go_enter Tryz.func226, Tryz.ntmps226;go_wp2_with fail
 all_goals go_ret2
 all_goals exact ⟨by rw [E.out]; rfl, rfl⟩
theorem unq_quote (s : ByteArray) (w : World) (hs : s.size <= 1000000) (h0 : 0 < s.size) (h92 : s[0].toNat = 92) (h1 : 1 < s.size) (h34 : s[1].toNat = 34) :
  Calls Tryz.prog 226 #[.string s] w fun e w' => e = .returned (.tuple #[.int .u8 (Lx.unq (Lx.bl s)).1.toNat, .int .i64 (Lx.unq (Lx.bl s)).2]) /\ w' = w := by
 have d0 := Lx.bl_getD s 0 h0;have d1 := Lx.bl_getD s 1 h1;have E : Hid (Lx.unq (Lx.bl s) = (s[1], 2)) := by show _ = _; rw [Lx.unq, d0, if_neg (by omega), if_neg (by simp [h92]), Lx.length_bl, d1, if_pos ⟨h1, .inl h34⟩]
 have g92 : ((s[0].toNat : Int) != 92) = false := by simp; omega
 have hc1 : 32 <= s[0].toNat := by omega
 have hc2 : s[0].toNat <= 126 := by omega
 have g34 : ((s[1].toNat : Int) == 34) = true := by simp; omega
 clear d0 d1 h92 h34;go_enter Tryz.func226, Tryz.ntmps226;go_wp2_with fail
 all_goals go_ret2
 all_goals exact ⟨by rw [E.out]; rfl, rfl⟩
theorem unq_slash (s : ByteArray) (w : World) (hs : s.size <= 1000000) (h0 : 0 < s.size) (h92 : s[0].toNat = 92) (h1 : 1 < s.size) (h34 : s[1].toNat = 92) :
  Calls Tryz.prog 226 #[.string s] w fun e w' => e = .returned (.tuple #[.int .u8 (Lx.unq (Lx.bl s)).1.toNat, .int .i64 (Lx.unq (Lx.bl s)).2]) /\ w' = w := by
 have d0 := Lx.bl_getD s 0 h0;have d1 := Lx.bl_getD s 1 h1;have E : Hid (Lx.unq (Lx.bl s) = (s[1], 2)) := by show _ = _; rw [Lx.unq, d0, if_neg (by omega), if_neg (by simp [h92]), Lx.length_bl, d1, if_pos ⟨h1, .inr h34⟩]
 have g92 : ((s[0].toNat : Int) != 92) = false := by simp; omega
 have hc1 : 32 <= s[0].toNat := by omega
 have hc2 : s[0].toNat <= 126 := by omega
 have g34 : ((s[1].toNat : Int) == 34) = false := by simp; omega
 have g92' : ((s[1].toNat : Int) == 92) = true := by simp; omega
 clear d0 d1 h92 h34;go_enter Tryz.func226, Tryz.ntmps226;go_wp2_with fail
 all_goals go_ret2
 all_goals exact ⟨by rw [E.out]; rfl, rfl⟩
theorem unq_short (s : ByteArray) (w : World) (hs : s.size <= 1000000) (h0 : 0 < s.size) (h92 : s[0].toNat = 92) (h1 : 1 < s.size) (h34 : ¬ s[1].toNat = 34) (h92b : ¬ s[1].toNat = 92) (hx : ¬ 3 < s.size) :
  Calls Tryz.prog 226 #[.string s] w fun e w' => e = .returned (.tuple #[.int .u8 (Lx.unq (Lx.bl s)).1.toNat, .int .i64 (Lx.unq (Lx.bl s)).2]) /\ w' = w := by
 have d0 := Lx.bl_getD s 0 h0;have d1 := Lx.bl_getD s 1 h1;have E : Hid (Lx.unq (Lx.bl s) = (0, 0)) := by show _ = _; rw [Lx.unq, d0, if_neg (by omega), if_neg (by simp [h92]), Lx.length_bl, d1, if_neg (by omega), if_neg (by omega)]
 have g92 : ((s[0].toNat : Int) != 92) = false := by simp; omega
 have hc1 : 32 <= s[0].toNat := by omega
 have hc2 : s[0].toNat <= 126 := by omega
 have g34 : ((s[1].toNat : Int) == 34) = false := by simp; omega
 have g92' : ((s[1].toNat : Int) == 92) = false := by simp; omega
 clear d0 d1 h92 h34 h92b;go_enter Tryz.func226, Tryz.ntmps226;go_wp2_with fail
 all_goals go_ret2
 all_goals exact ⟨by rw [E.out]; rfl, rfl⟩
theorem unq_nox (s : ByteArray) (w : World) (hs : s.size <= 1000000) (h0 : 0 < s.size) (h92 : s[0].toNat = 92) (h1 : 3 < s.size) (h34 : ¬ s[1].toNat = 34) (h92b : ¬ s[1].toNat = 92) (hx : ¬ s[1].toNat = 120) :
  Calls Tryz.prog 226 #[.string s] w fun e w' => e = .returned (.tuple #[.int .u8 (Lx.unq (Lx.bl s)).1.toNat, .int .i64 (Lx.unq (Lx.bl s)).2]) /\ w' = w := by
 have d0 := Lx.bl_getD s 0 h0;have d1 := Lx.bl_getD s 1 (by omega);have E : Hid (Lx.unq (Lx.bl s) = (0, 0)) := by show _ = _; rw [Lx.unq, d0, if_neg (by omega), if_neg (by simp [h92]), Lx.length_bl, d1, if_neg (by omega), if_neg (fun h => hx h.2.1)]
 have g92 : ((s[0].toNat : Int) != 92) = false := by simp; omega
 have hc1 : 32 <= s[0].toNat := by omega
 have hc2 : s[0].toNat <= 126 := by omega
 have g34 : ((s[1].toNat : Int) == 34) = false := by simp; omega
 have g92' : ((s[1].toNat : Int) == 92) = false := by simp; omega
 have g120 : ((s[1].toNat : Int) == 120) = false := by simp; omega
 clear d0 d1 h92 h34 h92b hx;go_enter Tryz.func226, Tryz.ntmps226;go_wp2_with fail
 all_goals go_ret2
 all_goals exact ⟨by rw [E.out]; rfl, rfl⟩
theorem unq_hexes (s : ByteArray) (w : World) (hs : s.size <= 1000000) (h0 : 0 < s.size) (h92 : s[0].toNat = 92) (h1 : 3 < s.size) (hx : s[1].toNat = 120) :
  Calls Tryz.prog 226 #[.string s] w fun e w' => e = .returned (.tuple #[.int .u8 (Lx.unq (Lx.bl s)).1.toNat, .int .i64 (Lx.unq (Lx.bl s)).2]) /\ w' = w := by
 have d0 := Lx.bl_getD s 0 h0;have d1 := Lx.bl_getD s 1 (by omega);have d2 := Lx.bl_getD s 2 (by omega);have d3 := Lx.bl_getD s 3 (by omega);have a := Lx.hex_bd s[2];have b := Lx.hex_bd s[3];have g92 : ((s[0].toNat : Int) != 92) = false := by simp; omega
 have hc1 : 32 <= s[0].toNat := by omega
 have hc2 : s[0].toNat <= 126 := by omega
 have g34 : ((s[1].toNat : Int) == 34) = false := by simp; omega
 have g92' : ((s[1].toNat : Int) == 92) = false := by simp; omega
 have g120 : ((s[1].toNat : Int) == 120) = true := by simp; omega
 by_cases x2 : 0 <= Lx.hex s[2]
 ·by_cases x3 : 0 <= Lx.hex s[3]
  ·have E : Hid (Lx.unq (Lx.bl s) = (Lx.hexByte s[2] s[3], 4)) := by show _ = _; rw [Lx.unq, d0, if_neg (by omega), if_neg (by simp [h92]), Lx.length_bl, d1, d2, d3, if_neg (by omega), if_pos ⟨h1, hx, x2, x3⟩]
   have E2 : Hid (((Lx.hexByte s[2] s[3]).toNat : Int) = 16 * Lx.hex s[2] + Lx.hex s[3]) := Lx.hexByte_toNat _ _ x2 x3;clear d0 d1 d2 d3 h92 hx;go_enter Tryz.func226, Tryz.ntmps226;go_wp2_with fail;refine (hexCall s[2] _).mono ?_;rintro e w' ⟨rfl, rfl⟩;go_wp2_with fail;refine (hexCall s[3] _).mono ?_;rintro e w' ⟨rfl, rfl⟩;go_wp2_with fail;go_ret2;refine ⟨?_, rfl⟩;rw [E.out];exact ret_u8 E2.out.symm
  ·have E : Hid (Lx.unq (Lx.bl s) = (0, 0)) := by show _ = _; rw [Lx.unq, d0, if_neg (by omega), if_neg (by simp [h92]), Lx.length_bl, d1, d2, d3, if_neg (by omega), if_neg (fun h => x3 h.2.2.2)]
   clear d0 d1 d2 d3 h92 hx;go_enter Tryz.func226, Tryz.ntmps226;go_wp2_with fail;refine (hexCall s[2] _).mono ?_;rintro e w' ⟨rfl, rfl⟩;go_wp2_with fail;refine (hexCall s[3] _).mono ?_;rintro e w' ⟨rfl, rfl⟩;go_wp2_with fail
   all_goals go_ret2
   all_goals exact ⟨by rw [E.out]; rfl, rfl⟩
 ·have E : Hid (Lx.unq (Lx.bl s) = (0, 0)) := by show _ = _; rw [Lx.unq, d0, if_neg (by omega), if_neg (by simp [h92]), Lx.length_bl, d1, d2, d3, if_neg (by omega), if_neg (fun h => x2 h.2.2.1)]
  clear d0 d1 d2 d3 h92 hx;go_enter Tryz.func226, Tryz.ntmps226;go_wp2_with fail;refine (hexCall s[2] _).mono ?_;rintro e w' ⟨rfl, rfl⟩;go_wp2_with fail;refine (hexCall s[3] _).mono ?_;rintro e w' ⟨rfl, rfl⟩;go_wp2_with fail
  all_goals go_ret2
  all_goals exact ⟨by rw [E.out]; rfl, rfl⟩
theorem unquoted_any (s : ByteArray) (w : World) (hs : s.size <= 1000000) (h0 : 0 < s.size) :
  Calls Tryz.prog 226 #[.string s] w fun e w' => e = .returned (.tuple #[.int .u8 (Lx.unq (Lx.bl s)).1.toNat, .int .i64 (Lx.unq (Lx.bl s)).2]) /\ w' = w := by
 by_cases c1 : s[0].toNat < 32
 ·exact unq_low s w hs h0 c1
 by_cases c2 : 126 < s[0].toNat
 ·exact unq_high s w hs h0 c2
 by_cases c3 : s[0].toNat = 92
 ·by_cases c4 : 1 < s.size
  ·by_cases c5 : s[1].toNat = 34
   ·exact unq_quote s w hs h0 c3 c4 c5
   by_cases c6 : s[1].toNat = 92
   ·exact unq_slash s w hs h0 c3 c4 c6
   by_cases c7 : 3 < s.size
   ·by_cases c8 : s[1].toNat = 120
    ·exact unq_hexes s w hs h0 c3 c7 c8
    ·exact unq_nox s w hs h0 c3 c7 c5 c6 c8
   ·exact unq_short s w hs h0 c3 c4 c5 c6 c7
  ·exact unq_one s w hs h0 c3 c4
 ·exact unq_plain s w hs h0 (by omega) (by omega) c3
end Go.Proofs.YtcekcfjabhlheaaGreatDoor
