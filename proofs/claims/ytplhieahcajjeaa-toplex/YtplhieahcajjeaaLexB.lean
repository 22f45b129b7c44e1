/- What gap, and length with gap's closure, return: how many bytes stand ahead of the first token. -/
import Derived.Test.YtplhieahcajjeaaLexA
namespace Go.Proofs.Ytplhieahcajjeaa
open Go.RowKit
namespace Lx
def nextR (r : Bool) (b : UInt8) : Bool := if b.toNat = 35 then true else if b.toNat = 10 then false else r
def skips (r : Bool) (b : UInt8) : Bool := nextR r b || decide (b.toNat = 32) || decide (b.toNat = 10)
def gapLen (r : Bool) : List UInt8 → Nat
  | [] => 0
  | b :: t => if skips r b then gapLen (nextR r b) t + 1 else 0
end Lx
set_option maxRecDepth 100000 in
set_option maxHeartbeats 400000 in
theorem gap1_any (b : UInt8) (r : Bool) (B : Nat) (w : World) (hc : w.cell? ⟨B, 0, none⟩ = some (.bool r)) (hf : w.frozen? ⟨B, 0, none⟩ = false) :
    Calls Try.prog 22 #[.int .u8 b.toNat, .pointer (some ⟨B, 0, none⟩)] w fun e w' => e = .returned (.bool (Lx.skips r b)) ∧ w'.cell? ⟨B, 0, none⟩ = some (.bool (Lx.nextR r b)) ∧ w'.frozen? ⟨B, 0, none⟩ = false ∧ Below B w w' := by
  by_cases h35 : b.toNat = 35
  · have E1 : Hid (Lx.skips r b = true) := by show _ = _; simp [Lx.skips, Lx.nextR, h35]
    have E2 : Hid (Lx.nextR r b = true) := by show _ = _; simp [Lx.nextR, h35]
    have g35 : ((b.toNat : Int) == 35) = true := by simp; omega
    go_enter Try.func22, Try.ntmps22
    go_wp2
    go_ret
    exact ⟨ret_bool E1.out.symm, by rw [E2.out]; go_simp, by go_simp, (Below.refl B w).setCell (p := ⟨B, 0, none⟩) (Nat.le_refl B) _⟩
  · by_cases h10 : b.toNat = 10
    · have E1 : Hid (Lx.skips r b = true) := by show _ = _; simp [Lx.skips, h10]
      have E2 : Hid (Lx.nextR r b = false) := by show _ = _; simp [Lx.nextR, h10]
      have g35 : ((b.toNat : Int) == 35) = false := by simp; omega
      have g10 : ((b.toNat : Int) == 10) = true := by simp; omega
      go_enter Try.func22, Try.ntmps22
      go_wp2
      all_goals go_ret
      all_goals exact ⟨ret_bool E1.out.symm, by rw [E2.out]; go_simp, by go_simp, (Below.refl B w).setCell (p := ⟨B, 0, none⟩) (Nat.le_refl B) _⟩
    · have g35 : ((b.toNat : Int) == 35) = false := by simp; omega
      have g10 : ((b.toNat : Int) == 10) = false := by simp; omega
      have E1 : Hid (Lx.skips r b = (r || decide (b.toNat = 32))) := by show _ = _; simp [Lx.skips, Lx.nextR, h35, h10]
      have E2 : Hid (Lx.nextR r b = r) := by show _ = _; simp [Lx.nextR, h35, h10]
      cases r
      · by_cases h32 : b.toNat = 32
        · have g32 : ((b.toNat : Int) == 32) = true := by simp; omega
          go_enter Try.func22, Try.ntmps22
          go_wp2
          all_goals go_ret
          all_goals exact ⟨ret_bool (by rw [E1.out]; simp [h32]), by rw [E2.out]; exact hc, hf, Below.refl _ _⟩
        · have g32 : ((b.toNat : Int) == 32) = false := by simp; omega
          go_enter Try.func22, Try.ntmps22
          go_wp2
          all_goals go_ret
          all_goals exact ⟨ret_bool (by rw [E1.out]; simp [h32]), by rw [E2.out]; exact hc, hf, Below.refl _ _⟩
      · go_enter Try.func22, Try.ntmps22
        go_wp2
        all_goals go_ret
        all_goals exact ⟨ret_bool (by rw [E1.out]; simp), by rw [E2.out]; exact hc, hf, Below.refl _ _⟩
set_option maxRecDepth 100000 in
set_option maxHeartbeats 400000 in
theorem length_gap (s : ByteArray) (B : Nat) (w : World) (hs : s.size ≤ 1000000) (hc : w.cell? ⟨B, 0, none⟩ = some (.bool false)) (hf : w.frozen? ⟨B, 0, none⟩ = false) :
    Calls Try.prog 21 #[.string s, .func (.func 22) #[] #[.pointer (some ⟨B, 0, none⟩)]] w fun e w' => e = .returned (.int .i64 (Lx.gapLen false (Lx.bl s))) ∧ Below B w w' := by
  go_enter Try.func21, Try.ntmps21
  go_wp2_with fail
  go_loopw [8, 5] (fun i _ wr => ∃ k : Nat, k ≤ s.size ∧ i = .int .i64 k ∧ ∃ r, Lx.gapLen false (Lx.bl s) = k + Lx.gapLen r ((Lx.bl s).drop k) ∧ wr.cell? ⟨B, 0, none⟩ = some (.bool r) ∧ wr.frozen? ⟨B, 0, none⟩ = false ∧ Below B w wr) (fun i _ _ => s.size - (intOf i).toNat)
  case atStart => exact ⟨0, Nat.zero_le _, rfl, false, by simp, hc, hf, Below.refl _ _⟩
  case round =>
    obtain ⟨k, hk, rfl, r, hpl, hcr, hfr, hbr⟩ := hrel
    clear hc hf
    by_cases hlt : k < s.size
    · rw [Lx.bl_drop s k hlt, Lx.gapLen] at hpl
      cases hb : Lx.skips r s[k]
      · rw [hb, if_neg (by decide)] at hpl
        have HPL : Hid _ := hpl
        clear hpl
        go_wp2_with (go_at_call 22; refine (gap1_any s[k] r B _ hcr hfr).mono ?_; rw [hb]; rintro e w' ⟨rfl, hc2, hf2, hb2⟩)
        go_ret
        exact ⟨ret_int (by have := HPL.out; omega), hbr.trans hb2⟩
      · rw [hb, if_pos rfl] at hpl
        have HPL : Hid _ := hpl
        clear hpl
        go_wp2_with (go_at_call 22; refine (gap1_any s[k] r B _ hcr hfr).mono ?_; rw [hb]; rintro e w' ⟨rfl, hc2, hf2, hb2⟩)
        go_roundw
        case rel => exact ⟨k + 1, by omega, by go_num, _, by have := HPL.out; omega, hc2, hf2, hbr.trans hb2⟩
        case measure => simp [intOf]; omega
    · rw [Lx.bl_drop_end s k hlt, Lx.gapLen] at hpl
      have HPL : Hid _ := hpl
      clear hpl
      go_wp2_with fail
      go_ret
      exact ⟨ret_int (by have := HPL.out; omega), hbr⟩
set_option maxRecDepth 100000 in
set_option maxHeartbeats 400000 in
theorem gap_any (s : ByteArray) (w : World) (hs : s.size ≤ 1000000) :
    Calls Try.prog 17 #[.string s] w fun e w' => e = .returned (.int .i64 (Lx.gapLen false (Lx.bl s))) ∧ Below w.heap.size w w' := by
  go_enter Try.func17, Try.ntmps17
  go_wp2_with (go_at_call 21; refine (length_gap s w.heap.size _ hs (by go_simp) (by go_simp)).mono ?_; rintro e w' ⟨rfl, hb2⟩)
  go_ret
  exact ⟨rfl, ((Below.refl _ _).alloc (Nat.le_refl _) _).trans hb2⟩
end Go.Proofs.Ytplhieahcajjeaa
