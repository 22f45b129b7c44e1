/- What unquoted and quoted return. -/
import Derived.Test.YtplhieahcajjeaaLexC
import Derived.Lib.IndexLaws
namespace Go.Proofs.Ytplhieahcajjeaa
open Go.RowKit
namespace Lx
def hex (b : UInt8) : Int := Lib.indexByte hexes b
def hexByte (e f : UInt8) : UInt8 := (16 * hex e + hex f).toNat.toUInt8
def unq (l : List UInt8) : UInt8 × Nat :=
  if (l.getD 0 0).toNat < 32 ∨ 126 < (l.getD 0 0).toNat then (0, 0)
  else if ¬ (l.getD 0 0).toNat = 92 then (l.getD 0 0, 1)
  else if 1 < l.length ∧ ((l.getD 1 0).toNat = 34 ∨ (l.getD 1 0).toNat = 92) then (l.getD 1 0, 2)
  else if 3 < l.length ∧ (l.getD 1 0).toNat = 120 ∧ 0 ≤ hex (l.getD 2 0) ∧ 0 ≤ hex (l.getD 3 0) then (hexByte (l.getD 2 0) (l.getD 3 0), 4)
  else (0, 0)
theorem bl_getD (s : ByteArray) (k : Nat) (h : k < s.size) : (bl s).getD k 0 = s[k] := by
  rw [List.getD_eq_getElem?_getD, bl_get s k h]; rfl
theorem indexByte_lt (l : List UInt8) (c : UInt8) : Lib.indexByte l c < l.length := by
  induction l with
  | nil => exact (by decide : (-1 : Int) < 0)
  | cons b l ih =>
    unfold Lib.indexByte
    rw [List.length_cons]
    split
    · omega
    · split <;> omega
theorem hex_bd (b : UInt8) : -1 ≤ hex b ∧ hex b ≤ 15 :=
  ⟨Lib.indexByte_ge _ _, by have := indexByte_lt hexes b; unfold hex; rw [show hexes.length = 16 from rfl] at this; omega⟩
theorem hexByte_toNat (e f : UInt8) (h1 : 0 ≤ hex e) (h2 : 0 ≤ hex f) : ((hexByte e f).toNat : Int) = 16 * hex e + hex f := by
  have a := hex_bd e
  have b := hex_bd f
  unfold hexByte
  simp only [UInt8.toNat_ofNat', Nat.toUInt8]
  omega
end Lx
theorem ret_u8 {a b n : Int} (h : a = b) : Ending.returned (.tuple #[.int .u8 a, .int .i64 n]) = .returned (.tuple #[.int .u8 b, .int .i64 n]) := by rw [h]
theorem bl_hexes : Lx.bl ⟨#[48, 49, 50, 51, 52, 53, 54, 55, 56, 57, 97, 98, 99, 100, 101, 102]⟩ = Lx.hexes := rfl
theorem hexCall (b : UInt8) (w : World) :
    Calls Try.prog 34 #[.string ⟨#[48, 49, 50, 51, 52, 53, 54, 55, 56, 57, 97, 98, 99, 100, 101, 102]⟩, .int .u8 b.toNat] w fun e w' => e = .returned (.int .i64 (Lx.hex b)) ∧ w' = w :=
  indexByte_any _ b w
set_option maxRecDepth 100000 in
set_option maxHeartbeats 800000 in
theorem unq_low (s : ByteArray) (w : World) (_hs : s.size ≤ 1000000) (h0 : 0 < s.size) (hc : s[0].toNat < 32) :
    Calls Try.prog 32 #[.string s] w fun e w' => e = .returned (.tuple #[.int .u8 (Lx.unq (Lx.bl s)).1.toNat, .int .i64 (Lx.unq (Lx.bl s)).2]) ∧ w' = w := by
  have d0 := Lx.bl_getD s 0 h0
  have E : Hid (Lx.unq (Lx.bl s) = (0, 0)) := by show _ = _; rw [Lx.unq, d0, if_pos (.inl hc)]
  clear d0
  go_enter Try.func32, Try.ntmps32
  go_wp2_with fail
  all_goals go_ret2
  all_goals exact ⟨by rw [E.out]; rfl, rfl⟩
set_option maxRecDepth 100000 in
set_option maxHeartbeats 800000 in
theorem unq_high (s : ByteArray) (w : World) (_hs : s.size ≤ 1000000) (h0 : 0 < s.size) (hc : 126 < s[0].toNat) :
    Calls Try.prog 32 #[.string s] w fun e w' => e = .returned (.tuple #[.int .u8 (Lx.unq (Lx.bl s)).1.toNat, .int .i64 (Lx.unq (Lx.bl s)).2]) ∧ w' = w := by
  have d0 := Lx.bl_getD s 0 h0
  have E : Hid (Lx.unq (Lx.bl s) = (0, 0)) := by show _ = _; rw [Lx.unq, d0, if_pos (.inr hc)]
  clear d0
  go_enter Try.func32, Try.ntmps32
  go_wp2_with fail
  all_goals go_ret2
  all_goals exact ⟨by rw [E.out]; rfl, rfl⟩
set_option maxRecDepth 100000 in
set_option maxHeartbeats 800000 in
theorem unq_plain (s : ByteArray) (w : World) (_hs : s.size ≤ 1000000) (h0 : 0 < s.size) (hc1 : 32 ≤ s[0].toNat) (hc2 : s[0].toNat ≤ 126) (h92 : ¬ s[0].toNat = 92) :
    Calls Try.prog 32 #[.string s] w fun e w' => e = .returned (.tuple #[.int .u8 (Lx.unq (Lx.bl s)).1.toNat, .int .i64 (Lx.unq (Lx.bl s)).2]) ∧ w' = w := by
  have d0 := Lx.bl_getD s 0 h0
  have E : Hid (Lx.unq (Lx.bl s) = (s[0], 1)) := by show _ = _; rw [Lx.unq, d0, if_neg (by omega), if_pos h92]
  have g92 : ((s[0].toNat : Int) != 92) = true := by simp; omega
  clear d0
  go_enter Try.func32, Try.ntmps32
  go_wp2_with fail
  all_goals go_ret2
  all_goals exact ⟨by rw [E.out]; rfl, rfl⟩
set_option maxRecDepth 100000 in
set_option maxHeartbeats 800000 in
theorem unq_one (s : ByteArray) (w : World) (hs : s.size ≤ 1000000) (h0 : 0 < s.size) (h92 : s[0].toNat = 92) (h1 : ¬ 1 < s.size) :
    Calls Try.prog 32 #[.string s] w fun e w' => e = .returned (.tuple #[.int .u8 (Lx.unq (Lx.bl s)).1.toNat, .int .i64 (Lx.unq (Lx.bl s)).2]) ∧ w' = w := by
  have d0 := Lx.bl_getD s 0 h0
  have E : Hid (Lx.unq (Lx.bl s) = (0, 0)) := by show _ = _; rw [Lx.unq, d0, if_neg (by omega), if_neg (by simp [h92]), Lx.length_bl, if_neg (by omega), if_neg (by omega)]
  have g92 : ((s[0].toNat : Int) != 92) = false := by simp; omega
  have hc1 : 32 ≤ s[0].toNat := by omega
  have hc2 : s[0].toNat ≤ 126 := by omega
  clear d0 h92
  go_enter Try.func32, Try.ntmps32
  go_wp2_with fail
  all_goals go_ret2
  all_goals exact ⟨by rw [E.out]; rfl, rfl⟩
set_option maxRecDepth 100000 in
set_option maxHeartbeats 800000 in
theorem unq_quote (s : ByteArray) (w : World) (hs : s.size ≤ 1000000) (h0 : 0 < s.size) (h92 : s[0].toNat = 92) (h1 : 1 < s.size) (h34 : s[1].toNat = 34) :
    Calls Try.prog 32 #[.string s] w fun e w' => e = .returned (.tuple #[.int .u8 (Lx.unq (Lx.bl s)).1.toNat, .int .i64 (Lx.unq (Lx.bl s)).2]) ∧ w' = w := by
  have d0 := Lx.bl_getD s 0 h0
  have d1 := Lx.bl_getD s 1 h1
  have E : Hid (Lx.unq (Lx.bl s) = (s[1], 2)) := by show _ = _; rw [Lx.unq, d0, if_neg (by omega), if_neg (by simp [h92]), Lx.length_bl, d1, if_pos ⟨h1, .inl h34⟩]
  have g92 : ((s[0].toNat : Int) != 92) = false := by simp; omega
  have hc1 : 32 ≤ s[0].toNat := by omega
  have hc2 : s[0].toNat ≤ 126 := by omega
  have g34 : ((s[1].toNat : Int) == 34) = true := by simp; omega
  clear d0 d1 h92 h34
  go_enter Try.func32, Try.ntmps32
  go_wp2_with fail
  all_goals go_ret2
  all_goals exact ⟨by rw [E.out]; rfl, rfl⟩
set_option maxRecDepth 100000 in
set_option maxHeartbeats 800000 in
theorem unq_slash (s : ByteArray) (w : World) (hs : s.size ≤ 1000000) (h0 : 0 < s.size) (h92 : s[0].toNat = 92) (h1 : 1 < s.size) (h34 : s[1].toNat = 92) :
    Calls Try.prog 32 #[.string s] w fun e w' => e = .returned (.tuple #[.int .u8 (Lx.unq (Lx.bl s)).1.toNat, .int .i64 (Lx.unq (Lx.bl s)).2]) ∧ w' = w := by
  have d0 := Lx.bl_getD s 0 h0
  have d1 := Lx.bl_getD s 1 h1
  have E : Hid (Lx.unq (Lx.bl s) = (s[1], 2)) := by show _ = _; rw [Lx.unq, d0, if_neg (by omega), if_neg (by simp [h92]), Lx.length_bl, d1, if_pos ⟨h1, .inr h34⟩]
  have g92 : ((s[0].toNat : Int) != 92) = false := by simp; omega
  have hc1 : 32 ≤ s[0].toNat := by omega
  have hc2 : s[0].toNat ≤ 126 := by omega
  have g34 : ((s[1].toNat : Int) == 34) = false := by simp; omega
  have g92' : ((s[1].toNat : Int) == 92) = true := by simp; omega
  clear d0 d1 h92 h34
  go_enter Try.func32, Try.ntmps32
  go_wp2_with fail
  all_goals go_ret2
  all_goals exact ⟨by rw [E.out]; rfl, rfl⟩
set_option maxRecDepth 100000 in
set_option maxHeartbeats 800000 in
theorem unq_short (s : ByteArray) (w : World) (hs : s.size ≤ 1000000) (h0 : 0 < s.size) (h92 : s[0].toNat = 92) (h1 : 1 < s.size) (h34 : ¬ s[1].toNat = 34) (h92b : ¬ s[1].toNat = 92) (hx : ¬ 3 < s.size) :
    Calls Try.prog 32 #[.string s] w fun e w' => e = .returned (.tuple #[.int .u8 (Lx.unq (Lx.bl s)).1.toNat, .int .i64 (Lx.unq (Lx.bl s)).2]) ∧ w' = w := by
  have d0 := Lx.bl_getD s 0 h0
  have d1 := Lx.bl_getD s 1 h1
  have E : Hid (Lx.unq (Lx.bl s) = (0, 0)) := by show _ = _; rw [Lx.unq, d0, if_neg (by omega), if_neg (by simp [h92]), Lx.length_bl, d1, if_neg (by omega), if_neg (by omega)]
  have g92 : ((s[0].toNat : Int) != 92) = false := by simp; omega
  have hc1 : 32 ≤ s[0].toNat := by omega
  have hc2 : s[0].toNat ≤ 126 := by omega
  have g34 : ((s[1].toNat : Int) == 34) = false := by simp; omega
  have g92' : ((s[1].toNat : Int) == 92) = false := by simp; omega
  clear d0 d1 h92 h34 h92b
  go_enter Try.func32, Try.ntmps32
  go_wp2_with fail
  all_goals go_ret2
  all_goals exact ⟨by rw [E.out]; rfl, rfl⟩
set_option maxRecDepth 100000 in
set_option maxHeartbeats 800000 in
theorem unq_nox (s : ByteArray) (w : World) (hs : s.size ≤ 1000000) (h0 : 0 < s.size) (h92 : s[0].toNat = 92) (h1 : 3 < s.size) (h34 : ¬ s[1].toNat = 34) (h92b : ¬ s[1].toNat = 92) (hx : ¬ s[1].toNat = 120) :
    Calls Try.prog 32 #[.string s] w fun e w' => e = .returned (.tuple #[.int .u8 (Lx.unq (Lx.bl s)).1.toNat, .int .i64 (Lx.unq (Lx.bl s)).2]) ∧ w' = w := by
  have d0 := Lx.bl_getD s 0 h0
  have d1 := Lx.bl_getD s 1 (by omega)
  have E : Hid (Lx.unq (Lx.bl s) = (0, 0)) := by show _ = _; rw [Lx.unq, d0, if_neg (by omega), if_neg (by simp [h92]), Lx.length_bl, d1, if_neg (by omega), if_neg (fun h => hx h.2.1)]
  have g92 : ((s[0].toNat : Int) != 92) = false := by simp; omega
  have hc1 : 32 ≤ s[0].toNat := by omega
  have hc2 : s[0].toNat ≤ 126 := by omega
  have g34 : ((s[1].toNat : Int) == 34) = false := by simp; omega
  have g92' : ((s[1].toNat : Int) == 92) = false := by simp; omega
  have g120 : ((s[1].toNat : Int) == 120) = false := by simp; omega
  clear d0 d1 h92 h34 h92b hx
  go_enter Try.func32, Try.ntmps32
  go_wp2_with fail
  all_goals go_ret2
  all_goals exact ⟨by rw [E.out]; rfl, rfl⟩
set_option maxRecDepth 100000 in
set_option maxHeartbeats 800000 in
theorem unq_hexes (s : ByteArray) (w : World) (hs : s.size ≤ 1000000) (h0 : 0 < s.size) (h92 : s[0].toNat = 92) (h1 : 3 < s.size) (hx : s[1].toNat = 120) :
    Calls Try.prog 32 #[.string s] w fun e w' => e = .returned (.tuple #[.int .u8 (Lx.unq (Lx.bl s)).1.toNat, .int .i64 (Lx.unq (Lx.bl s)).2]) ∧ w' = w := by
  have d0 := Lx.bl_getD s 0 h0
  have d1 := Lx.bl_getD s 1 (by omega)
  have d2 := Lx.bl_getD s 2 (by omega)
  have d3 := Lx.bl_getD s 3 (by omega)
  have a := Lx.hex_bd s[2]
  have b := Lx.hex_bd s[3]
  have g92 : ((s[0].toNat : Int) != 92) = false := by simp; omega
  have hc1 : 32 ≤ s[0].toNat := by omega
  have hc2 : s[0].toNat ≤ 126 := by omega
  have g34 : ((s[1].toNat : Int) == 34) = false := by simp; omega
  have g92' : ((s[1].toNat : Int) == 92) = false := by simp; omega
  have g120 : ((s[1].toNat : Int) == 120) = true := by simp; omega
  by_cases x2 : 0 ≤ Lx.hex s[2]
  · by_cases x3 : 0 ≤ Lx.hex s[3]
    · have E : Hid (Lx.unq (Lx.bl s) = (Lx.hexByte s[2] s[3], 4)) := by show _ = _; rw [Lx.unq, d0, if_neg (by omega), if_neg (by simp [h92]), Lx.length_bl, d1, d2, d3, if_neg (by omega), if_pos ⟨h1, hx, x2, x3⟩]
      have E2 : Hid (((Lx.hexByte s[2] s[3]).toNat : Int) = 16 * Lx.hex s[2] + Lx.hex s[3]) := Lx.hexByte_toNat _ _ x2 x3
      clear d0 d1 d2 d3 h92 hx
      go_enter Try.func32, Try.ntmps32
      go_wp2_with fail
      refine (hexCall s[2] _).mono ?_
      rintro e w' ⟨rfl, rfl⟩
      go_wp2_with fail
      refine (hexCall s[3] _).mono ?_
      rintro e w' ⟨rfl, rfl⟩
      go_wp2_with fail
      go_ret2
      refine ⟨?_, rfl⟩
      rw [E.out]
      exact ret_u8 E2.out.symm
    · have E : Hid (Lx.unq (Lx.bl s) = (0, 0)) := by show _ = _; rw [Lx.unq, d0, if_neg (by omega), if_neg (by simp [h92]), Lx.length_bl, d1, d2, d3, if_neg (by omega), if_neg (fun h => x3 h.2.2.2)]
      clear d0 d1 d2 d3 h92 hx
      go_enter Try.func32, Try.ntmps32
      go_wp2_with fail
      refine (hexCall s[2] _).mono ?_
      rintro e w' ⟨rfl, rfl⟩
      go_wp2_with fail
      refine (hexCall s[3] _).mono ?_
      rintro e w' ⟨rfl, rfl⟩
      go_wp2_with fail
      all_goals go_ret2
      all_goals exact ⟨by rw [E.out]; rfl, rfl⟩
  · have E : Hid (Lx.unq (Lx.bl s) = (0, 0)) := by show _ = _; rw [Lx.unq, d0, if_neg (by omega), if_neg (by simp [h92]), Lx.length_bl, d1, d2, d3, if_neg (by omega), if_neg (fun h => x2 h.2.2.1)]
    clear d0 d1 d2 d3 h92 hx
    go_enter Try.func32, Try.ntmps32
    go_wp2_with fail
    refine (hexCall s[2] _).mono ?_
    rintro e w' ⟨rfl, rfl⟩
    go_wp2_with fail
    refine (hexCall s[3] _).mono ?_
    rintro e w' ⟨rfl, rfl⟩
    go_wp2_with fail
    all_goals go_ret2
    all_goals exact ⟨by rw [E.out]; rfl, rfl⟩
theorem unquoted_any (s : ByteArray) (w : World) (hs : s.size ≤ 1000000) (h0 : 0 < s.size) :
    Calls Try.prog 32 #[.string s] w fun e w' => e = .returned (.tuple #[.int .u8 (Lx.unq (Lx.bl s)).1.toNat, .int .i64 (Lx.unq (Lx.bl s)).2]) ∧ w' = w := by
  by_cases c1 : s[0].toNat < 32
  · exact unq_low s w hs h0 c1
  by_cases c2 : 126 < s[0].toNat
  · exact unq_high s w hs h0 c2
  by_cases c3 : s[0].toNat = 92
  · by_cases c4 : 1 < s.size
    · by_cases c5 : s[1].toNat = 34
      · exact unq_quote s w hs h0 c3 c4 c5
      by_cases c6 : s[1].toNat = 92
      · exact unq_slash s w hs h0 c3 c4 c6
      by_cases c7 : 3 < s.size
      · by_cases c8 : s[1].toNat = 120
        · exact unq_hexes s w hs h0 c3 c7 c8
        · exact unq_nox s w hs h0 c3 c7 c5 c6 c8
      · exact unq_short s w hs h0 c3 c4 c5 c6 c7
    · exact unq_one s w hs h0 c3 c4
  · exact unq_plain s w hs h0 (by omega) (by omega) c3
end Go.Proofs.Ytplhieahcajjeaa
