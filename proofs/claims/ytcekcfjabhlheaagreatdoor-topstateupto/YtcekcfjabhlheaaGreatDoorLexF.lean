/- TopState: LexD LexE LexF. -/
import Derived.Test.YtcekcfjabhlheaaGreatDoorLexC
import Derived.Lib.IndexLaws
import Derived.Laws.BytesArg
set_option maxRecDepth 100000
set_option maxHeartbeats 800000
namespace Go.Proofs.YtcekcfjabhlheaaGreatDoor
open Go.RowKit
namespace Lx
def hex (b : UInt8) : Int := Lib.indexByte hexes b
def hexByte (e f : UInt8) : UInt8 := (16 * hex e + hex f).toNat.toUInt8
def unq (l : List UInt8) : UInt8 × Nat :=
 if (l.getD 0 0).toNat < 32 \/ 126 < (l.getD 0 0).toNat then (0, 0)
 else if ¬ (l.getD 0 0).toNat = 92 then (l.getD 0 0, 1)
 else if 1 < l.length /\ ((l.getD 1 0).toNat = 34 \/ (l.getD 1 0).toNat = 92) then (l.getD 1 0, 2)
 else if 3 < l.length /\ (l.getD 1 0).toNat = 120 /\ 0 <= hex (l.getD 2 0) /\ 0 <= hex (l.getD 3 0) then (hexByte (l.getD 2 0) (l.getD 3 0), 4)
 else (0, 0)
theorem bl_getD (s : ByteArray) (k : Nat) (h : k < s.size) : (bl s).getD k 0 = s[k] := by
 rw [List.getD_eq_getElem?_getD, bl_get s k h]; rfl
theorem indexByte_lt (l : List UInt8) (c : UInt8) : Lib.indexByte l c < l.length := by
 induction l with
 | nil => exact (by decide : (-1 : Int) < 0)
 | cons b l ih =>
  unfold Lib.indexByte
  rw [List.length_cons]
  split
  ·omega
  ·split <;> omega
theorem hex_bd (b : UInt8) : -1 <= hex b /\ hex b <= 15 :=
 ⟨Lib.indexByte_ge _ _, by have := indexByte_lt hexes b; unfold hex; rw [show hexes.length = 16 from rfl] at this; omega⟩
theorem hexByte_toNat (e f : UInt8) (h1 : 0 <= hex e) (h2 : 0 <= hex f) : ((hexByte e f).toNat : Int) = 16 * hex e + hex f := by
 have a := hex_bd e
 have b := hex_bd f
 unfold hexByte
 simp only [UInt8.toNat_ofNat', Nat.toUInt8]
 omega
end Lx
theorem ret_u8 {a b n : Int} (h : a = b) : Ending.returned (.tuple #[.int .u8 a, .int .i64 n]) = .returned (.tuple #[.int .u8 b, .int .i64 n]) := by rw [h]
theorem hexCall (b : UInt8) (w : World) :
  Calls Tryz.prog 89 #[.string ⟨#[48, 49, 50, 51, 52, 53, 54, 55, 56, 57, 97, 98, 99, 100, 101, 102]⟩, .int .u8 b.toNat] w fun e w' => e = .returned (.int .i64 (Lx.hex b)) /\ w' = w :=
 indexByte_any _ b w
theorem unq_low (s : ByteArray) (w : World) (_hs : s.size <= 1000000) (h0 : 0 < s.size) (hc : s[0].toNat < 32) :
  Calls Tryz.prog 226 #[.string s] w fun e w' => e = .returned (.tuple #[.int .u8 (Lx.unq (Lx.bl s)).1.toNat, .int .i64 (Lx.unq (Lx.bl s)).2]) /\ w' = w := by
 have d0 := Lx.bl_getD s 0 h0
 have E : Hid (Lx.unq (Lx.bl s) = (0, 0)) := by show _ = _; rw [Lx.unq, d0, if_pos (.inl hc)]
 clear d0
 go_enter Tryz.func226, Tryz.ntmps226
 go_wp2_with fail
 all_goals go_ret2
 all_goals exact ⟨by rw [E.out]; rfl, rfl⟩
theorem unq_high (s : ByteArray) (w : World) (_hs : s.size <= 1000000) (h0 : 0 < s.size) (hc : 126 < s[0].toNat) :
  Calls Tryz.prog 226 #[.string s] w fun e w' => e = .returned (.tuple #[.int .u8 (Lx.unq (Lx.bl s)).1.toNat, .int .i64 (Lx.unq (Lx.bl s)).2]) /\ w' = w := by
 have d0 := Lx.bl_getD s 0 h0
 have E : Hid (Lx.unq (Lx.bl s) = (0, 0)) := by show _ = _; rw [Lx.unq, d0, if_pos (.inr hc)]
 clear d0
 go_enter Tryz.func226, Tryz.ntmps226
 go_wp2_with fail
 all_goals go_ret2
 all_goals exact ⟨by rw [E.out]; rfl, rfl⟩
theorem unq_plain (s : ByteArray) (w : World) (_hs : s.size <= 1000000) (h0 : 0 < s.size) (hc1 : 32 <= s[0].toNat) (hc2 : s[0].toNat <= 126) (h92 : ¬ s[0].toNat = 92) :
  Calls Tryz.prog 226 #[.string s] w fun e w' => e = .returned (.tuple #[.int .u8 (Lx.unq (Lx.bl s)).1.toNat, .int .i64 (Lx.unq (Lx.bl s)).2]) /\ w' = w := by
 have d0 := Lx.bl_getD s 0 h0
 have E : Hid (Lx.unq (Lx.bl s) = (s[0], 1)) := by show _ = _; rw [Lx.unq, d0, if_neg (by omega), if_pos h92]
 have g92 : ((s[0].toNat : Int) != 92) = true := by simp; omega
 clear d0
 go_enter Tryz.func226, Tryz.ntmps226
 go_wp2_with fail
 all_goals go_ret2
 all_goals exact ⟨by rw [E.out]; rfl, rfl⟩
theorem unq_one (s : ByteArray) (w : World) (hs : s.size <= 1000000) (h0 : 0 < s.size) (h92 : s[0].toNat = 92) (h1 : ¬ 1 < s.size) :
  Calls Tryz.prog 226 #[.string s] w fun e w' => e = .returned (.tuple #[.int .u8 (Lx.unq (Lx.bl s)).1.toNat, .int .i64 (Lx.unq (Lx.bl s)).2]) /\ w' = w := by
 have d0 := Lx.bl_getD s 0 h0
 have E : Hid (Lx.unq (Lx.bl s) = (0, 0)) := by show _ = _; rw [Lx.unq, d0, if_neg (by omega), if_neg (by simp [h92]), Lx.length_bl, if_neg (by omega), if_neg (by omega)]
 have g92 : ((s[0].toNat : Int) != 92) = false := by simp; omega
 have hc1 : 32 <= s[0].toNat := by omega
 have hc2 : s[0].toNat <= 126 := by omega
 clear d0 h92
 go_enter Tryz.func226, Tryz.ntmps226
 go_wp2_with fail
 all_goals go_ret2
 all_goals exact ⟨by rw [E.out]; rfl, rfl⟩
theorem unq_quote (s : ByteArray) (w : World) (hs : s.size <= 1000000) (h0 : 0 < s.size) (h92 : s[0].toNat = 92) (h1 : 1 < s.size) (h34 : s[1].toNat = 34) :
  Calls Tryz.prog 226 #[.string s] w fun e w' => e = .returned (.tuple #[.int .u8 (Lx.unq (Lx.bl s)).1.toNat, .int .i64 (Lx.unq (Lx.bl s)).2]) /\ w' = w := by
 have d0 := Lx.bl_getD s 0 h0
 have d1 := Lx.bl_getD s 1 h1
 have E : Hid (Lx.unq (Lx.bl s) = (s[1], 2)) := by show _ = _; rw [Lx.unq, d0, if_neg (by omega), if_neg (by simp [h92]), Lx.length_bl, d1, if_pos ⟨h1, .inl h34⟩]
 have g92 : ((s[0].toNat : Int) != 92) = false := by simp; omega
 have hc1 : 32 <= s[0].toNat := by omega
 have hc2 : s[0].toNat <= 126 := by omega
 have g34 : ((s[1].toNat : Int) == 34) = true := by simp; omega
 clear d0 d1 h92 h34
 go_enter Tryz.func226, Tryz.ntmps226
 go_wp2_with fail
 all_goals go_ret2
 all_goals exact ⟨by rw [E.out]; rfl, rfl⟩
theorem unq_slash (s : ByteArray) (w : World) (hs : s.size <= 1000000) (h0 : 0 < s.size) (h92 : s[0].toNat = 92) (h1 : 1 < s.size) (h34 : s[1].toNat = 92) :
  Calls Tryz.prog 226 #[.string s] w fun e w' => e = .returned (.tuple #[.int .u8 (Lx.unq (Lx.bl s)).1.toNat, .int .i64 (Lx.unq (Lx.bl s)).2]) /\ w' = w := by
 have d0 := Lx.bl_getD s 0 h0
 have d1 := Lx.bl_getD s 1 h1
 have E : Hid (Lx.unq (Lx.bl s) = (s[1], 2)) := by show _ = _; rw [Lx.unq, d0, if_neg (by omega), if_neg (by simp [h92]), Lx.length_bl, d1, if_pos ⟨h1, .inr h34⟩]
 have g92 : ((s[0].toNat : Int) != 92) = false := by simp; omega
 have hc1 : 32 <= s[0].toNat := by omega
 have hc2 : s[0].toNat <= 126 := by omega
 have g34 : ((s[1].toNat : Int) == 34) = false := by simp; omega
 have g92' : ((s[1].toNat : Int) == 92) = true := by simp; omega
 clear d0 d1 h92 h34
 go_enter Tryz.func226, Tryz.ntmps226
 go_wp2_with fail
 all_goals go_ret2
 all_goals exact ⟨by rw [E.out]; rfl, rfl⟩
theorem unq_short (s : ByteArray) (w : World) (hs : s.size <= 1000000) (h0 : 0 < s.size) (h92 : s[0].toNat = 92) (h1 : 1 < s.size) (h34 : ¬ s[1].toNat = 34) (h92b : ¬ s[1].toNat = 92) (hx : ¬ 3 < s.size) :
  Calls Tryz.prog 226 #[.string s] w fun e w' => e = .returned (.tuple #[.int .u8 (Lx.unq (Lx.bl s)).1.toNat, .int .i64 (Lx.unq (Lx.bl s)).2]) /\ w' = w := by
 have d0 := Lx.bl_getD s 0 h0
 have d1 := Lx.bl_getD s 1 h1
 have E : Hid (Lx.unq (Lx.bl s) = (0, 0)) := by show _ = _; rw [Lx.unq, d0, if_neg (by omega), if_neg (by simp [h92]), Lx.length_bl, d1, if_neg (by omega), if_neg (by omega)]
 have g92 : ((s[0].toNat : Int) != 92) = false := by simp; omega
 have hc1 : 32 <= s[0].toNat := by omega
 have hc2 : s[0].toNat <= 126 := by omega
 have g34 : ((s[1].toNat : Int) == 34) = false := by simp; omega
 have g92' : ((s[1].toNat : Int) == 92) = false := by simp; omega
 clear d0 d1 h92 h34 h92b
 go_enter Tryz.func226, Tryz.ntmps226
 go_wp2_with fail
 all_goals go_ret2
 all_goals exact ⟨by rw [E.out]; rfl, rfl⟩
theorem unq_nox (s : ByteArray) (w : World) (hs : s.size <= 1000000) (h0 : 0 < s.size) (h92 : s[0].toNat = 92) (h1 : 3 < s.size) (h34 : ¬ s[1].toNat = 34) (h92b : ¬ s[1].toNat = 92) (hx : ¬ s[1].toNat = 120) :
  Calls Tryz.prog 226 #[.string s] w fun e w' => e = .returned (.tuple #[.int .u8 (Lx.unq (Lx.bl s)).1.toNat, .int .i64 (Lx.unq (Lx.bl s)).2]) /\ w' = w := by
 have d0 := Lx.bl_getD s 0 h0
 have d1 := Lx.bl_getD s 1 (by omega)
 have E : Hid (Lx.unq (Lx.bl s) = (0, 0)) := by show _ = _; rw [Lx.unq, d0, if_neg (by omega), if_neg (by simp [h92]), Lx.length_bl, d1, if_neg (by omega), if_neg (fun h => hx h.2.1)]
 have g92 : ((s[0].toNat : Int) != 92) = false := by simp; omega
 have hc1 : 32 <= s[0].toNat := by omega
 have hc2 : s[0].toNat <= 126 := by omega
 have g34 : ((s[1].toNat : Int) == 34) = false := by simp; omega
 have g92' : ((s[1].toNat : Int) == 92) = false := by simp; omega
 have g120 : ((s[1].toNat : Int) == 120) = false := by simp; omega
 clear d0 d1 h92 h34 h92b hx
 go_enter Tryz.func226, Tryz.ntmps226
 go_wp2_with fail
 all_goals go_ret2
 all_goals exact ⟨by rw [E.out]; rfl, rfl⟩
theorem unq_hexes (s : ByteArray) (w : World) (hs : s.size <= 1000000) (h0 : 0 < s.size) (h92 : s[0].toNat = 92) (h1 : 3 < s.size) (hx : s[1].toNat = 120) :
  Calls Tryz.prog 226 #[.string s] w fun e w' => e = .returned (.tuple #[.int .u8 (Lx.unq (Lx.bl s)).1.toNat, .int .i64 (Lx.unq (Lx.bl s)).2]) /\ w' = w := by
 have d0 := Lx.bl_getD s 0 h0
 have d1 := Lx.bl_getD s 1 (by omega)
 have d2 := Lx.bl_getD s 2 (by omega)
 have d3 := Lx.bl_getD s 3 (by omega)
 have a := Lx.hex_bd s[2]
 have b := Lx.hex_bd s[3]
 have g92 : ((s[0].toNat : Int) != 92) = false := by simp; omega
 have hc1 : 32 <= s[0].toNat := by omega
 have hc2 : s[0].toNat <= 126 := by omega
 have g34 : ((s[1].toNat : Int) == 34) = false := by simp; omega
 have g92' : ((s[1].toNat : Int) == 92) = false := by simp; omega
 have g120 : ((s[1].toNat : Int) == 120) = true := by simp; omega
 by_cases x2 : 0 <= Lx.hex s[2]
 ·by_cases x3 : 0 <= Lx.hex s[3]
  ·have E : Hid (Lx.unq (Lx.bl s) = (Lx.hexByte s[2] s[3], 4)) := by show _ = _; rw [Lx.unq, d0, if_neg (by omega), if_neg (by simp [h92]), Lx.length_bl, d1, d2, d3, if_neg (by omega), if_pos ⟨h1, hx, x2, x3⟩]
   have E2 : Hid (((Lx.hexByte s[2] s[3]).toNat : Int) = 16 * Lx.hex s[2] + Lx.hex s[3]) := Lx.hexByte_toNat _ _ x2 x3
   clear d0 d1 d2 d3 h92 hx
   go_enter Tryz.func226, Tryz.ntmps226
   go_wp2_with fail
   refine (hexCall s[2] _).mono ?_
   rintro e w' ⟨rfl, rfl⟩
   go_wp2_with fail
   refine (hexCall s[3] _).mono ?_
   rintro e w' ⟨rfl, rfl⟩
   go_wp2_with fail
   go_ret2
   refine ⟨?_, rfl⟩
   rw [E.out]
   exact ret_u8 E2.out.symm
  ·have E : Hid (Lx.unq (Lx.bl s) = (0, 0)) := by show _ = _; rw [Lx.unq, d0, if_neg (by omega), if_neg (by simp [h92]), Lx.length_bl, d1, d2, d3, if_neg (by omega), if_neg (fun h => x3 h.2.2.2)]
   clear d0 d1 d2 d3 h92 hx
   go_enter Tryz.func226, Tryz.ntmps226
   go_wp2_with fail
   refine (hexCall s[2] _).mono ?_
   rintro e w' ⟨rfl, rfl⟩
   go_wp2_with fail
   refine (hexCall s[3] _).mono ?_
   rintro e w' ⟨rfl, rfl⟩
   go_wp2_with fail
   all_goals go_ret2
   all_goals exact ⟨by rw [E.out]; rfl, rfl⟩
 ·have E : Hid (Lx.unq (Lx.bl s) = (0, 0)) := by show _ = _; rw [Lx.unq, d0, if_neg (by omega), if_neg (by simp [h92]), Lx.length_bl, d1, d2, d3, if_neg (by omega), if_neg (fun h => x2 h.2.2.1)]
  clear d0 d1 d2 d3 h92 hx
  go_enter Tryz.func226, Tryz.ntmps226
  go_wp2_with fail
  refine (hexCall s[2] _).mono ?_
  rintro e w' ⟨rfl, rfl⟩
  go_wp2_with fail
  refine (hexCall s[3] _).mono ?_
  rintro e w' ⟨rfl, rfl⟩
  go_wp2_with fail
  all_goals go_ret2
  all_goals exact ⟨by rw [E.out]; rfl, rfl⟩
theorem unquoted_any (s : ByteArray) (w : World) (hs : s.size <= 1000000) (h0 : 0 < s.size) :
  Calls Tryz.prog 226 #[.string s] w fun e w' => e = .returned (.tuple #[.int .u8 (Lx.unq (Lx.bl s)).1.toNat, .int .i64 (Lx.unq (Lx.bl s)).2]) /\ w' = w := by
 by_cases c1 : s[0].toNat < 32
 ·exact unq_low s w hs h0 c1
 by_cases c2 : 126 < s[0].toNat
 ·exact unq_high s w hs h0 c2
 by_cases c3 : s[0].toNat = 92
 ·by_cases c4 : 1 < s.size
  ·by_cases c5 : s[1].toNat = 34
   ·exact unq_quote s w hs h0 c3 c4 c5
   by_cases c6 : s[1].toNat = 92
   ·exact unq_slash s w hs h0 c3 c4 c6
   by_cases c7 : 3 < s.size
   ·by_cases c8 : s[1].toNat = 120
    ·exact unq_hexes s w hs h0 c3 c7 c8
    ·exact unq_nox s w hs h0 c3 c7 c5 c6 c8
   ·exact unq_short s w hs h0 c3 c4 c5 c6 c7
  ·exact unq_one s w hs h0 c3 c4
 ·exact unq_plain s w hs h0 (by omega) (by omega) c3
namespace Lx
theorem unq_le (l : List UInt8) (h : l ≠ []) : (unq l).2 <= l.length := by
 have hl : 0 < l.length := by cases l <;> simp_all
 unfold unq
 split
 ·simp
 ·split
  ·exact hl
  ·split
   ·rename_i h1; exact h1.1
   ·split
    ·rename_i h1; exact h1.1
    ·simp
def qtF : Nat -> List UInt8 -> Nat -> List UInt8 -> Tok
 | 0, _, _, _ => bad 4
 | _ + 1, [], _, _ => bad 4
 | n + 1, c :: r, k, acc =>
  if c.toNat = 34 then (if acc.length > 40 then bad 1 else ⟨3, acc, k + 1, 0⟩)
  else if (unq (c :: r)).2 = 0 then bad 4
  else qtF n ((c :: r).drop (unq (c :: r)).2) (k + (unq (c :: r)).2) (acc ++ [(unq (c :: r)).1])
theorem qtF_fuel : ∀ (n m : Nat) (l : List UInt8) (k : Nat) (acc : List UInt8), l.length < n -> l.length < m -> qtF n l k acc = qtF m l k acc
 | 0, _, _, _, _, h, _ => absurd h (by omega)
 | _ + 1, 0, _, _, _, _, h => absurd h (by omega)
 | n + 1, m + 1, [], k, acc, _, _ => by rw [qtF, qtF]
 | n + 1, m + 1, c :: r, k, acc, h1, h2 => by
  rw [qtF, qtF]
  split
  ·rfl
  ·split
   ·rfl
   ·rename_i h0
    simp only [List.length_cons] at h1 h2
    exact qtF_fuel n m _ _ _ (by rw [List.length_drop, List.length_cons]; omega) (by rw [List.length_drop, List.length_cons]; omega)
def qt (l : List UInt8) (k : Nat) (acc : List UInt8) : Tok := qtF (l.length + 1) l k acc
theorem qt_nil (k : Nat) (acc : List UInt8) : qt [] k acc = bad 4 := by rw [qt, qtF]
theorem qt_cons (c : UInt8) (r : List UInt8) (k : Nat) (acc : List UInt8) : qt (c :: r) k acc =
  if c.toNat = 34 then (if acc.length > 40 then bad 1 else ⟨3, acc, k + 1, 0⟩)
  else if (unq (c :: r)).2 = 0 then bad 4
  else qt ((c :: r).drop (unq (c :: r)).2) (k + (unq (c :: r)).2) (acc ++ [(unq (c :: r)).1]) := by
 rw [qt, qtF]
 split
 ·rfl
 ·split
  ·rfl
  ·rename_i h0
   exact qtF_fuel _ _ _ _ _ (by rw [List.length_drop, List.length_cons]; omega) (by omega)
def quotedTok (l : List UInt8) : Tok := qt (l.drop 1) 1 []
def byteV (b : UInt8) : Value := .int .u8 b.toNat
end Lx
theorem free_of_block {w : World} {g : Nat} {cs : Array Value} {e : TypeId} (h : w.heap[g]? = some (.cells cs e (0, 0))) (j : Nat) : w.frozen? ⟨g, j, none⟩ = false := by simp [World.frozen?, h]
theorem cell_of_block {w : World} {g : Nat} {cs : Array Value} {e : TypeId} (h : w.heap[g]? = some (.cells cs e (0, 0))) (j : Nat) (u : Value) (hu : cs[j]? = some u) : w.cell? ⟨g, j, none⟩ = some u := by rw [cell_of_row w g j cs e (0, 0) h]; exact hu
theorem bl_rest (s : ByteArray) (k : Nat) : Lx.bl (s.extract k s.size) = (Lx.bl s).drop k := by
 rw [Lx.bl_extract, List.take_of_length_le (by simp [Lx.length_bl])]
theorem news_of {w : World} {g : Nat} {cs : Array Value} {e : TypeId} {fr : Nat × Nat} (h : w.heap[g]? = some (.cells cs e fr)) : ∀ j u, cs.toList[j]? = some u -> w.cell? ((⟨g, 0, none⟩ : Addr).add j) = some u := by
 intro j u hu
 have hadd : (⟨g, 0, none⟩ : Addr).add j = ⟨g, j, none⟩ := by unfold Addr.add; split <;> simp_all
 rw [hadd, cell_of_row w g j cs e fr h]
 simpa using hu
theorem news_alloc (w : World) (cs : Array Value) (e : TypeId) (g : Nat) (h : w.heap.size = g) : ∀ j u, cs.toList[j]? = some u -> (w.alloc (.cells cs e)).cell? ((⟨g, 0, none⟩ : Addr).add j) = some u := by
 subst h
 exact news_of (heap_alloc_new w _)
theorem info5 : (Tryz.prog.info? 5).map (fun i => (i.zero, i.size, i.bytes)) = some (some (.int .u8 0), 1, 1) := by kernel_rfl
theorem strOfNums_bytes (acc : List UInt8) : strOfNums (acc.map fun b => (b.toNat : Int)) = Lx.str acc := by
 unfold strOfNums Lx.str
 rw [List.map_map]
 have : ((fun n : Int => UInt8.ofNat n.toNat) ∘ fun b : UInt8 => (b.toNat : Int)) = id := by funext b; simp
 rw [this]; simp
theorem bytes_string {w : World} {base : Nat} {ao : Option Addr} {cap : Nat} {acc : List UInt8} (h : w.ownsRow base 5 1 (.slice ao acc.length cap) acc.length (acc.map Lx.byteV)) :
  (convert 99 9 (.slice ao acc.length cap)).run Tryz.prog w = .ok (.string (Lx.str acc)) w := by
 rcases h.2 with ⟨hv, h0⟩ | ⟨g, cap', cur, hv, _⟩
 ·obtain rfl : acc = [] := List.length_eq_zero_iff.1 h0
  simp only [Value.slice.injEq] at hv
  obtain ⟨rfl, _, rfl⟩ := hv
  exact run_convert_bytes_nil w 99 5 Tryz.underlying99 Tryz.underlying5 _ _ 9 Tryz.underlying9
 ·simp only [Value.slice.injEq] at hv
  obtain ⟨rfl, _, rfl⟩ := hv
  rw [run_convert_bytes_arg w 99 5 Tryz.underlying99 Tryz.underlying5 g 0 acc.length cap (acc.map fun b => (b.toNat : Int)) (by simp) ?_ 9 Tryz.underlying9, strOfNums_bytes]
  intro i hi
  rw [Nat.zero_add, h.cellAt i (by omega), List.getElem?_map, List.getElem?_eq_getElem hi]
  simp [Lx.byteV, List.getD, List.getElem?_eq_getElem hi]
theorem qrel {w wr w1 : World} {ao : Option Addr} {cap g cap' : Nat} {acc : List UInt8} {b : UInt8} {o o' : Obj}
  (hown : wr.ownsRow (w.heap.size + 1) 5 1 (.slice ao acc.length cap) acc.length (acc.map Lx.byteV))
  (hown1 : w1.ownsRow (w.heap.size + 1) 5 1 (.slice (some ⟨g, 0, none⟩) (acc.length + 1) cap') (acc.length + 1) (acc.map Lx.byteV ++ [Lx.byteV b]))
  (hgrow : (wr.alloc o).grownBy w1 (Value.slice ao acc.length cap).ownBlock)
  (hblk : wr.heap[w.heap.size]? = some o') (hbr : Below w.heap.size w wr) :
  w1.ownsRow (w.heap.size + 1) 5 1 (.slice (some ⟨g, 0, none⟩) (acc ++ [b]).length cap') (acc ++ [b]).length ((acc ++ [b]).map Lx.byteV) /\
   w1.heap[w.heap.size]? = some o' /\ Below w.heap.size w w1 := by
 refine ⟨by simpa using hown1, ?_, ?_⟩
 ·have hlt : w.heap.size < wr.heap.size := (Array.getElem?_eq_some_iff.1 hblk).1
  rw [hgrow.block w.heap.size (by simp; omega) (fun e => by have := hown.lt _ e.symm; omega), heap_alloc_old wr o hlt, hblk]
 ·exact (hbr.alloc hbr.size o).grown hgrow (by have := hbr.size; simp; omega) (fun k hk => by have := hown.lt _ hk; omega)
theorem quoted_any (s : ByteArray) (w : World) (hs : s.size <= 1000000) (h0 : 0 < s.size) :
  Calls Tryz.prog 217 #[.string s] w fun e w' => e = .returned (Lx.tokV (Lx.quotedTok (Lx.bl s))) /\ Below w.heap.size w w' := by
 obtain ⟨i0, hi, hz0, hz1, hz2⟩ := info_parts info5
 go_enter Tryz.func217, Tryz.ntmps217
 go_wp2_with fail
 go_loopw [5, 6, 7, 8] (fun v at' _ _ wr => ∃ (k : Nat) (acc : List UInt8) (ao : Option Addr) (cap : Nat), 1 <= k /\ k <= s.size /\ acc.length <= k /\ at' = .int .i64 k /\ v = .slice ao acc.length cap /\
   wr.ownsRow (w.heap.size + 1) 5 1 (.slice ao acc.length cap) acc.length (acc.map Lx.byteV) /\ Lx.quotedTok (Lx.bl s) = Lx.qt ((Lx.bl s).drop k) k acc /\
   wr.heap[w.heap.size]? = some (.cells #[.int .i64 0, .int .i64 0, .string ⟨#[]⟩] 218 (0, 0)) /\ Below w.heap.size w wr)
  (fun _ at' _ _ _ => s.size - (intOf at').toNat)
 case atStart => exact ⟨1, [], none, 0, by omega, by omega, by simp, rfl, rfl, World.ownsRow_nil _ _ _ _, rfl, heap_alloc_new _ _, (Below.refl _ _).alloc (Nat.le_refl _) _⟩
 case round =>
  obtain ⟨k, acc, ao, cap, hk1, hk, hak, rfl, rfl, hown, hq, hblk, hbr⟩ := hrel
  have c0 := cell_of_block hblk 0 (.int .i64 0) rfl
  have c1 := cell_of_block hblk 1 (.int .i64 0) rfl
  have c2 := cell_of_block hblk 2 (.string ⟨#[]⟩) rfl
  have f0 := free_of_block hblk 0
  have f1 := free_of_block hblk 1
  have f2 := free_of_block hblk 2
  by_cases hlt : k < s.size
  ·have hd := Lx.bl_drop s k hlt
   have hq' := hq
   rw [hd, Lx.qt_cons, <- hd] at hq'
   by_cases h34 : s[k].toNat = 34
   ·have g34 : ((s[k].toNat : Int) == 34) = true := by simp; omega
    rw [if_pos h34] at hq'
    have hcv := bytes_string hown
    by_cases h40 : acc.length > 40
    ·have E : Hid (Lx.tokV (Lx.quotedTok (Lx.bl s)) = .tuple #[.agg #[.int .i64 0, .int .i64 0, .string ⟨#[]⟩], .int .i64 0, .iface 54 (.int .i64 1)]) := by
      show _ = _; rw [hq', if_pos h40]; rfl
     clear hq hq' hd h34 hblk
     go_wp2_with fail
     exact bodyPost_ret (v := .tuple #[.agg #[.int .i64 0, .int .i64 0, .string ⟨#[]⟩], .int .i64 0, .iface 54 (.int .i64 1)]) (by simp [results, Tryz.results217, go_sem, c0, c1, c2]) rfl ⟨congrArg Ending.returned E.out.symm, ((hbr.setCell (p := ⟨w.heap.size, 0, none⟩) (Nat.le_refl _) _).setCell (p := ⟨w.heap.size, 1, none⟩) (Nat.le_refl _) _).setCell (p := ⟨w.heap.size, 2, none⟩) (Nat.le_refl _) _⟩
    ·have E : Hid (Lx.tokV (Lx.quotedTok (Lx.bl s)) = .tuple #[.agg #[.int .i64 3, .int .i64 0, .string (Lx.str acc)], .int .i64 (k + 1), .nilIface]) := by
      show _ = _; rw [hq', if_neg h40]; rfl
     clear hq hq' hd h34 hblk
     go_wp2_with fail
     exact bodyPost_ret (v := .tuple #[.agg #[.int .i64 3, .int .i64 0, .string (Lx.str acc)], .int .i64 (k + 1), .nilIface]) (by simp [results, Tryz.results217, go_sem, c0, c1, c2]) rfl ⟨congrArg Ending.returned E.out.symm, ((hbr.setCell (p := ⟨w.heap.size, 0, none⟩) (Nat.le_refl _) _).setCell (p := ⟨w.heap.size, 1, none⟩) (Nat.le_refl _) _).setCell (p := ⟨w.heap.size, 2, none⟩) (Nat.le_refl _) _⟩
   ·have g34 : ((s[k].toNat : Int) == 34) = false := by simp; omega
    rw [if_neg h34] at hq'
    have hle := Lx.unq_le ((Lx.bl s).drop k) (by rw [hd]; simp)
    rw [List.length_drop, Lx.length_bl] at hle
    have hx := fun w => unquoted_any (s.extract k s.size) w (by simp; omega) (by simp; omega)
    rw [bl_rest] at hx
    generalize Lx.unq ((Lx.bl s).drop k) = u at *
    obtain ⟨b, n⟩ := u
    have HX : Hid _ := hx
    clear hx
    by_cases hn : n = 0
    ·have E : Hid (Lx.tokV (Lx.quotedTok (Lx.bl s)) = .tuple #[.agg #[.int .i64 0, .int .i64 0, .string ⟨#[]⟩], .int .i64 0, .iface 54 (.int .i64 4)]) := by
      show _ = _; rw [hq', if_pos hn]; rfl
     subst hn
     clear hq hq' hd h34 hblk
     go_wp2_with (go_at_call 226; refine (HX.out _).mono ?_; rintro e w' ⟨rfl, rfl⟩)
     exact bodyPost_ret (v := .tuple #[.agg #[.int .i64 0, .int .i64 0, .string ⟨#[]⟩], .int .i64 0, .iface 54 (.int .i64 4)]) (by simp [results, Tryz.results217, go_sem, c0, c1, c2]) rfl ⟨congrArg Ending.returned E.out.symm, ((hbr.setCell (p := ⟨w.heap.size, 0, none⟩) (Nat.le_refl _) _).setCell (p := ⟨w.heap.size, 1, none⟩) (Nat.le_refl _) _).setCell (p := ⟨w.heap.size, 2, none⟩) (Nat.le_refl _) _⟩
    ·have E : Hid (Lx.quotedTok (Lx.bl s) = Lx.qt ((Lx.bl s).drop (k + n)) (k + n) (acc ++ [b])) := by
      show _ = _; rw [hq', if_neg hn, List.drop_drop]
     have gn : ((n : Int) == 0) = false := by simp; omega
     simp only at hle
     have HB : Hid _ := hblk
     clear hq hq' hd h34 hblk c0 c1 c2 f0 f1 f2
     go_wp2_with (first
      | (go_at_call 226; refine (HX.out _).mono ?_; rintro e w' ⟨rfl, rfl⟩)
      | (at_builtin; go_must (refine wpList_append_lies _ rfl (.tmp 36) (.tmp 38) 99 rfl (w.heap.size + 1) 5 i0 (.int .u8 0) 1 1 Tryz.underlying99 hi hz0 hz1 hz2 rfl (by decide) _ acc.length (acc.map Lx.byteV) rfl (hown.alloc _) ⟨w'.heap.size, 0, none⟩ 1 1 [Lx.byteV b] rfl rfl (news_alloc _ _ _ _ rfl) (by simp [Lx.byteV, Value.oneCell']) (by decide) (by unfold maxLen; omega) (by omega) (by have := hbr.size; simp; omega) _ rfl ?_); intro g cap' w1 hown1 hgrow hat hlt1))
     have R := qrel hown hown1 hgrow HB.out hbr
     go_roundw
     case rel => exact ⟨k + n, acc ++ [b], some ⟨g, 0, none⟩, cap', by omega, by omega, by simp; omega, by go_num, by simp, R.1, E.out, R.2.1, R.2.2⟩
     case measure => simp [intOf]; omega
  ·have E : Hid (Lx.tokV (Lx.quotedTok (Lx.bl s)) = .tuple #[.agg #[.int .i64 0, .int .i64 0, .string ⟨#[]⟩], .int .i64 0, .iface 54 (.int .i64 4)]) := by
    show _ = _; rw [hq, Lx.bl_drop_end s k hlt, Lx.qt_nil]; rfl
   clear hq hblk
   go_wp2_with fail
   exact bodyPost_ret (v := .tuple #[.agg #[.int .i64 0, .int .i64 0, .string ⟨#[]⟩], .int .i64 0, .iface 54 (.int .i64 4)]) (by simp [results, Tryz.results217, go_sem, c0, c1, c2]) rfl ⟨congrArg Ending.returned E.out.symm, ((hbr.setCell (p := ⟨w.heap.size, 0, none⟩) (Nat.le_refl _) _).setCell (p := ⟨w.heap.size, 1, none⟩) (Nat.le_refl _) _).setCell (p := ⟨w.heap.size, 2, none⟩) (Nat.le_refl _) _⟩
namespace Lx
def firstTok : List UInt8 -> Tok
 | [] => ⟨0, [], 0, 0⟩
 | c :: r => if letter c then wordTok (c :: r) else if digit c then digitsTok (c :: r) else if c.toNat = 34 then quotedTok (c :: r) else signTok (c :: r)
end Lx
theorem three_kept {w w1 : World} {a b c : Value} {e : TypeId} (hb : Below (w.alloc (.cells #[a, b, c] e)).heap.size (w.alloc (.cells #[a, b, c] e)) w1) :
  w1.heap[w.heap.size]? = some (.cells #[a, b, c] e (0, 0)) := by
 rw [hb.block w.heap.size (by simp)]
 exact heap_alloc_new w _
theorem below_three {w w1 : World} {o : Obj} {a b c : Value} (hb : Below (w.alloc o).heap.size (w.alloc o) w1) :
  Below w.heap.size w (((w1.setCell ⟨w.heap.size, 0, none⟩ a).setCell ⟨w.heap.size, 1, none⟩ b).setCell ⟨w.heap.size, 2, none⟩ c) :=
 (((((Below.refl _ w).alloc (Nat.le_refl _) o).trans (hb.mono (by simp))).setCell (p := ⟨w.heap.size, 0, none⟩) (Nat.le_refl _) _).setCell (p := ⟨w.heap.size, 1, none⟩) (Nat.le_refl _) _).setCell (p := ⟨w.heap.size, 2, none⟩) (Nat.le_refl _) _
theorem first_nil (s : ByteArray) (w : World) (h0 : s.size = 0) :
  Calls Tryz.prog 195 #[.string s] w fun e w' => e = .returned (Lx.tokV (Lx.firstTok (Lx.bl s))) /\ Below w.heap.size w w' := by
 have hl : Lx.bl s = [] := List.length_eq_zero_iff.1 (by rw [Lx.length_bl]; exact h0)
 have E : Hid (Lx.tokV (Lx.firstTok (Lx.bl s)) = .tuple #[.agg #[.int .i64 0, .int .i64 0, .string ⟨#[]⟩], .int .i64 0, .nilIface]) := by
  show _ = _; rw [hl]; rfl
 have he : s.toList.isEmpty = true := by rw [toList_bl, hl]; rfl
 clear hl
 go_enter Tryz.func195, Tryz.ntmps195
 go_wp2_with fail
 exact bodyPost_ret (v := .tuple #[.agg #[.int .i64 0, .int .i64 0, .string ⟨#[]⟩], .int .i64 0, .nilIface]) (by simp [results, Tryz.results195, go_sem]) rfl ⟨congrArg Ending.returned E.out.symm, (Below.refl _ _).alloc (Nat.le_refl _) _⟩
theorem first_word (s : ByteArray) (w : World) (hs : s.size <= 1000000) (h0 : 0 < s.size) (hc : Lx.letter s[0] = true) :
  Calls Tryz.prog 195 #[.string s] w fun e w' => e = .returned (Lx.tokV (Lx.firstTok (Lx.bl s))) /\ Below w.heap.size w w' := by
 obtain ⟨r, hr⟩ := Lx.bl_head? s h0
 have hx := fun w => word_any s w hs
 have hf : Lx.firstTok (Lx.bl s) = Lx.wordTok (Lx.bl s) := by rw [hr, Lx.firstTok, if_pos hc]
 have he : s.toList.isEmpty = false := by rw [toList_bl, hr]; rfl
 rw [hf]
 generalize Lx.wordTok (Lx.bl s) = T at *
 simp only [Lx.tokV] at hx ⊢
 have HX : Hid _ := hx
 clear hx hr hf
 go_enter Tryz.func195, Tryz.ntmps195
 go_wp2_with fail
 refine (letter_any s[0] _).mono ?_
 rw [hc]
 rintro e w' ⟨rfl, rfl⟩
 go_wp2_with fail
 refine (HX.out _).mono ?_
 rintro e w1 ⟨rfl, hb⟩
 have hblk := three_kept hb
 have c0 := cell_of_block hblk 0 (.int .i64 0) rfl
 have c1 := cell_of_block hblk 1 (.int .i64 0) rfl
 have c2 := cell_of_block hblk 2 (.string ⟨#[]⟩) rfl
 have f0 := free_of_block hblk 0
 have f1 := free_of_block hblk 1
 have f2 := free_of_block hblk 2
 have HB := below_three (a := .int .i64 T.kind) (b := .int .i64 0) (c := .string (Lx.str T.text)) hb
 clear hblk hb
 go_wp2_with fail
 exact bodyPost_ret (v := .tuple #[.agg #[.int .i64 T.kind, .int .i64 0, .string (Lx.str T.text)], .int .i64 T.size, Lx.errV T.err]) (by simp [results, Tryz.results195, go_sem, c0, c1, c2]) rfl ⟨rfl, HB⟩
theorem first_digits (s : ByteArray) (w : World) (hs : s.size <= 1000000) (h0 : 0 < s.size) (hc : Lx.letter s[0] = false) (hd : Lx.digit s[0] = true) :
  Calls Tryz.prog 195 #[.string s] w fun e w' => e = .returned (Lx.tokV (Lx.firstTok (Lx.bl s))) /\ Below w.heap.size w w' := by
 obtain ⟨r, hr⟩ := Lx.bl_head? s h0
 have hx := fun w => digits_any s w hs
 have hf : Lx.firstTok (Lx.bl s) = Lx.digitsTok (Lx.bl s) := by rw [hr, Lx.firstTok, if_neg (by simp [hc]), if_pos hd]
 have he : s.toList.isEmpty = false := by rw [toList_bl, hr]; rfl
 rw [hf]
 generalize Lx.digitsTok (Lx.bl s) = T at *
 simp only [Lx.tokV] at hx ⊢
 have HX : Hid _ := hx
 clear hx hr hf
 go_enter Tryz.func195, Tryz.ntmps195
 go_wp2_with fail
 refine (letter_any s[0] _).mono ?_
 rw [hc]
 rintro e w' ⟨rfl, rfl⟩
 go_wp2_with fail
 refine (digit_any s[0] _).mono ?_
 rw [hd]
 rintro e w' ⟨rfl, rfl⟩
 go_wp2_with fail
 refine (HX.out _).mono ?_
 rintro e w1 ⟨rfl, hb⟩
 have hblk := three_kept hb
 have c0 := cell_of_block hblk 0 (.int .i64 0) rfl
 have c1 := cell_of_block hblk 1 (.int .i64 0) rfl
 have c2 := cell_of_block hblk 2 (.string ⟨#[]⟩) rfl
 have f0 := free_of_block hblk 0
 have f1 := free_of_block hblk 1
 have f2 := free_of_block hblk 2
 have HB := below_three (a := .int .i64 T.kind) (b := .int .i64 0) (c := .string (Lx.str T.text)) hb
 clear hblk hb
 go_wp2_with fail
 exact bodyPost_ret (v := .tuple #[.agg #[.int .i64 T.kind, .int .i64 0, .string (Lx.str T.text)], .int .i64 T.size, Lx.errV T.err]) (by simp [results, Tryz.results195, go_sem, c0, c1, c2]) rfl ⟨rfl, HB⟩
theorem first_quoted (s : ByteArray) (w : World) (hs : s.size <= 1000000) (h0 : 0 < s.size) (hc : Lx.letter s[0] = false) (hd : Lx.digit s[0] = false) (hq : s[0].toNat = 34) :
  Calls Tryz.prog 195 #[.string s] w fun e w' => e = .returned (Lx.tokV (Lx.firstTok (Lx.bl s))) /\ Below w.heap.size w w' := by
 obtain ⟨r, hr⟩ := Lx.bl_head? s h0
 have hx := fun w => quoted_any s w hs h0
 have hf : Lx.firstTok (Lx.bl s) = Lx.quotedTok (Lx.bl s) := by rw [hr, Lx.firstTok, if_neg (by simp [hc]), if_neg (by simp [hd]), if_pos hq]
 have he : s.toList.isEmpty = false := by rw [toList_bl, hr]; rfl
 have g34 : ((s[0].toNat : Int) == 34) = true := by simp; omega
 rw [hf]
 generalize Lx.quotedTok (Lx.bl s) = T at *
 simp only [Lx.tokV] at hx ⊢
 have HX : Hid _ := hx
 clear hx hr hf hq
 go_enter Tryz.func195, Tryz.ntmps195
 go_wp2_with fail
 refine (letter_any s[0] _).mono ?_
 rw [hc]
 rintro e w' ⟨rfl, rfl⟩
 go_wp2_with fail
 refine (digit_any s[0] _).mono ?_
 rw [hd]
 rintro e w' ⟨rfl, rfl⟩
 go_wp2_with fail
 refine (HX.out _).mono ?_
 rintro e w1 ⟨rfl, hb⟩
 have hblk := three_kept hb
 have c0 := cell_of_block hblk 0 (.int .i64 0) rfl
 have c1 := cell_of_block hblk 1 (.int .i64 0) rfl
 have c2 := cell_of_block hblk 2 (.string ⟨#[]⟩) rfl
 have f0 := free_of_block hblk 0
 have f1 := free_of_block hblk 1
 have f2 := free_of_block hblk 2
 have HB := below_three (a := .int .i64 T.kind) (b := .int .i64 0) (c := .string (Lx.str T.text)) hb
 clear hblk hb
 go_wp2_with fail
 exact bodyPost_ret (v := .tuple #[.agg #[.int .i64 T.kind, .int .i64 0, .string (Lx.str T.text)], .int .i64 T.size, Lx.errV T.err]) (by simp [results, Tryz.results195, go_sem, c0, c1, c2]) rfl ⟨rfl, HB⟩
theorem first_sign (s : ByteArray) (w : World) (hs : s.size <= 1000000) (h0 : 0 < s.size) (hc : Lx.letter s[0] = false) (hd : Lx.digit s[0] = false) (hq : ¬ s[0].toNat = 34) :
  Calls Tryz.prog 195 #[.string s] w fun e w' => e = .returned (Lx.tokV (Lx.firstTok (Lx.bl s))) /\ Below w.heap.size w w' := by
 obtain ⟨r, hr⟩ := Lx.bl_head? s h0
 have hx := fun w => sign_any s w hs h0
 have hf : Lx.firstTok (Lx.bl s) = Lx.signTok (Lx.bl s) := by rw [hr, Lx.firstTok, if_neg (by simp [hc]), if_neg (by simp [hd]), if_neg hq]
 have he : s.toList.isEmpty = false := by rw [toList_bl, hr]; rfl
 have g34 : ((s[0].toNat : Int) == 34) = false := by simp; omega
 rw [hf]
 generalize Lx.signTok (Lx.bl s) = T at *
 simp only [Lx.tokV] at hx ⊢
 have HX : Hid _ := hx
 clear hx hr hf hq
 go_enter Tryz.func195, Tryz.ntmps195
 go_wp2_with fail
 refine (letter_any s[0] _).mono ?_
 rw [hc]
 rintro e w' ⟨rfl, rfl⟩
 go_wp2_with fail
 refine (digit_any s[0] _).mono ?_
 rw [hd]
 rintro e w' ⟨rfl, rfl⟩
 go_wp2_with fail
 refine (HX.out _).mono ?_
 rintro e w1 ⟨rfl, hb⟩
 have hblk := three_kept hb
 have c0 := cell_of_block hblk 0 (.int .i64 0) rfl
 have c1 := cell_of_block hblk 1 (.int .i64 0) rfl
 have c2 := cell_of_block hblk 2 (.string ⟨#[]⟩) rfl
 have f0 := free_of_block hblk 0
 have f1 := free_of_block hblk 1
 have f2 := free_of_block hblk 2
 have HB := below_three (a := .int .i64 T.kind) (b := .int .i64 0) (c := .string (Lx.str T.text)) hb
 clear hblk hb
 go_wp2_with fail
 exact bodyPost_ret (v := .tuple #[.agg #[.int .i64 T.kind, .int .i64 0, .string (Lx.str T.text)], .int .i64 T.size, Lx.errV T.err]) (by simp [results, Tryz.results195, go_sem, c0, c1, c2]) rfl ⟨rfl, HB⟩
theorem first_any (s : ByteArray) (w : World) (hs : s.size <= 1000000) :
  Calls Tryz.prog 195 #[.string s] w fun e w' => e = .returned (Lx.tokV (Lx.firstTok (Lx.bl s))) /\ Below w.heap.size w w' := by
 by_cases h0 : 0 < s.size
 ·cases hc : Lx.letter s[0]
  ·cases hd : Lx.digit s[0]
   ·by_cases hq : s[0].toNat = 34
    ·exact first_quoted s w hs h0 hc hd hq
    ·exact first_sign s w hs h0 hc hd hq
   ·exact first_digits s w hs h0 hc hd
  ·exact first_word s w hs h0 hc
 ·exact first_nil s w (by omega)
end Go.Proofs.YtcekcfjabhlheaaGreatDoor
