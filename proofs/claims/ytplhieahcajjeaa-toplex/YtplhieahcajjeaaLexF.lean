/- What first returns: the token that a text begins with. -/
import Derived.Test.YtplhieahcajjeaaLexE
namespace Go.Proofs.Ytplhieahcajjeaa
open Go.RowKit
namespace Lx
def firstTok : List UInt8 → Tok
  | [] => ⟨0, [], 0, 0⟩
  | c :: r => if letter c then wordTok (c :: r) else if digit c then digitsTok (c :: r) else if c.toNat = 34 then quotedTok (c :: r) else signTok (c :: r)
end Lx
/-- Three cells in a block that a call of another function left alone. -/
theorem three_kept {w w1 : World} {a b c : Value} {e : TypeId} (hb : Below (w.alloc (.cells #[a, b, c] e)).heap.size (w.alloc (.cells #[a, b, c] e)) w1) :
    w1.heap[w.heap.size]? = some (.cells #[a, b, c] e (0, 0)) := by
  rw [hb.block w.heap.size (by simp)]
  exact heap_alloc_new w _
theorem below_three {w w1 : World} {o : Obj} {a b c : Value} (hb : Below (w.alloc o).heap.size (w.alloc o) w1) :
    Below w.heap.size w (((w1.setCell ⟨w.heap.size, 0, none⟩ a).setCell ⟨w.heap.size, 1, none⟩ b).setCell ⟨w.heap.size, 2, none⟩ c) :=
  (((((Below.refl _ w).alloc (Nat.le_refl _) o).trans (hb.mono (by simp))).setCell (p := ⟨w.heap.size, 0, none⟩) (Nat.le_refl _) _).setCell (p := ⟨w.heap.size, 1, none⟩) (Nat.le_refl _) _).setCell (p := ⟨w.heap.size, 2, none⟩) (Nat.le_refl _) _
set_option maxRecDepth 100000 in
set_option maxHeartbeats 800000 in
theorem first_nil (s : ByteArray) (w : World) (h0 : s.size = 0) :
    Calls Try.prog 18 #[.string s] w fun e w' => e = .returned (Lx.tokV (Lx.firstTok (Lx.bl s))) ∧ Below w.heap.size w w' := by
  have hl : Lx.bl s = [] := List.length_eq_zero_iff.1 (by rw [Lx.length_bl]; exact h0)
  have E : Hid (Lx.tokV (Lx.firstTok (Lx.bl s)) = .tuple #[.agg #[.int .i64 0, .int .i64 0, .string ⟨#[]⟩], .int .i64 0, .nilIface]) := by
    show _ = _; rw [hl]; rfl
  have he : s.toList.isEmpty = true := by rw [toList_bl, hl]; rfl
  clear hl
  go_enter Try.func18, Try.ntmps18
  go_wp2_with fail
  exact bodyPost_ret (v := .tuple #[.agg #[.int .i64 0, .int .i64 0, .string ⟨#[]⟩], .int .i64 0, .nilIface]) (by simp [results, Try.results18, go_sem]) rfl ⟨congrArg Ending.returned E.out.symm, (Below.refl _ _).alloc (Nat.le_refl _) _⟩
set_option maxRecDepth 100000 in
set_option maxHeartbeats 800000 in
theorem first_word (s : ByteArray) (w : World) (hs : s.size ≤ 1000000) (h0 : 0 < s.size) (hc : Lx.letter s[0] = true) :
    Calls Try.prog 18 #[.string s] w fun e w' => e = .returned (Lx.tokV (Lx.firstTok (Lx.bl s))) ∧ Below w.heap.size w w' := by
  obtain ⟨r, hr⟩ := Lx.bl_head? s h0
  have hx := fun w => word_any s w hs
  have hf : Lx.firstTok (Lx.bl s) = Lx.wordTok (Lx.bl s) := by rw [hr, Lx.firstTok, if_pos hc]
  have he : s.toList.isEmpty = false := by rw [toList_bl, hr]; rfl
  rw [hf]
  generalize Lx.wordTok (Lx.bl s) = T at *
  simp only [Lx.tokV] at hx ⊢
  have HX : Hid _ := hx
  clear hx hr hf
  go_enter Try.func18, Try.ntmps18
  go_wp2_with fail
  refine (letter_any s[0] _).mono ?_
  rw [hc]
  rintro e w' ⟨rfl, rfl⟩
  go_wp2_with fail
  refine (HX.out _).mono ?_
  rintro e w1 ⟨rfl, hb⟩
  have hblk := three_kept hb
  have c0 := cell_of_block hblk 0 (.int .i64 0) rfl
  have c1 := cell_of_block hblk 1 (.int .i64 0) rfl
  have c2 := cell_of_block hblk 2 (.string ⟨#[]⟩) rfl
  have f0 := free_of_block hblk 0
  have f1 := free_of_block hblk 1
  have f2 := free_of_block hblk 2
  have HB := below_three (a := .int .i64 T.kind) (b := .int .i64 0) (c := .string (Lx.str T.text)) hb
  clear hblk hb
  go_wp2_with fail
  exact bodyPost_ret (v := .tuple #[.agg #[.int .i64 T.kind, .int .i64 0, .string (Lx.str T.text)], .int .i64 T.size, Lx.errV T.err]) (by simp [results, Try.results18, go_sem, c0, c1, c2]) rfl ⟨rfl, HB⟩
set_option maxRecDepth 100000 in
set_option maxHeartbeats 800000 in
theorem first_digits (s : ByteArray) (w : World) (hs : s.size ≤ 1000000) (h0 : 0 < s.size) (hc : Lx.letter s[0] = false) (hd : Lx.digit s[0] = true) :
    Calls Try.prog 18 #[.string s] w fun e w' => e = .returned (Lx.tokV (Lx.firstTok (Lx.bl s))) ∧ Below w.heap.size w w' := by
  obtain ⟨r, hr⟩ := Lx.bl_head? s h0
  have hx := fun w => digits_any s w hs
  have hf : Lx.firstTok (Lx.bl s) = Lx.digitsTok (Lx.bl s) := by rw [hr, Lx.firstTok, if_neg (by simp [hc]), if_pos hd]
  have he : s.toList.isEmpty = false := by rw [toList_bl, hr]; rfl
  rw [hf]
  generalize Lx.digitsTok (Lx.bl s) = T at *
  simp only [Lx.tokV] at hx ⊢
  have HX : Hid _ := hx
  clear hx hr hf
  go_enter Try.func18, Try.ntmps18
  go_wp2_with fail
  refine (letter_any s[0] _).mono ?_
  rw [hc]
  rintro e w' ⟨rfl, rfl⟩
  go_wp2_with fail
  refine (digit_any s[0] _).mono ?_
  rw [hd]
  rintro e w' ⟨rfl, rfl⟩
  go_wp2_with fail
  refine (HX.out _).mono ?_
  rintro e w1 ⟨rfl, hb⟩
  have hblk := three_kept hb
  have c0 := cell_of_block hblk 0 (.int .i64 0) rfl
  have c1 := cell_of_block hblk 1 (.int .i64 0) rfl
  have c2 := cell_of_block hblk 2 (.string ⟨#[]⟩) rfl
  have f0 := free_of_block hblk 0
  have f1 := free_of_block hblk 1
  have f2 := free_of_block hblk 2
  have HB := below_three (a := .int .i64 T.kind) (b := .int .i64 0) (c := .string (Lx.str T.text)) hb
  clear hblk hb
  go_wp2_with fail
  exact bodyPost_ret (v := .tuple #[.agg #[.int .i64 T.kind, .int .i64 0, .string (Lx.str T.text)], .int .i64 T.size, Lx.errV T.err]) (by simp [results, Try.results18, go_sem, c0, c1, c2]) rfl ⟨rfl, HB⟩
set_option maxRecDepth 100000 in
set_option maxHeartbeats 800000 in
theorem first_quoted (s : ByteArray) (w : World) (hs : s.size ≤ 1000000) (h0 : 0 < s.size) (hc : Lx.letter s[0] = false) (hd : Lx.digit s[0] = false) (hq : s[0].toNat = 34) :
    Calls Try.prog 18 #[.string s] w fun e w' => e = .returned (Lx.tokV (Lx.firstTok (Lx.bl s))) ∧ Below w.heap.size w w' := by
  obtain ⟨r, hr⟩ := Lx.bl_head? s h0
  have hx := fun w => quoted_any s w hs h0
  have hf : Lx.firstTok (Lx.bl s) = Lx.quotedTok (Lx.bl s) := by rw [hr, Lx.firstTok, if_neg (by simp [hc]), if_neg (by simp [hd]), if_pos hq]
  have he : s.toList.isEmpty = false := by rw [toList_bl, hr]; rfl
  have g34 : ((s[0].toNat : Int) == 34) = true := by simp; omega
  rw [hf]
  generalize Lx.quotedTok (Lx.bl s) = T at *
  simp only [Lx.tokV] at hx ⊢
  have HX : Hid _ := hx
  clear hx hr hf hq
  go_enter Try.func18, Try.ntmps18
  go_wp2_with fail
  refine (letter_any s[0] _).mono ?_
  rw [hc]
  rintro e w' ⟨rfl, rfl⟩
  go_wp2_with fail
  refine (digit_any s[0] _).mono ?_
  rw [hd]
  rintro e w' ⟨rfl, rfl⟩
  go_wp2_with fail
  refine (HX.out _).mono ?_
  rintro e w1 ⟨rfl, hb⟩
  have hblk := three_kept hb
  have c0 := cell_of_block hblk 0 (.int .i64 0) rfl
  have c1 := cell_of_block hblk 1 (.int .i64 0) rfl
  have c2 := cell_of_block hblk 2 (.string ⟨#[]⟩) rfl
  have f0 := free_of_block hblk 0
  have f1 := free_of_block hblk 1
  have f2 := free_of_block hblk 2
  have HB := below_three (a := .int .i64 T.kind) (b := .int .i64 0) (c := .string (Lx.str T.text)) hb
  clear hblk hb
  go_wp2_with fail
  exact bodyPost_ret (v := .tuple #[.agg #[.int .i64 T.kind, .int .i64 0, .string (Lx.str T.text)], .int .i64 T.size, Lx.errV T.err]) (by simp [results, Try.results18, go_sem, c0, c1, c2]) rfl ⟨rfl, HB⟩
set_option maxRecDepth 100000 in
set_option maxHeartbeats 800000 in
theorem first_sign (s : ByteArray) (w : World) (hs : s.size ≤ 1000000) (h0 : 0 < s.size) (hc : Lx.letter s[0] = false) (hd : Lx.digit s[0] = false) (hq : ¬ s[0].toNat = 34) :
    Calls Try.prog 18 #[.string s] w fun e w' => e = .returned (Lx.tokV (Lx.firstTok (Lx.bl s))) ∧ Below w.heap.size w w' := by
  obtain ⟨r, hr⟩ := Lx.bl_head? s h0
  have hx := fun w => sign_any s w hs h0
  have hf : Lx.firstTok (Lx.bl s) = Lx.signTok (Lx.bl s) := by rw [hr, Lx.firstTok, if_neg (by simp [hc]), if_neg (by simp [hd]), if_neg hq]
  have he : s.toList.isEmpty = false := by rw [toList_bl, hr]; rfl
  have g34 : ((s[0].toNat : Int) == 34) = false := by simp; omega
  rw [hf]
  generalize Lx.signTok (Lx.bl s) = T at *
  simp only [Lx.tokV] at hx ⊢
  have HX : Hid _ := hx
  clear hx hr hf hq
  go_enter Try.func18, Try.ntmps18
  go_wp2_with fail
  refine (letter_any s[0] _).mono ?_
  rw [hc]
  rintro e w' ⟨rfl, rfl⟩
  go_wp2_with fail
  refine (digit_any s[0] _).mono ?_
  rw [hd]
  rintro e w' ⟨rfl, rfl⟩
  go_wp2_with fail
  refine (HX.out _).mono ?_
  rintro e w1 ⟨rfl, hb⟩
  have hblk := three_kept hb
  have c0 := cell_of_block hblk 0 (.int .i64 0) rfl
  have c1 := cell_of_block hblk 1 (.int .i64 0) rfl
  have c2 := cell_of_block hblk 2 (.string ⟨#[]⟩) rfl
  have f0 := free_of_block hblk 0
  have f1 := free_of_block hblk 1
  have f2 := free_of_block hblk 2
  have HB := below_three (a := .int .i64 T.kind) (b := .int .i64 0) (c := .string (Lx.str T.text)) hb
  clear hblk hb
  go_wp2_with fail
  exact bodyPost_ret (v := .tuple #[.agg #[.int .i64 T.kind, .int .i64 0, .string (Lx.str T.text)], .int .i64 T.size, Lx.errV T.err]) (by simp [results, Try.results18, go_sem, c0, c1, c2]) rfl ⟨rfl, HB⟩
theorem first_any (s : ByteArray) (w : World) (hs : s.size ≤ 1000000) :
    Calls Try.prog 18 #[.string s] w fun e w' => e = .returned (Lx.tokV (Lx.firstTok (Lx.bl s))) ∧ Below w.heap.size w w' := by
  by_cases h0 : 0 < s.size
  · cases hc : Lx.letter s[0]
    · cases hd : Lx.digit s[0]
      · by_cases hq : s[0].toNat = 34
        · exact first_quoted s w hs h0 hc hd hq
        · exact first_sign s w hs h0 hc hd hq
      · exact first_digits s w hs h0 hc hd
    · exact first_word s w hs h0 hc
  · exact first_nil s w (by omega)
end Go.Proofs.Ytplhieahcajjeaa
