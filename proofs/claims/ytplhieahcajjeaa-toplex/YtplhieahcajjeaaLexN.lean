/- The document's own answer: one. -/
import Derived.Test.YtplhieahcajjeaaLexJ
import Derived.Test.YtplhieahcajjeaaLexK
namespace Go.Proofs.Ytplhieahcajjeaa
open Go.RowKit
set_option maxRecDepth 100000 in
set_option maxHeartbeats 800000 in
theorem one_quoted (s : ByteArray) (k : Nat) (w : World) (hs : s.size ≤ 1000000) (hk : k < s.size) (hq : s[k].toNat = 34) :
    Calls Try.prog 12 #[.string s, .int .i64 k] w fun e w' => e = .returned (Lx.oneV k (Lx.quotedTok ((Lx.bl s).drop k))) ∧ Below w.heap.size w w' := by
  have hx := fun w => rquoted_any s k w hs hk
  generalize Lx.quotedTok ((Lx.bl s).drop k) = T at *
  simp only [Lx.oneV] at hx ⊢
  generalize (if T.err = 0 then k + T.size else 0) = m at *
  have HX : Hid _ := hx
  have g34 : ((s[k].toNat : Int) == 34) = true := by simp; omega
  have c1 : s[k].toNat < 48 := by omega
  clear hx hq
  go_enter Try.func12, Try.ntmps12
  go_wp2_with fail
  refine (HX.out _).mono ?_
  rintro e w1 ⟨rfl, hb⟩
  go_wp2_with fail
  exact bodyPost_ret (v := .tuple #[.int .i64 T.kind, .string (Lx.str T.text), .int .i64 m, .int .i64 T.err]) (by simp [results, Try.results12, go_sem]) rfl ⟨rfl, hb⟩
theorem one_any (s : ByteArray) (k : Nat) (w : World) (hs : s.size ≤ 1000000) (hk : k < s.size) :
    Calls Try.prog 12 #[.string s, .int .i64 k] w fun e w' => e = .returned (Lx.oneV k (Lx.firstTok ((Lx.bl s).drop k))) ∧ Below w.heap.size w w' := by
  have hd := Lx.bl_drop s k hk
  rw [hd, Lx.firstTok, ← hd]
  cases hl : Lx.letter s[k]
  · rw [if_neg (by decide)]
    cases hg : Lx.digit s[k]
    · rw [if_neg (by decide)]
      by_cases hq : s[k].toNat = 34
      · rw [if_pos hq]; exact one_quoted s k w hs hk hq
      · rw [if_neg hq]
        exact (one_sign s k w hs hk hl hg hq).mono fun e w' ⟨he, n, hw⟩ => ⟨he, by rw [hw]; exact below_drewN (Below.refl _ _) _⟩
    · rw [if_pos rfl]
      exact (one_digits s k w hs hk hg).mono fun e w' ⟨he, n, hw⟩ => ⟨he, by rw [hw]; exact below_drewN (Below.refl _ _) _⟩
  · rw [if_pos rfl]
    exact (one_word s k w hs hk hl).mono fun e w' ⟨he, n, hw⟩ => ⟨he, by rw [hw]; exact below_drewN (Below.refl _ _) _⟩
end Go.Proofs.Ytplhieahcajjeaa
