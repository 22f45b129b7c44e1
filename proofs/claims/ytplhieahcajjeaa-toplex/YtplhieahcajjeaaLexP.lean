/- LexSays: whatever the text, the call returns true. -/
import Derived.Test.YtplhieahcajjeaaLexL
import Derived.Test.YtplhieahcajjeaaLexO
namespace Go.Proofs.Ytplhieahcajjeaa
open Go.RowKit
namespace Lx
def sampleText : List UInt8 := [97, 32, 61, 61, 32, 34, 120, 34, 32, 35, 32, 98, 10, 49, 50]
theorem sample_quoted : quotedTok [34, 120, 34, 32, 35, 32, 98, 10, 49, 50] = ⟨3, [120], 3, 0⟩ := by
  rw [quotedTok]
  show qt [120, 34, 32, 35, 32, 98, 10, 49, 50] 1 [] = _
  rw [qt_cons, if_neg (by decide), if_neg (by decide)]
  show qt [34, 32, 35, 32, 98, 10, 49, 50] 2 [120] = _
  rw [qt_cons, if_pos (by decide), if_neg (by decide)]
theorem sample_lex : lexAll sampleText = .ok [(1, 0, [97]), (4, 2, [61, 61]), (3, 5, [120]), (2, 13, [49, 50])] := by
  show toks 16 sampleText 0 [] = _
  rw [toks]
  show toks 15 sampleText 1 [(1, 0, [97])] = _
  rw [toks]
  show toks 14 sampleText 4 [(1, 0, [97]), (4, 2, [61, 61])] = _
  rw [toks]
  have e : firstTok (List.drop (4 + gapLen false (List.drop 4 sampleText)) sampleText) = ⟨3, [120], 3, 0⟩ := sample_quoted
  rw [e]
  show toks 13 sampleText 8 [(1, 0, [97]), (4, 2, [61, 61]), (3, 5, [120])] = _
  rw [toks]
  show toks 12 sampleText 15 [(1, 0, [97]), (4, 2, [61, 61]), (3, 5, [120]), (2, 13, [49, 50])] = _
  rw [toks]
  rfl
end Lx
theorem ta_errno (n : Int) (w : World) : (Instr.typeAssert (.iface 36 (.int .i64 n)) 25 36 true).run Try.prog w = .ok (.tuple #[.int .i64 n, .bool true]) w := by kernel_rfl
set_option maxRecDepth 100000 in
set_option maxHeartbeats 400000 in
theorem same_err (f : Nat) (w : World) (hf : 0 < f) :
    Calls Try.prog 8 #[.iface 36 (.int .i64 f), .int .i64 f] w fun e w' => e = .returned (.bool true) ∧ w' = w := by
  have hta := ta_errno f
  go_enter Try.func8, Try.ntmps8
  go_wp2
  all_goals go_ret
  all_goals exact ⟨rfl, rfl⟩
set_option maxRecDepth 100000 in
set_option maxHeartbeats 400000 in
theorem same_nil (w : World) :
    Calls Try.prog 8 #[.nilIface, .int .i64 0] w fun e w' => e = .returned (.bool true) ∧ w' = w := by
  go_enter Try.func8, Try.ntmps8
  go_wp2
  go_ret
  exact ⟨rfl, rfl⟩
set_option maxRecDepth 100000 in
set_option maxHeartbeats 800000 in
theorem signs_true (w : World) :
    Calls Try.prog 5 #[] w fun e w' => e = .returned (.bool true) ∧ Below w.heap.size w w' := by
  have hx := fun w => tokens_all ⟨#[97, 32, 61, 61, 32, 34, 120, 34, 32, 35, 32, 98, 10, 49, 50]⟩ w
  rw [show Lx.lexAll (Lx.bl ⟨#[97, 32, 61, 61, 32, 34, 120, 34, 32, 35, 32, 98, 10, 49, 50]⟩) = _ from Lx.sample_lex] at hx
  have HX : Hid _ := hx
  clear hx
  go_enter Try.func5, Try.ntmps5
  go_wp2_with fail
  refine (HX.out _).mono ?_
  rintro e w1 ⟨⟨ao, cap, rfl, hown⟩, hb⟩
  obtain ⟨g, cap', e1, _, _⟩ := hown.form (by decide)
  simp only [Value.slice.injEq] at e1
  obtain ⟨rfl, _, rfl⟩ := e1
  have x1 : w1.cell? ⟨g, 5, none⟩ = some (.string ⟨#[61, 61]⟩) := by rw [hown.cellAt 5 (by decide)]; rfl
  have x2 : w1.cell? ⟨g, 8, none⟩ = some (.string ⟨#[120]⟩) := by rw [hown.cellAt 8 (by decide)]; rfl
  have x3 : w1.cell? ⟨g, 10, none⟩ = some (.int .i64 13) := by rw [hown.cellAt 10 (by decide)]; rfl
  clear hown HX
  go_wp2_with fail
  refine (same_nil _).mono ?_
  rintro e w' ⟨rfl, rfl⟩
  go_wp2_with fail
  go_ret
  exact ⟨rfl, hb⟩
theorem toks_len (l : List UInt8) (r : List (Nat × Nat × List UInt8)) : ∀ (n k : Nat) (acc : List (Nat × Nat × List UInt8)), Lx.toks n l k acc = .ok r → r.length ≤ acc.length + n
  | 0, k, acc, h => by simp only [Lx.toks, Except.ok.injEq] at h; subst h; omega
  | n + 1, k, acc, h => by
    rw [Lx.toks] at h
    split at h
    · cases h
    · split at h
      · cases h; omega
      · have := toks_len l r n _ _ h
        simp at this
        omega
theorem lexAll_len (l : List UInt8) (r : List (Nat × Nat × List UInt8)) (h : Lx.lexAll l = .ok r) : r.length ≤ 4001 := by
  rw [Lx.lexAll] at h
  split at h
  · cases h
  · have := toks_len l r _ _ _ h
    simp at this
    omega
set_option maxRecDepth 100000 in
set_option maxHeartbeats 800000 in
theorem lexSays_true (s : ByteArray) (w : World) (hs : s.size ≤ maxLen) :
    Calls Try.prog 3 #[.string s] w fun e w' => e = .returned (.bool true) ∧ Below w.heap.size w w' := by
  unfold maxLen at hs
  by_cases h5 : 5000 < s.size
  · go_enter Try.func3, Try.ntmps3
    go_wp2_with (go_at_call 5; refine (signs_true _).mono ?_; rintro e w1 ⟨rfl, hb1⟩)
    go_ret
    exact ⟨rfl, hb1⟩
  · have hx := tokens_all s
    have hy := rtokens_all s
    have hl := lexAll_len (Lx.bl s)
    cases hr : Lx.lexAll (Lx.bl s) with
    | ok l =>
      have hl := hl l hr
      rw [hr] at hx hy
      have HX : Hid _ := hx
      have HY : Hid _ := hy
      clear hx hy hr
      go_enter Try.func3, Try.ntmps3
      go_wp2_with fail
      refine (signs_true _).mono ?_
      rintro e w1 ⟨rfl, hb1⟩
      go_wp2_with fail
      refine (HX.out _).mono ?_
      rintro e w2 ⟨⟨a1, c1, rfl, hown1⟩, hb2⟩
      go_wp2_with fail
      refine (HY.out _).mono ?_
      rintro e w3 ⟨⟨a2, c2, rfl, hown2⟩, hb3⟩
      have hown1' := owns_below hown1 hb3
      have hB : Below w.heap.size w w3 := (hb1.trans (hb2.mono hb1.size)).trans (hb3.mono (Nat.le_trans hb1.size hb2.size))
      have HS := fun w4 h1 h2 => sameTokens_eq l w1.heap.size w2.heap.size a1 a2 c1 c2 w4 (by omega) h1 h2
      clear hown1 hb1 hb2 hb3 HX HY
      go_wp2_with fail
      refine (same_nil _).mono ?_
      rintro e w' ⟨rfl, hw⟩
      rw [hw]
      clear hw w'
      go_wp2_with fail
      refine (HS w3 hown1' hown2).mono ?_
      rintro e w' ⟨rfl, n, hw⟩
      rw [hw]
      clear hw w'
      go_wp2_with fail
      go_ret
      exact ⟨rfl, below_drewN hB _⟩
    | error q =>
      obtain ⟨a, f⟩ := q
      clear hl
      rw [hr] at hx hy
      have HX : Hid _ := hx
      have HY : Hid _ := hy
      clear hx hy hr
      go_enter Try.func3, Try.ntmps3
      go_wp2_with fail
      refine (signs_true _).mono ?_
      rintro e w1 ⟨rfl, hb1⟩
      go_wp2_with fail
      refine (HX.out _).mono ?_
      rintro e w2 ⟨⟨rfl, hf⟩, hb2⟩
      go_wp2_with fail
      refine (HY.out _).mono ?_
      rintro e w3 ⟨⟨rfl, _⟩, hb3⟩
      have hB : Below w.heap.size w w3 := (hb1.trans (hb2.mono hb1.size)).trans (hb3.mono (Nat.le_trans hb1.size hb2.size))
      clear hb1 hb2 hb3 HX HY
      go_wp2_with fail
      refine (same_err f _ hf).mono ?_
      rintro e w' ⟨rfl, hw⟩
      rw [hw]
      clear hw w'
      go_wp2_with fail
      refine (sameTokens_eq [] 0 0 none none 0 0 w3 (by simp) (World.ownsRow_nil _ _ _ _) (World.ownsRow_nil _ _ _ _)).mono ?_
      rintro e w' ⟨rfl, n, hw⟩
      rw [hw]
      clear hw w'
      go_wp2_with fail
      go_ret
      exact ⟨rfl, below_drewN hB _⟩
end Go.Proofs.Ytplhieahcajjeaa
