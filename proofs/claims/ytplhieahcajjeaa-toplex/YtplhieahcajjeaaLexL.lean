/- SameTokens: two lists of tokens that are held in memory. -/
import Derived.Test.YtplhieahcajjeaaLexH
namespace Go.Proofs.Ytplhieahcajjeaa
open Go.RowKit
theorem flat_get (l : List (Nat × Nat × List UInt8)) : ∀ (k : Nat) (t : Nat × Nat × List UInt8), l[k]? = some t → ∀ j, j < 3 → (l.flatMap Lx.tokCells)[k * 3 + j]? = (Lx.tokCells t)[j]? := by
  induction l with
  | nil => intro k t h; simp at h
  | cons a l ih =>
    intro k t h j hj
    rw [List.flatMap_cons]
    cases k with
    | zero =>
      simp at h; subst h
      rw [Nat.zero_mul, Nat.zero_add, List.getElem?_append_left (by simp [Lx.tokCells]; omega)]
    | succ k =>
      rw [List.getElem?_append_right (by simp [Lx.tokCells]; omega), show (Lx.tokCells a).length = 3 from rfl, show (k + 1) * 3 + j - 3 = k * 3 + j by omega]
      exact ih k t (by simpa using h) j hj
set_option maxRecDepth 100000 in
set_option maxHeartbeats 800000 in
theorem sameTokens_eq (l : List (Nat × Nat × List UInt8)) (b1 b2 : Nat) (a1 a2 : Option Addr) (c1 c2 : Nat) (w : World) (hl : l.length ≤ 100000)
    (h1 : w.ownsRow b1 34 3 (.slice a1 l.length c1) l.length (l.flatMap Lx.tokCells)) (h2 : w.ownsRow b2 34 3 (.slice a2 l.length c2) l.length (l.flatMap Lx.tokCells)) :
    Calls Try.prog 9 #[.slice a1 l.length c1, .slice a2 l.length c2] w fun e w' => e = .returned (.bool true) ∧ ∃ n, w' = w.drewN n := by
  go_enter Try.func9, Try.ntmps9
  go_wp2_with fail
  go_loopw [5] (fun i wr => ∃ k : Nat, k ≤ l.length ∧ i = .int .i64 k ∧ ∃ m, wr = w.drewN m) (fun i _ => l.length - (intOf i).toNat)
  case atStart => exact ⟨0, Nat.zero_le _, rfl, 0, rfl⟩
  case round =>
    obtain ⟨k, hk, rfl, m, rfl⟩ := hrel
    by_cases hlt : k < l.length
    · obtain ⟨g1, cap1, e1, _, _⟩ := h1.form (by omega)
      obtain ⟨g2, cap2, e2, _, _⟩ := h2.form (by omega)
      simp only [Value.slice.injEq] at e1 e2
      obtain ⟨rfl, _, rfl⟩ := e1
      obtain ⟨rfl, _, rfl⟩ := e2
      have hg := List.getElem?_eq_getElem hlt
      have f := flat_get l k l[k] hg
      generalize l[k] = t at *
      have x0 : w.cell? ⟨g1, k * 3, none⟩ = some (.int .i64 t.1) := by rw [h1.cellAt _ (by omega)]; exact f 0 (by omega)
      have x1 : w.cell? ⟨g1, k * 3 + 1, none⟩ = some (.int .i64 t.2.1) := by rw [h1.cellAt _ (by omega)]; exact f 1 (by omega)
      have x2 : w.cell? ⟨g1, k * 3 + 2, none⟩ = some (.string (Lx.str t.2.2)) := by rw [h1.cellAt _ (by omega)]; exact f 2 (by omega)
      have y0 : w.cell? ⟨g2, k * 3, none⟩ = some (.int .i64 t.1) := by rw [h2.cellAt _ (by omega)]; exact f 0 (by omega)
      have y1 : w.cell? ⟨g2, k * 3 + 1, none⟩ = some (.int .i64 t.2.1) := by rw [h2.cellAt _ (by omega)]; exact f 1 (by omega)
      have y2 : w.cell? ⟨g2, k * 3 + 2, none⟩ = some (.string (Lx.str t.2.2)) := by rw [h2.cellAt _ (by omega)]; exact f 2 (by omega)
      have hk0 : (0 : Int) ≤ (k : Int) := by omega
      have hk1 : (k : Int) < (l.length : Int) := by omega
      clear f hg h1 h2
      go_wp2_with fail
      go_quiet (fail)
      go_wp2_with fail
      go_roundw
      case rel => exact ⟨k + 1, by omega, by go_num, _, rfl⟩
      case measure => simp [intOf]; omega
    · clear h1 h2
      go_wp2_with fail
      go_ret
      exact ⟨rfl, m, rfl⟩
end Go.Proofs.Ytplhieahcajjeaa
