/- value.spareZero, value.contentFits. -/
import Derived.Test.YtlmkpjdaoinmoaaVE
namespace Go.Proofs.Ytlmkpjdaoinmoaa
open Go.RowKit
namespace V
def spare (k n : Int) (s : ByteArray) (a b : Nat) : Bool :=
  decide ((n = 0 ∨ k = 1 ∨ k = 3) ∧ (s.toList = [] ∨ k = 2) ∧ (a = 0 ∨ k = 4) ∧ (b = 0 ∨ k = 5))
def fits (k n : Int) (s : ByteArray) (r : Bool) : Bool :=
  decide (k = 0 ∨ k = 4 ∨ (k = 1 ∧ -1000000000 ≤ n ∧ n ≤ 1000000000) ∨ (k = 2 ∧ s.size ≤ 40) ∨ (k = 3 ∧ (n = 0 ∨ n = 1)) ∨ (k = 5 ∧ r = true))
end V
set_option maxRecDepth 100000 in
set_option maxHeartbeats 1600000 in
theorem spareZero_any (w : World) (k n : Int) (s : ByteArray) (al af : Option Addr) (a b cl cf : Nat) :
    Calls Try.prog 80 #[.agg #[.int .i64 k, .int .i64 n, .string s, .slice al a cl, .slice af b cf]] w fun e w' => e = .returned (.bool (V.spare k n s a b)) ∧ Below w.heap.size w w' := by
  have hbL : Below w.heap.size w (w.alloc (.cells #[.int .i64 k, .int .i64 n, .string s, .slice al a cl, .slice af b cf] 40)) := (Below.refl _ _).alloc (Nat.le_refl _) _
  go_enter Try.func80, Try.ntmps80
  go_wp2_with fail
  all_goals clear hbL
  all_goals go_ret
  all_goals refine ⟨ret_bool ?_, (Below.refl _ _).alloc (Nat.le_refl _) _⟩
  all_goals unfold V.spare
  all_goals rw [Bool.eq_iff_iff]
  all_goals simp_all
set_option maxRecDepth 100000 in
set_option maxHeartbeats 1600000 in
theorem contentFits_any (m : Nat) (w : World) (k n : Int) (s : ByteArray) (lv fv : Value) (l : List (ByteArray × Val)) (hf : V.Row w fv l.length 6 (fun i c => ∃ x c', l[i]? = some x ∧ c = .string x.1 :: c' ∧ V.Mem m w x.2 c'))
    (hn : ∀ x ∈ l, x.1.size ≤ 2000000) (hlen : l.length ≤ 2000000) (hs : s.size ≤ 2000000) :
    Calls Try.prog 81 #[.agg #[.int .i64 k, .int .i64 n, .string s, lv, fv]] w fun e w' => e = .returned (.bool (V.fits k n s (V.rise l))) ∧ Below w.heap.size w w' := by
  have hbL : Below w.heap.size w (w.alloc (.cells #[.int .i64 k, .int .i64 n, .string s, lv, fv] 40)) := (Below.refl _ _).alloc (Nat.le_refl _) _
  have hR := fun k n : Int => namesRise_any m (w.alloc (.cells #[.int .i64 k, .int .i64 n, .string s, lv, fv] 40)) fv l (hf.kept ((Below.refl _ _).alloc (Nat.le_refl _) _) (fun _ _ ⟨x, c', hx, hc, hm⟩ => ⟨x, c', hx, hc, V.Mem.kept m hm ((Below.refl _ _).alloc (Nat.le_refl _) _)⟩)) hn hlen
  generalize hrr : V.rise l = r at *
  have HR : Hid _ := hR
  clear hR hf hn hrr hbL
  go_enter Try.func81, Try.ntmps81
  go_wp2_with (first | (go_at_call 87; refine (HR.out _ _).mono ?_; rintro e w2 ⟨rfl, n2, rfl⟩))
  all_goals go_ret
  all_goals refine ⟨ret_bool ?_, by first | exact (Below.refl _ _).alloc (Nat.le_refl _) _ | exact below_drewN ((Below.refl _ _).alloc (Nat.le_refl _) _) _⟩
  all_goals unfold V.fits
  all_goals rw [Bool.eq_iff_iff]
  all_goals simp_all
  all_goals omega
end Go.Proofs.Ytlmkpjdaoinmoaa
