/- slices.Index, slices.Contains over numbers. -/
import Derived.Test.YtienhelohfhhfaaGB
namespace Go.Proofs.Ytienhelohfhhfaa
open Go.RowKit
attribute [local go_sem ↓] Go.wp_at_zero Go.wp_at_succ
open Gr (Ints Lists Bools hide)
theorem take_next {α : Type} {l : List α} {k : Nat} {x : α} (h : l[k]? = some x) : l.take (k + 1) = l.take k ++ [x] := by
  rw [List.take_add_one, h]; rfl
theorem getElem_some {α : Type} {l : List α} {k : Nat} (h : k < l.length) : ∃ x, l[k]? = some x := ⟨l[k], List.getElem?_eq_getElem h⟩
set_option maxRecDepth 100000 in
set_option maxHeartbeats 400000 in
theorem index_any (v : Value) (l : List Int) (x : Int) (w : World) (hl : l.length ≤ 1000000) (hI : Ints w v l) :
    Calls Try.prog 80 #[v, .int .i64 x] w fun e w' => (∃ r : Int, e = .returned (.int .i64 r) ∧ (0 ≤ r ↔ x ∈ l)) ∧ w' = w := by
  obtain ⟨ao, cap, rfl, hI⟩ := hI
  go_enter Try.func80, Try.ntmps80
  go_wp2_with fail
  go_loop [8, 5] (fun i _ => ∃ k : Nat, k ≤ l.length ∧ i = .int .i64 k ∧ x ∉ l.take k) (fun i _ => l.length - (intOf i).toNat)
  case atStart => exact ⟨0, Nat.zero_le _, rfl, by simp⟩
  case round =>
    obtain ⟨k, hk, rfl, hn⟩ := hrel
    by_cases hlt : k < l.length
    · obtain ⟨y, hy⟩ := getElem_some hlt
      rcases hI with h0 | ⟨b, off, rfl, hc⟩
      · rw [h0] at hlt; simp at hlt
      have hcell := hc k y hy
      have HN := hide hn
      have HY := hide hy
      clear hn hy hc
      by_cases hxy : x = y
      · subst hxy
        go_wp2_with fail
        go_ret
        exact ⟨⟨_, rfl, by have := List.mem_of_getElem? HY.out; simp [this]⟩, rfl⟩
      · go_wp2_with fail
        go_round
        case rel => exact ⟨k + 1, by omega, by go_num, by rw [take_next HY.out]; simp [HN.out, hxy]⟩
        case measure => simp [intOf]; omega
    · have HN := hide hn
      clear hn
      go_wp2_with fail
      go_ret
      exact ⟨⟨_, rfl, by have := HN.out; rw [List.take_of_length_le (by omega)] at this; simp [this]⟩, rfl⟩
set_option maxRecDepth 100000 in
theorem contains_any (v : Value) (l : List Int) (x : Int) (w : World) (hl : l.length ≤ 1000000) (hI : Ints w v l) :
    Calls Try.prog 51 #[v, .int .i64 x] w fun e w' => e = .returned (.bool (decide (x ∈ l))) ∧ w' = w := by
  go_enter Try.func51, Try.ntmps51
  go_wp2_with fail
  refine (index_any v l x w hl hI).mono ?_
  rintro e w' ⟨⟨r, rfl, hr⟩, hw⟩
  rw [hw]; clear hw w'
  by_cases hx : x ∈ l
  · have := hr.2 hx
    go_wp2_with fail
    go_ret
    simp [hx]
  · have : ¬ 0 ≤ r := fun h => hx (hr.1 h)
    go_wp2_with fail
    go_ret
    simp [hx]
end Go.Proofs.Ytienhelohfhhfaa
