/- The closure of graph.ready; slices.IndexFunc, slices.ContainsFunc by it. -/
import Derived.Test.YtienhelohfhhfaaGD
namespace Go.Proofs.Ytienhelohfhhfaa
open Go.RowKit
attribute [local go_sem ↓] Go.wp_at_zero Go.wp_at_succ
open Gr (Ints Lists Bools hide cells On)
/-- What the closure captured: a variable that holds the flags. -/
def Gr.Flags (w : World) (B : Nat) (S : List Bool) : Prop := ∃ u, w.cell? ⟨B, 0, none⟩ = some u ∧ Bools w u S
theorem ret_bool {a b : Bool} (h : a = b) : Ending.returned (.bool a) = Ending.returned (.bool b) := by rw [h]
theorem ret_int {a b : Int} (h : a = b) : Ending.returned (.int .i64 a) = Ending.returned (.int .i64 b) := by rw [h]
set_option maxRecDepth 100000 in
theorem waits_any (B : Nat) (S : List Bool) (x : Nat) (w : World) (c : Bool) (hF : Gr.Flags w B S) (hx : S[x]? = some c) :
    Calls Try.prog 52 #[.int .i64 x, .pointer (some ⟨B, 0, none⟩)] w fun e w' => e = .returned (.bool (!c)) ∧ w' = w := by
  have hlt : x < S.length := (List.getElem?_eq_some_iff.1 hx).1
  obtain ⟨u, c0, ao, cap, rfl, hI⟩ := hF
  rcases hI with h0 | ⟨b, off, rfl, hc⟩
  · rw [h0] at hlt; simp at hlt
  have hcell := hc x c hx
  clear hx hc
  go_enter Try.func52, Try.ntmps52
  go_wp2_with fail
  go_ret
  exact ⟨rfl, rfl⟩
set_option maxRecDepth 100000 in
set_option maxHeartbeats 400000 in
theorem indexFunc_any (v : Value) (l : List Nat) (B : Nat) (S : List Bool) (w : World) (hl : l.length ≤ 1000000) (hI : Ints w v (l.map Int.ofNat)) (hF : Gr.Flags w B S) (hx : ∀ x ∈ l, x < S.length) :
    Calls Try.prog 81 #[v, .func (.func 52) #[] #[.pointer (some ⟨B, 0, none⟩)]] w fun e w' => (∃ r : Int, e = .returned (.int .i64 r) ∧ (0 ≤ r ↔ ∃ x ∈ l, ¬ On S x)) ∧ w' = w := by
  obtain ⟨ao, cap, rfl, hI⟩ := hI
  have hlen : (l.map Int.ofNat).length = l.length := by simp
  rw [hlen]
  have HF := hide hF
  clear hF
  go_enter Try.func81, Try.ntmps81
  go_wp2_with fail
  go_loop [8, 5] (fun i _ => ∃ k : Nat, k ≤ l.length ∧ i = .int .i64 k ∧ ∀ x ∈ l.take k, On S x) (fun i _ => l.length - (intOf i).toNat)
  case atStart => exact ⟨0, Nat.zero_le _, rfl, by simp⟩
  case round =>
    obtain ⟨k, hk, rfl, hn⟩ := hrel
    by_cases hlt : k < l.length
    · obtain ⟨y, hy⟩ := getElem_some hlt
      rcases hI with h0 | ⟨b, off, rfl, hc⟩
      · rw [List.map_eq_nil_iff] at h0; rw [h0] at hlt; simp at hlt
      have hcell := hc k (y : Int) (by rw [List.getElem?_map, hy]; rfl)
      have hyl := hx y (List.mem_of_getElem? hy)
      have HN := hide hn
      have HY := hide hy
      clear hn hy hc hx hlen
      by_cases hxy : On S y
      · have hw := waits_any B S y w true HF.out hxy
        go_wp2_with (go_at_call 52; refine hw.mono ?_; rintro e w' ⟨rfl, rfl⟩)
        go_round
        case rel => exact ⟨k + 1, by omega, by go_num, by rw [take_next HY.out]; intro x hx; rcases List.mem_append.1 hx with h | h; exact HN.out x h; rw [List.mem_singleton] at h; rw [h]; exact hxy⟩
        case measure => simp [intOf]; omega
      · have hyf : S[y]? = some false := by
          obtain ⟨z, hz⟩ := getElem_some hyl
          cases z
          · exact hz
          · exact absurd hz hxy
        have hw := waits_any B S y w false HF.out hyf
        go_wp2_with (go_at_call 52; refine hw.mono ?_; rintro e w' ⟨rfl, rfl⟩)
        go_ret
        exact ⟨⟨_, rfl, by have h1 := List.mem_of_getElem? HY.out; constructor; intro _; exact ⟨y, h1, hxy⟩; intro _; omega⟩, rfl⟩
    · have HN := hide hn
      clear hn
      go_wp2_with fail
      go_ret
      refine ⟨⟨_, rfl, ?_⟩, rfl⟩
      have := HN.out
      rw [List.take_of_length_le (by omega)] at this
      constructor
      · intro h; omega
      · rintro ⟨x, h1, h2⟩; exact absurd (this x h1) h2
set_option maxRecDepth 100000 in
theorem containsFunc_any (v : Value) (l : List Nat) (B : Nat) (S : List Bool) (w : World) (hl : l.length ≤ 1000000) (hI : Ints w v (l.map Int.ofNat)) (hF : Gr.Flags w B S) (hx : ∀ x ∈ l, x < S.length) (c : Bool) (hc : c = true ↔ ∃ x ∈ l, ¬ On S x) :
    Calls Try.prog 53 #[v, .func (.func 52) #[] #[.pointer (some ⟨B, 0, none⟩)]] w fun e w' => e = .returned (.bool c) ∧ w' = w := by
  go_enter Try.func53, Try.ntmps53
  go_wp2_with fail
  refine (indexFunc_any v l B S w hl hI hF hx).mono ?_
  rintro e w' ⟨⟨r, rfl, hr⟩, hw⟩
  rw [hw]; clear hw w'
  rw [← hc] at hr
  cases c
  · have : ¬ 0 ≤ r := fun h => absurd (hr.1 h) (by decide)
    clear hr hc
    go_wp2_with fail
    go_ret
    exact ⟨ret_bool (by simp; omega), rfl⟩
  · have : 0 ≤ r := hr.2 rfl
    clear hr hc
    go_wp2_with fail
    go_ret
    exact ⟨ret_bool (by simp), rfl⟩
end Go.Proofs.Ytienhelohfhhfaa
