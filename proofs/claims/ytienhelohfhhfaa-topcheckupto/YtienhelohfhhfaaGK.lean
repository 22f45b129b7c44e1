/- graph.Order, graph.Under, graph.Over. -/
import Derived.Test.YtienhelohfhhfaaGJ
namespace Go.Proofs.Ytienhelohfhhfaa
open Go.RowKit
attribute [local go_sem ↓] Go.wp_at_zero Go.wp_at_succ
open Gr (Ints Lists Bools hide cells On ofN lists onb Graf wave left Got)
theorem Gr.flat_of (N : Gr.Net) (n k : Nat) : ((List.range k).map (fun j => ofN (wave N n j))).flatten = ofN (Gr.flat N n k) := by
  unfold Gr.flat ofN
  rw [List.map_flatten, List.map_map]; rfl
set_option maxRecDepth 100000 in
theorem order_any (N : Gr.Net) (n b : Nat) (LU : List (List Int)) (w : World) (hn : n ≤ 1000) (hG : Graf w b (lists N n) LU)
    (hN : ∀ i, i < n → ∀ j ∈ N i, j < n) (hl : ∀ i, i < n → (N i).length ≤ 1000) :
    Calls Try.prog 19 #[.pointer (some ⟨b, 0, none⟩)] w fun e w' => (∃ k, Gr.Ends N n k ∧ ((left N n k = 0 ∧ ∃ v, e = .returned (.tuple #[v, .nilIface]) ∧ Ints w' v (ofN (Gr.flat N n k))) ∨
      (left N n k ≠ 0 ∧ ∃ v, e = .returned (.tuple #[v, .iface 68 (.int .i64 8)]) ∧ Ints w' v []))) ∧ Below w.heap.size w w' := by
  have hw := waves_any N n b LU w hn hG hN hl
  have HW := hide hw
  clear hw hG
  go_enter Try.func19, Try.ntmps19
  go_wp2_with fail
  refine HW.out.mono ?_
  rintro e w1 ⟨⟨k, hk, h⟩, hB1⟩
  have hkn := Gr.ends_le N n k hk
  rcases h with ⟨h0, v, rfl, hL⟩ | ⟨h0, rfl⟩
  · have hc := concat_any _ v w1 (by simp; omega) (by
      rw [← Gr.tot_flat, Gr.flat_of, Gr.ofN_length]
      have := Gr.length_flat N n k
      omega) (by
      intro l hl
      obtain ⟨j, hj, rfl⟩ := List.mem_map.1 hl
      have := hk.1 j (List.mem_range.1 hj)
      unfold ofN
      simpa using this) hL
    rw [Gr.flat_of] at hc
    have HC := hide hc
    have HK := hide hk
    have HB := hide hB1
    have H0 := hide h0
    clear hc hk hB1 h0 hL
    go_wp2_with (go_at_call 37; refine HC.out.mono ?_; rintro e w2 ⟨⟨v', rfl, hv⟩, hB2⟩)
    go_ret2
    exact ⟨⟨k, HK.out, .inl ⟨H0.out, _, rfl, hv⟩⟩, HB.out.trans (hB2.mono HB.out.size)⟩
  · have hc := concat_any [] (.slice none 0 0) w1 (by simp) (by simp [Gr.tot]) (by intro l hl; simp at hl) ⟨none, 0, rfl, .inl rfl⟩
    have HC := hide hc
    have HK := hide hk
    have HB := hide hB1
    have H0 := hide h0
    clear hc hk hB1 h0
    go_wp2_with (go_at_call 37; refine HC.out.mono ?_; rintro e w2 ⟨⟨v', rfl, hv⟩, hB2⟩)
    go_ret2
    exact ⟨⟨k, HK.out, .inr ⟨H0.out, _, rfl, hv⟩⟩, HB.out.trans (hB2.mono HB.out.size)⟩
/-- What Under and Over say. -/
def Gr.Found (M : Gr.Net) (n : Nat) (lz : List Int) (w : World) (e : Ending) (w' : World) : Prop :=
  ((∃ x ∈ lz, ¬ (0 ≤ x ∧ x < n)) ∧ e = .returned (.tuple #[.slice none 0 0, .iface 68 (.int .i64 1)]) ∨
      (∀ x ∈ lz, 0 ≤ x ∧ x < n) ∧ ∃ S v, Got M S (lz.map Int.toNat) n ∧ e = .returned (.tuple #[v, .nilIface]) ∧ Ints w' v (ofN (Gr.nums S))) ∧ Below w.heap.size w w'
set_option maxRecDepth 100000 in
theorem under_any (M : Gr.Net) (n b : Nat) (LU : List (List Int)) (lv : Value) (lz : List Int) (w : World) (hn : n ≤ 1000) (hlz : lz.length ≤ 1000) (hG : Graf w b (lists M n) LU) (hI : Ints w lv lz)
    (hM : ∀ i, i < n → ∀ j ∈ M i, j < n) (hl : ∀ i, i < n → (M i).length ≤ 1000) :
    Calls Try.prog 23 #[.pointer (some ⟨b, 0, none⟩), lv] w (Gr.Found M n lz w) := by
  obtain ⟨vn, vu, c0, c1, h1, h2⟩ := hG
  have hr := reached_any M n vn lv lz w hn hlz h1 hI hM hl
  have HR := hide hr
  clear hr h1 h2 hI
  go_enter Try.func23, Try.ntmps23
  go_wp2_with fail
  refine HR.out.mono ?_
  rintro e w1 ⟨h, hB⟩
  rcases h with ⟨h0, rfl⟩ | ⟨h0, S, v, hgot, rfl, hv⟩
  · have H0 := hide h0
    have HB := hide hB
    clear h0 hB
    go_wp2_with fail
    go_ret2
    exact ⟨.inl ⟨H0.out, rfl⟩, HB.out⟩
  · have H0 := hide h0
    have HB := hide hB
    have HG := hide hgot
    have HV := hide hv
    clear h0 hB hgot hv
    go_wp2_with fail
    go_ret2
    exact ⟨.inr ⟨H0.out, S, v, HG.out, rfl, HV.out⟩, HB.out⟩
set_option maxRecDepth 100000 in
theorem over_any (M : Gr.Net) (n b : Nat) (LN : List (List Int)) (lv : Value) (lz : List Int) (w : World) (hn : n ≤ 1000) (hlz : lz.length ≤ 1000) (hG : Graf w b LN (lists M n)) (hI : Ints w lv lz)
    (hM : ∀ i, i < n → ∀ j ∈ M i, j < n) (hl : ∀ i, i < n → (M i).length ≤ 1000) :
    Calls Try.prog 25 #[.pointer (some ⟨b, 0, none⟩), lv] w (Gr.Found M n lz w) := by
  obtain ⟨vn, vu, c0, c1, h1, h2⟩ := hG
  have hr := reached_any M n vu lv lz w hn hlz h2 hI hM hl
  have HR := hide hr
  clear hr h1 h2 hI
  go_enter Try.func25, Try.ntmps25
  go_wp2_with fail
  refine HR.out.mono ?_
  rintro e w1 ⟨h, hB⟩
  rcases h with ⟨h0, rfl⟩ | ⟨h0, S, v, hgot, rfl, hv⟩
  · have H0 := hide h0
    have HB := hide hB
    clear h0 hB
    go_wp2_with fail
    go_ret2
    exact ⟨.inl ⟨H0.out, rfl⟩, HB.out⟩
  · have H0 := hide h0
    have HB := hide hB
    have HG := hide hgot
    have HV := hide hv
    clear h0 hB hgot hv
    go_wp2_with fail
    go_ret2
    exact ⟨.inr ⟨H0.out, S, v, HG.out, rfl, HV.out⟩, HB.out⟩
end Go.Proofs.Ytienhelohfhhfaa
