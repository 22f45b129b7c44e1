/- graph.reached: what is reached from a list. -/
import Derived.Test.YtienhelohfhhfaaGH
import Derived.Laws.EntriesVeiled
namespace Go.Proofs.Ytienhelohfhhfaa
open Go.RowKit
attribute [local go_sem ↓] Go.wp_at_zero Go.wp_at_succ
open Gr (Ints Lists Bools hide cells On ofN lists onb Graf Dfs Mid Got)
/-- The closure of the search, as a value. -/
def Gr.self (g : Nat) : Value := .func (.func 55) #[] #[.pointer (some ⟨g + 1 + 1, 0, none⟩), .pointer (some ⟨g, 0, none⟩), .pointer (some ⟨g + 1 + 1 + 1, 0, none⟩)]
theorem reach_env (w : World) (M : Gr.Net) (n : Nat) (nv : Value) (hL : Lists w nv (lists M n)) (W : World)
    (hW : W = ((((w.alloc (.cells #[nv] 36)).alloc (.cells (List.replicate n (.bool false)).toArray 4)).alloc (.cells #[.slice (some ⟨w.heap.size + 1, 0, none⟩) n n] 86)).alloc (.cells #[Gr.self w.heap.size] 122))) :
    Gr.Env W (w.heap.size + 1 + 1) w.heap.size (w.heap.size + 1 + 1 + 1) (w.heap.size + 1) n M nv ∧ W.heap[w.heap.size + 1]? = some (.cells (Gr.bits (List.replicate n false)) 4 (0, 0)) ∧ Below w.heap.size w W ∧ w.heap.size + 4 ≤ W.heap.size := by
  have hB : Below w.heap.size w W := by
    rw [hW]
    exact ((((Below.refl _ _).alloc (Nat.le_refl _) _).alloc (by simp) _).alloc (by simp; omega) _).alloc (by simp; omega) _
  refine ⟨⟨?_, ?_, ?_, hL.kept hB (Nat.le_refl _)⟩, ?_, hB, by rw [hW]; simp⟩
  · refine cell_of_one (t := 86) ?_
    rw [hW, heap_alloc_old _ _ (by simp), show w.heap.size + 1 + 1 = ((w.alloc (.cells #[nv] 36)).alloc (.cells (List.replicate n (.bool false)).toArray 4)).heap.size by simp, heap_alloc_new]
  · refine cell_of_one (t := 36) ?_
    rw [hW, heap_alloc_old _ _ (by simp; omega), heap_alloc_old _ _ (by simp; omega), heap_alloc_old _ _ (by simp), heap_alloc_new]
  · refine cell_of_one (t := 122) ?_
    rw [hW, show w.heap.size + 1 + 1 + 1 = (((w.alloc (.cells #[nv] 36)).alloc (.cells (List.replicate n (.bool false)).toArray 4)).alloc (.cells #[.slice (some ⟨w.heap.size + 1, 0, none⟩) n n] 86)).heap.size by simp, heap_alloc_new]
    simp [Gr.self]
  · rw [hW, heap_alloc_old _ _ (by simp), heap_alloc_old _ _ (by simp)]
    rw [show w.heap.size + 1 = (w.alloc (.cells #[nv] 36)).heap.size by simp, heap_alloc_new]
    unfold Gr.bits
    rw [List.map_replicate]
set_option maxRecDepth 100000 in
set_option maxHeartbeats 1000000 in
theorem reached_any (M : Gr.Net) (n : Nat) (nv lv : Value) (lz : List Int) (w : World) (hn : n ≤ 1000) (hlz : lz.length ≤ 1000) (hL : Lists w nv (lists M n)) (hI : Ints w lv lz)
    (hM : ∀ i, i < n → ∀ j ∈ M i, j < n) (hl : ∀ i, i < n → (M i).length ≤ 1000) :
    Calls Try.prog 38 #[lv, nv] w fun e w' => ((∃ x ∈ lz, ¬ (0 ≤ x ∧ x < n)) ∧ e = .returned (.tuple #[.slice none 0 0, .iface 68 (.int .i64 1)]) ∨
      (∀ x ∈ lz, 0 ≤ x ∧ x < n) ∧ ∃ S v, Got M S (lz.map Int.toNat) n ∧ e = .returned (.tuple #[v, .nilIface]) ∧ Ints w' v (ofN (Gr.nums S))) ∧ Below w.heap.size w w' := by
  have hmk := make_bools n hn
  obtain ⟨an, cn, rfl, _⟩ := id hL
  obtain ⟨al, cl, rfl, _⟩ := id hI
  rw [Gr.lists_length] at hL ⊢
  have henv := fun W hW => reach_env w M n (.slice an n cn) hL W hW
  have HENV := hide henv
  have HI := hide hI
  clear henv hI hL
  go_enter Try.func38, Try.ntmps38
  go_wp2_with fail
  go_loopw [16, 9] (fun vi _ wx => ∃ (k : Nat) (S : List Bool), k ≤ lz.length ∧ vi = .int .i64 k ∧ (∀ x ∈ lz.take k, 0 ≤ x ∧ x < n) ∧ Got M S ((lz.take k).map Int.toNat) n ∧ wx.heap[w.heap.size + 1]? = some (.cells (Gr.bits S) 4 (0, 0)) ∧
    Gr.Env wx (w.heap.size + 1 + 1) w.heap.size (w.heap.size + 1 + 1 + 1) (w.heap.size + 1) n M (.slice an n cn) ∧ Below w.heap.size w wx ∧ w.heap.size + 4 ≤ wx.heap.size) (fun vi _ _ => lz.length - (intOf vi).toNat)
  case atStart =>
    obtain ⟨q1, q2, q3, q4⟩ := HENV.out _ rfl
    exact ⟨0, _, Nat.zero_le _, rfl, fun x hx => by simp at hx, Gr.Got.start M n, q2, q1, q3, q4⟩
  case round =>
    obtain ⟨k, S, hk, rfl, hin, hgot, hfx, hEx, hB, hsz⟩ := hrel
    clear HENV hmk
    have e1 := hEx.s
    have e2 := hEx.nx
    have e3 := hEx.r
    by_cases hkl : k < lz.length
    · obtain ⟨y, hy⟩ := getElem_some hkl
      obtain ⟨b2, o2, rfl, cy⟩ : ∃ b2 o2, al = some ⟨b2, o2, none⟩ ∧ wr.cell? ⟨b2, o2 + k, none⟩ = some (.int .i64 y) := by
        obtain ⟨ao', cap', q5, q6⟩ := HI.out.kept hB (Nat.le_refl _)
        simp only [Value.slice.injEq] at q5
        obtain ⟨rfl, _, rfl⟩ := q5
        rcases q6 with q6 | ⟨b2, o2, rfl, q6⟩
        · rw [q6] at hy; simp at hy
        · exact ⟨b2, o2, rfl, q6 k y hy⟩
      have hmem := List.mem_of_getElem? hy
      by_cases hy0 : 0 ≤ y ∧ y < n
      · obtain ⟨z, rfl⟩ : ∃ z : Nat, y = (z : Int) := ⟨y.toNat, by omega⟩
        have hzn : z < n := by omega
        have hc := reach_any (w.heap.size + 1 + 1) w.heap.size (w.heap.size + 1 + 1 + 1) (w.heap.size + 1) n M (.slice an n cn) ⟨by omega, by omega, by omega⟩ hM hl _ wr S z (Nat.le_refl _) hzn hgot.len hfx hEx
        have HC := hide hc
        have HE := hide hEx
        have HB := hide hB
        have HG := hide hgot
        have HIN := hide hin
        have HBB := hide (bits_bool hfx)
        have HY := hide hy
        clear hc hEx hB hgot hin hfx hy hmem
        go_wp2_with (go_at_call 55; refine HC.out.mono ?_; rintro e w2 ⟨rfl, T2, hd2, hf2, hg2⟩)
        go_roundw
        case rel =>
          refine ⟨k + 1, T2, by omega, by go_num, ?_, ?_, hf2, HE.out.kept hg2 ⟨by omega, by omega, by omega⟩ HBB.out, HB.out.grown hg2 (by omega) (fun c hc => by simp at hc; omega), by have := hg2.size; omega⟩
          · rw [take_next HY.out]
            intro x hx
            rcases List.mem_append.1 hx with h | h
            · exact HIN.out x h
            · rw [List.mem_singleton] at h; rw [h]; exact hy0
          · rw [take_next HY.out, List.map_append]
            exact HG.out.step hd2
        case measure => simp [intOf]; omega
      · have HB := hide hB
        have HM := hide hmem
        clear hEx hB hgot hin hfx hmem
        have hcase : y < 0 ∨ (¬ y < 0 ∧ (n : Int) ≤ y) := by omega
        rcases hcase with h1 | ⟨h1, h2⟩
        · go_wp2_with fail
          go_ret2
          exact ⟨.inl ⟨⟨y, HM.out, by omega⟩, rfl⟩, HB.out⟩
        · go_wp2_with fail
          go_ret2
          exact ⟨.inl ⟨⟨y, HM.out, by omega⟩, rfl⟩, HB.out⟩
    · have hkk : k = lz.length := by omega
      subst hkk
      rw [List.take_length] at hin hgot
      have hnum := numbers_any S (.slice (some ⟨w.heap.size + 1, 0, none⟩) n n) wr (by rw [hgot.len]; exact hn) (Gr.Bools.of_bits hfx hgot.len)
      have HNUM := hide hnum
      have HG := hide hgot
      have HIN := hide hin
      have HB := hide hB
      clear hnum hgot hin hB hEx hfx
      go_wp2_with (go_at_call 56; refine HNUM.out.mono ?_; rintro e w2 ⟨⟨v, rfl, hv⟩, hb2⟩)
      go_ret2
      exact ⟨.inr ⟨HIN.out, S, v, HG.out, rfl, hv⟩, HB.out.trans (hb2.mono (by omega))⟩
end Go.Proofs.Ytienhelohfhhfaa
