/- slices.Grow, slices.Concat over numbers. -/
import Derived.Test.YtienhelohfhhfaaGI
import Derived.Lib.AppendZeros
namespace Go.Proofs.Ytienhelohfhhfaa
open Go.RowKit
attribute [local go_sem ↓] Go.wp_at_zero Go.wp_at_succ
open Gr (Ints Lists Bools hide cells On ofN lists onb Graf)
set_option maxRecDepth 100000 in
set_option maxHeartbeats 400000 in
theorem grow_none (n : Nat) (w : World) (hn : n ≤ 1000000) :
    Calls Try.prog 54 #[.slice none 0 0, .int .i64 n] w fun e w' => (∃ v, e = .returned v ∧ w'.ownsRow w.heap.size 3 1 v 0 []) ∧ Below w.heap.size w w' := by
  by_cases h0 : n = 0
  · subst h0
    go_enter Try.func54, Try.ntmps54
    go_wp2_with fail
    go_ret
    exact ⟨⟨_, rfl, World.ownsRow_nil _ _ _ _⟩, Below.refl _ _⟩
  · obtain ⟨i0, hi0, hz0, hz1, hz2⟩ := info_parts info3
    have hr := Lib.run_append_nil_zeros (P := Try.prog) w 37 3 37 3 i0 (.int .i64 0) .i64 .i64 Try.underlying37 Try.underlying3 hi0 hz0 n (by omega) (by omega) (by omega) (by rw [hz2]; omega)
    have hc1 := grownCap_ge w n 0 3
    have hc2 := grownCap_le_maxLen w n 0 3 (by unfold maxLen; omega)
    generalize grownCap w n 0 3 = cap at *
    have hown : (w.drew.alloc (.cells (Builtin.zeroCells (Value.int .i64 0).cells n ++ Builtin.zeroCells (Value.int .i64 0).cells (cap - n)) 3)).ownsRow w.heap.size 3 1 (.slice (some ⟨w.heap.size, 0, none⟩) 0 cap) 0 [] := by
      refine ⟨rfl, .inr ⟨w.heap.size, cap, _, rfl, Nat.le_refl _, heap_alloc_new w.drew _, Nat.zero_le _, hc2, ?_, by simp⟩⟩
      simp only [Array.size_append, size_zeroCells]
      show n * 1 + (cap - n) * 1 = cap * 1
      omega
    have hB : Below w.heap.size w (w.drew.alloc (.cells (Builtin.zeroCells (Value.int .i64 0).cells n ++ Builtin.zeroCells (Value.int .i64 0).cells (cap - n)) 3)) := (Below.refl _ _).drew.alloc (Nat.le_refl _) _
    generalize w.drew.alloc (.cells (Builtin.zeroCells (Value.int .i64 0).cells n ++ Builtin.zeroCells (Value.int .i64 0).cells (cap - n)) 3) = W at *
    have HOWN := hide hown
    have HB := hide hB
    have HR := hide hr
    clear hown hB hr
    go_enter Try.func54, Try.ntmps54
    go_wp2_with (at_builtin; refine Lib.wpList_append_run _ rfl _ _ _ _ rfl _ _ rfl rfl _ _ HR.out ?_)
    go_ret
    exact ⟨⟨_, rfl, HOWN.out⟩, HB.out⟩
theorem own_shape {w : World} {b e n m : Nat} {v : Value} {xs : List Value} (h : w.ownsRow b e m v n xs) : ∃ ao cap, v = .slice ao n cap := by
  rcases h.2 with ⟨rfl, rfl⟩ | ⟨g, cap, cur, rfl, _⟩
  · exact ⟨none, 0, rfl⟩
  · exact ⟨_, cap, rfl⟩
/-- How long a list of lists is in all. -/
def Gr.tot (L : List (List Int)) : Nat := (L.map List.length).sum
theorem Gr.tot_take {L : List (List Int)} {k : Nat} {l : List Int} (h : L[k]? = some l) : Gr.tot (L.take (k + 1)) = Gr.tot (L.take k) + l.length := by
  unfold Gr.tot; rw [take_next h]; simp
theorem Gr.tot_le (L : List (List Int)) (k : Nat) : Gr.tot (L.take k) ≤ Gr.tot L := by
  have : Gr.tot L = Gr.tot (L.take k) + Gr.tot (L.drop k) := by
    unfold Gr.tot
    rw [← List.sum_append, ← List.map_append, List.take_append_drop]
  omega
theorem Gr.tot_flat (L : List (List Int)) : L.flatten.length = Gr.tot L := by
  unfold Gr.tot; rw [List.length_flatten]
theorem Gr.Lists.get {w : World} {v : Value} {L : List (List Int)} (h : Lists w v L) {i : Nat} {l : List Int} (hi : L[i]? = some l) : ∃ b off cap au cu, v = .slice (some ⟨b, off, none⟩) L.length cap ∧ w.cell? ⟨b, off + i, none⟩ = some (.slice au l.length cu) ∧ Ints w (.slice au l.length cu) l := by
  obtain ⟨ao, cap, rfl, h⟩ := h
  rcases h with h | ⟨b, off, rfl, h⟩
  · rw [h] at hi; simp at hi
  · obtain ⟨u, h1, h2⟩ := h i l hi
    obtain ⟨au, cu, rfl, h3⟩ := id h2
    exact ⟨b, off, cap, au, cu, rfl, h1, h2⟩
theorem cells_one (l : List Int) : ∀ u ∈ cells l, u.oneCell' = true := by
  intro u hu
  unfold cells at hu
  obtain ⟨x, _, rfl⟩ := List.mem_map.1 hu
  rfl
theorem addr_off (b off j : Nat) : (⟨b, off, none⟩ : Addr).add j = ⟨b, off + j, none⟩ := by unfold Addr.add; split <;> simp_all
set_option maxRecDepth 100000 in
set_option maxHeartbeats 1000000 in
theorem concat_any (L : List (List Int)) (v : Value) (w : World) (hL : L.length ≤ 1000) (ht : Gr.tot L ≤ 1000000) (hne : ∀ l ∈ L, l ≠ []) (hI : Lists w v L) :
    Calls Try.prog 37 #[v] w fun e w' => (∃ v', e = .returned v' ∧ Ints w' v' L.flatten) ∧ Below w.heap.size w w' := by
  obtain ⟨i0, hi0, hz0, hz1, hz2⟩ := info_parts info3
  obtain ⟨av, cv, rfl, _⟩ := id hI
  have HI := hide hI
  have HNE := hide hne
  clear hI hne
  go_enter Try.func37, Try.ntmps37
  go_wp2_with fail
  go_loop [11, 3, 5] (fun vi vs _ => ∃ k : Nat, k ≤ L.length ∧ vi = .int .i64 k ∧ vs = .int .i64 (Gr.tot (L.take k))) (fun vi _ _ => L.length - (intOf vi).toNat)
  case atStart => exact ⟨0, Nat.zero_le _, rfl, rfl⟩
  case round =>
    obtain ⟨k, hk, rfl, rfl⟩ := hrel
    by_cases hlt : k < L.length
    · obtain ⟨l, hl⟩ := getElem_some hlt
      obtain ⟨b, off, cap, au, cu, e1, c1, h1⟩ := Gr.Lists.get HI.out hl
      simp only [Value.slice.injEq] at e1
      obtain ⟨rfl, _, rfl⟩ := e1
      have t1 := Gr.tot_take hl
      have t2 := Gr.tot_le L (k + 1)
      have T1 := hide t1
      have hsm : Gr.tot (L.take k) + l.length ≤ 1000000 := by omega
      clear t1 t2 hl h1
      go_wp2_with fail
      go_round
      case rel => exact ⟨k + 1, by omega, by go_num, by rw [T1.out]; go_num⟩
      case measure => simp [intOf]; omega
    · have hkk : k = L.length := by omega
      subst hkk
      rw [List.take_length]
      have hgr := grow_none (Gr.tot L) w ht
      have HGR := hide hgr
      clear hgr
      go_wp2_with (go_at_call 54; refine HGR.out.mono ?_; rintro e w1 ⟨⟨v0, rfl, hown1⟩, hB1⟩; obtain ⟨ao1, cap1, rfl⟩ := own_shape hown1; have HO1 := hide hown1; have HB1 := hide hB1; clear hown1 hB1)
      go_loopw [27, 6, 8] (fun vi vs _ wx => ∃ (k : Nat) (ao : Option Addr) (cap : Nat), k ≤ L.length ∧ vi = .int .i64 k ∧ vs = .slice ao (Gr.tot (L.take k)) cap ∧ wx.ownsRow w.heap.size 3 1 (.slice ao (Gr.tot (L.take k)) cap) (Gr.tot (L.take k)) (cells (L.take k).flatten) ∧ Below w.heap.size w wx) (fun vi _ _ _ => L.length - (intOf vi).toNat)
      case atStart => exact ⟨0, ao1, cap1, Nat.zero_le _, rfl, rfl, HO1.out, HB1.out⟩
      case round =>
        obtain ⟨k, ao, cap, hk, rfl, rfl, hown, hB⟩ := hrel
        have hBs := hB.size
        by_cases hlt : k < L.length
        · obtain ⟨l, hl⟩ := getElem_some hlt
          obtain ⟨b, off, cap2, au, cu, e1, c1, h1⟩ := Gr.Lists.get (HI.out.kept hB (Nat.le_refl _)) hl
          simp only [Value.slice.injEq] at e1
          obtain ⟨rfl, _, rfl⟩ := e1
          have hlne := HNE.out l (List.mem_of_getElem? hl)
          have hlp : 0 < l.length := List.length_pos_iff.2 hlne
          obtain ⟨bl, ol, rfl, hcl⟩ : ∃ bl ol, au = some ⟨bl, ol, none⟩ ∧ ∀ j u, (cells l)[j]? = some u → wr.cell? ((⟨bl, ol, none⟩ : Addr).add j) = some u := by
            obtain ⟨a', c', q5, q6⟩ := h1
            simp only [Value.slice.injEq] at q5
            obtain ⟨rfl, _, rfl⟩ := q5
            rcases q6 with q6 | ⟨b2, o2, rfl, q6⟩
            · exact absurd q6 hlne
            · refine ⟨b2, o2, rfl, fun j u hu => ?_⟩
              unfold cells at hu
              rw [List.getElem?_map] at hu
              obtain ⟨x, hx, rfl⟩ := Option.map_eq_some_iff.1 hu
              rw [addr_off]; exact q6 j x hx
          have t1 := Gr.tot_take hl
          have t2 := Gr.tot_le L (k + 1)
          have hsm : Gr.tot (L.take k) + l.length ≤ 1000000 := by omega
          have T1 := hide t1
          have HL := hide hl
          have HOW := hide hown
          have HB := hide hB
          have HCL := hide hcl
          clear t1 t2 hl h1 hown hB hcl HGR HO1 HB1
          go_wp2_with (at_builtin; go_must (refine wpList_append_lies _ rfl (.tmp 31) (.tmp 32) 37 rfl w.heap.size 3 i0 (.int .i64 0) 1 8 Try.underlying37 hi0 hz0 hz1 hz2 rfl (by decide) (.slice ao (Gr.tot (L.take k)) cap) (Gr.tot (L.take k)) (cells (L.take k).flatten) rfl HOW.out ⟨bl, ol, none⟩ l.length cu (cells l) rfl (by rw [Gr.cells_length, Nat.mul_one]) HCL.out (cells_one l) hlp (by unfold maxLen; omega) (by omega) (by omega) _ rfl ?_); intro g cap' w4 hown4 hgrow hat hlt4)
          go_roundw
          case rel =>
            have e2 : (L.take (k + 1)).flatten = (L.take k).flatten ++ l := by rw [take_next HL.out]; simp
            refine ⟨k + 1, some ⟨g, 0, none⟩, cap', by omega, by go_num, by rw [T1.out], ?_, HB.out.grown hgrow (by omega) (fun c hc => (HOW.out.lt c hc).1)⟩
            rw [e2, T1.out, Gr.cells_append]; exact hown4
          case measure => simp [intOf]; omega
        · have hkk : k = L.length := by omega
          subst hkk
          rw [List.take_length] at hown ⊢
          have HOW := hide hown
          have HB := hide hB
          clear hown hB
          go_wp2_with fail
          go_ret
          refine ⟨⟨_, rfl, ?_⟩, HB.out⟩
          refine Ints.of_owns (base := w.heap.size) (e := 3) ?_
          rw [Gr.tot_flat]; exact HOW.out
end Go.Proofs.Ytienhelohfhhfaa
