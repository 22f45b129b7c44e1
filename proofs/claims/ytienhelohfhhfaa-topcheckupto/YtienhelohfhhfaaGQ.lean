/- The document's SameNumbers, SameLists and Flat. -/
import Derived.Test.YtienhelohfhhfaaGO
namespace Go.Proofs.Ytienhelohfhhfaa
open Go.RowKit
attribute [local go_sem ↓] Go.wp_at_zero Go.wp_at_succ
open Gr (Ints Lists Bools hide cells On ofN lists onb Graf Got Rch left D)
/-- Numbers, read at one place. -/
theorem Gr.Ints.at {w : World} {ao : Option Addr} {n cap : Nat} {l : List Int} (h : Ints w (.slice ao n cap) l) {i : Nat} {x : Int} (hx : l[i]? = some x) : ∃ b off, ao = some ⟨b, off, none⟩ ∧ w.cell? ⟨b, off + i, none⟩ = some (.int .i64 x) := by
  obtain ⟨ao', cap', q5, q6⟩ := h
  simp only [Value.slice.injEq] at q5
  obtain ⟨rfl, _, rfl⟩ := q5
  rcases q6 with q6 | ⟨b, off, rfl, q6⟩
  · rw [q6] at hx; simp at hx
  · exact ⟨b, off, rfl, q6 i x hx⟩
set_option maxRecDepth 100000 in
set_option maxHeartbeats 1000000 in
theorem sameNumbers_eq (l : List Int) (a b : Value) (w : World) (hl : l.length ≤ 1000000) (ha : Ints w a l) (hb : Ints w b l) :
    Calls Try.prog 21 #[a, b] w fun e w' => e = .returned (.bool true) ∧ Below w.heap.size w w' := by
  obtain ⟨aa, ca, rfl, _⟩ := id ha
  obtain ⟨ab, cb, rfl, _⟩ := id hb
  have HA := hide ha
  have HB := hide hb
  clear ha hb
  go_enter Try.func21, Try.ntmps21
  go_wp2_with fail
  go_loopw [5] (fun vi wx => ∃ i : Nat, i ≤ l.length ∧ vi = .int .i64 i ∧ Below w.heap.size w wx) (fun vi _ => l.length - (intOf vi).toNat)
  case atStart => exact ⟨0, Nat.zero_le _, rfl, Below.refl _ _⟩
  case round =>
    obtain ⟨i, hi, rfl, hBx⟩ := hrel
    by_cases hlt : i < l.length
    · obtain ⟨x, hx⟩ := getElem_some hlt
      obtain ⟨b1, o1, rfl, c1⟩ := (HA.out.kept hBx (Nat.le_refl _)).at hx
      obtain ⟨b2, o2, rfl, c2⟩ := (HB.out.kept hBx (Nat.le_refl _)).at hx
      have HBX := hide hBx
      clear hBx hx
      go_wp2_with fail
      go_region_held3 (fun W' => W'.cell? ⟨b1, o1 + i, none⟩ = some (.int .i64 x) ∧ W'.cell? ⟨b2, o2 + i, none⟩ = some (.int .i64 x)) (go_keep) (fail)
      all_goals
        go_wp2_with fail
        go_roundw
        case rel => exact ⟨i + 1, by omega, by go_num, HBX.out.drew⟩
        case measure => simp [intOf]; omega
    · have HBX := hide hBx
      clear hBx
      go_wp2_with fail
      go_ret
      exact ⟨rfl, HBX.out⟩
set_option maxRecDepth 100000 in
set_option maxHeartbeats 1000000 in
theorem sameLists_eq (L : List (List Int)) (a b : Value) (w : World) (hL : L.length ≤ 1000000) (hl : ∀ l ∈ L, l.length ≤ 1000000) (ha : Lists w a L) (hb : Lists w b L) :
    Calls Try.prog 20 #[a, b] w fun e w' => e = .returned (.bool true) ∧ Below w.heap.size w w' := by
  obtain ⟨aa, ca, rfl, _⟩ := id ha
  obtain ⟨ab, cb, rfl, _⟩ := id hb
  have HA := hide ha
  have HB := hide hb
  have HLL := hide hl
  clear ha hb hl
  go_enter Try.func20, Try.ntmps20
  go_wp2_with fail
  go_loopw [5, 6] (fun vi _ wx => ∃ i : Nat, i ≤ L.length ∧ vi = .int .i64 i ∧ Below w.heap.size w wx) (fun vi _ _ => L.length - (intOf vi).toNat)
  case atStart => exact ⟨0, Nat.zero_le _, rfl, Below.refl _ _⟩
  case round =>
    obtain ⟨i, hi, rfl, hBx⟩ := hrel
    by_cases hlt : i < L.length
    · obtain ⟨l, hl⟩ := getElem_some hlt
      obtain ⟨b1, o1, c1, au, cu, e1, d1, h1⟩ := Gr.Lists.get (HA.out.kept hBx (Nat.le_refl _)) hl
      obtain ⟨b2, o2, c2, av, cv, e2, d2, h2⟩ := Gr.Lists.get (HB.out.kept hBx (Nat.le_refl _)) hl
      simp only [Value.slice.injEq] at e1 e2
      obtain ⟨rfl, _, rfl⟩ := e1
      obtain ⟨rfl, _, rfl⟩ := e2
      have HBX := hide hBx
      have HS := hide (fun (w2 : World) (hb2 : Below wr.heap.size wr w2) => sameNumbers_eq l _ _ w2 (HLL.out l (List.mem_of_getElem? hl)) (h1.kept hb2 (Nat.le_refl _)) (h2.kept hb2 (Nat.le_refl _)))
      have hsz : w.heap.size ≤ wr.heap.size := hBx.size
      have hd0 : Below wr.heap.size wr wr.drew := (Below.refl _ _).drew
      clear hBx hl h1 h2
      go_wp2_with fail
      go_region_held3 (fun W' => W'.cell? ⟨b1, o1 + i, none⟩ = some (.slice au l.length cu) ∧ W'.cell? ⟨b2, o2 + i, none⟩ = some (.slice av l.length cv) ∧ Below wr.heap.size wr W') (first | exact ⟨d1, d2, hd0⟩ | exact ⟨t1, t2, t3⟩ | go_keep)
        (first | (go_at_call 21; (with_reducible refine Calls.mono (HS.out _ ?_) ?_); assumption; rintro e w2 ⟨rfl, hb2⟩; have t3 := hd0.trans (hb2.mono (Nat.le_refl _)); have t1 := Gr.cell_kept t3 (Nat.le_refl _) d1; have t2 := Gr.cell_kept t3 (Nat.le_refl _) d2))
      all_goals
        go_wp2_with fail
        go_roundw
        case rel => exact ⟨i + 1, by omega, by go_num, HBX.out.trans (t3.mono hsz)⟩
        case measure => simp [intOf]; omega
    · have HBX := hide hBx
      clear hBx
      go_wp2_with fail
      go_ret
      exact ⟨rfl, HBX.out⟩
set_option maxRecDepth 100000 in
set_option maxHeartbeats 1000000 in
theorem flat_any (L : List (List Int)) (v : Value) (w : World) (hL : L.length ≤ 1000) (ht : Gr.tot L ≤ 1000000) (hne : ∀ l ∈ L, l ≠ []) (hI : Lists w v L) :
    Calls Try.prog 22 #[v] w fun e w' => (∃ v', e = .returned v' ∧ Ints w' v' L.flatten) ∧ Below w.heap.size w w' := by
  obtain ⟨i0, hi0, hz0, hz1, hz2⟩ := info_parts info3
  obtain ⟨av, cv, rfl, _⟩ := id hI
  have HI := hide hI
  have HNE := hide hne
  clear hI hne
  go_enter Try.func22, Try.ntmps22
  go_wp2_with fail
  go_loopw [4, 3] (fun vi vs wx => ∃ (k : Nat) (ao : Option Addr) (cap : Nat), k ≤ L.length ∧ vi = .int .i64 k ∧ vs = .slice ao (Gr.tot (L.take k)) cap ∧ wx.ownsRow w.heap.size 3 1 (.slice ao (Gr.tot (L.take k)) cap) (Gr.tot (L.take k)) (cells (L.take k).flatten) ∧ Below w.heap.size w wx) (fun vi _ _ => L.length - (intOf vi).toNat)
  case atStart => exact ⟨0, none, 0, Nat.zero_le _, rfl, rfl, World.ownsRow_nil _ _ _ _, Below.refl _ _⟩
  case round =>
    obtain ⟨k, ao, cap, hk, rfl, rfl, hown, hB⟩ := hrel
    have hBs := hB.size
    by_cases hlt : k < L.length
    · obtain ⟨l, hl⟩ := getElem_some hlt
      obtain ⟨b, off, cap2, au, cu, e1, c1, h1⟩ := Gr.Lists.get (HI.out.kept hB (Nat.le_refl _)) hl
      simp only [Value.slice.injEq] at e1
      obtain ⟨rfl, _, rfl⟩ := e1
      have hlne := HNE.out l (List.mem_of_getElem? hl)
      have hlp : 0 < l.length := List.length_pos_iff.2 hlne
      obtain ⟨bl, ol, rfl, hcl⟩ : ∃ bl ol, au = some ⟨bl, ol, none⟩ ∧ ∀ j u, (cells l)[j]? = some u → wr.cell? ((⟨bl, ol, none⟩ : Addr).add j) = some u := by
        obtain ⟨a', c', q5, q6⟩ := h1
        simp only [Value.slice.injEq] at q5
        obtain ⟨rfl, _, rfl⟩ := q5
        rcases q6 with q6 | ⟨b2, o2, rfl, q6⟩
        · exact absurd q6 hlne
        · refine ⟨b2, o2, rfl, fun j u hu => ?_⟩
          unfold cells at hu
          rw [List.getElem?_map] at hu
          obtain ⟨x, hx, rfl⟩ := Option.map_eq_some_iff.1 hu
          rw [addr_off]; exact q6 j x hx
      have t1 := Gr.tot_take hl
      have t2 := Gr.tot_le L (k + 1)
      have hsm : Gr.tot (L.take k) + l.length ≤ 1000000 := by omega
      have T1 := hide t1
      have HL := hide hl
      have HOW := hide hown
      have HB := hide hB
      have HCL := hide hcl
      clear t1 t2 hl h1 hown hB hcl
      go_wp2_with (at_builtin; go_must (refine wpList_append_lies _ rfl (.tmp 11) (.tmp 15) 37 rfl w.heap.size 3 i0 (.int .i64 0) 1 8 Try.underlying37 hi0 hz0 hz1 hz2 rfl (by decide) (.slice ao (Gr.tot (L.take k)) cap) (Gr.tot (L.take k)) (cells (L.take k).flatten) rfl HOW.out ⟨bl, ol, none⟩ l.length cu (cells l) rfl (by rw [Gr.cells_length, Nat.mul_one]) HCL.out (cells_one l) hlp (by unfold maxLen; omega) (by omega) (by omega) _ rfl ?_); intro g cap' w4 hown4 hgrow hat hlt4)
      go_roundw
      case rel =>
        have e2 : (L.take (k + 1)).flatten = (L.take k).flatten ++ l := by rw [take_next HL.out]; simp
        refine ⟨k + 1, some ⟨g, 0, none⟩, cap', by omega, by go_num, by rw [T1.out], ?_, HB.out.grown hgrow (by omega) (fun c hc => (HOW.out.lt c hc).1)⟩
        rw [e2, T1.out, Gr.cells_append]; exact hown4
      case measure => simp [intOf]; omega
    · have hkk : k = L.length := by omega
      subst hkk
      rw [List.take_length] at hown ⊢
      have HOW := hide hown
      have HB := hide hB
      clear hown hB
      go_wp2_with fail
      go_ret
      refine ⟨⟨_, rfl, ?_⟩, HB.out⟩
      refine Ints.of_owns (base := w.heap.size) (e := 3) ?_
      rw [Gr.tot_flat]; exact HOW.out
end Go.Proofs.Ytienhelohfhhfaa
