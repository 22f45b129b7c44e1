/- TopGraph's own walk. -/
import Derived.Test.YtienhelohfhhfaaGN
namespace Go.Proofs.Ytienhelohfhhfaa
open Go.RowKit
attribute [local go_sem ↓] Go.wp_at_zero Go.wp_at_succ
open Gr (Ints Lists Bools hide cells On ofN lists onb Graf Got Rch left D)
theorem info3n (n : Nat) (hn : n ≤ 1000) (w : World) : (Instr.makeSlice 37 (.int .i64 (n : Int)) (.int .i64 (n : Int))).run Try.prog w = .ok (.slice (some ⟨w.heap.size, 0, none⟩) n n) (w.alloc (.cells (List.replicate n (.int .i64 0)).toArray 3)) := by
  obtain ⟨i0, hi0, hz0, hz1, hz2⟩ := info_parts info3
  have := run_make (P := Try.prog) w 37 3 i0 (.int .i64 0) Try.underlying37 hi0 hz0 .i64 .i64 n n (by omega) (by omega) (by rw [hz2]; omega) (by omega)
  rw [this, hz1, Int.toNat_natCast, Nat.mul_one, made_one _ rfl]
/-- The closed list [[0]]. -/
theorem one_lists (w : World) : Lists ((w.alloc (.cells #[.int .i64 0] 3)).alloc (.cells #[.slice (some ⟨w.heap.size, 0, none⟩) 1 1] 37)) (.slice (some ⟨w.heap.size + 1, 0, none⟩) 1 1) [[0]] := by
  refine ⟨_, _, rfl, .inr ⟨w.heap.size + 1, 0, rfl, fun i l hl => ?_⟩⟩
  have hi : i = 0 := by have := (List.getElem?_eq_some_iff.1 hl).1; simp at this; exact this
  subst hi
  cases hl
  refine ⟨.slice (some ⟨w.heap.size, 0, none⟩) 1 1, ?_, _, _, rfl, .inr ⟨w.heap.size, 0, rfl, fun j x hx => ?_⟩⟩
  · refine cell_of_one (t := 37) ?_
    rw [show w.heap.size + 1 = (w.alloc (.cells #[.int .i64 0] 3)).heap.size by simp, heap_alloc_new]
  · have hj : j = 0 := by have := (List.getElem?_eq_some_iff.1 hx).1; simp at this; exact this
    subst hj
    cases hx
    refine cell_of_one (t := 3) ?_
    rw [heap_alloc_old _ _ (by simp), heap_alloc_new]
theorem one_left (N U : Gr.Net) (h : Gr.Net2 [[0]] 1 N U) (k : Nat) : left N 1 k ≠ 0 := by
  have hD : ∀ k, D N k 0 = false := by
    intro k
    induction k with
    | zero => rfl
    | succ k ih =>
      rw [Gr.D_succ, List.all_eq_false]
      exact ⟨0, (h.mn 0 (by omega) 0).2 (by simp [Gr.row]), by rw [ih]; decide⟩
  intro h0
  have := Gr.left_done N 1 k h0 0 (by omega)
  rw [hD k] at this
  exact absurd this (by decide)
theorem idx_at {O : List Nat} {p y : Nat} (h : O.Nodup) (hp : O[p]? = some y) : O.idxOf y = p := by
  induction O generalizing p with
  | nil => simp at hp
  | cons a t ih =>
    rw [List.nodup_cons] at h
    cases p with
    | zero =>
      have : a = y := by simpa using hp
      subst this
      exact List.idxOf_cons_self
    | succ p =>
      have hp' : t[p]? = some y := by simpa using hp
      have hne : a ≠ y := fun e => h.1 (by rw [e]; exact List.mem_of_getElem? hp')
      rw [List.idxOf_cons, show (a == y) = false from beq_eq_false_iff_ne.2 hne, ih h.2 hp']; rfl
theorem not_before {O : List Nat} {p y : Nat} (h : O.Nodup) (hp : O[p]? = some y) : y ∉ O.take p := by
  intro hm
  obtain ⟨q, hq, e⟩ := List.getElem_of_mem hm
  have hq1 : q < p := by simp at hq; omega
  have h1 : O[q]? = some y := by
    rw [List.getElem_take] at e
    rw [List.getElem?_eq_getElem (by simp at hq; omega), e]
  have := idx_at h h1
  have := idx_at h hp
  omega
/-- Where a stands, if it is among the first p. -/
def Gr.spot (O : List Nat) (p a : Nat) : Int := if a ∈ O.take p then (O.idxOf a : Int) else -1
theorem Gr.spot_next {O : List Nat} {p y : Nat} (h : O.Nodup) (hp : O[p]? = some y) (a : Nat) : Gr.spot O (p + 1) a = if a = y then (p : Int) else Gr.spot O p a := by
  have hm : a ∈ O.take (p + 1) ↔ (a ∈ O.take p ∨ a = y) := by rw [take_next hp]; simp
  unfold Gr.spot
  by_cases e : a = y
  · subst e; rw [if_pos (hm.2 (.inr rfl)), if_pos rfl, idx_at h hp]
  · rw [if_neg e]
    by_cases h2 : a ∈ O.take p
    · rw [if_pos (hm.2 (.inl h2)), if_pos h2]
    · rw [if_neg (fun h3 => (hm.1 h3).elim h2 e), if_neg h2]
set_option maxRecDepth 100000 in
set_option maxHeartbeats 4000000 in
theorem topGraph_true (NZ : List (List Int)) (v : Value) (w : World) (hL : Lists w v NZ) :
    Calls Try.prog 6 #[v] w fun e w' => e = .returned (.bool true) ∧ Below w.heap.size w w' := by
  have hmk := info3n NZ.length
  have hone := one_lists w
  have hb0 : Below w.heap.size w ((w.alloc (.cells #[.int .i64 0] 3)).alloc (.cells #[.slice (some ⟨w.heap.size, 0, none⟩) 1 1] 37)) := ((Below.refl _ _).alloc (Nat.le_refl _) _).alloc (by simp) _
  have hnew := new_any [[0]] _ _ hone (by simp [Gr.tot])
  obtain ⟨av, cv, rfl, _⟩ := id hL
  have HL := hide hL
  have HB0 := hide hb0
  have HNEW := hide hnew
  have HMK := hide hmk
  clear hL hone hb0 hnew hmk
  go_enter Try.func6, Try.ntmps6
  go_wp2_with fail
  refine HNEW.out.mono ?_
  rintro e w1 ⟨hc, hB1⟩
  rcases hc with ⟨hbad, _⟩ | ⟨_, ⟨a, x, ha, hx, hbad⟩, _⟩ | ⟨_, _, b1, N1, U1, hN1, hG1, rfl⟩
  · simp at hbad
  · exfalso
    have ha0 : a = 0 := by simp at ha; exact ha
    subst ha0
    have : x = 0 := by simpa [Gr.row] using hx
    subst this
    exact hbad (by simp)
  have hB1w : Below w.heap.size w w1 := HB0.out.trans (hB1.mono (by simp; omega))
  have hwv := waves_any N1 1 b1 _ w1 (by omega) hG1 hN1.bn (fun i hi => by have := hN1.ln i hi; have : (Gr.row [[0]] i).length ≤ 1 := (by have : i = 0 := (by omega); subst this; simp [Gr.row]); omega)
  have HWV := hide hwv
  have HN1 := hide hN1
  have HB1 := hide hB1w
  clear hwv hN1 hG1 hB1 hB1w HB0 HNEW
  go_wp2_with (go_at_call 17; refine HWV.out.mono ?_; rintro e w2 ⟨⟨k2, _, hc2⟩, hB2⟩; rcases hc2 with ⟨hl0, _⟩ | ⟨_, rfl⟩; (exact absurd hl0 (one_left N1 U1 HN1.out k2)); have HB2 := hide (HB1.out.trans (hB2.mono HB1.out.size)); clear hB2)
  refine (number_err 8 w2).mono ?_
  rintro e w2' ⟨rfl, hw⟩
  rw [hw]; clear hw w2' HWV HN1 HB1
  have hli := light_any NZ (.slice av NZ.length cv) w2 (HL.out.kept HB2.out (Nat.le_refl _))
  have HLI := hide hli
  clear hli
  go_wp2_with fail
  refine HLI.out.mono ?_
  rintro e w2' ⟨⟨bL, rfl, hlight⟩, hw⟩
  rw [hw]; clear hw w2' HLI
  have HLG := hide hlight
  clear hlight
  cases bL
  · go_wp2_with fail
    go_ret
    exact ⟨rfl, HB2.out⟩
  by_cases h64 : 64 < NZ.length
  · go_wp2_with fail
    go_ret
    exact ⟨rfl, HB2.out⟩
  have hlg := HLG.out rfl
  have hnw := new_any NZ (.slice av NZ.length cv) w2 (HL.out.kept HB2.out (Nat.le_refl _)) (by omega)
  have HNW := hide hnw
  clear hnw
  have hrl : ∀ a, a < NZ.length → (Gr.row NZ a).length ≤ 100 := by
    intro a ha
    obtain ⟨l, hl⟩ := getElem_some ha
    rw [Gr.row_some hl]
    exact hlg.2.2 l (List.mem_of_getElem? hl)
  have HRL := hide hrl
  clear hrl HLG hlg
  go_wp2_with fail
  refine HNW.out.mono ?_
  rintro e w3 ⟨hc3, hB3⟩
  have HB3 := hide (HB2.out.trans (hB3.mono HB2.out.size))
  clear hB3 HNW
  rcases hc3 with ⟨hbad, _⟩ | ⟨_, _, rfl⟩ | ⟨_, hok, b, N, U, hN, hG, rfl⟩
  · omega
  · go_wp2_with fail
    refine (number_err 1 w3).mono ?_
    rintro e w3' ⟨rfl, hw⟩
    rw [hw]; clear hw w3'
    go_wp2_with fail
    go_ret
    exact ⟨rfl, HB3.out⟩
  have hod := order_any N NZ.length b _ w3 (by omega) hG hN.bn (fun i hi => by have h3 := hN.ln i hi; have h4 := HRL.out i hi; omega)
  have HOD := hide hod
  have HN := hide hN
  have HOK := hide hok
  have HG := hide hG
  clear hod hN hok hG
  go_wp2_with fail
  refine HOD.out.mono ?_
  rintro e w4 ⟨⟨k, hk, hc4⟩, hB4⟩
  have HB4 := hide (HB3.out.trans (hB4.mono HB3.out.size))
  have HG4 := hide (HG.out.kept hB4 (Nat.le_refl _))
  have HK := hide hk
  clear hB4 HOD hk
  have hmk := HMK.out (by omega)
  obtain ⟨err, vo, O, hO, rfl, hcase⟩ : ∃ (err vo : Value) (O : List Nat), Ints w4 vo (ofN O) ∧ e = .returned (.tuple #[vo, err]) ∧ ((err = .nilIface ∧ left N NZ.length k = 0 ∧ O = Gr.flat N NZ.length k) ∨ (err = .iface 68 (.int .i64 8) ∧ left N NZ.length k ≠ 0 ∧ O = [])) := by
    rcases hc4 with ⟨h0, vo, rfl, hO⟩ | ⟨h0, vo, rfl, hO⟩
    · exact ⟨.nilIface, vo, _, hO, rfl, .inl ⟨rfl, h0, rfl⟩⟩
    · exact ⟨_, vo, [], hO, rfl, .inr ⟨rfl, h0, rfl⟩⟩
  clear hc4
  have hOn : O.Nodup := by
    rcases hcase with ⟨_, _, rfl⟩ | ⟨_, _, rfl⟩
    · exact Gr.nodup_flat N NZ.length k
    · exact List.nodup_nil
  have hOl : ∀ x ∈ O, x < NZ.length := by
    intro x hx
    rcases hcase with ⟨_, _, rfl⟩ | ⟨_, _, rfl⟩
    · exact (Gr.mem_flat.1 hx).1
    · simp at hx
  have hOlen : O.length ≤ NZ.length := by
    rcases hcase with ⟨_, _, rfl⟩ | ⟨_, _, rfl⟩
    · have := Gr.length_flat N NZ.length k; omega
    · simp
  obtain ⟨ao, co, rfl, _⟩ := id hO
  rw [Gr.ofN_length] at hO ⊢
  have HO := hide hO
  have HON := hide hOn
  have HOL := hide hOl
  have HCASE := hide hcase
  clear hO hOn hOl hcase
  have hP0 : ((w4.alloc (.cells (List.replicate NZ.length (.int .i64 0)).toArray 3))).heap[w4.heap.size]? = some (.cells (cells (List.replicate NZ.length 0)).toArray 3 (0, 0)) := by
    rw [heap_alloc_new]; unfold cells; rw [List.map_replicate]
  have hBP : Below w4.heap.size w4 (w4.alloc (.cells (List.replicate NZ.length (.int .i64 0)).toArray 3)) := (Below.refl _ _).alloc (Nat.le_refl _) _
  have HP0 := hide hP0
  have HBP := hide hBP
  clear hP0 hBP
  go_wp2_with fail
  go_loopw [10] (fun vi wx => ∃ (i : Nat) (pl : List Int), i ≤ NZ.length ∧ vi = .int .i64 i ∧ pl.length = NZ.length ∧ (∀ a, a < i → pl[a]? = some (-1)) ∧ wx.heap[w4.heap.size]? = some (.cells (cells pl).toArray 3 (0, 0)) ∧ Below w4.heap.size w4 wx) (fun vi _ => NZ.length - (intOf vi).toNat)
  case atStart => exact ⟨0, _, Nat.zero_le _, rfl, by simp, fun a ha => absurd ha (by omega), HP0.out, HBP.out⟩
  case round =>
    obtain ⟨i, pl, hi, rfl, hpl, hpa, hpx, hBx⟩ := hrel
    clear HP0 HBP hmk HMK
    by_cases hlt : i < NZ.length
    · obtain ⟨y, hy⟩ := getElem_some (l := pl) (k := i) (by omega)
      have cp : wr.cell? ⟨w4.heap.size, i, none⟩ = some (.int .i64 y) := Gr.row_cell (V := cells pl) hpx (by unfold cells; rw [List.getElem?_map, hy]; rfl)
      have fp : wr.frozen? ⟨w4.heap.size, i, none⟩ = false := Gr.row_free (V := cells pl) hpx
      have HPX := hide hpx
      have HBX := hide hBx
      have HPA := hide hpa
      clear hpx hBx hpa hy
      go_wp2_with fail
      go_roundw
      case rel =>
        refine ⟨i + 1, pl.set i (-1), by omega, by go_num, by simp [hpl], ?_, ?_, HBX.out.setCell (p := ⟨w4.heap.size, i, none⟩) (Nat.le_refl _) _⟩
        · intro a ha
          by_cases e : a = i
          · subst e; exact List.getElem?_set_self (by omega)
          · rw [List.getElem?_set_ne (Ne.symm e)]; exact HPA.out a (by omega)
        · rw [Gr.row_set (V := cells pl) (.int .i64 (-1)) HPX.out]
          unfold cells; rw [List.map_set]
      case measure => simp [intOf]; omega
    · have hii : i = NZ.length := by omega
      subst hii
      have HPX := hide hpx
      have HBX := hide hBx
      have HPA := hide hpa
      have HPL := hide hpl
      clear hpx hBx hpa hpl
      go_wp2_with fail
      go_loopw [11] (fun vi wx => ∃ (p : Nat) (pl : List Int), p ≤ O.length ∧ vi = .int .i64 p ∧ pl.length = NZ.length ∧ (∀ a, a < NZ.length → pl[a]? = some (Gr.spot O p a)) ∧ wx.heap[w4.heap.size]? = some (.cells (cells pl).toArray 3 (0, 0)) ∧ Below w4.heap.size w4 wx) (fun vi _ => O.length - (intOf vi).toNat)
      case atStart => exact ⟨0, pl, Nat.zero_le _, rfl, HPL.out, fun a ha => by rw [HPA.out a ha]; simp [Gr.spot], HPX.out, HBX.out⟩
      case round =>
        obtain ⟨p, pl2, hp, rfl, hpl, hpa, hpx, hBx⟩ := hrel
        clear HPX HBX HPA HPL pl
        by_cases hlt2 : p < O.length
        · obtain ⟨y, hy⟩ := getElem_some hlt2
          have hyn := HOL.out y (List.mem_of_getElem? hy)
          have hnb := not_before HON.out hy
          obtain ⟨b4, o4, rfl, cy⟩ : ∃ b4 o4, ao = some ⟨b4, o4, none⟩ ∧ wr.cell? ⟨b4, o4 + p, none⟩ = some (.int .i64 y) := by
            obtain ⟨ao', cap', q5, q6⟩ := HO.out.kept hBx (Nat.le_refl _)
            rw [Gr.ofN_length] at q5
            simp only [Value.slice.injEq] at q5
            obtain ⟨rfl, _, rfl⟩ := q5
            rcases q6 with q6 | ⟨b4, o4, rfl, q6⟩
            · have : (ofN O).length = 0 := by rw [q6]; rfl
              rw [Gr.ofN_length] at this; omega
            · exact ⟨b4, o4, rfl, q6 p y (Gr.ofN_get hy)⟩
          have hpy : pl2[y]? = some (-1) := by rw [hpa y hyn, Gr.spot, if_neg hnb]
          have cp : wr.cell? ⟨w4.heap.size, y, none⟩ = some (.int .i64 (-1)) := Gr.row_cell (V := cells pl2) hpx (by unfold cells; rw [List.getElem?_map, hpy]; rfl)
          have fp : wr.frozen? ⟨w4.heap.size, y, none⟩ = false := Gr.row_free (V := cells pl2) hpx
          have HPX := hide hpx
          have HBX := hide hBx
          have HPA := hide hpa
          have HY := hide hy
          clear hpx hBx hpa hy hnb hpy
          go_wp2_with fail
          go_roundw
          case rel =>
            refine ⟨p + 1, pl2.set y p, by omega, by go_num, by simp [hpl], ?_, ?_, HBX.out.setCell (p := ⟨w4.heap.size, y, none⟩) (Nat.le_refl _) _⟩
            · intro a ha
              rw [Gr.spot_next HON.out HY.out a]
              by_cases e : a = y
              · subst e; rw [if_pos rfl]; exact List.getElem?_set_self (by omega)
              · rw [if_neg e, List.getElem?_set_ne (Ne.symm e)]; exact HPA.out a ha
            · rw [Gr.row_set (V := cells pl2) (.int .i64 p) HPX.out]
              unfold cells; rw [List.map_set]
          case measure => simp [intOf]; omega
        · have hpp : p = O.length := by omega
          subst hpp
          have HBX := hide hBx
          have hpo : ∀ a, a < NZ.length → a ∈ O → wr.cell? ⟨w4.heap.size, a, none⟩ = some (.int .i64 (O.idxOf a : Nat)) := by
            intro a ha hm
            refine Gr.row_cell (V := cells pl2) hpx ?_
            unfold cells
            rw [List.getElem?_map, hpa a ha, Gr.spot, List.take_length, if_pos hm]; rfl
          have HPO := hide hpo
          clear hpx hBx hpa hpl hpo
          rcases HCASE.out with ⟨rfl, h0, hOf⟩ | ⟨rfl, h0, hOf⟩
          · have hOn : O.length = NZ.length := by
              have := Gr.length_flat N NZ.length k
              rw [hOf]; omega
            have HH0 := hide h0
            have HOF := hide hOf
            clear h0 hOf
            have hfo : ∀ i, i < NZ.length → i ∈ O ∧ ∀ j ∈ N i, j ∈ O ∧ O.idxOf j < O.idxOf i := by
              intro i hi
              rw [HOF.out]
              have hm : i ∈ Gr.flat N NZ.length k := Gr.mem_flat.2 ⟨hi, Gr.left_done N NZ.length k HH0.out i hi⟩
              exact ⟨hm, Gr.flat_order N NZ.length HN.out.bn k i hm⟩
            have HFO := hide hfo
            clear hfo
            obtain ⟨wp, rfl⟩ : ∃ wp : World, wp = wr := ⟨_, rfl⟩
            have HBW := hide (HB4.out.trans (HBX.out.mono HB4.out.size))
            go_wp2_with fail
            go_loopw [12, 13] (fun vi _ wx => ∃ i : Nat, i ≤ NZ.length ∧ vi = .int .i64 i ∧ (∀ a, wx.cell? a = wp.cell? a) ∧ Below wp.heap.size wp wx) (fun vi _ _ => NZ.length - (intOf vi).toNat)
            case atStart => exact ⟨0, Nat.zero_le _, rfl, fun _ => rfl, Below.refl _ _⟩
            case round =>
              obtain ⟨i, hi, rfl, hce, hBx⟩ := hrel
              by_cases hlt3 : i < NZ.length
              · obtain ⟨l, hl⟩ := getElem_some hlt3
                have hrow := Gr.row_some hl
                obtain ⟨b2, o2, c2, au, cu, e1, c1, h1⟩ := Gr.Lists.get (HL.out.kept HBW.out (Nat.le_refl _)) hl
                simp only [Value.slice.injEq] at e1
                obtain ⟨rfl, _, rfl⟩ := e1
                have hll := HRL.out i hlt3
                rw [hrow] at hll
                have c1r := (hce _).trans c1
                have HL1 := hide h1
                have C1 := hide c1
                have HBXX := hide hBx
                have HCE := hide hce
                have HROW := hide hrow
                clear h1 hl c1 hBx hce hrow
                go_wp2_with fail
                go_loopw [13] (fun vk wx => ∃ k : Nat, k ≤ l.length ∧ vk = .int .i64 k ∧ (∀ a, wx.cell? a = wp.cell? a) ∧ Below wp.heap.size wp wx) (fun vk _ => l.length - (intOf vk).toNat)
                case atStart => exact ⟨0, Nat.zero_le _, rfl, HCE.out, HBXX.out⟩
                case round =>
                  obtain ⟨q, hq, rfl, hce, hBx⟩ := hrel
                  have c1r2 := (hce _).trans C1.out
                  clear c1r
                  by_cases hql : q < l.length
                  · obtain ⟨y, hy⟩ := getElem_some hql
                    have hym := List.mem_of_getElem? hy
                    have hyr := HOK.out i hlt3 y (by rw [HROW.out]; exact hym)
                    obtain ⟨z, rfl⟩ : ∃ z : Nat, y = (z : Int) := ⟨y.toNat, by omega⟩
                    have hzn : z < NZ.length := by omega
                    have hzN : z ∈ N i := (HN.out.mn i hlt3 z).2 (by rw [HROW.out]; exact hym)
                    obtain ⟨hiO, hjO⟩ := HFO.out i hlt3
                    obtain ⟨hzO, hidx⟩ := hjO z hzN
                    obtain ⟨b4, o4, rfl, cy⟩ : ∃ b4 o4, au = some ⟨b4, o4, none⟩ ∧ wr.cell? ⟨b4, o4 + q, none⟩ = some (.int .i64 z) := by
                      obtain ⟨ao', cap', q5, q6⟩ := HL1.out
                      simp only [Value.slice.injEq] at q5
                      obtain ⟨rfl, _, rfl⟩ := q5
                      rcases q6 with q6 | ⟨b4, o4, rfl, q6⟩
                      · rw [q6] at hy; simp at hy
                      · exact ⟨b4, o4, rfl, (hce _).trans (q6 q z hy)⟩
                    have p1 := (hce _).trans (HPO.out z hzn hzO)
                    have p2 := (hce _).trans (HPO.out i hlt3 hiO)
                    have hge : ¬ ((O.idxOf i : Nat) : Int) ≤ ((O.idxOf z : Nat) : Int) := by omega
                    have HCE2 := hide hce
                    have HBX2 := hide hBx
                    clear hce hBx hym hyr hzN hjO hy
                    generalize O.idxOf i = I1 at *
                    generalize O.idxOf z = I2 at *
                    go_wp2_with fail
                    go_region_held3 (fun W' => W'.cell? ⟨b2, o2 + i, none⟩ = some (.slice (some ⟨b4, o4, none⟩) l.length cu) ∧ W'.cell? ⟨b4, o4 + q, none⟩ = some (.int .i64 z) ∧ W'.cell? ⟨w4.heap.size, z, none⟩ = some (.int .i64 I2) ∧ W'.cell? ⟨w4.heap.size, i, none⟩ = some (.int .i64 I1)) (go_keep) (fail)
                    all_goals
                      go_wp2_with fail
                      go_roundw
                      case rel => exact ⟨q + 1, by omega, by go_num, HCE2.out, HBX2.out.drew⟩
                      case measure => simp [intOf]; omega
                  · have HCE2 := hide hce
                    have HBX2 := hide hBx
                    clear hce hBx
                    go_wp2_with fail
                    go_roundw
                    case rel => exact ⟨i + 1, by omega, by go_num, HCE2.out, HBX2.out⟩
                    case measure => simp [intOf]; omega
              · have HBX2 := hide hBx
                clear hBx hce
                go_wp2_with fail
                go_ret
                exact ⟨rfl, HBW.out.trans (HBX2.out.mono HBW.out.size)⟩
          · have hO0 : O.length = 0 := by rw [hOf]; rfl
            have hcy := cyclic_any NZ NZ.length b N U _ (.slice av NZ.length cv) wr rfl (by omega) (HL.out.kept (HB4.out.trans (HBX.out.mono HB4.out.size)) (Nat.le_refl _)) (HG4.out.kept HBX.out (Nat.le_refl _)) HN.out HOK.out HRL.out
              (Gr.cyc_of_left N NZ.length k HN.out.bn h0 ((HK.out.2.resolve_left h0).2))
            have HCY := hide hcy
            clear hcy h0 hOf
            rw [hO0]
            go_wp2_with (first | (go_at_call 26; refine (number_err 8 _).mono ?_; rintro e w5 ⟨rfl, hw⟩; rw [hw]; clear hw w5) | (go_at_call 27; refine HCY.out.mono ?_; rintro e w5 ⟨rfl, hB5⟩))
            go_ret
            exact ⟨rfl, (HB4.out.trans (HBX.out.mono HB4.out.size)).trans (hB5.mono (by have := HB4.out.size; have := HBX.out.size; omega))⟩
end Go.Proofs.Ytienhelohfhhfaa
