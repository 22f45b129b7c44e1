/- For TopLocks: the two func values; LightActs; the names of an act. -/
import Derived.Test.YtckbfjoffbnjeaaDoorRG
import Derived.Test.YtckbfjoffbnjeaaDoorEI
namespace Go.Proofs.YtckbfjoffbnjeaaDoor
open Go.RowKit
attribute [local go_sem ↓] Go.wp_at_zero Go.wp_at_succ


theorem names_of_row {w : World} {v : Value} {n : Nat} (h : A.Row w v n 1 (fun _ c => ∃ y, c = [.string y] ∧ y.size ≤ maxLen)) : ∃ N0 : List ByteArray, N0.length = n ∧ Strs w v N0 ∧ ∀ x ∈ N0, x.size ≤ maxLen := by
  have key : ∀ m, m ≤ n → ∃ N0 : List ByteArray, N0.length = m ∧ (∀ i x, N0[i]? = some x → x.size ≤ maxLen ∧ ∃ b off cap, v = .slice (some ⟨b, off, none⟩) n cap ∧ w.cell? ⟨b, off + i, none⟩ = some (.string x)) := by
    intro m
    induction m with
    | zero => intro _; exact ⟨[], rfl, fun i x hx => by simp at hx⟩
    | succ m ih =>
      intro hm
      obtain ⟨N0, hl, hN⟩ := ih (by omega)
      obtain ⟨b, off, cap, y, e, hy, hc⟩ := A.elemN h m (by omega)
      refine ⟨N0 ++ [y], by simp [hl], fun i x hx => ?_⟩
      by_cases hi : i < m
      · rw [List.getElem?_append_left (by omega)] at hx
        exact hN i x hx
      · rw [List.getElem?_append_right (by omega)] at hx
        have h0 : i - N0.length = 0 := by
          have := (List.getElem?_eq_some_iff.1 hx).1
          simp at this; omega
        rw [h0] at hx
        have ex : y = x := by simpa using hx
        have ei : i = m := by omega
        subst ex; subst ei
        exact ⟨hy, b, off, cap, e, hc⟩
  obtain ⟨N0, hl, hN⟩ := key n (Nat.le_refl _)
  obtain ⟨ao, cap, rfl⟩ := h.shape
  refine ⟨N0, hl, ⟨ao, cap, by rw [hl], ?_⟩, fun x hx => ?_⟩
  · by_cases h0 : N0 = []
    · exact .inl h0
    · right
      have hp : 0 < N0.length := List.length_pos_iff.2 h0
      obtain ⟨_, b, off, cap2, e, _⟩ := hN 0 _ (List.getElem?_eq_getElem hp)
      simp only [Value.slice.injEq] at e
      obtain ⟨rfl, _, rfl⟩ := e
      refine ⟨b, off, rfl, fun i x hx => ?_⟩
      obtain ⟨_, b2, off2, cap3, e2, hc⟩ := hN i x hx
      simp only [Value.slice.injEq, Option.some.injEq, Addr.mk.injEq] at e2
      obtain ⟨⟨rfl, rfl, _⟩, _, _⟩ := e2
      exact hc
  · obtain ⟨i, hi, rfl⟩ := List.mem_iff_getElem.1 hx
    exact (hN i _ (List.getElem?_eq_getElem hi)).1
/-- What LightActs answers: if it says yes, there are not more than so many. -/
def LightSays2 (L : List Ac) (most : Int) (o : Ending) : Prop := ∃ b : Bool, o = .returned (.bool b) ∧ (b = true → (L.length : Int) ≤ most ∧ ∀ x ∈ L, x.nn ≤ 12)
set_option maxRecDepth 100000 in
set_option maxHeartbeats 1600000 in
theorem lightActs2_any (most sz : Int) (m : Nat) (w : World) (v : Value) (L : List Ac) (h : A.Acts m w v L) :
    Calls Tryd.prog 5 #[v, .int .i64 most, .int .i64 sz] w fun e w' => LightSays2 L most e ∧ Below w.heap.size w w' := by
  obtain ⟨ao, cap, rfl⟩ := h.shape
  have hL := h.1
  unfold maxLen at hL
  have HA := hide h
  clear h
  by_cases hmo : most < (L.length : Int)
  · clear HA
    go_enter Tryd.func5, Tryd.ntmps5
    go_wp2_with fail
    go_ret
    exact ⟨⟨_, rfl, fun e => by cases e⟩, Below.refl _ _⟩
  · have hle : (L.length : Int) ≤ most := by omega
    have HLE := hide hle
    clear hle
    go_enter Tryd.func5, Tryd.ntmps5
    go_wp2_with fail
    go_loopw [7, 8, 9] (fun vn vi _ wr => ∃ k : Nat, k ≤ L.length ∧ vi = .int .i64 k ∧ (∃ n : Int, vn = .int .i64 n) ∧ (∀ j x, j < k → L[j]? = some x → x.nn ≤ 12) ∧ Below w.heap.size w wr) (fun _ vi _ _ => L.length - (intOf vi).toNat)
    case atStart => exact ⟨0, Nat.zero_le _, rfl, ⟨_, rfl⟩, (fun j x hj => absurd hj (Nat.not_lt_zero _)), Below.refl _ _⟩
    case round =>
      obtain ⟨k, hk, rfl, ⟨n, rfl⟩, hall, hB⟩ := hrel
      have HALL := hide hall
      clear hall
      by_cases hlt : k < L.length
      · obtain ⟨b, off, cap2, x, c5, c6, c7, c8, c9, an, cn, e1, hx, g1, g2, g3, g4, g5, g6, y0, y1, y2, y3, y4, y5, y6, y7, y8, y9, y10⟩ := (HA.out.kept hB).at k hlt
        simp only [Value.slice.injEq] at e1
        obtain ⟨rfl, _, rfl⟩ := e1
        unfold maxLen at g2 g3 g5
        have HX := hide hx
        clear g1 y0 y3 y4 hx
        have HG6 := hide g6
        clear g6
        have hI : ∀ w', (w'.cell? ⟨b, off + k * 11 + 1, none⟩ = some (.string x.s) ∧ w'.cell? ⟨b, off + k * 11 + 2, none⟩ = some (.string x.t) ∧ w'.cell? ⟨b, off + k * 11 + 5, none⟩ = some c5 ∧ w'.cell? ⟨b, off + k * 11 + 6, none⟩ = some c6 ∧ w'.cell? ⟨b, off + k * 11 + 7, none⟩ = some c7 ∧ w'.cell? ⟨b, off + k * 11 + 8, none⟩ = some c8 ∧ w'.cell? ⟨b, off + k * 11 + 9, none⟩ = some c9 ∧ Below wr.heap.size wr w') → Calls Tryd.prog 21 #[.agg #[c5, c6, c7, c8, c9], .int .i64 sz] w' fun e w'' => (∃ n : Int, e = .returned (.int .i64 n)) ∧ w''.cell? ⟨b, off + k * 11 + 1, none⟩ = some (.string x.s) ∧ w''.cell? ⟨b, off + k * 11 + 2, none⟩ = some (.string x.t) ∧ w''.cell? ⟨b, off + k * 11 + 5, none⟩ = some c5 ∧ w''.cell? ⟨b, off + k * 11 + 6, none⟩ = some c6 ∧ w''.cell? ⟨b, off + k * 11 + 7, none⟩ = some c7 ∧ w''.cell? ⟨b, off + k * 11 + 8, none⟩ = some c8 ∧ w''.cell? ⟨b, off + k * 11 + 9, none⟩ = some c9 ∧ Below wr.heap.size wr w'' := by
          intro w' ⟨t1, t2, t3, t4, t5, t6, t7, t8⟩
          refine (weight_any sz m w' c5 c6 c7 c8 c9 (A.Mem.kept m g4 t8)).mono ?_
          rintro e w'' ⟨he, hb⟩
          exact ⟨he, kept_cell hb t1, kept_cell hb t2, kept_cell hb t3, kept_cell hb t4, kept_cell hb t5, kept_cell hb t6, kept_cell hb t7, t8.trans (hb.mono t8.size)⟩
        have HI : Hid _ := hI
        have hB0 : Below wr.heap.size wr wr.drew := below_drewN (Below.refl _ _) 1
        clear hI g4
        go_wp2_with fail
        go_region_held3 (fun w' => w'.cell? ⟨b, off + k * 11 + 1, none⟩ = some (.string x.s) ∧ w'.cell? ⟨b, off + k * 11 + 2, none⟩ = some (.string x.t) ∧ w'.cell? ⟨b, off + k * 11 + 5, none⟩ = some c5 ∧ w'.cell? ⟨b, off + k * 11 + 6, none⟩ = some c6 ∧ w'.cell? ⟨b, off + k * 11 + 7, none⟩ = some c7 ∧ w'.cell? ⟨b, off + k * 11 + 8, none⟩ = some c8 ∧ w'.cell? ⟨b, off + k * 11 + 9, none⟩ = some c9 ∧ Below wr.heap.size wr w') (go_keep)
          (first | (go_at_call 21; refine (HI.out _ ?_).mono ?_; exact ⟨‹_›, ‹_›, ‹_›, ‹_›, ‹_›, ‹_›, ‹_›, ‹_›⟩; rintro e w3 ⟨⟨n2, rfl⟩, t1, t2, t3, t4, t5, t6, t7, t8⟩))
        all_goals
          have z10 := (t8.cell (World.block_lt_of_cell? _ _ y10)).trans y10
          have HBW := hide (hB.trans (t8.mono hB.size))
          have HNM := hide (HG6.out.kept t8 (fun _ _ h => h))
          clear t1 t2 t3 t4 t5 t6 t7 t8 y1 y2 y5 y6 y7 y8 y9 y10 HI hB0 HG6 hB
          generalize IntKind.i64.wrap (IntKind.i64.wrap (IntKind.i64.wrap (n + ↑x.s.size) + ↑x.t.size) + n2) = NN
          generalize IntKind.i64.wrap (IntKind.i64.wrap (n + ↑x.s.size) + ↑x.t.size) = N1
          generalize IntKind.i64.wrap (n + ↑x.s.size) = N2
          by_cases hN : sz < NN
          · go_wp2_with fail
            go_ret
            exact ⟨⟨_, rfl, fun e => by cases e⟩, HBW.out⟩
          · have hNd : decide (sz < NN) = false := decide_eq_false hN
            by_cases h12 : 12 < x.nn
            · have h12i : (12 : Int) < x.nn := by omega
              go_wp2_with fail
              go_ret
              exact ⟨⟨_, rfl, fun e => by cases e⟩, HBW.out⟩
            · have h12i : ¬ (12 : Int) < x.nn := by omega
              go_wp2_with fail
              go_loopw [7, 9] (fun vn vj wq => ∃ j : Nat, j ≤ x.nn ∧ vj = .int .i64 j ∧ (∃ n : Int, vn = .int .i64 n) ∧ wq = w3) (fun _ vj _ => x.nn - (intOf vj).toNat)
              case atStart => exact ⟨0, Nat.zero_le _, rfl, ⟨_, rfl⟩, rfl⟩
              case round =>
                obtain ⟨j, hj, rfl, ⟨n3, rfl⟩, rfl⟩ := hrel
                by_cases hjl : j < x.nn
                · obtain ⟨b2, off2, cap3, y, e2, hy, z11⟩ := A.elemN HNM.out j hjl
                  simp only [Value.slice.injEq] at e2
                  obtain ⟨rfl, _, rfl⟩ := e2
                  unfold maxLen at hy
                  go_wp2_with fail
                  go_roundw
                  case rel => exact ⟨j + 1, by omega, by go_num, ⟨_, rfl⟩, trivial⟩
                  case measure => simp [intOf]; omega
                · go_wp2_with fail
                  go_roundw
                  case rel =>
                    refine ⟨k + 1, by omega, by go_num, ⟨_, rfl⟩, fun j2 x2 hj2 hx2 => ?_, HBW.out⟩
                    by_cases hjk : j2 = k
                    · rw [hjk, HX.out] at hx2
                      cases hx2; omega
                    · exact HALL.out j2 x2 (by omega) hx2
                  case measure => simp [intOf]; omega
      · have hkk : k = L.length := by omega
        subst hkk
        have HMEM : Hid (∀ x ∈ L, x.nn ≤ 12) := fun x hx => by
          obtain ⟨j, hj, rfl⟩ := List.mem_iff_getElem.1 hx
          exact HALL.out j _ hj (List.getElem?_eq_getElem hj)
        clear hlt
        by_cases hn : n ≤ sz
        · go_wp2_with fail
          go_ret
          exact ⟨⟨_, rfl, fun _ => ⟨HLE.out, HMEM.out⟩⟩, hB⟩
        · have hn2 : sz < n := by omega
          go_wp2_with fail
          go_ret
          exact ⟨⟨_, rfl, fun _ => ⟨HLE.out, HMEM.out⟩⟩, hB⟩
end Go.Proofs.YtckbfjoffbnjeaaDoor
