/- lang.namesRise, lang.plain, lang.spareZero, lang.contentFits. -/
import Derived.Test.YtienhelohfhhfaaXA
namespace Go.Proofs.Ytienhelohfhhfaa.Vx
open Go.RowKit
namespace X
def pairs (l : List ByteArray) : List (ByteArray × Val) := l.map (fun s => (s, V.zero))
theorem pairs_length (l : List ByteArray) : (pairs l).length = l.length := by simp [pairs]
theorem pairs_get {l : List ByteArray} {i : Nat} {s : ByteArray} (h : l[i]? = some s) : (pairs l)[i]? = some (s, V.zero) := by rw [pairs, List.getElem?_map, h]; rfl
theorem elemN {w : World} {v : Value} {n : Nat} {l : List ByteArray} (h : V.Row w v n 1 (fun i c => ∃ x, l[i]? = some x ∧ c = [.string x])) (i : Nat) (hi : i < n) :
    ∃ b off cap x, v = .slice (some ⟨b, off, none⟩) n cap ∧ l[i]? = some x ∧ w.cell? ⟨b, off + i, none⟩ = some (.string x) := by
  obtain ⟨ao, cap, rfl, h | ⟨b, off, rfl, h⟩⟩ := h
  · omega
  · obtain ⟨cs, h1, h2, x, hx, rfl⟩ := h i hi
    have := h2 0 (by omega)
    rw [Nat.mul_one, Nat.add_zero] at this
    exact ⟨b, off, cap, x, rfl, hx, this⟩
end X
set_option maxRecDepth 100000 in
set_option maxHeartbeats 1600000 in
theorem xnamesRise_any (w : World) (nv : Value) (l : List ByteArray) (hf : V.Row w nv l.length 1 (fun i c => ∃ x, l[i]? = some x ∧ c = [.string x]))
    (hn : ∀ x ∈ l, x.size ≤ 2000000) (hlen : l.length ≤ 2000000) :
    Calls Try.prog 111 #[nv] w fun e w' => e = .returned (.bool (V.rise (X.pairs l))) ∧ ∃ n, w' = w.drewN n := by
  obtain ⟨af, cf, rfl⟩ := hf.shape
  have HF : Hid _ := hf
  have HN : Hid _ := hn
  clear hf hn
  go_enter Try.func111, Try.ntmps111
  go_wp2_with fail
  go_loopw [6, 3] (fun i _ wr => ∃ k : Nat, k ≤ l.length ∧ i = .int .i64 k ∧ (∀ j, j < k → V.okAt (X.pairs l) j = true) ∧ ∃ n, wr = w.drewN n) (fun i _ _ => l.length - (intOf i).toNat)
  case atStart => exact ⟨0, Nat.zero_le _, rfl, fun j hj => absurd hj (by omega), 0, rfl⟩
  case round =>
    obtain ⟨k, hk, rfl, hok, n0, hW⟩ := hrel
    have HW : Hid _ := hW
    have hcw : ∀ p, wr.cell? p = w.cell? p := fun p => by rw [hW]; rfl
    have HCW : Hid _ := hcw
    clear hW hcw
    have HOK : Hid _ := hok
    clear hok
    by_cases hlt : k < l.length
    · obtain ⟨b, off, cap, x, e1, hx, yn⟩ := X.elemN HF.out k hlt
      simp only [Value.slice.injEq] at e1
      obtain ⟨rfl, _, rfl⟩ := e1
      have hxs := HN.out x (List.mem_of_getElem? hx)
      have hlt' : k < (X.pairs l).length := by rw [X.pairs_length]; exact hlt
      have hxp := X.pairs_get hx
      rw [← HCW.out] at yn
      have hn1 : x.size ≤ maxLen := by unfold maxLen; omega
      have HNC : Hid _ := fun w => name_any x w hn1
      cases hnm : V.name (V.bl x) <;> rw [hnm] at HNC
      · have E : Hid (V.rise (X.pairs l) = false) := V.rise_false _ k hlt' (by rw [V.okAt, hxp]; simp [hnm])
        clear hx hxp hlt'
        go_wp2_with fail
        go_quiet ((go_at_call 82; exact Calls.quiet_of_same (HNC.out _)))
        go_wp2_with fail
        go_ret
        exact ⟨ret_bool E.out.symm, by rw [HW.out]; exact drewN_some _ _ _⟩
      · by_cases hk0 : k = 0
        · have hok : V.okAt (X.pairs l) k = true := by subst hk0; rw [V.okAt_zero _ _ hxp]; exact hnm
          have HOK2 : Hid _ := hok
          clear hx hok hxp hlt'
          subst hk0
          simp only [Nat.add_zero] at yn
          go_wp2_with fail
          go_quiet ((go_at_call 82; exact Calls.quiet_of_same (HNC.out _)))
          go_wp2_with fail
          go_roundw
          case rel => exact ⟨1, by omega, by go_num, fun j hj => by rw [show j = 0 by omega]; exact HOK2.out, by rw [HW.out]; exact drewN_some _ _ _⟩
          case measure => simp [intOf]; omega
        · obtain ⟨k', rfl⟩ : ∃ k', k = k' + 1 := ⟨k - 1, by omega⟩
          obtain ⟨b', off', cap', y, e1, hy, zn⟩ := X.elemN HF.out k' (by omega)
          simp only [Value.slice.injEq, Option.some.injEq, Addr.mk.injEq] at e1
          obtain ⟨⟨rfl, rfl, _⟩, _, rfl⟩ := e1
          rw [← HCW.out] at zn
          have hoe := V.okAt_succ (X.pairs l) k' (x, V.zero) (y, V.zero) hxp (X.pairs_get hy)
          have gk : decide (0 < ((k' + 1 : Nat) : Int)) = true := decide_eq_true (by omega)
          rw [hnm, Bool.true_and] at hoe
          have hfl := less_flip (V.bl x) (V.bl y)
          clear hk0 hx hy hxp
          cases hls : Op.bytesLess (V.bl y) (V.bl x)
          · have E : Hid (V.rise (X.pairs l) = false) := V.rise_false _ (k' + 1) hlt' (by rw [hoe, hls])
            rw [hls, ← V.toList_bl, ← V.toList_bl] at hfl
            clear hls hoe hlt'
            go_wp2_with fail
            go_quiet ((go_at_call 82; exact Calls.quiet_of_same (HNC.out _)))
            go_wp2_with fail
            go_ret
            exact ⟨ret_bool E.out.symm, by rw [HW.out]; exact drewN_some _ _ _⟩
          · rw [hls] at hoe
            have HOK2 : Hid _ := hoe
            rw [hls, ← V.toList_bl, ← V.toList_bl] at hfl
            clear hls hoe hlt'
            go_wp2_with fail
            go_quiet ((go_at_call 82; exact Calls.quiet_of_same (HNC.out _)))
            go_wp2_with fail
            go_roundw
            case rel => exact ⟨k' + 1 + 1, by omega, by go_num, fun j hj => by rcases Nat.lt_or_ge j (k' + 1) with h | h; exact HOK.out j h; rw [show j = k' + 1 by omega]; exact HOK2.out, by rw [HW.out]; exact drewN_some _ _ _⟩
            case measure => simp [intOf]; omega
    · have E : Hid (V.rise (X.pairs l) = true) := V.rise_true _ (fun j hj => HOK.out j (by rw [X.pairs_length] at hj; omega))
      go_wp2_with fail
      go_ret
      exact ⟨ret_bool E.out.symm, _, HW.out⟩
namespace X
/-- lang.plain. -/
def plain (m : Nat) (v : Val) : Bool := decide (v.kind ≠ 4 ∧ v.kind ≠ 5 ∧ V.fault m v = 0)
end X
set_option maxRecDepth 100000 in
set_option maxHeartbeats 800000 in
theorem plain_any (m : Nat) (w : World) (v : Val) (c0 c1 c2 c3 c4 : Value) (h : V.Mem (m + 1) w v [c0, c1, c2, c3, c4]) (hbk : V.bulk (m + 1) v ≤ 2000000) :
    Calls Try.prog 83 #[.agg #[c0, c1, c2, c3, c4]] w fun e w' => e = .returned (.bool (X.plain (m + 1) v)) ∧ Below w.heap.size w w' := by
  obtain ⟨lv, fv, hcs, hl, hf⟩ := id h
  simp only [List.cons.injEq, and_true] at hcs
  obtain ⟨rfl, rfl, rfl, rfl, rfl⟩ := hcs
  have hbL : Below w.heap.size w (w.alloc (.cells #[.int .i64 v.kind, .int .i64 v.n, .string v.s, c3, c4] 99)) := (Below.refl _ _).alloc (Nat.le_refl _) _
  have hc := check_any (m + 1) _ v _ _ _ _ _ (V.Mem.kept _ h hbL) hbk
  have HC := hide hc
  have HBL := hide hbL
  clear hc hbL h hl hf hbk
  by_cases h4 : v.kind = 4
  · have E : Hid (X.plain (m + 1) v = false) := by show _ = _; unfold X.plain; rw [decide_eq_false (by omega)]
    go_enter Try.func83, Try.ntmps83
    go_wp2_with fail
    go_ret
    exact ⟨ret_bool E.out.symm, (Below.refl _ _).alloc (Nat.le_refl _) _⟩
  by_cases h5 : v.kind = 5
  · have E : Hid (X.plain (m + 1) v = false) := by show _ = _; unfold X.plain; rw [decide_eq_false (by omega)]
    go_enter Try.func83, Try.ntmps83
    go_wp2_with fail
    go_ret
    exact ⟨ret_bool E.out.symm, (Below.refl _ _).alloc (Nat.le_refl _) _⟩
  by_cases hF : V.fault (m + 1) v = 0
  · have E : Hid (X.plain (m + 1) v = true) := by show _ = _; unfold X.plain; rw [decide_eq_true ⟨h4, h5, hF⟩]
    rw [hF] at HC
    go_enter Try.func83, Try.ntmps83
    go_wp2_with (go_at_call 95; refine HC.out.mono ?_; rintro e w1 ⟨rfl, hb1⟩; rw [V.errOf, if_pos rfl])
    go_ret
    exact ⟨ret_bool (by rw [E.out]; simp [h4, h5]), HBL.out.trans (hb1.mono HBL.out.size)⟩
  · have E : Hid (X.plain (m + 1) v = false) := by show _ = _; unfold X.plain; rw [decide_eq_false (fun h => hF h.2.2)]
    go_enter Try.func83, Try.ntmps83
    go_wp2_with (go_at_call 95; refine HC.out.mono ?_; rintro e w1 ⟨rfl, hb1⟩; rw [V.errOf, if_neg hF])
    go_ret
    exact ⟨ret_bool E.out.symm, HBL.out.trans (hb1.mono HBL.out.size)⟩
theorem lt_alloc (w : World) (o : Obj) : w.heap.size < (w.alloc o).heap.size := by simp
namespace X
theorem bulk_zero (m : Nat) : V.bulk (m + 1) V.zero = 1 := by rw [V.bulk]; rfl
/-- lang.spareZero. -/
def spare (sm : Val → Val → Bool) (e : Ex) : Bool :=
  decide ((e.kind = 1 ∨ sm e.v V.zero = true) ∧ (e.s.toList = [] ∨ e.kind = 3 ∨ e.kind = 4 ∨ e.kind = 2 ∨ e.kind = 10) ∧ (e.t.toList = [] ∨ e.kind = 3 ∨ e.kind = 4) ∧ (e.n.length = 0 ∨ e.kind = 9))
end X
set_option maxRecDepth 100000 in
set_option maxHeartbeats 3200000 in
theorem xspare_any (sm : Val → Val → Bool) (hsm : V.Says sm) (m : Nat) (w : World) (e : Ex) (c0 c1 c2 c3 c4 : Value) (aa an : Option Addr) (ca cn : Nat) (hv : V.Mem (m + 1) w e.v [c0, c1, c2, c3, c4]) (hbk : V.bulk (m + 1) e.v ≤ 2000000) :
    Calls Try.prog 107 #[.agg #[.int .i64 e.kind, c0, c1, c2, c3, c4, .string e.s, .string e.t, .slice aa e.a.length ca, .slice an e.n.length cn]] w fun o w' => o = .returned (.bool (X.spare sm e)) ∧ Below w.heap.size w w' := by
  have hal := fun (k : Int) => alike_any sm hsm m (w.alloc (.cells #[.int .i64 k, c0, c1, c2, c3, c4, .string e.s, .string e.t, .slice aa e.a.length ca, .slice an e.n.length cn] 109)) e.v V.zero c0 c1 c2 c3 c4 _ _ _ _ _ (V.Mem.kept _ hv ((Below.refl _ _).alloc (Nat.le_refl _) _)) (V.Mem.zero m _) hbk (by rw [X.bulk_zero]; decide)
  obtain ⟨lv, fv, hcs, hl, hf⟩ := id hv
  simp only [List.cons.injEq, and_true] at hcs
  obtain ⟨rfl, rfl, rfl, rfl, rfl⟩ := hcs
  have hE : X.spare sm e = decide ((e.kind = 1 ∨ sm e.v V.zero = true) ∧ (e.s.toList = [] ∨ e.kind = 3 ∨ e.kind = 4 ∨ e.kind = 2 ∨ e.kind = 10) ∧ (e.t.toList = [] ∨ e.kind = 3 ∨ e.kind = 4) ∧ (e.n.length = 0 ∨ e.kind = 9)) := rfl
  generalize X.spare sm e = R at *
  generalize sm e.v V.zero = A at *
  have HAL := hide hal
  clear hal hv hl hf hbk hsm
  generalize e.kind = k at *
  generalize e.n.length = nl at *
  generalize e.a.length = nA at *
  have HE := hide hE
  clear hE
  have hk : k = 1 ∨ k = 2 ∨ k = 3 ∨ k = 4 ∨ k = 9 ∨ k = 10 ∨ (k ≠ 1 ∧ k ≠ 2 ∧ k ≠ 3 ∧ k ≠ 4 ∧ k ≠ 9 ∧ k ≠ 10) := by omega
  rcases hk with rfl | rfl | rfl | rfl | rfl | rfl | ⟨k1, k2, k3, k4, k9, k10⟩
  all_goals
    cases A
    all_goals
      go_enter Try.func107, Try.ntmps107
      go_wp2_with (go_at_call 110; refine (HAL.out _).mono ?_; rintro o w1 ⟨rfl, hb1⟩; have hblk1 := (hb1.block w.heap.size (lt_alloc w _)).trans (heap_alloc_new w _); have g0 := cell_of_block hblk1 0 _ rfl; have g6 := cell_of_block hblk1 6 _ rfl; have g7 := cell_of_block hblk1 7 _ rfl; have g9 := cell_of_block hblk1 9 _ rfl; clear hblk1)
      all_goals go_ret
      all_goals refine ⟨ret_bool ?_, by first | exact (Below.refl _ _).alloc (Nat.le_refl _) _ | exact ((Below.refl _ w).alloc (Nat.le_refl _) _).trans (hb1.mono (by simp))⟩
      all_goals rw [HE.out]
      all_goals clear HE HAL
      all_goals try clear hb1 g0 g6 g7 g9
      all_goals rw [Bool.eq_iff_iff]
      all_goals simp_all
end Go.Proofs.Ytienhelohfhhfaa.Vx
