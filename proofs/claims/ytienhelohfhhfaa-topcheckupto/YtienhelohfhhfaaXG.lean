/- check.checkAlone, check.nameTwice. -/
import Derived.Test.YtienhelohfhhfaaXF
namespace Go.Proofs.Ytienhelohfhhfaa.Vx
open Go.RowKit
namespace X
def sumS (m : Nat) (l : List Sk) : Nat := (l.map (bulkS m)).sum
theorem sumS_mem {m : Nat} {l : List Sk} {x : Sk} (h : x ∈ l) {B : Nat} (hB : sumS m l ≤ B) : bulkS m x ≤ B := by
  have := sum_le (bulkS m) l x h
  unfold sumS at hB
  omega
/-- check.checkAlone: an error's number. -/
def aloneErr (sm : Val → Val → Bool) (m : Nat) (l : List Sk) : Nat := if 8 < l.length then 2 else firstErr (l.map (skFault sm m))
/-- check.nameTwice. -/
def dup (s : Sk) : Bool := twice (s.ins.map (·.1)) || twice (s.res.map (·.name)) || twice (s.outs.map (·.1))
def dups (l : List Sk) : Bool := l.any dup || twice (l.map (·.name))
end X
theorem V.so_farB {α : Type} {f : α → Bool} {l : List α} {k : Nat} {x : α} (hs : ∀ (j : Nat) (y : α), j < k → l[j]? = some y → f y = false) (hx : l[k]? = some x) (h : f x = false) : ∀ (j : Nat) (y : α), j < k + 1 → l[j]? = some y → f y = false := by
  intro j y hj hy
  rcases Nat.lt_or_ge j k with h1 | h1
  · exact hs j y h1 hy
  · have e : j = k := by omega
    subst e; rw [hx] at hy; cases hy; exact h
set_option maxRecDepth 100000 in
set_option maxHeartbeats 1600000 in
theorem alone_any (sm : Val → Val → Bool) (hsm : V.Says sm) (m : Nat) (w : World) (v : Value) (l : List Sk) (h : X.Stks (m + 1) w v l) (hbk : X.sumS (m + 1) l ≤ 2000000) :
    Calls Try.prog 39 #[v] w fun o w' => o = .returned (V.errOf (X.aloneErr sm (m + 1) l)) ∧ Below w.heap.size w w' := by
  obtain ⟨ah, ch, rfl⟩ := V.Row.shape h
  have hE : X.aloneErr sm (m + 1) l = if 8 < l.length then 2 else X.firstErr (l.map (X.skFault sm (m + 1))) := rfl
  generalize X.aloneErr sm (m + 1) l = F at *
  have H := hide h
  have HBK := hide hbk
  clear h hbk
  by_cases h8 : 8 < l.length
  · rw [if_pos h8] at hE
    have HF := hide hE
    clear hE
    go_enter Try.func39, Try.ntmps39
    go_wp2_with fail
    go_ret
    exact ⟨by rw [HF.out]; rfl, Below.refl _ _⟩
  rw [if_neg h8] at hE
  have HE := hide hE
  clear hE
  go_enter Try.func39, Try.ntmps39
  go_wp2_with fail
  go_loopw [11, 3, 4] (fun vi _ _ wr => ∃ k : Nat, k ≤ l.length ∧ vi = .int .i64 k ∧ (∀ j y, j < k → l[j]? = some y → X.skFault sm (m + 1) y = 0) ∧ Below w.heap.size w wr) (fun vi _ _ _ => l.length - (intOf vi).toNat)
  case atStart => exact ⟨0, Nat.zero_le _, rfl, fun j y hj => absurd hj (by omega), Below.refl _ _⟩
  case round =>
    obtain ⟨k, hk, rfl, hok, hB⟩ := hrel
    have HOK := hide hok
    have HB := hide hB
    clear hok
    by_cases hlt : k < l.length
    · obtain ⟨b, off, cap, x, ai, ci, ar, cr, ao, co, e1, hx, hm1, hm2, hm3, y0, y1, y2, y3⟩ := X.elemS (H.out.kept hB) k hlt
      simp only [Value.slice.injEq] at e1
      obtain ⟨rfl, _, rfl⟩ := e1
      have hcs := checkStack_any sm hsm m wr x _ _ _ hm1 hm2 hm3 (X.sumS_mem (List.mem_of_getElem? hx) HBK.out)
      generalize hG : X.skFault sm (m + 1) x = G at *
      have HCS := hide hcs
      have HX := hide hx
      have HG := hide hG
      clear hx hm1 hm2 hm3 hB hcs hG
      by_cases hG0 : G = 0
      · subst hG0
        go_wp2_with (go_at_call 57; refine HCS.out.mono ?_; rintro o w2 ⟨rfl, hb2⟩; rw [V.errOf, if_pos rfl])
        go_roundw
        case rel => exact ⟨k + 1, by omega, by go_num, V.so_farN HOK.out HX.out HG.out, HB.out.trans (hb2.mono HB.out.size)⟩
        case measure => simp [intOf]; omega
      · have hF : F = G := by
          rw [HE.out, X.firstErr_map HOK.out HX.out (by rw [HG.out]; exact hG0), HG.out]
        have HF := hide hF
        clear hF
        go_wp2_with (go_at_call 57; refine HCS.out.mono ?_; rintro o w2 ⟨rfl, hb2⟩; rw [err_ne G hG0])
        go_ret
        exact ⟨by rw [HF.out, err_ne G hG0]; rfl, HB.out.trans (hb2.mono HB.out.size)⟩
    · have hF : F = 0 := by
        rw [HE.out]
        exact X.firstErr_all (fun j y hy => HOK.out j y (by have := V.lt_of_get hy; omega) hy)
      have HF := hide hF
      clear hF hB
      go_wp2_with fail
      go_ret
      exact ⟨by rw [HF.out]; rfl, HB.out⟩
set_option maxRecDepth 100000 in
set_option maxHeartbeats 3200000 in
theorem nameTwice_any (m : Nat) (w : World) (v : Value) (l : List Sk) (h : X.Stks m w v l) (hbk : X.sumS m l ≤ 2000000) (hl : l.length ≤ 2000000) :
    Calls Try.prog 40 #[v] w fun o w' => o = .returned (.bool (X.dups l)) ∧ Below w.heap.size w w' := by
  obtain ⟨ah, ch, rfl⟩ := V.Row.shape h
  have H := hide h
  have HBK := hide hbk
  clear h hbk
  go_enter Try.func40, Try.ntmps40
  go_wp2_with fail
  go_loopw [7, 4] (fun vi _ wr => ∃ k : Nat, k ≤ l.length ∧ vi = .int .i64 k ∧ (∀ j y, j < k → l[j]? = some y → X.dup y = false) ∧ Below w.heap.size w wr) (fun vi _ _ => l.length - (intOf vi).toNat)
  case atStart => exact ⟨0, Nat.zero_le _, rfl, fun j y hj => absurd hj (by omega), Below.refl _ _⟩
  case round =>
    obtain ⟨k, hk, rfl, hok, hB⟩ := hrel
    have HOK := hide hok
    have HB := hide hB
    clear hok
    by_cases hlt : k < l.length
    · obtain ⟨b, off, cap, x, ai, ci, ar, cr, ao, co, e1, hx, hm1, hm2, hm3, y0, y1, y2, y3⟩ := X.elemS (H.out.kept hB) k hlt
      simp only [Value.slice.injEq] at e1
      obtain ⟨rfl, _, rfl⟩ := e1
      have hxb := X.sumS_mem (List.mem_of_getElem? hx) HBK.out
      unfold X.bulkS at hxb
      have hbA : Below wr.heap.size wr (wr.alloc (.cells #[.string x.name, .slice ai x.ins.length ci, .slice ar x.res.length cr, .slice ao x.outs.length co] 66)) := (Below.refl _ _).alloc (Nat.le_refl _) _
      have hblk0 : (wr.alloc (.cells #[.string x.name, .slice ai x.ins.length ci, .slice ar x.res.length cr, .slice ao x.outs.length co] 66)).heap[wr.heap.size]? = some (.cells #[.string x.name, .slice ai x.ins.length ci, .slice ar x.res.length cr, .slice ao x.outs.length co] 66 (0, 0)) := heap_alloc_new _ _
      have HT1 := hide (twiceI_any m _ _ _ (hm1.kept hbA) (by omega))
      have HT2 := hide (fun w2 (hb : Below wr.heap.size wr w2) => twiceR_any m w2 _ _ (hm2.kept hb) (by omega))
      have HT3 := hide (fun w2 (hb : Below wr.heap.size wr w2) => twiceO_any m w2 _ _ (hm3.kept hb) (by omega))
      have hD : X.dup x = (X.twice (x.ins.map (·.1)) || X.twice (x.res.map (·.name)) || X.twice (x.outs.map (·.1))) := rfl
      generalize X.twice (x.ins.map (·.1)) = A at *
      generalize X.twice (x.res.map (·.name)) = B at *
      generalize X.twice (x.outs.map (·.1)) = C at *
      have HBA := hide hbA
      have HX := hide hx
      have HBK0 := hide hblk0
      have HD := hide hD
      clear hx hm1 hm2 hm3 hB hbA hblk0 hxb hD
      have htr : X.dup x = true → X.dups l = true := fun h => by
        unfold X.dups
        rw [show l.any X.dup = true from List.any_eq_true.2 ⟨x, List.mem_of_getElem? HX.out, h⟩]; rfl
      have HTR := hide htr
      clear htr
      cases A
      · cases B
        · cases C
          · go_wp2_with (first | (go_at_call 58; refine HT1.out.mono ?_; rintro o w1 ⟨rfl, hb1⟩; have hA1 := HBA.out.trans (hb1.mono HBA.out.size); have hk1 := (hb1.block wr.heap.size (lt_alloc wr _)).trans HBK0.out; have g2 := cell_of_block hk1 2 _ rfl) | (go_at_call 60; refine (HT2.out _ hA1).mono ?_; rintro o w2 ⟨rfl, hb2⟩; have hA2 := hA1.trans (hb2.mono hA1.size); have hk2 := (hb2.block wr.heap.size (Array.getElem?_eq_some_iff.1 hk1).1).trans hk1; have g3 := cell_of_block hk2 3 _ rfl) | (go_at_call 62; refine (HT3.out _ hA2).mono ?_; rintro o w3 ⟨rfl, hb3⟩; have hA3 := hA2.trans (hb3.mono hA2.size)))
            go_roundw
            case rel => exact ⟨k + 1, by omega, by go_num, V.so_farB HOK.out HX.out HD.out, HB.out.trans (hA3.mono HB.out.size)⟩
            case measure => simp [intOf]; omega
          · go_wp2_with (first | (go_at_call 58; refine HT1.out.mono ?_; rintro o w1 ⟨rfl, hb1⟩; have hA1 := HBA.out.trans (hb1.mono HBA.out.size); have hk1 := (hb1.block wr.heap.size (lt_alloc wr _)).trans HBK0.out; have g2 := cell_of_block hk1 2 _ rfl) | (go_at_call 60; refine (HT2.out _ hA1).mono ?_; rintro o w2 ⟨rfl, hb2⟩; have hA2 := hA1.trans (hb2.mono hA1.size); have hk2 := (hb2.block wr.heap.size (Array.getElem?_eq_some_iff.1 hk1).1).trans hk1; have g3 := cell_of_block hk2 3 _ rfl) | (go_at_call 62; refine (HT3.out _ hA2).mono ?_; rintro o w3 ⟨rfl, hb3⟩; have hA3 := hA2.trans (hb3.mono hA2.size)))
            go_ret
            exact ⟨ret_bool (HTR.out HD.out).symm, HB.out.trans (hA3.mono HB.out.size)⟩
        · go_wp2_with (first | (go_at_call 58; refine HT1.out.mono ?_; rintro o w1 ⟨rfl, hb1⟩; have hA1 := HBA.out.trans (hb1.mono HBA.out.size); have hk1 := (hb1.block wr.heap.size (lt_alloc wr _)).trans HBK0.out; have g2 := cell_of_block hk1 2 _ rfl) | (go_at_call 60; refine (HT2.out _ hA1).mono ?_; rintro o w2 ⟨rfl, hb2⟩; have hA2 := hA1.trans (hb2.mono hA1.size)))
          go_ret
          exact ⟨ret_bool (HTR.out HD.out).symm, HB.out.trans (hA2.mono HB.out.size)⟩
      · go_wp2_with (go_at_call 58; refine HT1.out.mono ?_; rintro o w1 ⟨rfl, hb1⟩; have hA1 := HBA.out.trans (hb1.mono HBA.out.size))
        go_ret
        exact ⟨ret_bool (HTR.out HD.out).symm, HB.out.trans (hA1.mono HB.out.size)⟩
    · have hF : l.any X.dup = false := by
        rw [List.any_eq_false]
        intro y hy
        obtain ⟨j, hj, e⟩ := List.getElem_of_mem hy
        rw [HOK.out j y (by omega) (by rw [List.getElem?_eq_getElem hj, e])]; decide
      have hD : X.dups l = X.twice (l.map (·.name)) := by unfold X.dups; rw [hF]; rfl
      have HD := hide hD
      have HTS := hide (twiceS_any m wr _ l (H.out.kept hB) hl)
      clear hF hB hD
      go_wp2_with (go_at_call 64; refine HTS.out.mono ?_; rintro o w2 ⟨rfl, hb2⟩)
      go_ret
      exact ⟨ret_bool HD.out.symm, HB.out.trans (hb2.mono HB.out.size)⟩
end Go.Proofs.Ytienhelohfhhfaa.Vx
