/- A row of stacks. -/
import Derived.Test.YtbdbpfcblppnbaaGreatDoorX2
namespace Go.Proofs.YtbdbpfcblppnbaaGreatDoor.Vx
open Go.RowKit
theorem V.so_farN {α : Type} {f : α → Nat} {l : List α} {k : Nat} {x : α} (hs : ∀ (j : Nat) (y : α), j < k → l[j]? = some y → f y = 0) (hx : l[k]? = some x) (h : f x = 0) : ∀ (j : Nat) (y : α), j < k + 1 → l[j]? = some y → f y = 0 := by
 intro j y hj hy
 rcases Nat.lt_or_ge j k with h1 | h1
 ·exact hs j y h1 hy
 ·have e : j = k := by omega
  subst e; rw [hx] at hy; cases hy; exact h
namespace X
theorem vform {m : Nat} {w : World} {v : Val} {d1 d2 d3 d4 d5 : Value} (h : V.Mem m w v [d1, d2, d3, d4, d5]) :
  ∃ al cl af cf, d1 = .int .i64 v.kind ∧ d2 = .int .i64 v.n ∧ d3 = .string v.s ∧ d4 = .slice al v.l.length cl ∧ d5 = .slice af v.f.length cf := by
 cases m with
 | zero => exact h.elim
 | succ m =>
  obtain ⟨lv, fv, hvs, hl, hf⟩ := h
  simp only [List.cons.injEq, and_true] at hvs
  obtain ⟨rfl, rfl, rfl, rfl, rfl⟩ := hvs
  obtain ⟨al, cl, rfl⟩ := hl.shape
  obtain ⟨af, cf, rfl⟩ := hf.shape
  exact ⟨al, cl, af, cf, rfl, rfl, rfl, rfl, rfl⟩
/-- A row of named values. -/
def Vals (m : Nat) (w : World) (v : Value) (l : List (ByteArray × Val)) : Prop := V.Row w v l.length 6 (fun i c => ∃ x c', l[i]? = some x ∧ c = .string x.1 :: c' ∧ V.Mem m w x.2 c')
theorem Vals.kept {m : Nat} {w w' : World} {v : Value} {l : List (ByteArray × Val)} (h : Vals m w v l) (hb : Below w.heap.size w w') : Vals m w' v l :=
 V.Row.kept h hb (fun _ _ ⟨x, c', hx, hc, hm⟩ => ⟨x, c', hx, hc, V.Mem.kept m hm hb⟩)
theorem elemI {m : Nat} {w : World} {v : Value} {l : List (ByteArray × Val)} (h : Vals m w v l) (i : Nat) (hi : i < l.length) :
  ∃ b off cap x al cl af cf, v = .slice (some ⟨b, off, none⟩) l.length cap ∧ l[i]? = some x ∧ V.Mem m w x.2 [.int .i64 x.2.kind, .int .i64 x.2.n, .string x.2.s, .slice al x.2.l.length cl, .slice af x.2.f.length cf] ∧
   w.cell? ⟨b, off + i * 6, none⟩ = some (.string x.1) ∧ w.cell? ⟨b, off + i * 6 + 1, none⟩ = some (.int .i64 x.2.kind) ∧ w.cell? ⟨b, off + i * 6 + 2, none⟩ = some (.int .i64 x.2.n) ∧ w.cell? ⟨b, off + i * 6 + 3, none⟩ = some (.string x.2.s) ∧
   w.cell? ⟨b, off + i * 6 + 4, none⟩ = some (.slice al x.2.l.length cl) ∧ w.cell? ⟨b, off + i * 6 + 5, none⟩ = some (.slice af x.2.f.length cf) := by
 obtain ⟨b, off, cap, x, c0, c1, c2, c3, c4, h1, h2, h3, h4, h5, h6, h7, h8, h9⟩ := V.elemF h i hi
 obtain ⟨al, cl, af, cf, rfl, rfl, rfl, rfl, rfl⟩ := vform h3
 exact ⟨b, off, cap, x, al, cl, af, cf, h1, h2, h3, h4, h5, h6, h7, h8, h9⟩
/-- A row of resources. -/
def Ress (m : Nat) (w : World) (v : Value) (l : List Rs) : Prop := V.Row w v l.length 3 (fun i c => ∃ x pv, l[i]? = some x ∧ c = [.string x.kind, .string x.name, pv] ∧ Named m w pv x.parts)
theorem Ress.kept {m : Nat} {w w' : World} {v : Value} {l : List Rs} (h : Ress m w v l) (hb : Below w.heap.size w w') : Ress m w' v l :=
 V.Row.kept h hb (fun _ _ ⟨x, pv, hx, hc, hm⟩ => ⟨x, pv, hx, hc, hm.kept hb⟩)
theorem elemR {m : Nat} {w : World} {v : Value} {l : List Rs} (h : Ress m w v l) (i : Nat) (hi : i < l.length) :
  ∃ b off cap x ap cp, v = .slice (some ⟨b, off, none⟩) l.length cap ∧ l[i]? = some x ∧ Named m w (.slice ap x.parts.length cp) x.parts ∧
   w.cell? ⟨b, off + i * 3, none⟩ = some (.string x.kind) ∧ w.cell? ⟨b, off + i * 3 + 1, none⟩ = some (.string x.name) ∧ w.cell? ⟨b, off + i * 3 + 2, none⟩ = some (.slice ap x.parts.length cp) := by
 obtain ⟨ao, cap, rfl, h | ⟨b, off, rfl, h⟩⟩ := h
 ·omega
 ·obtain ⟨cs, h1, h2, x, pv, hx, rfl, hm⟩ := h i hi
  obtain ⟨ap, cp, rfl⟩ := V.Row.shape hm
  exact ⟨b, off, cap, x, ap, cp, rfl, hx, hm, h2 0 (by omega), h2 1 (by omega), h2 2 (by omega)⟩
/-- These four cells hold that stack. -/
def SMem (m : Nat) (w : World) (s : Sk) (cs : List Value) : Prop := ∃ iv rv ov, cs = [.string s.name, iv, rv, ov] ∧ Vals m w iv s.ins ∧ Ress m w rv s.res ∧ Named m w ov s.outs
theorem SMem.kept {m : Nat} {w w' : World} {s : Sk} {cs : List Value} (h : SMem m w s cs) (hb : Below w.heap.size w w') : SMem m w' s cs := by
 obtain ⟨iv, rv, ov, h1, h2, h3, h4⟩ := h
 exact ⟨iv, rv, ov, h1, h2.kept hb, h3.kept hb, h4.kept hb⟩
def sumI (m : Nat) (l : List (ByteArray × Val)) : Nat := (l.map (fun x => x.1.size + V.bulk m x.2)).sum
def sumR (m : Nat) (l : List Rs) : Nat := (l.map (fun r => r.kind.size + r.name.size + sumP m r.parts)).sum
def bulkS (m : Nat) (s : Sk) : Nat := s.name.size + sumI m s.ins + s.ins.length + sumR m s.res + s.res.length + sumP m s.outs + s.outs.length
theorem sumI_mem {m : Nat} {l : List (ByteArray × Val)} {x : ByteArray × Val} (h : x ∈ l) {B : Nat} (hB : sumI m l ≤ B) : x.1.size ≤ B ∧ V.bulk m x.2 ≤ B := by
 have := sum_le (fun x : ByteArray × Val => x.1.size + V.bulk m x.2) l x h
 unfold sumI at hB
 omega
theorem sumR_mem {m : Nat} {l : List Rs} {x : Rs} (h : x ∈ l) {B : Nat} (hB : sumR m l ≤ B) : x.kind.size ≤ B ∧ x.name.size ≤ B ∧ sumP m x.parts ≤ B := by
 have := sum_le (fun r : Rs => r.kind.size + r.name.size + sumP m r.parts) l x h
 unfold sumR at hB
 omega
def inFault (m : Nat) (x : ByteArray × Val) : Nat := if V.name (V.bl x.1) && plain m x.2 then 0 else 3
/-- lang.CheckStack: an error's number. -/
def skFault (sm : Val → Val → Bool) (m : Nat) (s : Sk) : Nat :=
 if V.name (V.bl s.name) = false then 3
 else if 8 < s.ins.length ∨ 8 < s.res.length ∨ 8 < s.outs.length then 2
 else if firstErr (s.ins.map (inFault m)) ≠ 0 then firstErr (s.ins.map (inFault m))
 else if firstErr (s.res.map (resFault sm m)) ≠ 0 then firstErr (s.res.map (resFault sm m))
 else firstErr (s.outs.map (fun x => faultN sm m x.1 x.2))
theorem map_get {α β : Type} {f : α → β} {l : List α} {i : Nat} {x : α} (h : l[i]? = some x) : (l.map f)[i]? = some (f x) := by rw [List.getElem?_map, h]; rfl
theorem firstErr_map {α : Type} {f : α → Nat} {l : List α} {k : Nat} {x : α} (h : ∀ j y, j < k → l[j]? = some y → f y = 0) (hx : l[k]? = some x) (hn : f x ≠ 0) : firstErr (l.map f) = f x := by
 refine firstErr_at (k := k) (fun j hj => ?_) (map_get hx) hn
 have hk := (List.getElem?_eq_some_iff.1 hx).1
 obtain ⟨y, hy⟩ : ∃ y, l[j]? = some y := ⟨l[j], List.getElem?_eq_getElem (by omega)⟩
 rw [map_get hy, h j y hj hy]
theorem firstErr_all {α : Type} {f : α → Nat} {l : List α} (h : ∀ (j : Nat) y, l[j]? = some y → f y = 0) : firstErr (l.map f) = 0 := by
 refine firstErr_none (fun j hj => ?_)
 have hj' : j < l.length := by simpa using hj
 rw [map_get (List.getElem?_eq_getElem hj'), h j _ (List.getElem?_eq_getElem hj')]
end X
set_option maxRecDepth 100000 in
set_option maxHeartbeats 3200000 in
theorem checkStack_any (sm : Val → Val → Bool) (hsm : V.Says sm) (m : Nat) (w : World) (s : Sk) (iv rv ov : Value) (hI : X.Vals (m + 1) w iv s.ins) (hR : X.Ress (m + 1) w rv s.res) (hO : X.Named (m + 1) w ov s.outs) (hbk : X.bulkS (m + 1) s ≤ 2000000) :
  Calls Tryz.prog 15 #[.agg #[.string s.name, iv, rv, ov]] w fun o w' => o = .returned (V.errOf (X.skFault sm (m + 1) s)) ∧ Below w.heap.size w w' := by
 obtain ⟨ai, ci, rfl⟩ := V.Row.shape hI
 obtain ⟨ar, cr, rfl⟩ := V.Row.shape hR
 obtain ⟨ao, co, rfl⟩ := V.Row.shape hO
 have hbe := hbk
 unfold X.bulkS at hbe
 have hm1 : s.name.size ≤ maxLen := by unfold maxLen; omega
 have HN1 := hide (fun w => name_any s.name w hm1)
 have hE : X.skFault sm (m + 1) s = if V.name (V.bl s.name) = false then 3
  else if 8 < s.ins.length ∨ 8 < s.res.length ∨ 8 < s.outs.length then 2
  else if X.firstErr (s.ins.map (X.inFault (m + 1))) ≠ 0 then X.firstErr (s.ins.map (X.inFault (m + 1)))
  else if X.firstErr (s.res.map (X.resFault sm (m + 1))) ≠ 0 then X.firstErr (s.res.map (X.resFault sm (m + 1)))
  else X.firstErr (s.outs.map (fun x => X.faultN sm (m + 1) x.1 x.2)) := rfl
 have hbL : Below w.heap.size w (w.alloc (.cells #[.string s.name, .slice ai s.ins.length ci, .slice ar s.res.length cr, .slice ao s.outs.length co] 41)) := (Below.refl _ _).alloc (Nat.le_refl _) _
 have hblk0 : (w.alloc (.cells #[.string s.name, .slice ai s.ins.length ci, .slice ar s.res.length cr, .slice ao s.outs.length co] 41)).heap[w.heap.size]? = some (.cells #[.string s.name, .slice ai s.ins.length ci, .slice ar s.res.length cr, .slice ao s.outs.length co] 41 (0, 0)) := heap_alloc_new _ _
 generalize X.skFault sm (m + 1) s = F at *
 generalize V.name (V.bl s.name) = A at *
 have HI := hide hI
 have HR := hide hR
 have HO := hide hO
 have HBL := hide hbL
 have HBLK0 := hide hblk0
 have HsI := hide (show X.sumI (m + 1) s.ins ≤ 2000000 by omega)
 have HsR := hide (show X.sumR (m + 1) s.res ≤ 2000000 by omega)
 have HsO := hide (show X.sumP (m + 1) s.outs ≤ 2000000 by omega)
 clear hI hR hO hbL hblk0 hbk hm1
 cases A
 ·rw [if_pos rfl] at hE
  have HF := hide hE
  clear hE
  go_enter Tryz.func15, Tryz.ntmps15
  go_wp2_with (go_at_call 32; refine (HN1.out _).mono ?_; rintro o w1 ⟨rfl, hw⟩; rw [hw]; clear hw w1)
  go_ret
  exact ⟨by rw [HF.out]; rfl, HBL.out⟩
 rw [if_neg (by decide)] at hE
 by_cases h8 : 8 < s.ins.length ∨ 8 < s.res.length ∨ 8 < s.outs.length
 ·rw [if_pos h8] at hE
  have HF := hide hE
  clear hE
  have hc : 8 < s.ins.length ∨ (¬ 8 < s.ins.length ∧ 8 < s.res.length) ∨ (¬ 8 < s.ins.length ∧ ¬ 8 < s.res.length ∧ 8 < s.outs.length) := by omega
  clear h8
  rcases hc with h | ⟨h, h'⟩ | ⟨h, h', h''⟩
  all_goals
   go_enter Tryz.func15, Tryz.ntmps15
   go_wp2_with (go_at_call 32; refine (HN1.out _).mono ?_; rintro o w1 ⟨rfl, hw⟩; rw [hw]; clear hw w1)
   go_ret
   exact ⟨by rw [HF.out]; rfl, HBL.out⟩
 rw [if_neg h8] at hE
 have HE := hide hE
 clear hE
 have h8a : ¬ 8 < s.ins.length := by omega
 have h8b : ¬ 8 < s.res.length := by omega
 have h8c : ¬ 8 < s.outs.length := by omega
 clear h8 hbe
 go_enter Tryz.func15, Tryz.ntmps15
 go_wp2_with (go_at_call 32; refine (HN1.out _).mono ?_; rintro o w1 ⟨rfl, hw⟩; rw [hw]; clear hw w1)
 go_loopw [36, 4] (fun vi _ wr => ∃ k : Nat, k ≤ s.ins.length ∧ vi = .int .i64 k ∧ (∀ j y, j < k → s.ins[j]? = some y → X.inFault (m + 1) y = 0) ∧ wr.heap[w.heap.size]? = some (.cells #[.string s.name, .slice ai s.ins.length ci, .slice ar s.res.length cr, .slice ao s.outs.length co] 41 (0, 0)) ∧ Below w.heap.size w wr) (fun vi _ _ => s.ins.length - (intOf vi).toNat)
 case atStart => exact ⟨0, Nat.zero_le _, rfl, fun j y hj => absurd hj (by omega), HBLK0.out, HBL.out⟩
 case round =>
  clear HBLK0 HBL
  obtain ⟨k, hk, rfl, hok, hblk, hB⟩ := hrel
  have HOK := hide hok
  have hlt2 : w.heap.size < wr.heap.size := (blt hblk)
  have HBLK := hide hblk
  have HB := hide hB
  clear hok
  by_cases hlt : k < s.ins.length
  ·obtain ⟨b, off, cap, x, al, cl, af, cf, e1, hx, hm, y0, y1, y2, y3, y4, y5⟩ := X.elemI (HI.out.kept hB) k hlt
   simp only [Value.slice.injEq] at e1
   obtain ⟨rfl, _, rfl⟩ := e1
   obtain ⟨hxs, hxb⟩ := X.sumI_mem (List.mem_of_getElem? hx) HsI.out
   have hbA : Below wr.heap.size wr (wr.alloc (.cells #[.string x.1, .int .i64 x.2.kind, .int .i64 x.2.n, .string x.2.s, .slice al x.2.l.length cl, .slice af x.2.f.length cf] 49)) := (Below.refl _ _).alloc (Nat.le_refl _) _
   have hm2 : x.1.size ≤ maxLen := by unfold maxLen; omega
   have HN2 := hide (fun w => name_any x.1 w hm2)
   have HPL := hide (plain_any m _ x.2 _ _ _ _ _ (V.Mem.kept _ hm hbA) hxb)
   have hIF : X.inFault (m + 1) x = if V.name (V.bl x.1) && X.plain (m + 1) x.2 then 0 else 3 := rfl
   have HBA := hide hbA
   have HX := hide hx
   clear hx hm hblk hB hbA hm2
   generalize X.plain (m + 1) x.2 = P at *
   generalize V.name (V.bl x.1) = Q at *
   cases Q
   ·have hF : F = 3 := by
     have h1 := X.firstErr_map HOK.out HX.out (by rw [hIF]; simp)
     rw [HE.out, if_pos (by rw [h1, hIF]; simp), h1, hIF]; rfl
    have HF := hide hF
    clear hF hIF
    go_wp2_with (go_at_call 32; refine (HN2.out _).mono ?_; rintro o w1 ⟨rfl, hw⟩; rw [hw]; clear hw w1)
    go_ret
    exact ⟨by rw [HF.out]; rfl, HB.out.trans (HBA.out.mono HB.out.size)⟩
   cases P
   ·have hF : F = 3 := by
     have h1 := X.firstErr_map HOK.out HX.out (by rw [hIF]; simp)
     rw [HE.out, if_pos (by rw [h1, hIF]; simp), h1, hIF]; rfl
    have HF := hide hF
    clear hF hIF
    go_wp2_with (first | (go_at_call 32; refine (HN2.out _).mono ?_; rintro o w1 ⟨rfl, hw⟩; rw [hw]; clear hw w1) | (go_at_call 33; refine HPL.out.mono ?_; rintro o w2 ⟨rfl, hb2⟩))
    go_ret
    exact ⟨by rw [HF.out]; rfl, HB.out.trans ((HBA.out.trans (hb2.mono HBA.out.size)).mono HB.out.size)⟩
   ·have hI0 : X.inFault (m + 1) x = 0 := by rw [hIF]; rfl
    have HI0 := hide hI0
    clear hI0 hIF
    go_wp2_with (first | (go_at_call 32; refine (HN2.out _).mono ?_; rintro o w1 ⟨rfl, hw⟩; rw [hw]; clear hw w1) | (go_at_call 33; refine HPL.out.mono ?_; rintro o w2 ⟨rfl, hb2⟩))
    go_roundw
    case rel =>
     have hw2 : Below wr.heap.size wr w2 := HBA.out.trans (hb2.mono HBA.out.size)
     exact ⟨k + 1, by omega, by go_num, V.so_farN HOK.out HX.out HI0.out, (hw2.block w.heap.size hlt2).trans HBLK.out, HB.out.trans (hw2.mono HB.out.size)⟩
    case measure => simp [intOf]; omega
  ·have hA : X.firstErr (s.ins.map (X.inFault (m + 1))) = 0 := X.firstErr_all (fun j y hy => HOK.out j y (by have := V.lt_of_get hy; omega) hy)
   have hE2 := HE.out
   rw [if_neg (fun h => h hA)] at hE2
   have HE2 := hide hE2
   have b2 := cell_of_block hblk 2 _ rfl
   clear hE2 hA HE hblk hB HOK
   go_wp2_with fail
   go_loopw [55, 6, 7] (fun vi _ _ wr => ∃ k : Nat, k ≤ s.res.length ∧ vi = .int .i64 k ∧ (∀ j y, j < k → s.res[j]? = some y → X.resFault sm (m + 1) y = 0) ∧ wr.heap[w.heap.size]? = some (.cells #[.string s.name, .slice ai s.ins.length ci, .slice ar s.res.length cr, .slice ao s.outs.length co] 41 (0, 0)) ∧ Below w.heap.size w wr) (fun vi _ _ _ => s.res.length - (intOf vi).toNat)
   case atStart => exact ⟨0, Nat.zero_le _, rfl, fun j y hj => absurd hj (by omega), HBLK.out, HB.out⟩
   case round =>
    clear HBLK HB b2 hlt2
    obtain ⟨k, hk, rfl, hok, hblk, hB⟩ := hrel
    have HOK := hide hok
    have hlt2 : w.heap.size < wr.heap.size := (blt hblk)
    have HBLK := hide hblk
    have HB := hide hB
    clear hok
    by_cases hltr : k < s.res.length
    ·obtain ⟨b, off, cap, x, ap, cp, e1, hx, hm, y0, y1, y2⟩ := X.elemR (HR.out.kept hB) k hltr
     simp only [Value.slice.injEq] at e1
     obtain ⟨rfl, _, rfl⟩ := e1
     obtain ⟨hx1, hx2, hx3⟩ := X.sumR_mem (List.mem_of_getElem? hx) HsR.out
     have hbA : Below wr.heap.size wr (wr.alloc (.cells #[.string x.kind, .string x.name, .slice ap x.parts.length cp] 53)) := (Below.refl _ _).alloc (Nat.le_refl _) _
     have hcr := checkResource_any sm hsm (m + 1) _ x _ (hm.kept hbA) hx3 hx1 hx2
     generalize hG : X.resFault sm (m + 1) x = G at *
     have HCR := hide hcr
     have HBA := hide hbA
     have HX := hide hx
     have HG := hide hG
     clear hx hm hblk hB hbA hcr hG
     by_cases hG0 : G = 0
     ·subst hG0
      go_wp2_with (go_at_call 34; refine HCR.out.mono ?_; rintro o w2 ⟨rfl, hb2⟩; rw [V.errOf, if_pos rfl])
      go_roundw
      case rel =>
       have hw2 : Below wr.heap.size wr w2 := HBA.out.trans (hb2.mono HBA.out.size)
       exact ⟨k + 1, by omega, by go_num, V.so_farN HOK.out HX.out HG.out, (hw2.block w.heap.size hlt2).trans HBLK.out, HB.out.trans (hw2.mono HB.out.size)⟩
      case measure => simp [intOf]; omega
     ·have hF : F = G := by
       have h1 := X.firstErr_map HOK.out HX.out (by rw [HG.out]; exact hG0)
       rw [HE2.out, if_pos (by rw [h1, HG.out]; exact hG0), h1, HG.out]
      have HF := hide hF
      clear hF
      go_wp2_with (go_at_call 34; refine HCR.out.mono ?_; rintro o w2 ⟨rfl, hb2⟩; rw [err_ne G hG0])
      go_ret
      have hw2 : Below wr.heap.size wr w2 := HBA.out.trans (hb2.mono HBA.out.size)
      exact ⟨by rw [HF.out, err_ne G hG0]; rfl, HB.out.trans (hw2.mono HB.out.size)⟩
    ·have hA : X.firstErr (s.res.map (X.resFault sm (m + 1))) = 0 := X.firstErr_all (fun j y hy => HOK.out j y (by have := V.lt_of_get hy; omega) hy)
     have hE3 := HE2.out
     rw [if_neg (fun h => h hA)] at hE3
     have HE3 := hide hE3
     have b3 := cell_of_block hblk 3 _ rfl
     clear hE3 hA HE2 hblk hB HOK
     go_wp2_with fail
     go_loopw [68, 9, 10] (fun vi _ _ wr => ∃ k : Nat, k ≤ s.outs.length ∧ vi = .int .i64 k ∧ (∀ j y, j < k → s.outs[j]? = some y → X.faultN sm (m + 1) y.1 y.2 = 0) ∧ Below w.heap.size w wr) (fun vi _ _ _ => s.outs.length - (intOf vi).toNat)
     case atStart => exact ⟨0, Nat.zero_le _, rfl, fun j y hj => absurd hj (by omega), HB.out⟩
     case round =>
      clear HBLK HB b3 hlt2
      obtain ⟨k, hk, rfl, hok, hB⟩ := hrel
      have HOK := hide hok
      have HB := hide hB
      clear hok
      by_cases hlto : k < s.outs.length
      ·obtain ⟨b, off, cap, x, al, cl, af, cf, aa, ca, an, cn, e1, hx, hm, y0, y1, y2, y3, y4, y5, y6, y7, y8, y9, y10⟩ := X.elemE (HO.out.kept hB) k hlto
       simp only [Value.slice.injEq] at e1
       obtain ⟨rfl, _, rfl⟩ := e1
       obtain ⟨hxs, hxb⟩ := X.sumP_mem (List.mem_of_getElem? hx) HsO.out
       have hbA : Below wr.heap.size wr (wr.alloc (.cells #[.string x.1, .int .i64 x.2.kind, .int .i64 x.2.v.kind, .int .i64 x.2.v.n, .string x.2.v.s, .slice al x.2.v.l.length cl, .slice af x.2.v.f.length cf, .string x.2.s, .string x.2.t, .slice aa x.2.a.length ca, .slice an x.2.n.length cn] 61)) := (Below.refl _ _).alloc (Nat.le_refl _) _
       have hcn := checkNamed_any sm hsm (m + 1) _ x.1 x.2 _ _ _ _ _ _ _ _ _ _ (X.Mem.kept _ hm hbA) hxb hxs
       generalize hG : X.faultN sm (m + 1) x.1 x.2 = G at *
       have HCN := hide hcn
       have HBA := hide hbA
       have HX := hide hx
       have HG := hide hG
       clear hx hm hB hbA hcn hG
       by_cases hG0 : G = 0
       ·subst hG0
        go_wp2_with (go_at_call 35; refine HCN.out.mono ?_; rintro o w2 ⟨rfl, hb2⟩; rw [V.errOf, if_pos rfl])
        go_roundw
        case rel =>
         have hw2 : Below wr.heap.size wr w2 := HBA.out.trans (hb2.mono HBA.out.size)
         exact ⟨k + 1, by omega, by go_num, V.so_farN (f := fun y : ByteArray × Ex => X.faultN sm (m + 1) y.1 y.2) HOK.out HX.out HG.out, HB.out.trans (hw2.mono HB.out.size)⟩
        case measure => simp [intOf]; omega
       ·have hF : F = G := by
         have h1 := X.firstErr_map (f := fun y : ByteArray × Ex => X.faultN sm (m + 1) y.1 y.2) HOK.out HX.out (by show X.faultN sm (m + 1) x.1 x.2 ≠ 0; rw [HG.out]; exact hG0)
         rw [HE3.out, h1]; exact HG.out
        have HF := hide hF
        clear hF
        go_wp2_with (go_at_call 35; refine HCN.out.mono ?_; rintro o w2 ⟨rfl, hb2⟩; rw [err_ne G hG0])
        go_ret
        have hw2 : Below wr.heap.size wr w2 := HBA.out.trans (hb2.mono HBA.out.size)
        exact ⟨by rw [HF.out, err_ne G hG0]; rfl, HB.out.trans (hw2.mono HB.out.size)⟩
      ·have hF : F = 0 := by
        rw [HE3.out]
        exact X.firstErr_all (f := fun y : ByteArray × Ex => X.faultN sm (m + 1) y.1 y.2) (fun j y hy => HOK.out j y (by have := V.lt_of_get hy; omega) hy)
       have HF := hide hF
       clear hF hB
       go_wp2_with fail
       go_ret
       exact ⟨by rw [HF.out]; rfl, HB.out⟩
end Go.Proofs.YtbdbpfcblppnbaaGreatDoor.Vx
namespace Go.Proofs.YtbdbpfcblppnbaaGreatDoor.Vx
open Go.RowKit
namespace X
/-- A row of stacks. -/
def Stks (m : Nat) (w : World) (v : Value) (l : List Sk) : Prop := V.Row w v l.length 4 (fun i c => ∃ x, l[i]? = some x ∧ SMem m w x c)
theorem Stks.kept {m : Nat} {w w' : World} {v : Value} {l : List Sk} (h : Stks m w v l) (hb : Below w.heap.size w w') : Stks m w' v l :=
 V.Row.kept h hb (fun _ _ ⟨x, hx, hm⟩ => ⟨x, hx, hm.kept hb⟩)
theorem elemS {m : Nat} {w : World} {v : Value} {l : List Sk} (h : Stks m w v l) (i : Nat) (hi : i < l.length) :
  ∃ b off cap x ai ci ar cr ao co, v = .slice (some ⟨b, off, none⟩) l.length cap ∧ l[i]? = some x ∧ Vals m w (.slice ai x.ins.length ci) x.ins ∧ Ress m w (.slice ar x.res.length cr) x.res ∧ Named m w (.slice ao x.outs.length co) x.outs ∧
   w.cell? ⟨b, off + i * 4, none⟩ = some (.string x.name) ∧ w.cell? ⟨b, off + i * 4 + 1, none⟩ = some (.slice ai x.ins.length ci) ∧ w.cell? ⟨b, off + i * 4 + 2, none⟩ = some (.slice ar x.res.length cr) ∧ w.cell? ⟨b, off + i * 4 + 3, none⟩ = some (.slice ao x.outs.length co) := by
 obtain ⟨ao, cap, rfl, h | ⟨b, off, rfl, h⟩⟩ := h
 ·omega
 ·obtain ⟨cs, h1, h2, x, hx, iv, rv, ov, rfl, hI, hR, hO⟩ := h i hi
  obtain ⟨ai, ci, rfl⟩ := V.Row.shape hI
  obtain ⟨ar, cr, rfl⟩ := V.Row.shape hR
  obtain ⟨ao2, co, rfl⟩ := V.Row.shape hO
  exact ⟨b, off, cap, x, ai, ci, ar, cr, ao2, co, rfl, hx, hI, hR, hO, h2 0 (by omega), h2 1 (by omega), h2 2 (by omega), h2 3 (by omega)⟩
def sumS (m : Nat) (l : List Sk) : Nat := (l.map (bulkS m)).sum
theorem sumS_mem {m : Nat} {l : List Sk} {x : Sk} (h : x ∈ l) {B : Nat} (hB : sumS m l ≤ B) : bulkS m x ≤ B := by
 have := sum_le (bulkS m) l x h
 unfold sumS at hB
 omega
end X
end Go.Proofs.YtbdbpfcblppnbaaGreatDoor.Vx
