/- Stacks in memory; lang.checkResource. -/
import Derived.Test.YtienhelohfhhfaaXC
namespace Go.Proofs.Ytienhelohfhhfaa.Vx
open Go.RowKit
/-- A resource, as a plain tree. -/
structure Rs where
  kind : ByteArray
  name : ByteArray
  parts : List (ByteArray × Ex)
/-- A stack, as a plain tree. -/
structure Sk where
  name : ByteArray
  ins : List (ByteArray × Val)
  res : List Rs
  outs : List (ByteArray × Ex)
namespace X
theorem Mem.form {m : Nat} {w : World} {e : Ex} {d0 d1 d2 d3 d4 d5 d6 d7 d8 d9 : Value} (h : Mem m w e [d0, d1, d2, d3, d4, d5, d6, d7, d8, d9]) :
    ∃ al cl af cf aa ca an cn, d0 = .int .i64 e.kind ∧ d1 = .int .i64 e.v.kind ∧ d2 = .int .i64 e.v.n ∧ d3 = .string e.v.s ∧ d4 = .slice al e.v.l.length cl ∧ d5 = .slice af e.v.f.length cf ∧ d6 = .string e.s ∧ d7 = .string e.t ∧ d8 = .slice aa e.a.length ca ∧ d9 = .slice an e.n.length cn := by
  cases m with
  | zero => exact h.elim
  | succ m =>
    obtain ⟨c0, c1, c2, c3, c4, av, nv, hcs, hv, ha, hn⟩ := h
    obtain ⟨lv, fv, hvs, hl, hf⟩ := hv
    simp only [List.cons.injEq, and_true] at hcs hvs
    obtain ⟨rfl, rfl, rfl, rfl, rfl, rfl, rfl, rfl, rfl, rfl⟩ := hcs
    obtain ⟨rfl, rfl, rfl, rfl, rfl⟩ := hvs
    obtain ⟨aa, ca, rfl⟩ := ha.shape
    obtain ⟨an, cn, rfl⟩ := hn.shape
    obtain ⟨al, cl, rfl⟩ := hl.shape
    obtain ⟨af, cf, rfl⟩ := hf.shape
    exact ⟨al, cl, af, cf, aa, ca, an, cn, rfl, rfl, rfl, rfl, rfl, rfl, rfl, rfl, rfl, rfl⟩
/-- A row of named expressions. -/
def Named (m : Nat) (w : World) (v : Value) (l : List (ByteArray × Ex)) : Prop := V.Row w v l.length 11 (fun i c => ∃ x c', l[i]? = some x ∧ c = .string x.1 :: c' ∧ Mem m w x.2 c')
theorem Named.kept {m : Nat} {w w' : World} {v : Value} {l : List (ByteArray × Ex)} (h : Named m w v l) (hb : Below w.heap.size w w') : Named m w' v l :=
  V.Row.kept h hb (fun _ _ ⟨x, c', hx, hc, hm⟩ => ⟨x, c', hx, hc, Mem.kept m hm hb⟩)
/-- One of them, cell by cell. -/
theorem elemE {m : Nat} {w : World} {v : Value} {l : List (ByteArray × Ex)} (h : Named m w v l) (i : Nat) (hi : i < l.length) :
    ∃ b off cap x al cl af cf aa ca an cn, v = .slice (some ⟨b, off, none⟩) l.length cap ∧ l[i]? = some x ∧
      Mem m w x.2 [.int .i64 x.2.kind, .int .i64 x.2.v.kind, .int .i64 x.2.v.n, .string x.2.v.s, .slice al x.2.v.l.length cl, .slice af x.2.v.f.length cf, .string x.2.s, .string x.2.t, .slice aa x.2.a.length ca, .slice an x.2.n.length cn] ∧
      w.cell? ⟨b, off + i * 11, none⟩ = some (.string x.1) ∧ w.cell? ⟨b, off + i * 11 + 1, none⟩ = some (.int .i64 x.2.kind) ∧ w.cell? ⟨b, off + i * 11 + 2, none⟩ = some (.int .i64 x.2.v.kind) ∧ w.cell? ⟨b, off + i * 11 + 3, none⟩ = some (.int .i64 x.2.v.n) ∧
      w.cell? ⟨b, off + i * 11 + 4, none⟩ = some (.string x.2.v.s) ∧ w.cell? ⟨b, off + i * 11 + 5, none⟩ = some (.slice al x.2.v.l.length cl) ∧ w.cell? ⟨b, off + i * 11 + 6, none⟩ = some (.slice af x.2.v.f.length cf) ∧ w.cell? ⟨b, off + i * 11 + 7, none⟩ = some (.string x.2.s) ∧
      w.cell? ⟨b, off + i * 11 + 8, none⟩ = some (.string x.2.t) ∧ w.cell? ⟨b, off + i * 11 + 9, none⟩ = some (.slice aa x.2.a.length ca) ∧ w.cell? ⟨b, off + i * 11 + 10, none⟩ = some (.slice an x.2.n.length cn) := by
  obtain ⟨ao, cap, rfl, h | ⟨b, off, rfl, h⟩⟩ := h
  · omega
  · obtain ⟨cs, h1, h2, x, c', hx, rfl, hm⟩ := h i hi
    match c', h1 with
    | [d0, d1, d2, d3, d4, d5, d6, d7, d8, d9], _ =>
      obtain ⟨al, cl, af, cf, aa, ca, an, cn, rfl, rfl, rfl, rfl, rfl, rfl, rfl, rfl, rfl, rfl⟩ := hm.form
      exact ⟨b, off, cap, x, al, cl, af, cf, aa, ca, an, cn, rfl, hx, hm, h2 0 (by omega), h2 1 (by omega), h2 2 (by omega), h2 3 (by omega), h2 4 (by omega), h2 5 (by omega), h2 6 (by omega), h2 7 (by omega), h2 8 (by omega), h2 9 (by omega), h2 10 (by omega)⟩
def sumP (m : Nat) (l : List (ByteArray × Ex)) : Nat := (l.map (fun x => x.1.size + bulk m x.2)).sum
theorem sumP_mem {m : Nat} {l : List (ByteArray × Ex)} {x : ByteArray × Ex} (h : x ∈ l) {B : Nat} (hB : sumP m l ≤ B) : x.1.size ≤ B ∧ bulk m x.2 ≤ B := by
  have := sum_le (fun x : ByteArray × Ex => x.1.size + bulk m x.2) l x h
  unfold sumP at hB
  omega
/-- The error of one part: its name is not above the one ahead; checkNamed. -/
def partFault (sm : Val → Val → Bool) (m : Nat) (l : List (ByteArray × Ex)) (k : Nat) : Nat :=
  match l[k]? with
  | none => 0
  | some x => if k ≠ 0 ∧ (match l[k - 1]? with | none => true | some y => Op.bytesLess (V.bl y.1) (V.bl x.1)) = false then 3 else faultN sm m x.1 x.2
/-- The first that is none of noughts. -/
def firstErr (l : List Nat) : Nat := (l.find? (fun n => n ≠ 0)).getD 0
theorem firstErr_at {l : List Nat} {k n : Nat} (h : ∀ j, j < k → l[j]? = some 0) (hk : l[k]? = some n) (hn : n ≠ 0) : firstErr l = n := by
  unfold firstErr
  induction l generalizing k with
  | nil => simp at hk
  | cons a t ih =>
    cases k with
    | zero => cases hk; rw [List.find?_cons_of_pos (by simpa using hn)]; rfl
    | succ k =>
      have h0 : a = 0 := by simpa using h 0 (by omega)
      rw [List.find?_cons_of_neg (by simp [h0])]
      exact ih (k := k) (fun j hj => by simpa using h (j + 1) (by omega)) (by simpa using hk)
theorem firstErr_none {l : List Nat} (h : ∀ j, j < l.length → l[j]? = some 0) : firstErr l = 0 := by
  unfold firstErr
  have : l.find? (fun n => n ≠ 0) = none := by
    rw [List.find?_eq_none]
    intro x hx
    obtain ⟨j, hj, e⟩ := List.getElem_of_mem hx
    have := h j hj
    rw [List.getElem?_eq_getElem hj, e] at this
    cases this
    simp
  rw [this]; rfl
/-- lang.checkResource: an error's number. -/
def resFault (sm : Val → Val → Bool) (m : Nat) (r : Rs) : Nat :=
  if (V.name (V.bl r.kind) && V.name (V.bl r.name)) = false then 3 else if 6 < r.parts.length then 2 else firstErr ((List.range r.parts.length).map (partFault sm m r.parts))
theorem faults_get {f : Nat → Nat} {n j : Nat} (h : j < n) : ((List.range n).map f)[j]? = some (f j) := by rw [List.getElem?_map, List.getElem?_range h]; rfl
end X
theorem err_ne (n : Nat) (h : n ≠ 0) : V.errOf n = .iface 68 (.int .i64 n) := by rw [V.errOf, if_neg h]
set_option maxRecDepth 100000 in
set_option maxHeartbeats 3200000 in
theorem checkResource_any (sm : Val → Val → Bool) (hsm : V.Says sm) (m : Nat) (w : World) (r : Rs) (pv : Value) (hp : X.Named m w pv r.parts) (hbk : X.sumP m r.parts ≤ 2000000) (hks : r.kind.size ≤ 2000000) (hns : r.name.size ≤ 2000000) :
    Calls Try.prog 84 #[.agg #[.string r.kind, .string r.name, pv]] w fun o w' => o = .returned (V.errOf (X.resFault sm m r)) ∧ Below w.heap.size w w' := by
  obtain ⟨ap, cp, rfl⟩ := V.Row.shape hp
  have hm1 : r.kind.size ≤ maxLen := by unfold maxLen; omega
  have hm2 : r.name.size ≤ maxLen := by unfold maxLen; omega
  have HN1 := hide (fun w => name_any r.kind w hm1)
  have HN2 := hide (fun w => name_any r.name w hm2)
  have hE : X.resFault sm m r = if (V.name (V.bl r.kind) && V.name (V.bl r.name)) = false then 3 else if 6 < r.parts.length then 2 else X.firstErr ((List.range r.parts.length).map (X.partFault sm m r.parts)) := rfl
  have hbL : Below w.heap.size w (w.alloc (.cells #[.string r.kind, .string r.name, .slice ap r.parts.length cp] 105)) := (Below.refl _ _).alloc (Nat.le_refl _) _
  have hblk0 : (w.alloc (.cells #[.string r.kind, .string r.name, .slice ap r.parts.length cp] 105)).heap[w.heap.size]? = some (.cells #[.string r.kind, .string r.name, .slice ap r.parts.length cp] 105 (0, 0)) := heap_alloc_new _ _
  generalize X.resFault sm m r = F at *
  generalize V.name (V.bl r.kind) = A at *
  generalize V.name (V.bl r.name) = B at *
  have HE := hide hE
  have HP := hide hp
  have HBL := hide hbL
  have HBLK0 := hide hblk0
  have HBK := hide hbk
  clear hE hp hbL hblk0 hbk hm1 hm2
  have h3 : V.errOf 3 = .iface 68 (.int .i64 3) := rfl
  have h2 : V.errOf 2 = .iface 68 (.int .i64 2) := rfl
  by_cases hAB : (A && B) = false
  · have hF : F = 3 := by rw [HE.out, if_pos hAB]
    have HF := hide hF
    clear hF HE
    have hc : A = false ∨ (A = true ∧ B = false) := by cases A <;> cases B <;> simp_all
    rcases hc with rfl | ⟨rfl, rfl⟩
    · clear hAB
      go_enter Try.func84, Try.ntmps84
      go_wp2_with (go_at_call 82; with_reducible refine (HN1.out _).mono ?_; rintro o w1 ⟨rfl, hw⟩; rw [hw]; clear hw w1)
      go_ret
      exact ⟨by rw [HF.out]; rfl, HBL.out⟩
    · clear hAB
      go_enter Try.func84, Try.ntmps84
      go_wp2_with (first | (go_at_call 82; with_reducible refine (HN1.out _).mono ?_; rintro o w1 ⟨rfl, hw⟩; rw [hw]; clear hw w1) | (go_at_call 82; with_reducible refine (HN2.out _).mono ?_; rintro o w1 ⟨rfl, hw⟩; rw [hw]; clear hw w1))
      go_ret
      exact ⟨by rw [HF.out]; rfl, HBL.out⟩
  have hA : A = true ∧ B = true := by cases A <;> cases B <;> simp_all
  obtain ⟨rfl, rfl⟩ := hA
  have hE2 := HE.out
  rw [if_neg hAB] at hE2
  clear HE hAB
  by_cases h6 : 6 < r.parts.length
  · rw [if_pos h6] at hE2
    have HF := hide hE2
    clear hE2
    go_enter Try.func84, Try.ntmps84
    go_wp2_with (first | (go_at_call 82; with_reducible refine (HN1.out _).mono ?_; rintro o w1 ⟨rfl, hw⟩; rw [hw]; clear hw w1) | (go_at_call 82; with_reducible refine (HN2.out _).mono ?_; rintro o w1 ⟨rfl, hw⟩; rw [hw]; clear hw w1))
    go_ret
    exact ⟨by rw [HF.out]; rfl, HBL.out⟩
  rw [if_neg h6] at hE2
  have HE := hide hE2
  clear hE2
  go_enter Try.func84, Try.ntmps84
  go_wp2_with (first | (go_at_call 82; with_reducible refine (HN1.out _).mono ?_; rintro o w1 ⟨rfl, hw⟩; rw [hw]; clear hw w1) | (go_at_call 82; with_reducible refine (HN2.out _).mono ?_; rintro o w1 ⟨rfl, hw⟩; rw [hw]; clear hw w1))
  go_loopw [25, 3, 4, 5] (fun vi _ _ _ wr => ∃ k : Nat, k ≤ r.parts.length ∧ vi = .int .i64 k ∧ (∀ j, j < k → X.partFault sm m r.parts j = 0) ∧
      wr.heap[w.heap.size]? = some (.cells #[.string r.kind, .string r.name, .slice ap r.parts.length cp] 105 (0, 0)) ∧ Below w.heap.size w wr)
    (fun vi _ _ _ _ => r.parts.length - (intOf vi).toNat)
  case atStart => exact ⟨0, Nat.zero_le _, rfl, fun j hj => absurd hj (by omega), HBLK0.out, HBL.out⟩
  case round =>
    clear HBLK0 HBL
    obtain ⟨k, hk, rfl, hok, hblk, hB⟩ := hrel
    have HOK := hide hok
    clear hok
    have b2 := cell_of_block hblk 2 _ rfl
    have hlt2 : w.heap.size < wr.heap.size := (Array.getElem?_eq_some_iff.1 hblk).1
    by_cases hlt : k < r.parts.length
    · obtain ⟨b, off, cap, x, al, cl, af, cf, aa, ca, an, cn, e1, hx, hm, y0, y1, y2, y3, y4, y5, y6, y7, y8, y9, y10⟩ := X.elemE (HP.out.kept hB) k hlt
      simp only [Value.slice.injEq] at e1
      obtain ⟨rfl, _, rfl⟩ := e1
      obtain ⟨hxs, hxb⟩ := X.sumP_mem (List.mem_of_getElem? hx) HBK.out
      have hbA : Below wr.heap.size wr (wr.alloc (.cells #[.string x.1, .int .i64 x.2.kind, .int .i64 x.2.v.kind, .int .i64 x.2.v.n, .string x.2.v.s, .slice al x.2.v.l.length cl, .slice af x.2.v.f.length cf, .string x.2.s, .string x.2.t, .slice aa x.2.a.length ca, .slice an x.2.n.length cn] 111)) := (Below.refl _ _).alloc (Nat.le_refl _) _
      have HCN := hide (fun w' (hB' : Below wr.heap.size wr w') => checkNamed_any sm hsm m w' x.1 x.2 _ _ _ _ _ _ _ _ _ _ (X.Mem.kept m hm hB') hxb hxs)
      have hPF : X.partFault sm m r.parts k = if k ≠ 0 ∧ (match r.parts[k - 1]? with | none => true | some y => Op.bytesLess (V.bl y.1) (V.bl x.1)) = false then 3 else X.faultN sm m x.1 x.2 := by unfold X.partFault; rw [hx]
      have HBLK := hide hblk
      have HB := hide hB
      have HBA := hide hbA
      clear hx hm hblk hB hbA
      generalize X.faultN sm m x.1 x.2 = G at *
      by_cases hk0 : k = 0
      · have hPF0 : X.partFault sm m r.parts k = G := by rw [hPF, if_neg (fun h => h.1 hk0)]
        have HPF := hide hPF0
        clear hPF hPF0
        subst hk0
        simp only [Nat.zero_mul, Nat.add_zero] at y0 y1 y2 y3 y4 y5 y6 y7 y8 y9 y10
        have HAFT := hide (fun w2 (hb2 : Below (wr.alloc (.cells #[.string x.1, .int .i64 x.2.kind, .int .i64 x.2.v.kind, .int .i64 x.2.v.n, .string x.2.v.s, .slice al x.2.v.l.length cl, .slice af x.2.v.f.length cf, .string x.2.s, .string x.2.t, .slice aa x.2.a.length ca, .slice an x.2.n.length cn] 111)).heap.size (wr.alloc (.cells #[.string x.1, .int .i64 x.2.kind, .int .i64 x.2.v.kind, .int .i64 x.2.v.n, .string x.2.v.s, .slice al x.2.v.l.length cl, .slice af x.2.v.f.length cf, .string x.2.s, .string x.2.t, .slice aa x.2.a.length ca, .slice an x.2.n.length cn] 111)) w2) => (HBA.out.trans (hb2.mono HBA.out.size) : Below wr.heap.size wr w2))
        by_cases hG : G = 0
        · subst hG
          go_wp2_with fail
          go_quiet (fail)
          all_goals
            go_wp2_with (go_at_call 85; refine (HCN.out _ (below_drewN HBA.out _)).mono ?_; rintro o w2 ⟨rfl, hb2⟩; rw [V.errOf, if_pos rfl])
            go_roundw
            case rel =>
              have hw2 : Below wr.heap.size wr w2 := (below_drewN HBA.out _).trans (hb2.mono (below_drewN HBA.out _).size)
              exact ⟨1, by omega, by go_num, fun j hj => by rw [show j = 0 by omega]; exact HPF.out, (hw2.block w.heap.size hlt2).trans HBLK.out, HB.out.trans (hw2.mono HB.out.size)⟩
            case measure => simp [intOf]; omega
        · have hF : F = G := by
            rw [HE.out]
            exact X.firstErr_at (k := 0) (fun j hj => absurd hj (by omega)) (by rw [X.faults_get hlt, HPF.out]) hG
          have HF := hide hF
          clear hF
          go_wp2_with fail
          go_quiet (fail)
          all_goals
            go_wp2_with (go_at_call 85; refine (HCN.out _ (below_drewN HBA.out _)).mono ?_; rintro o w2 ⟨rfl, hb2⟩; rw [err_ne G hG])
            go_ret
            have hw2 : Below wr.heap.size wr w2 := (below_drewN HBA.out _).trans (hb2.mono (below_drewN HBA.out _).size)
            exact ⟨by rw [HF.out, err_ne G hG]; rfl, HB.out.trans (hw2.mono HB.out.size)⟩
      · obtain ⟨k', rfl⟩ : ∃ k', k = k' + 1 := ⟨k - 1, by omega⟩
        obtain ⟨b', off', cap', y, _, _, _, _, _, _, _, _, e1, hy, _, zn, _⟩ := X.elemE (HP.out.kept HB.out) k' (by omega)
        simp only [Value.slice.injEq, Option.some.injEq, Addr.mk.injEq] at e1
        obtain ⟨⟨rfl, rfl, _⟩, _, rfl⟩ := e1
        rw [show k' + 1 - 1 = k' from rfl, hy] at hPF
        have gk : decide (0 < ((k' + 1 : Nat) : Int)) = true := decide_eq_true (by omega)
        have hbl : b < wr.heap.size := World.block_lt_of_cell? wr _ zn
        have hfl := less_flip (V.bl x.1) (V.bl y.1)
        clear hk0 hy
        cases hls : Op.bytesLess (V.bl y.1) (V.bl x.1)
        · have hPF0 : X.partFault sm m r.parts (k' + 1) = 3 := by rw [hPF, if_pos ⟨by omega, hls⟩]
          have hF : F = 3 := by
            rw [HE.out]
            exact X.firstErr_at (k := k' + 1) (fun j hj => by rw [X.faults_get (by omega), HOK.out j hj]) (by rw [X.faults_get hlt, hPF0]) (by decide)
          have HF := hide hF
          rw [hls, ← V.toList_bl, ← V.toList_bl] at hfl
          clear hF hPF hPF0 hls
          go_wp2_with fail
          go_quiet (fail)
          all_goals
            go_wp2_with fail
            go_ret
            exact ⟨by rw [HF.out]; rfl, HB.out.trans ((below_drewN HBA.out _).mono HB.out.size)⟩
        · have hPF0 : X.partFault sm m r.parts (k' + 1) = G := by rw [hPF, if_neg (fun h => by have h2 : Op.bytesLess (V.bl y.1) (V.bl x.1) = false := h.2; rw [hls] at h2; exact absurd h2 (by decide))]
          have HPF := hide hPF0
          rw [hls, ← V.toList_bl, ← V.toList_bl] at hfl
          clear hPF hPF0 hls
          by_cases hG : G = 0
          · subst hG
            go_wp2_with fail
            go_quiet (fail)
            all_goals
              go_wp2_with (go_at_call 85; refine (HCN.out _ (below_drewN HBA.out _)).mono ?_; rintro o w2 ⟨rfl, hb2⟩; rw [V.errOf, if_pos rfl])
              go_roundw
              case rel =>
                have hw2 : Below wr.heap.size wr w2 := (below_drewN HBA.out _).trans (hb2.mono (below_drewN HBA.out _).size)
                refine ⟨k' + 1 + 1, by omega, by go_num, fun j hj => ?_, (hw2.block w.heap.size hlt2).trans HBLK.out, HB.out.trans (hw2.mono HB.out.size)⟩
                by_cases e : j = k' + 1
                · rw [e]; exact HPF.out
                · exact HOK.out j (by omega)
              case measure => simp [intOf]; omega
          · have hF : F = G := by
              rw [HE.out]
              exact X.firstErr_at (k := k' + 1) (fun j hj => by rw [X.faults_get (by omega), HOK.out j hj]) (by rw [X.faults_get hlt, HPF.out]) hG
            have HF := hide hF
            clear hF
            go_wp2_with fail
            go_quiet (fail)
            all_goals
              go_wp2_with (go_at_call 85; refine (HCN.out _ (below_drewN HBA.out _)).mono ?_; rintro o w2 ⟨rfl, hb2⟩; rw [err_ne G hG])
              go_ret
              have hw2 : Below wr.heap.size wr w2 := (below_drewN HBA.out _).trans (hb2.mono (below_drewN HBA.out _).size)
              exact ⟨by rw [HF.out, err_ne G hG]; rfl, HB.out.trans (hw2.mono HB.out.size)⟩
    · have hF : F = 0 := by
        rw [HE.out]
        exact X.firstErr_none (fun j hj => by
          have hj' : j < r.parts.length := by simpa using hj
          rw [X.faults_get hj', HOK.out j (by omega)])
      have HF := hide hF
      have HB := hide hB
      clear hF hB hblk
      go_wp2_with fail
      go_ret
      exact ⟨by rw [HF.out]; rfl, HB.out⟩
end Go.Proofs.Ytienhelohfhhfaa.Vx
