/- value.shaped. -/
import Derived.Test.YtlmkpjdaoinmoaaVF
namespace Go.Proofs.Ytlmkpjdaoinmoaa
open Go.RowKit
namespace V
/-- Is it a value, and all in it, whatever its size? -/
def shaped : Nat → Val → Bool
  | 0, _ => true
  | m + 1, v => spare v.kind v.n v.s v.l.length v.f.length && fits v.kind v.n v.s (rise v.f) && (v.l.all (shaped m) && v.f.all (fun x => shaped m x.2))
theorem all_false {α : Type} (g : α → Bool) (l : List α) (k : Nat) (x : α) (hx : l[k]? = some x) (h : g x = false) : l.all g = false := by
  rw [List.all_eq_false]; exact ⟨x, List.mem_of_getElem? hx, by simp [h]⟩
theorem all_true {α : Type} (g : α → Bool) (l : List α) (h : ∀ (j : Nat) (x : α), l[j]? = some x → g x = true) : l.all g = true := by
  rw [List.all_eq_true]; intro x hx; obtain ⟨j, hj⟩ := List.getElem?_of_mem hx; exact h j x hj
theorem so_far {α : Type} {g : α → Bool} {l : List α} {k : Nat} {x : α} (hs : ∀ (j : Nat) (y : α), j < k → l[j]? = some y → g y = true) (hx : l[k]? = some x) (h : g x = true) : ∀ (j : Nat) (y : α), j < k + 1 → l[j]? = some y → g y = true := by
  intro j y hj hy
  rcases Nat.lt_or_ge j k with h1 | h1
  · exact hs j y h1 hy
  · have e : j = k := by omega
    subst e; rw [hx] at hy; cases hy; exact h
theorem lt_of_get {α : Type} {l : List α} {j : Nat} {x : α} (h : l[j]? = some x) : j < l.length := (List.getElem?_eq_some_iff.1 h).1
theorem bulk_s (m : Nat) (v : Val) (B : Nat) (h : bulk (m + 1) v ≤ B) : v.s.size ≤ B ∧ v.l.length ≤ B ∧ v.f.length ≤ B ∧ (∀ x ∈ v.f, x.1.size ≤ B) := by
  rw [bulk] at h
  refine ⟨by omega, by omega, by omega, fun x hx => ?_⟩
  have := sumF_mem (fun x => x.1.size + bulk m x.2) v.f x hx
  omega
end V
set_option maxRecDepth 100000 in
set_option maxHeartbeats 1600000 in
theorem shaped_any (m : Nat) : ∀ (w : World) (v : Val) (c0 c1 c2 c3 c4 : Value), V.Mem m w v [c0, c1, c2, c3, c4] → V.bulk m v ≤ 2000000 →
    Calls Try.prog 66 #[.agg #[c0, c1, c2, c3, c4]] w fun e w' => e = .returned (.bool (V.shaped m v)) ∧ Below w.heap.size w w' := by
  induction m with
  | zero => intro w v c0 c1 c2 c3 c4 h; exact h.elim
  | succ m ih =>
    intro w v c0 c1 c2 c3 c4 ⟨lv, fv, hcs, hl, hf⟩ hbk
    simp only [List.cons.injEq, and_true] at hcs
    obtain ⟨rfl, rfl, rfl, rfl, rfl⟩ := hcs
    have IH : Hid _ := ih
    clear ih
    obtain ⟨al, cl, rfl⟩ := hl.shape
    obtain ⟨af, cf, rfl⟩ := hf.shape
    obtain ⟨bs, bl, bf, bn⟩ := V.bulk_s m v _ hbk
    rw [V.bulk] at hbk
    have hbL : Below w.heap.size w (w.alloc (.cells #[.int .i64 v.kind, .int .i64 v.n, .string v.s, .slice al v.l.length cl, .slice af v.f.length cf] 40)) := (Below.refl _ _).alloc (Nat.le_refl _) _
    have hblk0 : (w.alloc (.cells #[.int .i64 v.kind, .int .i64 v.n, .string v.s, .slice al v.l.length cl, .slice af v.f.length cf] 40)).heap[w.heap.size]? = some (.cells #[.int .i64 v.kind, .int .i64 v.n, .string v.s, .slice al v.l.length cl, .slice af v.f.length cf] 40 (0, 0)) := heap_alloc_new _ _
    have hSP := fun w => spareZero_any w v.kind v.n v.s al af v.l.length v.f.length cl cf
    have hFI := fun w' (hB : Below w.heap.size w w') => contentFits_any m w' v.kind v.n v.s (.slice al v.l.length cl) (.slice af v.f.length cf) v.f (hf.kept hB (fun _ _ ⟨x, c', hx, hc, hm⟩ => ⟨x, c', hx, hc, V.Mem.kept m hm hB⟩)) bn bf bs
    have hE : V.shaped (m + 1) v = (V.spare v.kind v.n v.s v.l.length v.f.length && V.fits v.kind v.n v.s (V.rise v.f) && (v.l.all (V.shaped m) && v.f.all (fun x => V.shaped m x.2))) := by rw [V.shaped]
    generalize V.spare v.kind v.n v.s v.l.length v.f.length = sp at *
    generalize V.fits v.kind v.n v.s (V.rise v.f) = ft at *
    have HSP : Hid _ := hSP
    have HFI : Hid _ := hFI
    clear hSP hFI bn
    go_enter Try.func66, Try.ntmps66
    go_wp2_with fail
    refine (HSP.out _).mono ?_
    rintro e w1 ⟨rfl, hb1⟩
    have hlt1 : w.heap.size < (w.alloc (.cells #[.int .i64 v.kind, .int .i64 v.n, .string v.s, .slice al v.l.length cl, .slice af v.f.length cf] 40)).heap.size := (Array.getElem?_eq_some_iff.1 hblk0).1
    have hblk1 := (hb1.block w.heap.size hlt1).trans hblk0
    have hB1 := hbL.trans (hb1.mono hbL.size)
    clear hb1 hbL hblk0 hlt1
    have b0 := cell_of_block hblk1 0 _ rfl
    have b1 := cell_of_block hblk1 1 _ rfl
    have b2 := cell_of_block hblk1 2 _ rfl
    have b3 := cell_of_block hblk1 3 _ rfl
    have b4 := cell_of_block hblk1 4 _ rfl
    cases sp
    · have E : Hid (V.shaped (m + 1) v = false) := by show _ = _; rw [hE]; rfl
      clear hE
      go_wp2_with fail
      go_ret
      exact ⟨ret_bool E.out.symm, hB1⟩
    go_wp2_with fail
    refine (HFI.out _ hB1).mono ?_
    rintro e w2 ⟨rfl, hb2⟩
    have hblk2 := (hb2.block w.heap.size (Array.getElem?_eq_some_iff.1 hblk1).1).trans hblk1
    have hB2 := hB1.trans (hb2.mono hB1.size)
    clear hb2 hB1 hblk1 b0 b1 b2 b3 b4
    have b3 := cell_of_block hblk2 3 _ rfl
    cases ft
    · have E : Hid (V.shaped (m + 1) v = false) := by show _ = _; rw [hE]; rfl
      clear hE
      go_wp2_with fail
      go_ret
      exact ⟨ret_bool E.out.symm, hB2⟩
    have HE : Hid (V.shaped (m + 1) v = (v.l.all (V.shaped m) && v.f.all (fun x => V.shaped m x.2))) := by show _ = _; rw [hE]; rfl
    clear hE
    go_wp2_with fail
    go_loopw [16, 3] (fun vi _ wr => ∃ k : Nat, k ≤ v.l.length ∧ vi = .int .i64 k ∧ (∀ j x, j < k → v.l[j]? = some x → V.shaped m x = true) ∧
        wr.heap[w.heap.size]? = some (.cells #[.int .i64 v.kind, .int .i64 v.n, .string v.s, .slice al v.l.length cl, .slice af v.f.length cf] 40 (0, 0)) ∧ Below w.heap.size w wr)
      (fun vi _ _ => v.l.length - (intOf vi).toNat)
    case atStart => exact ⟨0, Nat.zero_le _, rfl, fun j _ hj => absurd hj (by omega), hblk2, hB2⟩
    case round =>
      clear hblk2 hB2 b3
      obtain ⟨k, hk, rfl, hok, hblk, hB⟩ := hrel
      have HOK : Hid _ := hok
      clear hok
      have b3 := cell_of_block hblk 3 _ rfl
      have b4 := cell_of_block hblk 4 _ rfl
      by_cases hlt : k < v.l.length
      · obtain ⟨b, off, cap, x, d0, d1, d2, d3, d4, e1, hx, hm, y0, y1, y2, y3, y4⟩ := V.elemL (hl.kept hB (fun _ _ ⟨x, hx, hm⟩ => ⟨x, hx, V.Mem.kept m hm hB⟩)) k hlt
        simp only [Value.slice.injEq] at e1
        obtain ⟨rfl, _, rfl⟩ := e1
        have s1 := V.sumL_le (V.bulk m) v.l k x hx
        have hlt2 : w.heap.size < wr.heap.size := (Array.getElem?_eq_some_iff.1 hblk).1
        have hI := IH.out wr x d0 d1 d2 d3 d4 hm (by omega)
        have HI : Hid _ := hI
        have HX : Hid _ := hx
        clear hI hm hx s1
        go_wp2_with fail
        refine Calls.mono HI.out ?_
        rintro e w3 ⟨rfl, hb3⟩
        have hblk3 := (hb3.block w.heap.size hlt2).trans hblk
        have hB3 := hB.trans (hb3.mono hB.size)
        clear hb3 hB hblk y0 y1 y2 y3 y4 b3 b4 HI
        generalize hq : V.shaped m x = q
        have HQ : Hid _ := hq
        clear hq
        cases q
        · have E : Hid (V.shaped (m + 1) v = false) := by show _ = _; rw [HE.out, V.all_false _ _ k x HX.out HQ.out]; rfl
          go_wp2_with fail
          go_ret
          exact ⟨ret_bool E.out.symm, hB3⟩
        · go_wp2_with fail
          go_roundw
          case rel => exact ⟨k + 1, by omega, by go_num, V.so_far HOK.out HX.out HQ.out, hblk3, hB3⟩
          case measure => simp [intOf]; omega
      · have HE2 : Hid (V.shaped (m + 1) v = v.f.all (fun x => V.shaped m x.2)) := by
          show _ = _
          rw [HE.out, V.all_true (V.shaped m) v.l (fun j x hj => HOK.out j x (by have := V.lt_of_get hj; omega) hj), Bool.true_and]
        clear HE HOK
        go_wp2_with fail
        go_loopw [30, 4] (fun vi _ wr => ∃ k : Nat, k ≤ v.f.length ∧ vi = .int .i64 k ∧ (∀ j x, j < k → v.f[j]? = some x → (fun x : ByteArray × Val => V.shaped m x.2) x = true) ∧
            wr.heap[w.heap.size]? = some (.cells #[.int .i64 v.kind, .int .i64 v.n, .string v.s, .slice al v.l.length cl, .slice af v.f.length cf] 40 (0, 0)) ∧ Below w.heap.size w wr)
          (fun vi _ _ => v.f.length - (intOf vi).toNat)
        case atStart => exact ⟨0, Nat.zero_le _, rfl, fun j _ hj => absurd hj (by omega), hblk, hB⟩
        case round =>
          clear hblk hB b3 b4
          obtain ⟨k, hk, rfl, hok, hblk, hB⟩ := hrel
          have HOK : Hid _ := hok
          clear hok
          have b4 := cell_of_block hblk 4 _ rfl
          by_cases hlf : k < v.f.length
          · obtain ⟨b, off, cap, x, d0, d1, d2, d3, d4, e1, hx, hm, yn, y0, y1, y2, y3, y4⟩ := V.elemF (hf.kept hB (fun _ _ ⟨x, c', hx, hc, hm⟩ => ⟨x, c', hx, hc, V.Mem.kept m hm hB⟩)) k hlf
            simp only [Value.slice.injEq] at e1
            obtain ⟨rfl, _, rfl⟩ := e1
            have s1 := V.sumF_le (fun x => x.1.size + V.bulk m x.2) v.f k x hx
            have hlt2 : w.heap.size < wr.heap.size := (Array.getElem?_eq_some_iff.1 hblk).1
            have hI := IH.out wr x.2 d0 d1 d2 d3 d4 hm (by omega)
            have HI : Hid _ := hI
            have HX : Hid _ := hx
            clear hI hm hx s1
            go_wp2_with fail
            refine Calls.mono HI.out ?_
            rintro e w3 ⟨rfl, hb3⟩
            have hblk3 := (hb3.block w.heap.size hlt2).trans hblk
            have hB3 := hB.trans (hb3.mono hB.size)
            clear hb3 hB hblk yn y0 y1 y2 y3 y4 b4 HI
            generalize hq : V.shaped m x.2 = q
            have HQ : Hid _ := hq
            clear hq
            cases q
            · have E : Hid (V.shaped (m + 1) v = false) := by show _ = _; rw [HE2.out]; exact V.all_false (fun x : ByteArray × Val => V.shaped m x.2) _ k x HX.out HQ.out
              go_wp2_with fail
              go_ret
              exact ⟨ret_bool E.out.symm, hB3⟩
            · go_wp2_with fail
              go_roundw
              case rel => exact ⟨k + 1, by omega, by go_num, V.so_far HOK.out HX.out HQ.out, hblk3, hB3⟩
              case measure => simp [intOf]; omega
          · have E : Hid (V.shaped (m + 1) v = true) := by
              show _ = _
              rw [HE2.out]; exact V.all_true (fun x : ByteArray × Val => V.shaped m x.2) v.f (fun j x hj => HOK.out j x (by have := V.lt_of_get hj; omega) hj)
            go_wp2_with fail
            go_ret
            exact ⟨ret_bool E.out.symm, hB⟩
end Go.Proofs.Ytlmkpjdaoinmoaa
