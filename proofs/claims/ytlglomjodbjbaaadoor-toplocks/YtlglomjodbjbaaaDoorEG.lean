/- Acts in memory: some value in each; weight answers, whatever it is. -/
import Derived.Test.YtlglomjodbjbaaaDoorDR
import Derived.Deep.CutBlock
namespace Go.Proofs.YtlglomjodbjbaaaDoor
open Go.RowKit
attribute [local go_sem ↓] Go.wp_at_zero Go.wp_at_succ
namespace A
/-- A slice of n elements of sz cells each: what each one's cells are is said by P. -/
def Row (w : World) (v : Value) (n sz : Nat) (P : Nat → List Value → Prop) : Prop :=
  ∃ ao cap, v = .slice ao n cap ∧ (n = 0 ∨ ∃ b off, ao = some ⟨b, off, none⟩ ∧ ∀ i, i < n → ∃ cs : List Value, cs.length = sz ∧ (∀ j, j < sz → w.cell? ⟨b, off + i * sz + j, none⟩ = cs[j]?) ∧ P i cs)
/-- These five cells hold some value (m: how deep it is looked into). -/
def Mem : Nat → World → List Value → Prop
  | 0, _, _ => False
  | m + 1, w, cs => ∃ (k n : Int) (s : ByteArray) (lv fv : Value) (nl nf : Nat), cs = [.int .i64 k, .int .i64 n, .string s, lv, fv] ∧ s.size ≤ maxLen ∧ nl ≤ maxLen ∧ nf ≤ maxLen ∧
      Row w lv nl 5 (fun _ c => Mem m w c) ∧ Row w fv nf 6 (fun _ c => ∃ x c', c = .string x :: c' ∧ x.size ≤ maxLen ∧ Mem m w c')
theorem Row.kept {w w' : World} {v : Value} {n sz : Nat} {P Q : Nat → List Value → Prop} (h : Row w v n sz P) (hb : Below w.heap.size w w') (hPQ : ∀ i c, P i c → Q i c) : Row w' v n sz Q := by
  obtain ⟨ao, cap, rfl, h⟩ := h
  refine ⟨ao, cap, rfl, ?_⟩
  rcases h with h | ⟨b, off, rfl, h⟩
  · exact .inl h
  · refine .inr ⟨b, off, rfl, fun i hi => ?_⟩
    obtain ⟨cs, h1, h2, h3⟩ := h i hi
    refine ⟨cs, h1, fun j hj => ?_, hPQ i cs h3⟩
    rw [← h2 j hj]
    have hc : ∃ u, w.cell? ⟨b, off + i * sz + j, none⟩ = some u := by
      rw [h2 j hj]; exact ⟨_, List.getElem?_eq_getElem (by omega)⟩
    obtain ⟨u, hu⟩ := hc
    exact hb.cell (p := ⟨b, off + i * sz + j, none⟩) (World.block_lt_of_cell? w _ hu)
theorem Mem.kept : ∀ (m : Nat) {w w' : World} {cs : List Value}, Mem m w cs → Below w.heap.size w w' → Mem m w' cs
  | 0, _, _, _, h, _ => h.elim
  | m + 1, _, _, _, ⟨k, n, s, lv, fv, nl, nf, h1, h2, h3, h4, h5, h6⟩, hb =>
    ⟨k, n, s, lv, fv, nl, nf, h1, h2, h3, h4, h5.kept hb (fun _ _ hm => Mem.kept m hm hb), h6.kept hb (fun _ _ ⟨x, c', hc, hx, hm⟩ => ⟨x, c', hc, hx, Mem.kept m hm hb⟩)⟩
theorem Row.shape {w : World} {v : Value} {n sz : Nat} {P : Nat → List Value → Prop} (h : Row w v n sz P) : ∃ ao cap, v = .slice ao n cap := by
  obtain ⟨ao, cap, h, _⟩ := h; exact ⟨ao, cap, h⟩
theorem elemL {w : World} {v : Value} {n m : Nat} (h : Row w v n 5 (fun _ c => Mem m w c)) (i : Nat) (hi : i < n) :
    ∃ b off cap c0 c1 c2 c3 c4, v = .slice (some ⟨b, off, none⟩) n cap ∧ Mem m w [c0, c1, c2, c3, c4] ∧
      w.cell? ⟨b, off + i * 5, none⟩ = some c0 ∧ w.cell? ⟨b, off + i * 5 + 1, none⟩ = some c1 ∧ w.cell? ⟨b, off + i * 5 + 2, none⟩ = some c2 ∧ w.cell? ⟨b, off + i * 5 + 3, none⟩ = some c3 ∧ w.cell? ⟨b, off + i * 5 + 4, none⟩ = some c4 := by
  obtain ⟨ao, cap, rfl, h | ⟨b, off, rfl, h⟩⟩ := h
  · omega
  · obtain ⟨cs, h1, h2, hm⟩ := h i hi
    match cs, h1 with
    | [c0, c1, c2, c3, c4], _ => exact ⟨b, off, cap, c0, c1, c2, c3, c4, rfl, hm, h2 0 (by omega), h2 1 (by omega), h2 2 (by omega), h2 3 (by omega), h2 4 (by omega)⟩
theorem elemF {w : World} {v : Value} {n m : Nat} (h : Row w v n 6 (fun _ c => ∃ x c', c = .string x :: c' ∧ x.size ≤ maxLen ∧ Mem m w c')) (i : Nat) (hi : i < n) :
    ∃ b off cap x c0 c1 c2 c3 c4, v = .slice (some ⟨b, off, none⟩) n cap ∧ x.size ≤ maxLen ∧ Mem m w [c0, c1, c2, c3, c4] ∧ w.cell? ⟨b, off + i * 6, none⟩ = some (.string x) ∧
      w.cell? ⟨b, off + i * 6 + 1, none⟩ = some c0 ∧ w.cell? ⟨b, off + i * 6 + 2, none⟩ = some c1 ∧ w.cell? ⟨b, off + i * 6 + 3, none⟩ = some c2 ∧ w.cell? ⟨b, off + i * 6 + 4, none⟩ = some c3 ∧ w.cell? ⟨b, off + i * 6 + 5, none⟩ = some c4 := by
  obtain ⟨ao, cap, rfl, h | ⟨b, off, rfl, h⟩⟩ := h
  · omega
  · obtain ⟨cs, h1, h2, x, c', rfl, hx, hm⟩ := h i hi
    match c', h1 with
    | [c0, c1, c2, c3, c4], _ => exact ⟨b, off, cap, x, c0, c1, c2, c3, c4, rfl, hx, hm, h2 0 (by omega), h2 1 (by omega), h2 2 (by omega), h2 3 (by omega), h2 4 (by omega), h2 5 (by omega)⟩
end A
set_option maxRecDepth 100000 in
set_option maxHeartbeats 1600000 in
theorem weight_any (most : Int) (m : Nat) : ∀ (w : World) (c0 c1 c2 c3 c4 : Value), A.Mem m w [c0, c1, c2, c3, c4] →
    Calls Tryd.prog 20 #[.agg #[c0, c1, c2, c3, c4], .int .i64 most] w fun e w' => (∃ n : Int, e = .returned (.int .i64 n)) ∧ Below w.heap.size w w' := by
  induction m with
  | zero => intro w c0 c1 c2 c3 c4 h; exact h.elim
  | succ m ih =>
    intro w c0 c1 c2 c3 c4 ⟨k0, n0, s0, lv, fv, nl, nf, hcs, hs0, hnl, hnf, hl, hf⟩
    simp only [List.cons.injEq, and_true] at hcs
    obtain ⟨rfl, rfl, rfl, rfl, rfl⟩ := hcs
    have IH : Hid _ := ih
    clear ih
    obtain ⟨al, cl, rfl⟩ := hl.shape
    obtain ⟨af, cf, rfl⟩ := hf.shape
    unfold maxLen at hs0 hnl hnf
    have hbL : Below w.heap.size w (w.alloc (.cells #[.int .i64 k0, .int .i64 n0, .string s0, .slice al nl cl, .slice af nf cf] 37)) := (Below.refl _ _).alloc (Nat.le_refl _) _
    go_enter Tryd.func20, Tryd.ntmps20
    go_wp2_with fail
    go_loopw [5, 6] (fun vn vi wr => ∃ k : Nat, k ≤ nl ∧ vi = .int .i64 k ∧ (∃ n : Int, vn = .int .i64 n) ∧
        wr.heap[w.heap.size]? = some (.cells #[.int .i64 k0, .int .i64 n0, .string s0, .slice al nl cl, .slice af nf cf] 37 (0, 0)) ∧ Below w.heap.size w wr)
      (fun _ vi _ => nl - (intOf vi).toNat)
    case atStart => exact ⟨0, Nat.zero_le _, rfl, ⟨_, rfl⟩, heap_alloc_new _ _, hbL⟩
    case round =>
      clear hbL
      obtain ⟨k, hk, rfl, ⟨n, rfl⟩, hblk, hB⟩ := hrel
      have b3 := cell_of_block hblk 3 _ rfl
      have b4 := cell_of_block hblk 4 _ rfl
      have hgo : (k < nl ∧ n ≤ most) ∨ ¬ k < nl ∨ (k < nl ∧ most < n) := by omega
      rcases hgo with ⟨hlt, hn⟩ | hno
      · obtain ⟨b, off, cap, d0, d1, d2, d3, d4, e1, hm, y0, y1, y2, y3, y4⟩ := A.elemL (hl.kept hB (fun _ _ hm => A.Mem.kept m hm hB)) k hlt
        simp only [Value.slice.injEq] at e1
        obtain ⟨rfl, _, rfl⟩ := e1
        have hlt2 : w.heap.size < wr.heap.size := (Array.getElem?_eq_some_iff.1 hblk).1
        have hI := IH.out wr d0 d1 d2 d3 d4 hm
        have HI : Hid _ := hI
        clear hI hm
        go_wp2_with fail
        refine Calls.mono HI.out ?_
        rintro e w3 ⟨⟨n2, rfl⟩, hb3⟩
        have hblk3 := (hb3.block w.heap.size hlt2).trans hblk
        have hB3 := hB.trans (hb3.mono hB.size)
        clear hb3 hB hblk y0 y1 y2 y3 y4 b3 b4 HI
        go_wp2_with fail
        go_roundw
        case rel => exact ⟨k + 1, by omega, by go_num, ⟨_, rfl⟩, hblk3, hB3⟩
        case measure => simp [intOf]; omega
      · rcases hno with hno | ⟨hno, hn⟩
        all_goals
          go_wp2_with fail
          go_loopw [5, 7] (fun vn vi wr => ∃ k : Nat, k ≤ nf ∧ vi = .int .i64 k ∧ (∃ n : Int, vn = .int .i64 n) ∧
              wr.heap[w.heap.size]? = some (.cells #[.int .i64 k0, .int .i64 n0, .string s0, .slice al nl cl, .slice af nf cf] 37 (0, 0)) ∧ Below w.heap.size w wr)
            (fun _ vi _ => nf - (intOf vi).toNat)
          case atStart => exact ⟨0, Nat.zero_le _, rfl, ⟨_, rfl⟩, hblk, hB⟩
          case round =>
            clear hblk hB b3 b4
            obtain ⟨k, hk, rfl, ⟨n, rfl⟩, hblk, hB⟩ := hrel
            have b4 := cell_of_block hblk 4 _ rfl
            have hgo : (k < nf ∧ n ≤ most) ∨ ¬ k < nf ∨ (k < nf ∧ most < n) := by omega
            rcases hgo with ⟨hlt, hn⟩ | hno
            · obtain ⟨b, off, cap, x, d0, d1, d2, d3, d4, e1, hx, hm, yn, y0, y1, y2, y3, y4⟩ := A.elemF (hf.kept hB (fun _ _ ⟨x, c', hc, hx, hm⟩ => ⟨x, c', hc, hx, A.Mem.kept m hm hB⟩)) k hlt
              simp only [Value.slice.injEq] at e1
              obtain ⟨rfl, _, rfl⟩ := e1
              unfold maxLen at hx
              have hlt2 : w.heap.size < wr.heap.size := (Array.getElem?_eq_some_iff.1 hblk).1
              have hI : ∀ w', (w'.cell? ⟨w.heap.size, 4, none⟩ = some (.slice (some ⟨b, off, none⟩) nf cf) ∧ w'.cell? ⟨b, off + k * 6, none⟩ = some (.string x) ∧ w'.cell? ⟨b, off + k * 6 + 1, none⟩ = some d0 ∧ w'.cell? ⟨b, off + k * 6 + 2, none⟩ = some d1 ∧ w'.cell? ⟨b, off + k * 6 + 3, none⟩ = some d2 ∧ w'.cell? ⟨b, off + k * 6 + 4, none⟩ = some d3 ∧ w'.cell? ⟨b, off + k * 6 + 5, none⟩ = some d4 ∧ Below wr.heap.size wr w') → Calls Tryd.prog 20 #[.agg #[d0, d1, d2, d3, d4], .int .i64 most] w' fun e w'' => (∃ n : Int, e = .returned (.int .i64 n)) ∧ w''.cell? ⟨w.heap.size, 4, none⟩ = some (.slice (some ⟨b, off, none⟩) nf cf) ∧ w''.cell? ⟨b, off + k * 6, none⟩ = some (.string x) ∧ w''.cell? ⟨b, off + k * 6 + 1, none⟩ = some d0 ∧ w''.cell? ⟨b, off + k * 6 + 2, none⟩ = some d1 ∧ w''.cell? ⟨b, off + k * 6 + 3, none⟩ = some d2 ∧ w''.cell? ⟨b, off + k * 6 + 4, none⟩ = some d3 ∧ w''.cell? ⟨b, off + k * 6 + 5, none⟩ = some d4 ∧ Below wr.heap.size wr w'' := by
                intro w' ⟨t1, t2, t3, t4, t5, t6, t7, t8⟩
                refine (IH.out w' d0 d1 d2 d3 d4 (A.Mem.kept m hm t8)).mono ?_
                rintro e w'' ⟨he, hb⟩
                exact ⟨he, kept_cell hb t1, kept_cell hb t2, kept_cell hb t3, kept_cell hb t4, kept_cell hb t5, kept_cell hb t6, kept_cell hb t7, t8.trans (hb.mono t8.size)⟩
              have HI : Hid _ := hI
              have HBLK : Hid _ := hblk
              have hB0 : Below wr.heap.size wr wr.drew := below_drewN (Below.refl _ _) 1
              clear hI hm
              go_wp2_with fail
              go_region_held3 (fun w' => w'.cell? ⟨w.heap.size, 4, none⟩ = some (.slice (some ⟨b, off, none⟩) nf cf) ∧ w'.cell? ⟨b, off + k * 6, none⟩ = some (.string x) ∧ w'.cell? ⟨b, off + k * 6 + 1, none⟩ = some d0 ∧ w'.cell? ⟨b, off + k * 6 + 2, none⟩ = some d1 ∧ w'.cell? ⟨b, off + k * 6 + 3, none⟩ = some d2 ∧ w'.cell? ⟨b, off + k * 6 + 4, none⟩ = some d3 ∧ w'.cell? ⟨b, off + k * 6 + 5, none⟩ = some d4 ∧ Below wr.heap.size wr w') (go_keep)
                (first | (go_at_call 20; refine (HI.out _ ?_).mono ?_; exact ⟨‹_›, ‹_›, ‹_›, ‹_›, ‹_›, ‹_›, ‹_›, ‹_›⟩; rintro e w3 ⟨⟨n2, rfl⟩, t1, t2, t3, t4, t5, t6, t7, t8⟩))
              all_goals
                go_wp2_with fail
                go_roundw
                case rel => exact ⟨k + 1, by omega, by go_num, ⟨_, rfl⟩, (t8.block w.heap.size hlt2).trans HBLK.out, hB.trans (t8.mono hB.size)⟩
                case measure => simp [intOf]; omega
            · rcases hno with hno | ⟨hno, hn⟩
              all_goals
                go_wp2_with fail
                go_ret
                exact ⟨⟨_, rfl⟩, hB⟩
end Go.Proofs.YtlglomjodbjbaaaDoor
