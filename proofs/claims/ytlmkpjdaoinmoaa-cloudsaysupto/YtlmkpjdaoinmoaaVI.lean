/- weight, LightValue: they answer, whatever it is. -/
import Derived.Test.YtlmkpjdaoinmoaaVH
namespace Go.Proofs.Ytlmkpjdaoinmoaa
open Go.RowKit
theorem kept_cell {w w' : World} {p : Addr} {u : Value} (hb : Below w.heap.size w w') (h : w.cell? p = some u) : w'.cell? p = some u := (hb.cell (World.block_lt_of_cell? w _ h)).trans h
set_option maxRecDepth 100000 in
set_option maxHeartbeats 1600000 in
theorem weight_any (most : Int) (m : Nat) : ∀ (w : World) (v : Val) (c0 c1 c2 c3 c4 : Value), V.Mem m w v [c0, c1, c2, c3, c4] → V.bulk m v ≤ 2000000 →
    Calls Try.prog 31 #[.agg #[c0, c1, c2, c3, c4], .int .i64 most] w fun e w' => (∃ n : Int, e = .returned (.int .i64 n)) ∧ Below w.heap.size w w' := by
  induction m with
  | zero => intro w v c0 c1 c2 c3 c4 h; exact h.elim
  | succ m ih =>
    intro w v c0 c1 c2 c3 c4 ⟨lv, fv, hcs, hl, hf⟩ hbk
    simp only [List.cons.injEq, and_true] at hcs
    obtain ⟨rfl, rfl, rfl, rfl, rfl⟩ := hcs
    have IH : Hid _ := ih
    clear ih
    obtain ⟨al, cl, rfl⟩ := hl.shape
    obtain ⟨af, cf, rfl⟩ := hf.shape
    obtain ⟨bs, bl, bf, bn⟩ := V.bulk_s m v _ hbk
    rw [V.bulk] at hbk
    have hbL : Below w.heap.size w (w.alloc (.cells #[.int .i64 v.kind, .int .i64 v.n, .string v.s, .slice al v.l.length cl, .slice af v.f.length cf] 40)) := (Below.refl _ _).alloc (Nat.le_refl _) _
    have BN : Hid _ := bn
    clear bn
    go_enter Try.func31, Try.ntmps31
    go_wp2_with fail
    go_loopw [5, 6] (fun vn vi wr => ∃ k : Nat, k ≤ v.l.length ∧ vi = .int .i64 k ∧ (∃ n : Int, vn = .int .i64 n) ∧
        wr.heap[w.heap.size]? = some (.cells #[.int .i64 v.kind, .int .i64 v.n, .string v.s, .slice al v.l.length cl, .slice af v.f.length cf] 40 (0, 0)) ∧ Below w.heap.size w wr)
      (fun _ vi _ => v.l.length - (intOf vi).toNat)
    case atStart => exact ⟨0, Nat.zero_le _, rfl, ⟨_, rfl⟩, heap_alloc_new _ _, hbL⟩
    case round =>
      clear hbL
      obtain ⟨k, hk, rfl, ⟨n, rfl⟩, hblk, hB⟩ := hrel
      have b3 := cell_of_block hblk 3 _ rfl
      have b4 := cell_of_block hblk 4 _ rfl
      have hgo : (k < v.l.length ∧ n ≤ most) ∨ ¬ k < v.l.length ∨ (k < v.l.length ∧ most < n) := by omega
      rcases hgo with ⟨hlt, hn⟩ | hno
      · obtain ⟨b, off, cap, x, d0, d1, d2, d3, d4, e1, hx, hm, y0, y1, y2, y3, y4⟩ := V.elemL (hl.kept hB (fun _ _ ⟨x, hx, hm⟩ => ⟨x, hx, V.Mem.kept m hm hB⟩)) k hlt
        simp only [Value.slice.injEq] at e1
        obtain ⟨rfl, _, rfl⟩ := e1
        have s1 := V.sumL_le (V.bulk m) v.l k x hx
        have hlt2 : w.heap.size < wr.heap.size := (Array.getElem?_eq_some_iff.1 hblk).1
        have hI := IH.out wr x d0 d1 d2 d3 d4 hm (by omega)
        have HI : Hid _ := hI
        clear hI hm hx s1
        go_wp2_with fail
        refine Calls.mono HI.out ?_
        rintro e w3 ⟨⟨n2, rfl⟩, hb3⟩
        have hblk3 := (hb3.block w.heap.size hlt2).trans hblk
        have hB3 := hB.trans (hb3.mono hB.size)
        clear hb3 hB hblk y0 y1 y2 y3 y4 b3 b4 HI
        go_wp2_with fail
        go_roundw
        case rel => exact ⟨k + 1, by omega, by go_num, ⟨_, rfl⟩, hblk3, hB3⟩
        case measure => simp [intOf]; omega
      · rcases hno with hno | ⟨hno, hn⟩
        all_goals
          go_wp2_with fail
          go_loopw [5, 7] (fun vn vi wr => ∃ k : Nat, k ≤ v.f.length ∧ vi = .int .i64 k ∧ (∃ n : Int, vn = .int .i64 n) ∧
              wr.heap[w.heap.size]? = some (.cells #[.int .i64 v.kind, .int .i64 v.n, .string v.s, .slice al v.l.length cl, .slice af v.f.length cf] 40 (0, 0)) ∧ Below w.heap.size w wr)
            (fun _ vi _ => v.f.length - (intOf vi).toNat)
          case atStart => exact ⟨0, Nat.zero_le _, rfl, ⟨_, rfl⟩, hblk, hB⟩
          case round =>
            clear hblk hB b3 b4
            obtain ⟨k, hk, rfl, ⟨n, rfl⟩, hblk, hB⟩ := hrel
            have b4 := cell_of_block hblk 4 _ rfl
            have hgo : (k < v.f.length ∧ n ≤ most) ∨ ¬ k < v.f.length ∨ (k < v.f.length ∧ most < n) := by omega
            rcases hgo with ⟨hlt, hn⟩ | hno
            · obtain ⟨b, off, cap, x, d0, d1, d2, d3, d4, e1, hx, hm, yn, y0, y1, y2, y3, y4⟩ := V.elemF (hf.kept hB (fun _ _ ⟨x, c', hx, hc, hm⟩ => ⟨x, c', hx, hc, V.Mem.kept m hm hB⟩)) k hlt
              simp only [Value.slice.injEq] at e1
              obtain ⟨rfl, _, rfl⟩ := e1
              have s1 := V.sumF_le (fun x => x.1.size + V.bulk m x.2) v.f k x hx
              have hlt2 : w.heap.size < wr.heap.size := (Array.getElem?_eq_some_iff.1 hblk).1
              have hI : ∀ w', (w'.cell? ⟨w.heap.size, 4, none⟩ = some (.slice (some ⟨b, off, none⟩) v.f.length cf) ∧ w'.cell? ⟨b, off + k * 6, none⟩ = some (.string x.1) ∧ w'.cell? ⟨b, off + k * 6 + 1, none⟩ = some d0 ∧ w'.cell? ⟨b, off + k * 6 + 2, none⟩ = some d1 ∧ w'.cell? ⟨b, off + k * 6 + 3, none⟩ = some d2 ∧ w'.cell? ⟨b, off + k * 6 + 4, none⟩ = some d3 ∧ w'.cell? ⟨b, off + k * 6 + 5, none⟩ = some d4 ∧ Below wr.heap.size wr w') → Calls Try.prog 31 #[.agg #[d0, d1, d2, d3, d4], .int .i64 most] w' fun e w'' => (∃ n : Int, e = .returned (.int .i64 n)) ∧ w''.cell? ⟨w.heap.size, 4, none⟩ = some (.slice (some ⟨b, off, none⟩) v.f.length cf) ∧ w''.cell? ⟨b, off + k * 6, none⟩ = some (.string x.1) ∧ w''.cell? ⟨b, off + k * 6 + 1, none⟩ = some d0 ∧ w''.cell? ⟨b, off + k * 6 + 2, none⟩ = some d1 ∧ w''.cell? ⟨b, off + k * 6 + 3, none⟩ = some d2 ∧ w''.cell? ⟨b, off + k * 6 + 4, none⟩ = some d3 ∧ w''.cell? ⟨b, off + k * 6 + 5, none⟩ = some d4 ∧ Below wr.heap.size wr w'' := by
                intro w' ⟨t1, t2, t3, t4, t5, t6, t7, t8⟩
                refine (IH.out w' x.2 d0 d1 d2 d3 d4 (V.Mem.kept m hm t8) (by omega)).mono ?_
                rintro e w'' ⟨he, hb⟩
                exact ⟨he, kept_cell hb t1, kept_cell hb t2, kept_cell hb t3, kept_cell hb t4, kept_cell hb t5, kept_cell hb t6, kept_cell hb t7, t8.trans (hb.mono t8.size)⟩
              have HI : Hid _ := hI
              have HBLK : Hid _ := hblk
              have hB0 : Below wr.heap.size wr wr.drew := below_drewN (Below.refl _ _) 1
              clear hI hm hx s1
              go_wp2_with fail
              go_region_held3 (fun w' => w'.cell? ⟨w.heap.size, 4, none⟩ = some (.slice (some ⟨b, off, none⟩) v.f.length cf) ∧ w'.cell? ⟨b, off + k * 6, none⟩ = some (.string x.1) ∧ w'.cell? ⟨b, off + k * 6 + 1, none⟩ = some d0 ∧ w'.cell? ⟨b, off + k * 6 + 2, none⟩ = some d1 ∧ w'.cell? ⟨b, off + k * 6 + 3, none⟩ = some d2 ∧ w'.cell? ⟨b, off + k * 6 + 4, none⟩ = some d3 ∧ w'.cell? ⟨b, off + k * 6 + 5, none⟩ = some d4 ∧ Below wr.heap.size wr w') (go_keep)
                (first | (go_at_call 31; refine (HI.out _ ?_).mono ?_; exact ⟨‹_›, ‹_›, ‹_›, ‹_›, ‹_›, ‹_›, ‹_›, ‹_›⟩; rintro e w3 ⟨⟨n2, rfl⟩, t1, t2, t3, t4, t5, t6, t7, t8⟩))
              all_goals
                go_wp2_with fail
                go_roundw
                case rel => exact ⟨k + 1, by omega, by go_num, ⟨_, rfl⟩, (t8.block w.heap.size hlt2).trans HBLK.out, hB.trans (t8.mono hB.size)⟩
                case measure => simp [intOf]; omega
            · rcases hno with hno | ⟨hno, hn⟩
              all_goals
                go_wp2_with fail
                go_ret
                exact ⟨⟨_, rfl⟩, hB⟩

end Go.Proofs.Ytlmkpjdaoinmoaa
