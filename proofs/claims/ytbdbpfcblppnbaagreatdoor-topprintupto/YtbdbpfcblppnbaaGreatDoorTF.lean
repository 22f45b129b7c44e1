/- For TopPrint: what is the same is told to be: refAlike, SameTexts, SameExpr. -/
import Derived.Test.YtbdbpfcblppnbaaGreatDoorTE
namespace Go.Proofs.YtbdbpfcblppnbaaGreatDoor.Vx
open Go.RowKit
set_option maxRecDepth 100000 in
set_option maxHeartbeats 3200000 in
theorem refAlike_any (sm : Val → Val → Bool) (hsm : V.Says sm) (m : Nat) : ∀ (w : World) (a b : Val) (c0 c1 c2 c3 c4 d0 d1 d2 d3 d4 : Value), V.Mem m w a [c0, c1, c2, c3, c4] → V.Mem m w b [d0, d1, d2, d3, d4] → V.bulk m a ≤ 2000000 → V.bulk m b ≤ 2000000 →
  Calls Tryz.prog 40 #[.agg #[c0, c1, c2, c3, c4], .agg #[d0, d1, d2, d3, d4]] w fun e w' => e = .returned (.bool (sm a b)) ∧ Below w.heap.size w w' := by
 induction m with
 | zero => intro w a b c0 c1 c2 c3 c4 d0 d1 d2 d3 d4 h; exact h.elim
 | succ m ih =>
  intro w a b c0 c1 c2 c3 c4 d0 d1 d2 d3 d4 ⟨lv, fv, hcs, hl, hf⟩ ⟨lv2, fv2, hcs2, hl2, hf2⟩ hbk hbk2
  simp only [List.cons.injEq, and_true] at hcs hcs2
  obtain ⟨rfl, rfl, rfl, rfl, rfl⟩ := hcs
  obtain ⟨rfl, rfl, rfl, rfl, rfl⟩ := hcs2
  have IH : Hid _ := ih
  clear ih
  obtain ⟨al, cl, rfl⟩ := hl.shape
  obtain ⟨af, cf, rfl⟩ := hf.shape
  obtain ⟨al2, cl2, rfl⟩ := hl2.shape
  obtain ⟨af2, cf2, rfl⟩ := hf2.shape
  obtain ⟨bs, bl, bf, bn⟩ := V.bulk_s m a _ hbk
  obtain ⟨bs2, bl2, bf2, bn2⟩ := V.bulk_s m b _ hbk2
  rw [V.bulk] at hbk hbk2
  have hbL : Below w.heap.size w ((w.alloc (.cells #[.int .i64 a.kind, .int .i64 a.n, .string a.s, .slice al a.l.length cl, .slice af a.f.length cf] 47)).alloc (.cells #[.int .i64 b.kind, .int .i64 b.n, .string b.s, .slice al2 b.l.length cl2, .slice af2 b.f.length cf2] 47)) := ((Below.refl _ _).alloc (Nat.le_refl _) _).alloc (by simp) _
  cases hab : V.above a b
  ·have E : Hid (sm a b = false) := hsm.no a b (V.above_ne a b hab)
   have HAB : Hid _ := hab
   clear hab
   go_enter Tryz.func40, Tryz.ntmps40
   go_wp2_with fail
   all_goals first
    | (go_ret; exact ⟨ret_bool E.out.symm, ((Below.refl _ _).alloc (Nat.le_refl _) _).alloc (by simp) _⟩)
    | (exfalso; rename_i q1 q2 q3 q4 q5 _ _; have q6 := bne_eq_false_iff_eq.1 q5; exact Bool.eq_false_iff.1 HAB.out (by unfold V.above; simp only [Bool.and_eq_true, beq_iff_eq]; exact ⟨q1, q2, q3, by omega, by omega⟩))
  ·obtain ⟨e1, e2, e3, e4, e5⟩ := V.above_true a b hab
   have n1 : (a.kind != b.kind) = false := by simp [e1]
   have n2 : (a.n != b.n) = false := by simp [e2]
   have n3 : a.s.toList = b.s.toList := by rw [e3]
   have n4 : ((a.l.length : Int) != (b.l.length : Int)) = false := by simp [e4]
   have n5 : ((a.f.length : Int) != (b.f.length : Int)) = false := by simp [e5]
   have E1 : Hid _ := e1
   have E2 : Hid _ := e2
   have E3 : Hid _ := e3
   have E4 : Hid _ := e4
   have E5 : Hid _ := e5
   clear e1 e2 e3 e4 e5 hab
   have hbA : Below w.heap.size w ((w.alloc (.cells #[.int .i64 a.kind, .int .i64 a.n, .string a.s, .slice al a.l.length cl, .slice af a.f.length cf] 47)).alloc (.cells #[.int .i64 b.kind, .int .i64 b.n, .string b.s, .slice al2 b.l.length cl2, .slice af2 b.f.length cf2] 47)) := hbL
   have hA0 : ((w.alloc (.cells #[.int .i64 a.kind, .int .i64 a.n, .string a.s, .slice al a.l.length cl, .slice af a.f.length cf] 47)).alloc (.cells #[.int .i64 b.kind, .int .i64 b.n, .string b.s, .slice al2 b.l.length cl2, .slice af2 b.f.length cf2] 47)).heap[w.heap.size]? = some (.cells #[.int .i64 a.kind, .int .i64 a.n, .string a.s, .slice al a.l.length cl, .slice af a.f.length cf] 47 (0, 0)) := by rw [heap_alloc_old _ _ (by simp)]; exact heap_alloc_new _ _
   have hB0 : ((w.alloc (.cells #[.int .i64 a.kind, .int .i64 a.n, .string a.s, .slice al a.l.length cl, .slice af a.f.length cf] 47)).alloc (.cells #[.int .i64 b.kind, .int .i64 b.n, .string b.s, .slice al2 b.l.length cl2, .slice af2 b.f.length cf2] 47)).heap[w.heap.size + 1]? = some (.cells #[.int .i64 b.kind, .int .i64 b.n, .string b.s, .slice al2 b.l.length cl2, .slice af2 b.f.length cf2] 47 (0, 0)) := by rw [show w.heap.size + 1 = (w.alloc (.cells #[.int .i64 a.kind, .int .i64 a.n, .string a.s, .slice al a.l.length cl, .slice af a.f.length cf] 47)).heap.size by simp]; exact heap_alloc_new _ _
   clear hbL
   have HL : Hid _ := hl
   have HF : Hid _ := hf
   have HL2 : Hid _ := hl2
   have HF2 : Hid _ := hf2
   clear hl hf hl2 hf2 bn bn2
   go_enter Tryz.func40, Tryz.ntmps40
   go_wp2_with fail
   go_loopw [5, 6] (fun vi _ wr => ∃ k : Nat, k ≤ a.l.length ∧ vi = .int .i64 k ∧ (∀ j, j < k → a.l[j]? = b.l[j]?) ∧ wr.heap[w.heap.size]? = some (.cells #[.int .i64 a.kind, .int .i64 a.n, .string a.s, .slice al a.l.length cl, .slice af a.f.length cf] 47 (0, 0)) ∧ wr.heap[w.heap.size + 1]? = some (.cells #[.int .i64 b.kind, .int .i64 b.n, .string b.s, .slice al2 b.l.length cl2, .slice af2 b.f.length cf2] 47 (0, 0)) ∧ Below w.heap.size w wr) (fun vi _ _ => a.l.length - (intOf vi).toNat)
   case atStart => exact ⟨0, Nat.zero_le _, rfl, fun j hj => absurd hj (by omega), hA0, hB0, hbA⟩
   case round =>
    clear hA0 hB0 hbA
    obtain ⟨k, hk, rfl, hok, hA, hB, hw⟩ := hrel
    have HOK : Hid _ := hok
    clear hok
    have a3 := cell_of_block hA 3 _ rfl
    have b3 := cell_of_block hB 3 _ rfl
    have a4 := cell_of_block hA 4 _ rfl
    by_cases hlt : k < a.l.length
    ·have hlt2 : k < b.l.length := by have := E4.out; omega
     obtain ⟨p, off, cap, x, x0, x1, x2, x3, x4, e1, hx, hm, u0, u1, u2, u3, u4⟩ := V.elemL (V.Row.kept HL.out hw (fun _ _ ⟨x, hx, hm⟩ => ⟨x, hx, V.Mem.kept m hm hw⟩)) k hlt
     simp only [Value.slice.injEq] at e1
     obtain ⟨rfl, _, rfl⟩ := e1
     obtain ⟨p2, off2, cap2, y, z0, z1, z2, z3, z4, e2, hy, hm2, v0, v1, v2, v3, v4⟩ := V.elemL (V.Row.kept HL2.out hw (fun _ _ ⟨x, hx, hm⟩ => ⟨x, hx, V.Mem.kept m hm hw⟩)) k hlt2
     simp only [Value.slice.injEq] at e2
     obtain ⟨rfl, _, rfl⟩ := e2
     have s1 := V.sumL_le (V.bulk m) a.l k x hx
     have s2 := V.sumL_le (V.bulk m) b.l k y hy
     have hI : ∀ w' : World, (w'.cell? ⟨w.heap.size, 3, none⟩ = some (.slice (some ⟨p, off, none⟩) a.l.length cl) ∧ w'.cell? ⟨w.heap.size + 1, 3, none⟩ = some (.slice (some ⟨p2, off2, none⟩) b.l.length cl2) ∧ w'.cell? ⟨p, off + k * 5, none⟩ = some x0 ∧ w'.cell? ⟨p, off + k * 5 + 1, none⟩ = some x1 ∧ w'.cell? ⟨p, off + k * 5 + 2, none⟩ = some x2 ∧ w'.cell? ⟨p, off + k * 5 + 3, none⟩ = some x3 ∧ w'.cell? ⟨p, off + k * 5 + 4, none⟩ = some x4 ∧ w'.cell? ⟨p2, off2 + k * 5, none⟩ = some z0 ∧ w'.cell? ⟨p2, off2 + k * 5 + 1, none⟩ = some z1 ∧ w'.cell? ⟨p2, off2 + k * 5 + 2, none⟩ = some z2 ∧ w'.cell? ⟨p2, off2 + k * 5 + 3, none⟩ = some z3 ∧ w'.cell? ⟨p2, off2 + k * 5 + 4, none⟩ = some z4 ∧ Below wr.heap.size wr w') → Calls Tryz.prog 40 #[.agg #[x0, x1, x2, x3, x4], .agg #[z0, z1, z2, z3, z4]] w' fun e w'' => e = .returned (.bool (sm x y)) ∧ w''.cell? ⟨w.heap.size, 3, none⟩ = some (.slice (some ⟨p, off, none⟩) a.l.length cl) ∧ w''.cell? ⟨w.heap.size + 1, 3, none⟩ = some (.slice (some ⟨p2, off2, none⟩) b.l.length cl2) ∧ w''.cell? ⟨p, off + k * 5, none⟩ = some x0 ∧ w''.cell? ⟨p, off + k * 5 + 1, none⟩ = some x1 ∧ w''.cell? ⟨p, off + k * 5 + 2, none⟩ = some x2 ∧ w''.cell? ⟨p, off + k * 5 + 3, none⟩ = some x3 ∧ w''.cell? ⟨p, off + k * 5 + 4, none⟩ = some x4 ∧ w''.cell? ⟨p2, off2 + k * 5, none⟩ = some z0 ∧ w''.cell? ⟨p2, off2 + k * 5 + 1, none⟩ = some z1 ∧ w''.cell? ⟨p2, off2 + k * 5 + 2, none⟩ = some z2 ∧ w''.cell? ⟨p2, off2 + k * 5 + 3, none⟩ = some z3 ∧ w''.cell? ⟨p2, off2 + k * 5 + 4, none⟩ = some z4 ∧ Below wr.heap.size wr w'' := by
      intro w' ⟨t0, t1, t2, t3, t4, t5, t6, t7, t8, t9, t10, t11, t12⟩
      refine (IH.out w' x y x0 x1 x2 x3 x4 z0 z1 z2 z3 z4 (V.Mem.kept m hm t12) (V.Mem.kept m hm2 t12) (by omega) (by omega)).mono ?_
      rintro e w'' ⟨rfl, hb⟩
      exact ⟨rfl, kept_cell hb t0, kept_cell hb t1, kept_cell hb t2, kept_cell hb t3, kept_cell hb t4, kept_cell hb t5, kept_cell hb t6, kept_cell hb t7, kept_cell hb t8, kept_cell hb t9, kept_cell hb t10, kept_cell hb t11, t12.trans (hb.mono t12.size)⟩
     have HI : Hid _ := hI
     have HX : Hid _ := hx
     have HY : Hid _ := hy
     have HA : Hid _ := hA
     have HB : Hid _ := hB
     have hbd : Below wr.heap.size wr wr.drew := below_drewN (Below.refl _ _) 1
     have hlA : w.heap.size < wr.heap.size := (blt hA)
     have hlB : w.heap.size + 1 < wr.heap.size := (blt hB)
     clear hI hm hm2 hx hy hA hB s1 s2 a4
     generalize hq : sm x y = q at *
     have HQ : Hid _ := hq
     clear hq
     go_wp2_with fail
     go_region_held3 (fun w' => w'.cell? ⟨w.heap.size, 3, none⟩ = some (.slice (some ⟨p, off, none⟩) a.l.length cl) ∧ w'.cell? ⟨w.heap.size + 1, 3, none⟩ = some (.slice (some ⟨p2, off2, none⟩) b.l.length cl2) ∧ w'.cell? ⟨p, off + k * 5, none⟩ = some x0 ∧ w'.cell? ⟨p, off + k * 5 + 1, none⟩ = some x1 ∧ w'.cell? ⟨p, off + k * 5 + 2, none⟩ = some x2 ∧ w'.cell? ⟨p, off + k * 5 + 3, none⟩ = some x3 ∧ w'.cell? ⟨p, off + k * 5 + 4, none⟩ = some x4 ∧ w'.cell? ⟨p2, off2 + k * 5, none⟩ = some z0 ∧ w'.cell? ⟨p2, off2 + k * 5 + 1, none⟩ = some z1 ∧ w'.cell? ⟨p2, off2 + k * 5 + 2, none⟩ = some z2 ∧ w'.cell? ⟨p2, off2 + k * 5 + 3, none⟩ = some z3 ∧ w'.cell? ⟨p2, off2 + k * 5 + 4, none⟩ = some z4 ∧ Below wr.heap.size wr w') (go_keep)
      (first | (go_at_call 40; refine Calls.mono (HI.out _ ?_) ?_; exact ⟨‹_›, ‹_›, ‹_›, ‹_›, ‹_›, ‹_›, ‹_›, ‹_›, ‹_›, ‹_›, ‹_›, ‹_›, ‹_›⟩; rintro e w3 ⟨rfl, t0, t1, t2, t3, t4, t5, t6, t7, t8, t9, t10, t11, t12⟩))
     all_goals
      have hA3 := (t12.block w.heap.size hlA).trans HA.out
      have hB3 := (t12.block (w.heap.size + 1) hlB).trans HB.out
      have hw3 := hw.trans (t12.mono hw.size)
      clear t0 t1 t2 t3 t4 t5 t6 t7 t8 t9 t10 t11 t12
      cases q
      ·have E : Hid (sm a b = false) := hsm.no a b (fun h => by
        have h1 := HX.out; have h2 := HY.out; rw [h, h2] at h1
        have h3 := HQ.out; rw [hsm.yes x y (Option.some.inj h1).symm] at h3; exact absurd h3 (by decide))
       go_wp2_with fail
       go_ret
       exact ⟨ret_bool E.out.symm, hw3⟩
      ·go_wp2_with fail
       go_roundw
       case rel =>
        refine ⟨k + 1, by omega, by go_num, fun j hj => ?_, hA3, hB3, hw3⟩
        rcases Nat.lt_or_ge j k with h | h
        ·exact HOK.out j h
        ·rw [show j = k by omega, HX.out, HY.out, hsm.eq x y HQ.out]
       case measure => simp [intOf]; omega
    ·have HLL : Hid (a.l = b.l) := by
      show _ = _
      apply List.ext_getElem?
      intro j
      rcases Nat.lt_or_ge j a.l.length with h | h
      ·exact HOK.out j (by omega)
      ·rw [List.getElem?_eq_none h, List.getElem?_eq_none (by have := E4.out; omega)]
     clear HOK HL HL2 b3
     go_wp2_with fail
     go_loopw [7, 8] (fun vi _ wr => ∃ k : Nat, k ≤ a.f.length ∧ vi = .int .i64 k ∧ (∀ j, j < k → a.f[j]? = b.f[j]?) ∧ wr.heap[w.heap.size]? = some (.cells #[.int .i64 a.kind, .int .i64 a.n, .string a.s, .slice al a.l.length cl, .slice af a.f.length cf] 47 (0, 0)) ∧ wr.heap[w.heap.size + 1]? = some (.cells #[.int .i64 b.kind, .int .i64 b.n, .string b.s, .slice al2 b.l.length cl2, .slice af2 b.f.length cf2] 47 (0, 0)) ∧ Below w.heap.size w wr) (fun vi _ _ => a.f.length - (intOf vi).toNat)
     case atStart => exact ⟨0, Nat.zero_le _, rfl, fun j hj => absurd hj (by omega), hA, hB, hw⟩
     case round =>
      clear hA hB hw a3 a4
      obtain ⟨k, hk, rfl, hok, hA, hB, hw⟩ := hrel
      have HOK : Hid _ := hok
      clear hok
      have a4 := cell_of_block hA 4 _ rfl
      have b4 := cell_of_block hB 4 _ rfl
      by_cases hlt : k < a.f.length
      ·have hlt2 : k < b.f.length := by have := E5.out; omega
       obtain ⟨p, off, cap, x, x0, x1, x2, x3, x4, e1, hx, hm, un, u0, u1, u2, u3, u4⟩ := V.elemF (V.Row.kept HF.out hw (fun _ _ ⟨x, c', hx, hc, hm⟩ => ⟨x, c', hx, hc, V.Mem.kept m hm hw⟩)) k hlt
       simp only [Value.slice.injEq] at e1
       obtain ⟨rfl, _, rfl⟩ := e1
       obtain ⟨p2, off2, cap2, y, z0, z1, z2, z3, z4, e2, hy, hm2, vn, v0, v1, v2, v3, v4⟩ := V.elemF (V.Row.kept HF2.out hw (fun _ _ ⟨x, c', hx, hc, hm⟩ => ⟨x, c', hx, hc, V.Mem.kept m hm hw⟩)) k hlt2
       simp only [Value.slice.injEq] at e2
       obtain ⟨rfl, _, rfl⟩ := e2
       have s1 := V.sumF_le (fun x => x.1.size + V.bulk m x.2) a.f k x hx
       have s2 := V.sumF_le (fun x => x.1.size + V.bulk m x.2) b.f k y hy
       have hI : ∀ w' : World, (w'.cell? ⟨w.heap.size, 4, none⟩ = some (.slice (some ⟨p, off, none⟩) a.f.length cf) ∧ w'.cell? ⟨w.heap.size + 1, 4, none⟩ = some (.slice (some ⟨p2, off2, none⟩) b.f.length cf2) ∧ w'.cell? ⟨p, off + k * 6 + 1, none⟩ = some x0 ∧ w'.cell? ⟨p, off + k * 6 + 2, none⟩ = some x1 ∧ w'.cell? ⟨p, off + k * 6 + 3, none⟩ = some x2 ∧ w'.cell? ⟨p, off + k * 6 + 4, none⟩ = some x3 ∧ w'.cell? ⟨p, off + k * 6 + 5, none⟩ = some x4 ∧ w'.cell? ⟨p2, off2 + k * 6 + 1, none⟩ = some z0 ∧ w'.cell? ⟨p2, off2 + k * 6 + 2, none⟩ = some z1 ∧ w'.cell? ⟨p2, off2 + k * 6 + 3, none⟩ = some z2 ∧ w'.cell? ⟨p2, off2 + k * 6 + 4, none⟩ = some z3 ∧ w'.cell? ⟨p2, off2 + k * 6 + 5, none⟩ = some z4 ∧ Below wr.heap.size wr w') → Calls Tryz.prog 40 #[.agg #[x0, x1, x2, x3, x4], .agg #[z0, z1, z2, z3, z4]] w' fun e w'' => e = .returned (.bool (sm x.2 y.2)) ∧ w''.cell? ⟨w.heap.size, 4, none⟩ = some (.slice (some ⟨p, off, none⟩) a.f.length cf) ∧ w''.cell? ⟨w.heap.size + 1, 4, none⟩ = some (.slice (some ⟨p2, off2, none⟩) b.f.length cf2) ∧ w''.cell? ⟨p, off + k * 6 + 1, none⟩ = some x0 ∧ w''.cell? ⟨p, off + k * 6 + 2, none⟩ = some x1 ∧ w''.cell? ⟨p, off + k * 6 + 3, none⟩ = some x2 ∧ w''.cell? ⟨p, off + k * 6 + 4, none⟩ = some x3 ∧ w''.cell? ⟨p, off + k * 6 + 5, none⟩ = some x4 ∧ w''.cell? ⟨p2, off2 + k * 6 + 1, none⟩ = some z0 ∧ w''.cell? ⟨p2, off2 + k * 6 + 2, none⟩ = some z1 ∧ w''.cell? ⟨p2, off2 + k * 6 + 3, none⟩ = some z2 ∧ w''.cell? ⟨p2, off2 + k * 6 + 4, none⟩ = some z3 ∧ w''.cell? ⟨p2, off2 + k * 6 + 5, none⟩ = some z4 ∧ Below wr.heap.size wr w'' := by
        intro w' ⟨t0, t1, t2, t3, t4, t5, t6, t7, t8, t9, t10, t11, t12⟩
        refine (IH.out w' x.2 y.2 x0 x1 x2 x3 x4 z0 z1 z2 z3 z4 (V.Mem.kept m hm t12) (V.Mem.kept m hm2 t12) (by omega) (by omega)).mono ?_
        rintro e w'' ⟨rfl, hb⟩
        exact ⟨rfl, kept_cell hb t0, kept_cell hb t1, kept_cell hb t2, kept_cell hb t3, kept_cell hb t4, kept_cell hb t5, kept_cell hb t6, kept_cell hb t7, kept_cell hb t8, kept_cell hb t9, kept_cell hb t10, kept_cell hb t11, t12.trans (hb.mono t12.size)⟩
       have HI : Hid _ := hI
       have HX : Hid _ := hx
       have HY : Hid _ := hy
       have HA : Hid _ := hA
       have HB : Hid _ := hB
       have UN : Hid _ := un
       have VN : Hid _ := vn
       have hbd : Below wr.heap.size wr wr.drew := below_drewN (Below.refl _ _) 1
       have hlA : w.heap.size < wr.heap.size := (blt hA)
       have hlB : w.heap.size + 1 < wr.heap.size := (blt hB)
       clear hI hm hm2 hx hy hA hB s1 s2 un vn
       generalize hq : sm x.2 y.2 = q at *
       have HQ : Hid _ := hq
       clear hq
       go_wp2_with fail
       go_region_held3 (fun w' => w'.cell? ⟨w.heap.size, 4, none⟩ = some (.slice (some ⟨p, off, none⟩) a.f.length cf) ∧ w'.cell? ⟨w.heap.size + 1, 4, none⟩ = some (.slice (some ⟨p2, off2, none⟩) b.f.length cf2) ∧ w'.cell? ⟨p, off + k * 6 + 1, none⟩ = some x0 ∧ w'.cell? ⟨p, off + k * 6 + 2, none⟩ = some x1 ∧ w'.cell? ⟨p, off + k * 6 + 3, none⟩ = some x2 ∧ w'.cell? ⟨p, off + k * 6 + 4, none⟩ = some x3 ∧ w'.cell? ⟨p, off + k * 6 + 5, none⟩ = some x4 ∧ w'.cell? ⟨p2, off2 + k * 6 + 1, none⟩ = some z0 ∧ w'.cell? ⟨p2, off2 + k * 6 + 2, none⟩ = some z1 ∧ w'.cell? ⟨p2, off2 + k * 6 + 3, none⟩ = some z2 ∧ w'.cell? ⟨p2, off2 + k * 6 + 4, none⟩ = some z3 ∧ w'.cell? ⟨p2, off2 + k * 6 + 5, none⟩ = some z4 ∧ Below wr.heap.size wr w') (go_keep)
        (first | (go_at_call 40; refine Calls.mono (HI.out _ ?_) ?_; exact ⟨‹_›, ‹_›, ‹_›, ‹_›, ‹_›, ‹_›, ‹_›, ‹_›, ‹_›, ‹_›, ‹_›, ‹_›, ‹_›⟩; rintro e w3 ⟨rfl, t0, t1, t2, t3, t4, t5, t6, t7, t8, t9, t10, t11, t12⟩))
       all_goals
        have hA3 := (t12.block w.heap.size hlA).trans HA.out
        have hB3 := (t12.block (w.heap.size + 1) hlB).trans HB.out
        have hw3 := hw.trans (t12.mono hw.size)
        have un := kept_cell t12 UN.out
        have vn := kept_cell t12 VN.out
        clear t2 t3 t4 t5 t6 t7 t8 t9 t10 t11 t12 u0 v0 u1 v1 u2 v2 u3 v3 u4 v4 a4 b4
        cases q
        ·have E : Hid (sm a b = false) := hsm.no a b (fun h => by
          have h1 := HX.out; have h2 := HY.out; rw [h, h2] at h1
          have h3 := HQ.out; rw [hsm.yes x.2 y.2 (by rw [Option.some.inj h1])] at h3; exact absurd h3 (by decide))
         go_wp2_with fail
         go_quiet (fail)
         go_wp2_with fail
         go_ret
         exact ⟨ret_bool E.out.symm, below_drewN hw3 _⟩
        ·by_cases hnm : x.1.toList = y.1.toList
         ·have HN : Hid (x = y) := Prod.ext (V.toList_inj hnm) (hsm.eq _ _ HQ.out)
          go_wp2_with fail
          go_quiet (fail)
          go_wp2_with fail
          go_roundw
          case rel =>
           refine ⟨k + 1, by omega, by go_num, fun j hj => ?_, hA3, hB3, below_drewN hw3 _⟩
           rcases Nat.lt_or_ge j k with h | h
           ·exact HOK.out j h
           ·rw [show j = k by omega, HX.out, HY.out, HN.out]
          case measure => simp [intOf]; omega
         ·have E : Hid (sm a b = false) := hsm.no a b (fun h => by
           have h1 := HX.out; have h2 := HY.out; rw [h, h2] at h1
           exact hnm (by rw [Option.some.inj h1]))
          have g1 : (x.1.toList == y.1.toList) = false := beq_eq_false_iff_ne.2 hnm
          clear hnm
          go_wp2_with fail
          go_quiet (fail)
          go_wp2_with fail
          go_ret
          exact ⟨ret_bool E.out.symm, below_drewN hw3 _⟩
      ·have E : Hid (sm a b = true) := hsm.yes a b (V.val_ext a b E1.out E2.out E3.out HLL.out (by
        apply List.ext_getElem?
        intro j
        rcases Nat.lt_or_ge j a.f.length with h | h
        ·exact HOK.out j (by omega)
        ·rw [List.getElem?_eq_none h, List.getElem?_eq_none (by have := E5.out; omega)]))
       go_wp2_with fail
       go_ret
       exact ⟨ret_bool E.out.symm, hw⟩
set_option maxRecDepth 100000 in
set_option maxHeartbeats 1600000 in
theorem sameTexts_same (w : World) (N : List ByteArray) (a1 a2 : Option Addr) (c1 c2 : Nat) (h1 : V.Row w (.slice a1 N.length c1) N.length 1 (fun i c => ∃ x, N[i]? = some x ∧ c = [.string x])) (h2 : V.Row w (.slice a2 N.length c2) N.length 1 (fun i c => ∃ x, N[i]? = some x ∧ c = [.string x])) (hl : N.length ≤ 2000000) :
  Calls Tryz.prog 58 #[.slice a1 N.length c1, .slice a2 N.length c2] w fun r w' => r = .returned (.bool true) ∧ Below w.heap.size w w' := by
 have n1 : ((N.length : Int) != (N.length : Int)) = false := by simp
 have H1 := hide h1
 have H2 := hide h2
 clear h1 h2
 go_enter Tryz.func58, Tryz.ntmps58
 go_wp2_with fail
 go_loopw [5] (fun vi wr => ∃ k : Nat, k ≤ N.length ∧ vi = .int .i64 k ∧ Below w.heap.size w wr) (fun vi _ => N.length - (intOf vi).toNat)
 case atStart => exact ⟨0, Nat.zero_le _, rfl, Below.refl _ _⟩
 case round =>
  obtain ⟨k, hk, rfl, hB⟩ := hrel
  by_cases hlt : k < N.length
  ·obtain ⟨_, _, e1, h | ⟨p1, o1, rfl, q1⟩⟩ := H1.out
   ·omega
   obtain ⟨_, _, e2, h | ⟨p2, o2, rfl, q2⟩⟩ := H2.out
   ·omega
   simp only [Value.slice.injEq, true_and] at e1 e2
   obtain ⟨rfl, rfl⟩ := e1
   obtain ⟨rfl, rfl⟩ := e2
   obtain ⟨cs1, _, u1, x, hx, rfl⟩ := q1 k hlt
   obtain ⟨cs2, _, u2, y, hy, rfl⟩ := q2 k hlt
   have exy : y = x := by
    rw [hx] at hy
    exact (Option.some.inj hy).symm
   subst exy
   have z1 : wr.cell? ⟨p1, o1 + k, none⟩ = some (.string y) := by
    have := u1 0 (by decide)
    rw [Nat.mul_one, Nat.add_zero] at this
    exact kept_cell hB this
   have z2 : wr.cell? ⟨p2, o2 + k, none⟩ = some (.string y) := by
    have := u2 0 (by decide)
    rw [Nat.mul_one, Nat.add_zero] at this
    exact kept_cell hB this
   have HB := hide hB
   clear u1 u2 q1 q2 hx hy hB
   go_wp2_with fail
   go_quiet (fail)
   all_goals
    go_wp2_with fail
    go_roundw
    case rel => exact ⟨k + 1, by omega, by go_num, below_drewN HB.out _⟩
    case measure => simp [intOf]; omega
  ·have HB := hide hB
   clear hB
   go_wp2_with fail
   go_ret
   exact ⟨rfl, HB.out⟩
set_option maxRecDepth 100000 in
set_option maxHeartbeats 3200000 in
theorem sameExpr_same (sm : Val → Val → Bool) (hsm : V.Says sm) (m : Nat) : ∀ (w : World) (e : Ex) (c0 c1 c2 c3 c4 c5 c6 c7 c8 c9 d0 d1 d2 d3 d4 d5 d6 d7 d8 d9 : Value), X.Mem m w e [c0, c1, c2, c3, c4, c5, c6, c7, c8, c9] → X.Mem m w e [d0, d1, d2, d3, d4, d5, d6, d7, d8, d9] → X.bulk m e ≤ 2000000 →
  Calls Tryz.prog 41 #[.agg #[c0, c1, c2, c3, c4, c5, c6, c7, c8, c9], .agg #[d0, d1, d2, d3, d4, d5, d6, d7, d8, d9]] w fun r w' => r = .returned (.bool true) ∧ Below w.heap.size w w' := by
 induction m with
 | zero => intro w e c0 c1 c2 c3 c4 c5 c6 c7 c8 c9 d0 d1 d2 d3 d4 d5 d6 d7 d8 d9 h; exact h.elim
 | succ m ih =>
  intro w e c0 c1 c2 c3 c4 c5 c6 c7 c8 c9 d0 d1 d2 d3 d4 d5 d6 d7 d8 d9 h1 h2 hbk
  obtain ⟨al1, cl1, af1, cf1, aa1, ca1, an1, cn1, rfl, rfl, rfl, rfl, rfl, rfl, rfl, rfl, rfl, rfl⟩ := h1.form
  obtain ⟨al2, cl2, af2, cf2, aa2, ca2, an2, cn2, rfl, rfl, rfl, rfl, rfl, rfl, rfl, rfl, rfl, rfl⟩ := h2.form
  obtain ⟨_, _, _, _, _, _, _, hcs1, hv1, ha1, hn1⟩ := h1
  obtain ⟨_, _, _, _, _, _, _, hcs2, hv2, ha2, hn2⟩ := h2
  simp only [List.cons.injEq, and_true, true_and] at hcs1 hcs2
  obtain ⟨rfl, rfl, rfl, rfl, rfl, rfl, rfl⟩ := hcs1
  obtain ⟨rfl, rfl, rfl, rfl, rfl, rfl, rfl⟩ := hcs2
  have IH := hide ih
  have hbL : Below w.heap.size w ((w.alloc (.cells #[.int .i64 e.kind, .int .i64 e.v.kind, .int .i64 e.v.n, .string e.v.s, .slice al1 e.v.l.length cl1, .slice af1 e.v.f.length cf1, .string e.s, .string e.t, .slice aa1 e.a.length ca1, .slice an1 e.n.length cn1] 57)).alloc (.cells #[.int .i64 e.kind, .int .i64 e.v.kind, .int .i64 e.v.n, .string e.v.s, .slice al2 e.v.l.length cl2, .slice af2 e.v.f.length cf2, .string e.s, .string e.t, .slice aa2 e.a.length ca2, .slice an2 e.n.length cn2] 57)) := ((Below.refl _ _).alloc (Nat.le_refl _) _).alloc (by simp) _
  have hA0 : ((w.alloc (.cells #[.int .i64 e.kind, .int .i64 e.v.kind, .int .i64 e.v.n, .string e.v.s, .slice al1 e.v.l.length cl1, .slice af1 e.v.f.length cf1, .string e.s, .string e.t, .slice aa1 e.a.length ca1, .slice an1 e.n.length cn1] 57)).alloc (.cells #[.int .i64 e.kind, .int .i64 e.v.kind, .int .i64 e.v.n, .string e.v.s, .slice al2 e.v.l.length cl2, .slice af2 e.v.f.length cf2, .string e.s, .string e.t, .slice aa2 e.a.length ca2, .slice an2 e.n.length cn2] 57)).heap[w.heap.size]? = some (.cells #[.int .i64 e.kind, .int .i64 e.v.kind, .int .i64 e.v.n, .string e.v.s, .slice al1 e.v.l.length cl1, .slice af1 e.v.f.length cf1, .string e.s, .string e.t, .slice aa1 e.a.length ca1, .slice an1 e.n.length cn1] 57 (0, 0)) := by rw [heap_alloc_old _ _ (by simp)]; exact heap_alloc_new _ _
  have hB0 : ((w.alloc (.cells #[.int .i64 e.kind, .int .i64 e.v.kind, .int .i64 e.v.n, .string e.v.s, .slice al1 e.v.l.length cl1, .slice af1 e.v.f.length cf1, .string e.s, .string e.t, .slice aa1 e.a.length ca1, .slice an1 e.n.length cn1] 57)).alloc (.cells #[.int .i64 e.kind, .int .i64 e.v.kind, .int .i64 e.v.n, .string e.v.s, .slice al2 e.v.l.length cl2, .slice af2 e.v.f.length cf2, .string e.s, .string e.t, .slice aa2 e.a.length ca2, .slice an2 e.n.length cn2] 57)).heap[w.heap.size + 1]? = some (.cells #[.int .i64 e.kind, .int .i64 e.v.kind, .int .i64 e.v.n, .string e.v.s, .slice al2 e.v.l.length cl2, .slice af2 e.v.f.length cf2, .string e.s, .string e.t, .slice aa2 e.a.length ca2, .slice an2 e.n.length cn2] 57 (0, 0)) := by
   have h1 := heap_alloc_new (w.alloc (.cells #[.int .i64 e.kind, .int .i64 e.v.kind, .int .i64 e.v.n, .string e.v.s, .slice al1 e.v.l.length cl1, .slice af1 e.v.f.length cf1, .string e.s, .string e.t, .slice aa1 e.a.length ca1, .slice an1 e.n.length cn1] 57)) (.cells #[.int .i64 e.kind, .int .i64 e.v.kind, .int .i64 e.v.n, .string e.v.s, .slice al2 e.v.l.length cl2, .slice af2 e.v.f.length cf2, .string e.s, .string e.t, .slice aa2 e.a.length ca2, .slice an2 e.n.length cn2] 57)
   rw [P.size_alloc] at h1
   exact h1
  have hvb : V.bulk (m + 1) e.v ≤ 2000000 ∧ e.n.length ≤ 2000000 ∧ e.a.length ≤ 2000000 := by
   rw [X.bulk] at hbk
   omega
  have HAL := hide (refAlike_any sm hsm (m + 1) ((w.alloc (.cells #[.int .i64 e.kind, .int .i64 e.v.kind, .int .i64 e.v.n, .string e.v.s, .slice al1 e.v.l.length cl1, .slice af1 e.v.f.length cf1, .string e.s, .string e.t, .slice aa1 e.a.length ca1, .slice an1 e.n.length cn1] 57)).alloc (.cells #[.int .i64 e.kind, .int .i64 e.v.kind, .int .i64 e.v.n, .string e.v.s, .slice al2 e.v.l.length cl2, .slice af2 e.v.f.length cf2, .string e.s, .string e.t, .slice aa2 e.a.length ca2, .slice an2 e.n.length cn2] 57)) e.v e.v _ _ _ _ _ _ _ _ _ _ (V.Mem.kept _ hv1 hbL) (V.Mem.kept _ hv2 hbL) hvb.1 hvb.1)
  rw [hsm.yes e.v e.v rfl] at HAL
  have HBA := hide (fun x (hx : x ∈ e.a) => X.bulk_a m e x hx _ hbk)
  have HA1 := hide ha1
  have HA2 := hide ha2
  have HN1 := hide hn1
  have HN2 := hide hn2
  have HBL := hide hbL
  have HA0 := hide hA0
  have HB0 := hide hB0
  have hal := hvb.2.2
  have HNL := hide hvb.2.1
  have n1 : (e.kind != e.kind) = false := by simp
  have n4 : ((e.a.length : Int) != (e.a.length : Int)) = false := by simp
  clear ih hv1 hv2 ha1 ha2 hn1 hn2 hbk hbL hA0 hB0 hvb
  go_enter Tryz.func41, Tryz.ntmps41
  go_wp2_with fail
  generalize ((w.alloc (.cells #[.int .i64 e.kind, .int .i64 e.v.kind, .int .i64 e.v.n, .string e.v.s, .slice al1 e.v.l.length cl1, .slice af1 e.v.f.length cf1, .string e.s, .string e.t, .slice aa1 e.a.length ca1, .slice an1 e.n.length cn1] 57)).alloc (.cells #[.int .i64 e.kind, .int .i64 e.v.kind, .int .i64 e.v.n, .string e.v.s, .slice al2 e.v.l.length cl2, .slice af2 e.v.f.length cf2, .string e.s, .string e.t, .slice aa2 e.a.length ca2, .slice an2 e.n.length cn2] 57)) = wa at *
  refine HAL.out.mono ?_
  rintro r wb ⟨rfl, hb1⟩
  have hA1 := (hb1.block w.heap.size (blt HA0.out)).trans HA0.out
  have hB1 := (hb1.block (w.heap.size + 1) (blt HB0.out)).trans HB0.out
  have hBb := HBL.out.trans (hb1.mono HBL.out.size)
  have HTX := hide (sameTexts_same wb e.n an1 an2 cn1 cn2 (HN1.out.kept hBb (fun _ _ h => h)) (HN2.out.kept hBb (fun _ _ h => h)) HNL.out)
  have z0 := cell_of_block hA1 0 _ rfl
  have y0 := cell_of_block hB1 0 _ rfl
  have z1 := cell_of_block hA1 1 _ rfl
  have y1 := cell_of_block hB1 1 _ rfl
  have z2 := cell_of_block hA1 2 _ rfl
  have y2 := cell_of_block hB1 2 _ rfl
  have z3 := cell_of_block hA1 3 _ rfl
  have y3 := cell_of_block hB1 3 _ rfl
  have z4 := cell_of_block hA1 4 _ rfl
  have y4 := cell_of_block hB1 4 _ rfl
  have z5 := cell_of_block hA1 5 _ rfl
  have y5 := cell_of_block hB1 5 _ rfl
  have z6 := cell_of_block hA1 6 _ rfl
  have y6 := cell_of_block hB1 6 _ rfl
  have z7 := cell_of_block hA1 7 _ rfl
  have y7 := cell_of_block hB1 7 _ rfl
  have z8 := cell_of_block hA1 8 _ rfl
  have y8 := cell_of_block hB1 8 _ rfl
  have z9 := cell_of_block hA1 9 _ rfl
  have y9 := cell_of_block hB1 9 _ rfl
  have HA1b := hide hA1
  have HB1b := hide hB1
  have HBb := hide hBb
  clear hb1 hA1 hB1 hBb HAL HA0 HB0 HBL
  go_wp2_with fail
  refine HTX.out.mono ?_
  rintro r wc ⟨rfl, hb2⟩
  have HAc := hide ((hb2.block w.heap.size (blt HA1b.out)).trans HA1b.out)
  have HBc := hide ((hb2.block (w.heap.size + 1) (blt HB1b.out)).trans HB1b.out)
  have HBLc := hide (HBb.out.trans (hb2.mono HBb.out.size))
  clear hb2 HTX HA1b HB1b HBb z0 y0 z1 y1 z2 y2 z3 y3 z4 y4 z5 y5 z6 y6 z7 y7 z8 y8 z9 y9
  go_wp2_with fail
  go_loopw [6, 7] (fun vi _ wr => ∃ k : Nat, k ≤ e.a.length ∧ vi = .int .i64 k ∧ wr.heap[w.heap.size]? = some (.cells #[.int .i64 e.kind, .int .i64 e.v.kind, .int .i64 e.v.n, .string e.v.s, .slice al1 e.v.l.length cl1, .slice af1 e.v.f.length cf1, .string e.s, .string e.t, .slice aa1 e.a.length ca1, .slice an1 e.n.length cn1] 57 (0, 0)) ∧ wr.heap[w.heap.size + 1]? = some (.cells #[.int .i64 e.kind, .int .i64 e.v.kind, .int .i64 e.v.n, .string e.v.s, .slice al2 e.v.l.length cl2, .slice af2 e.v.f.length cf2, .string e.s, .string e.t, .slice aa2 e.a.length ca2, .slice an2 e.n.length cn2] 57 (0, 0)) ∧ Below w.heap.size w wr) (fun vi _ _ => e.a.length - (intOf vi).toNat)
  case atStart => exact ⟨0, Nat.zero_le _, rfl, HAc.out, HBc.out, HBLc.out⟩
  case round =>
   clear HAc HBc HBLc
   obtain ⟨k, hk, rfl, hA, hB, hw⟩ := hrel
   have a8 := cell_of_block hA 8 _ rfl
   have b8 := cell_of_block hB 8 _ rfl
   by_cases hlt : k < e.a.length
   ·obtain ⟨p1, o1, cap1, x, f0, f1, f2, f3, f4, f5, f6, f7, f8, f9, e1, hx, hm1, u0, u1, u2, u3, u4, u5, u6, u7, u8, u9⟩ := X.elemA (V.Row.kept HA1.out hw (fun _ _ ⟨x, hx, hm⟩ => ⟨x, hx, X.Mem.kept m hm hw⟩)) k hlt
    simp only [Value.slice.injEq] at e1
    obtain ⟨rfl, _, rfl⟩ := e1
    obtain ⟨p2, o2, cap2, y, h0, h1, h2, h3, h4, h5, h6, h7, h8, h9, e2, hy, hm2, v0, v1, v2, v3, v4, v5, v6, v7, v8, v9⟩ := X.elemA (V.Row.kept HA2.out hw (fun _ _ ⟨x, hx, hm⟩ => ⟨x, hx, X.Mem.kept m hm hw⟩)) k hlt
    simp only [Value.slice.injEq] at e2
    obtain ⟨rfl, _, rfl⟩ := e2
    have exy : y = x := by
     rw [hx] at hy
     exact (Option.some.inj hy).symm
    subst exy
    have hI : ∀ w' : World, (w'.cell? ⟨w.heap.size, 8, none⟩ = some (.slice (some ⟨p1, o1, none⟩) e.a.length ca1) ∧ w'.cell? ⟨w.heap.size + 1, 8, none⟩ = some (.slice (some ⟨p2, o2, none⟩) e.a.length ca2) ∧ w'.cell? ⟨p1, o1 + k * 10, none⟩ = some (f0) ∧ w'.cell? ⟨p1, o1 + k * 10 + 1, none⟩ = some (f1) ∧ w'.cell? ⟨p1, o1 + k * 10 + 2, none⟩ = some (f2) ∧ w'.cell? ⟨p1, o1 + k * 10 + 3, none⟩ = some (f3) ∧ w'.cell? ⟨p1, o1 + k * 10 + 4, none⟩ = some (f4) ∧ w'.cell? ⟨p1, o1 + k * 10 + 5, none⟩ = some (f5) ∧ w'.cell? ⟨p1, o1 + k * 10 + 6, none⟩ = some (f6) ∧ w'.cell? ⟨p1, o1 + k * 10 + 7, none⟩ = some (f7) ∧ w'.cell? ⟨p1, o1 + k * 10 + 8, none⟩ = some (f8) ∧ w'.cell? ⟨p1, o1 + k * 10 + 9, none⟩ = some (f9) ∧ w'.cell? ⟨p2, o2 + k * 10, none⟩ = some (h0) ∧ w'.cell? ⟨p2, o2 + k * 10 + 1, none⟩ = some (h1) ∧ w'.cell? ⟨p2, o2 + k * 10 + 2, none⟩ = some (h2) ∧ w'.cell? ⟨p2, o2 + k * 10 + 3, none⟩ = some (h3) ∧ w'.cell? ⟨p2, o2 + k * 10 + 4, none⟩ = some (h4) ∧ w'.cell? ⟨p2, o2 + k * 10 + 5, none⟩ = some (h5) ∧ w'.cell? ⟨p2, o2 + k * 10 + 6, none⟩ = some (h6) ∧ w'.cell? ⟨p2, o2 + k * 10 + 7, none⟩ = some (h7) ∧ w'.cell? ⟨p2, o2 + k * 10 + 8, none⟩ = some (h8) ∧ w'.cell? ⟨p2, o2 + k * 10 + 9, none⟩ = some (h9) ∧ Below wr.heap.size wr w') → Calls Tryz.prog 41 #[.agg #[f0, f1, f2, f3, f4, f5, f6, f7, f8, f9], .agg #[h0, h1, h2, h3, h4, h5, h6, h7, h8, h9]] w' fun r w'' => r = .returned (.bool true) ∧ w''.cell? ⟨w.heap.size, 8, none⟩ = some (.slice (some ⟨p1, o1, none⟩) e.a.length ca1) ∧ w''.cell? ⟨w.heap.size + 1, 8, none⟩ = some (.slice (some ⟨p2, o2, none⟩) e.a.length ca2) ∧ w''.cell? ⟨p1, o1 + k * 10, none⟩ = some (f0) ∧ w''.cell? ⟨p1, o1 + k * 10 + 1, none⟩ = some (f1) ∧ w''.cell? ⟨p1, o1 + k * 10 + 2, none⟩ = some (f2) ∧ w''.cell? ⟨p1, o1 + k * 10 + 3, none⟩ = some (f3) ∧ w''.cell? ⟨p1, o1 + k * 10 + 4, none⟩ = some (f4) ∧ w''.cell? ⟨p1, o1 + k * 10 + 5, none⟩ = some (f5) ∧ w''.cell? ⟨p1, o1 + k * 10 + 6, none⟩ = some (f6) ∧ w''.cell? ⟨p1, o1 + k * 10 + 7, none⟩ = some (f7) ∧ w''.cell? ⟨p1, o1 + k * 10 + 8, none⟩ = some (f8) ∧ w''.cell? ⟨p1, o1 + k * 10 + 9, none⟩ = some (f9) ∧ w''.cell? ⟨p2, o2 + k * 10, none⟩ = some (h0) ∧ w''.cell? ⟨p2, o2 + k * 10 + 1, none⟩ = some (h1) ∧ w''.cell? ⟨p2, o2 + k * 10 + 2, none⟩ = some (h2) ∧ w''.cell? ⟨p2, o2 + k * 10 + 3, none⟩ = some (h3) ∧ w''.cell? ⟨p2, o2 + k * 10 + 4, none⟩ = some (h4) ∧ w''.cell? ⟨p2, o2 + k * 10 + 5, none⟩ = some (h5) ∧ w''.cell? ⟨p2, o2 + k * 10 + 6, none⟩ = some (h6) ∧ w''.cell? ⟨p2, o2 + k * 10 + 7, none⟩ = some (h7) ∧ w''.cell? ⟨p2, o2 + k * 10 + 8, none⟩ = some (h8) ∧ w''.cell? ⟨p2, o2 + k * 10 + 9, none⟩ = some (h9) ∧ Below wr.heap.size wr w'' := by
     intro w' ⟨t0, t1, t2, t3, t4, t5, t6, t7, t8, t9, t10, t11, t12, t13, t14, t15, t16, t17, t18, t19, t20, t21, t22⟩
     refine (IH.out w' y f0 f1 f2 f3 f4 f5 f6 f7 f8 f9 h0 h1 h2 h3 h4 h5 h6 h7 h8 h9 (X.Mem.kept m hm1 t22) (X.Mem.kept m hm2 t22) (HBA.out y (List.mem_of_getElem? hx))).mono ?_
     rintro r w'' ⟨rfl, hb⟩
     exact ⟨rfl, kept_cell hb t0, kept_cell hb t1, kept_cell hb t2, kept_cell hb t3, kept_cell hb t4, kept_cell hb t5, kept_cell hb t6, kept_cell hb t7, kept_cell hb t8, kept_cell hb t9, kept_cell hb t10, kept_cell hb t11, kept_cell hb t12, kept_cell hb t13, kept_cell hb t14, kept_cell hb t15, kept_cell hb t16, kept_cell hb t17, kept_cell hb t18, kept_cell hb t19, kept_cell hb t20, kept_cell hb t21, t22.trans (hb.mono t22.size)⟩
    have HI := hide hI
    have HA := hide hA
    have HB := hide hB
    have HW := hide hw
    have hbd : Below wr.heap.size wr wr.drew := below_drewN (Below.refl _ _) 1
    have HLA : Hid (w.heap.size + 1 < wr.heap.size) := (blt hB)
    clear hI hm1 hm2 hx hy hA hB hw
    go_wp2_with fail
    go_region_held3 (fun w' => w'.cell? ⟨w.heap.size, 8, none⟩ = some (.slice (some ⟨p1, o1, none⟩) e.a.length ca1) ∧ w'.cell? ⟨w.heap.size + 1, 8, none⟩ = some (.slice (some ⟨p2, o2, none⟩) e.a.length ca2) ∧ w'.cell? ⟨p1, o1 + k * 10, none⟩ = some (f0) ∧ w'.cell? ⟨p1, o1 + k * 10 + 1, none⟩ = some (f1) ∧ w'.cell? ⟨p1, o1 + k * 10 + 2, none⟩ = some (f2) ∧ w'.cell? ⟨p1, o1 + k * 10 + 3, none⟩ = some (f3) ∧ w'.cell? ⟨p1, o1 + k * 10 + 4, none⟩ = some (f4) ∧ w'.cell? ⟨p1, o1 + k * 10 + 5, none⟩ = some (f5) ∧ w'.cell? ⟨p1, o1 + k * 10 + 6, none⟩ = some (f6) ∧ w'.cell? ⟨p1, o1 + k * 10 + 7, none⟩ = some (f7) ∧ w'.cell? ⟨p1, o1 + k * 10 + 8, none⟩ = some (f8) ∧ w'.cell? ⟨p1, o1 + k * 10 + 9, none⟩ = some (f9) ∧ w'.cell? ⟨p2, o2 + k * 10, none⟩ = some (h0) ∧ w'.cell? ⟨p2, o2 + k * 10 + 1, none⟩ = some (h1) ∧ w'.cell? ⟨p2, o2 + k * 10 + 2, none⟩ = some (h2) ∧ w'.cell? ⟨p2, o2 + k * 10 + 3, none⟩ = some (h3) ∧ w'.cell? ⟨p2, o2 + k * 10 + 4, none⟩ = some (h4) ∧ w'.cell? ⟨p2, o2 + k * 10 + 5, none⟩ = some (h5) ∧ w'.cell? ⟨p2, o2 + k * 10 + 6, none⟩ = some (h6) ∧ w'.cell? ⟨p2, o2 + k * 10 + 7, none⟩ = some (h7) ∧ w'.cell? ⟨p2, o2 + k * 10 + 8, none⟩ = some (h8) ∧ w'.cell? ⟨p2, o2 + k * 10 + 9, none⟩ = some (h9) ∧ Below wr.heap.size wr w') (go_keep)
     (first | (go_at_call 41; refine Calls.mono (HI.out _ ?_) ?_; exact ⟨‹_›, ‹_›, ‹_›, ‹_›, ‹_›, ‹_›, ‹_›, ‹_›, ‹_›, ‹_›, ‹_›, ‹_›, ‹_›, ‹_›, ‹_›, ‹_›, ‹_›, ‹_›, ‹_›, ‹_›, ‹_›, ‹_›, ‹_›⟩; rintro r w3 ⟨rfl, t0, t1, t2, t3, t4, t5, t6, t7, t8, t9, t10, t11, t12, t13, t14, t15, t16, t17, t18, t19, t20, t21, t22⟩))
    all_goals
     have HA3 := hide ((t22.block w.heap.size (by have := HLA.out; omega)).trans HA.out)
     have HB3 := hide ((t22.block (w.heap.size + 1) HLA.out).trans HB.out)
     have HW3 := hide (HW.out.trans (t22.mono HW.out.size))
     clear t0 t1 t2 t3 t4 t5 t6 t7 t8 t9 t10 t11 t12 t13 t14 t15 t16 t17 t18 t19 t20 t21 t22
     go_wp2_with fail
     go_roundw
     case rel => exact ⟨k + 1, by omega, by go_num, HA3.out, HB3.out, HW3.out⟩
     case measure => simp [intOf]; omega
   ·have HW := hide hw
    clear hw hA hB
    go_wp2_with fail
    go_ret
    exact ⟨rfl, HW.out⟩
end Go.Proofs.YtbdbpfcblppnbaaGreatDoor.Vx
