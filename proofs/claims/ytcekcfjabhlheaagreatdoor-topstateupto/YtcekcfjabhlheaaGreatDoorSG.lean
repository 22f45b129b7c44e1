/- TopState: SF SG. -/
import Derived.Test.YtcekcfjabhlheaaGreatDoorVJ
import Derived.Deep.RegionHeld3
import Derived.Test.YtcekcfjabhlheaaGreatDoorUV
set_option maxRecDepth 100000
set_option maxHeartbeats 6400000
namespace Go.Proofs.YtcekcfjabhlheaaGreatDoor.Vx
open Go.RowKit
theorem refAlike_any (sm : Val -> Val -> Bool) (hsm : V.Says sm) (m : Nat) : ∀ (w : World) (a b : Val) (c0 c1 c2 c3 c4 d0 d1 d2 d3 d4 : Value), V.Mem m w a [c0, c1, c2, c3, c4] -> V.Mem m w b [d0, d1, d2, d3, d4] -> V.bulk m a <= 2000000 -> V.bulk m b <= 2000000 ->
  Calls Tryz.prog 54 #[.agg #[c0, c1, c2, c3, c4], .agg #[d0, d1, d2, d3, d4]] w fun e w' => e = .returned (.bool (sm a b)) /\ Below w.heap.size w w' := by
 induction m with
 | zero => intro w a b c0 c1 c2 c3 c4 d0 d1 d2 d3 d4 h; exact h.elim
 | succ m ih =>
  intro w a b c0 c1 c2 c3 c4 d0 d1 d2 d3 d4 ⟨lv, fv, hcs, hl, hf⟩ ⟨lv2, fv2, hcs2, hl2, hf2⟩ hbk hbk2
  simp only [List.cons.injEq, and_true] at hcs hcs2
  obtain ⟨rfl, rfl, rfl, rfl, rfl⟩ := hcs
  obtain ⟨rfl, rfl, rfl, rfl, rfl⟩ := hcs2
  have IH : Hid _ := ih
  clear ih
  obtain ⟨al, cl, rfl⟩ := hl.shape
  obtain ⟨af, cf, rfl⟩ := hf.shape
  obtain ⟨al2, cl2, rfl⟩ := hl2.shape
  obtain ⟨af2, cf2, rfl⟩ := hf2.shape
  obtain ⟨bs, bl, bf, bn⟩ := V.bulk_s m a _ hbk
  obtain ⟨bs2, bl2, bf2, bn2⟩ := V.bulk_s m b _ hbk2
  rw [V.bulk] at hbk hbk2
  have hbL : Below w.heap.size w ((w.alloc (.cells #[.int .i64 a.kind, .int .i64 a.n, .string a.s, .slice al a.l.length cl, .slice af a.f.length cf] 61)).alloc (.cells #[.int .i64 b.kind, .int .i64 b.n, .string b.s, .slice al2 b.l.length cl2, .slice af2 b.f.length cf2] 61)) := ((Below.refl _ _).alloc (Nat.le_refl _) _).alloc (by simp) _
  cases hab : V.above a b
  ·have E : Hid (sm a b = false) := hsm.no a b (V.above_ne a b hab)
   have HAB : Hid _ := hab
   clear hab
   go_enter Tryz.func54, Tryz.ntmps54
   go_wp2_with fail
   all_goals first
    | (go_ret; exact ⟨ret_bool E.out.symm, ((Below.refl _ _).alloc (Nat.le_refl _) _).alloc (by simp) _⟩)
    | (exfalso; rename_i q1 q2 q3 q4 q5 _ _; have q6 := bne_eq_false_iff_eq.1 q5; exact Bool.eq_false_iff.1 HAB.out (by unfold V.above; simp only [Bool.and_eq_true, beq_iff_eq]; exact ⟨q1, q2, q3, by omega, by omega⟩))
  ·obtain ⟨e1, e2, e3, e4, e5⟩ := V.above_true a b hab
   have n1 : (a.kind != b.kind) = false := by simp [e1]
   have n2 : (a.n != b.n) = false := by simp [e2]
   have n3 : a.s.toList = b.s.toList := by rw [e3]
   have n4 : ((a.l.length : Int) != (b.l.length : Int)) = false := by simp [e4]
   have n5 : ((a.f.length : Int) != (b.f.length : Int)) = false := by simp [e5]
   have E1 : Hid _ := e1
   have E2 : Hid _ := e2
   have E3 : Hid _ := e3
   have E4 : Hid _ := e4
   have E5 : Hid _ := e5
   clear e1 e2 e3 e4 e5 hab
   have hbA : Below w.heap.size w ((w.alloc (.cells #[.int .i64 a.kind, .int .i64 a.n, .string a.s, .slice al a.l.length cl, .slice af a.f.length cf] 61)).alloc (.cells #[.int .i64 b.kind, .int .i64 b.n, .string b.s, .slice al2 b.l.length cl2, .slice af2 b.f.length cf2] 61)) := hbL
   have hA0 : ((w.alloc (.cells #[.int .i64 a.kind, .int .i64 a.n, .string a.s, .slice al a.l.length cl, .slice af a.f.length cf] 61)).alloc (.cells #[.int .i64 b.kind, .int .i64 b.n, .string b.s, .slice al2 b.l.length cl2, .slice af2 b.f.length cf2] 61)).heap[w.heap.size]? = some (.cells #[.int .i64 a.kind, .int .i64 a.n, .string a.s, .slice al a.l.length cl, .slice af a.f.length cf] 61 (0, 0)) := by rw [heap_alloc_old _ _ (by simp)]; exact heap_alloc_new _ _
   have hB0 : ((w.alloc (.cells #[.int .i64 a.kind, .int .i64 a.n, .string a.s, .slice al a.l.length cl, .slice af a.f.length cf] 61)).alloc (.cells #[.int .i64 b.kind, .int .i64 b.n, .string b.s, .slice al2 b.l.length cl2, .slice af2 b.f.length cf2] 61)).heap[w.heap.size + 1]? = some (.cells #[.int .i64 b.kind, .int .i64 b.n, .string b.s, .slice al2 b.l.length cl2, .slice af2 b.f.length cf2] 61 (0, 0)) := by rw [show w.heap.size + 1 = (w.alloc (.cells #[.int .i64 a.kind, .int .i64 a.n, .string a.s, .slice al a.l.length cl, .slice af a.f.length cf] 61)).heap.size by simp]; exact heap_alloc_new _ _
   clear hbL
   have HL : Hid _ := hl
   have HF : Hid _ := hf
   have HL2 : Hid _ := hl2
   have HF2 : Hid _ := hf2
   clear hl hf hl2 hf2 bn bn2
   go_enter Tryz.func54, Tryz.ntmps54
   go_wp2_with fail
   go_loopw [5, 6] (fun vi _ wr => ∃ k : Nat, k <= a.l.length /\ vi = .int .i64 k /\ (∀ j, j < k -> a.l[j]? = b.l[j]?) /\ wr.heap[w.heap.size]? = some (.cells #[.int .i64 a.kind, .int .i64 a.n, .string a.s, .slice al a.l.length cl, .slice af a.f.length cf] 61 (0, 0)) /\ wr.heap[w.heap.size + 1]? = some (.cells #[.int .i64 b.kind, .int .i64 b.n, .string b.s, .slice al2 b.l.length cl2, .slice af2 b.f.length cf2] 61 (0, 0)) /\ Below w.heap.size w wr) (fun vi _ _ => a.l.length - (intOf vi).toNat)
   case atStart => exact ⟨0, Nat.zero_le _, rfl, fun j hj => absurd hj (by omega), hA0, hB0, hbA⟩
   case round =>
    clear hA0 hB0 hbA
    obtain ⟨k, hk, rfl, hok, hA, hB, hw⟩ := hrel
    have HOK : Hid _ := hok
    clear hok
    have a3 := cell_of_block hA 3 _ rfl
    have b3 := cell_of_block hB 3 _ rfl
    have a4 := cell_of_block hA 4 _ rfl
    by_cases hlt : k < a.l.length
    ·have hlt2 : k < b.l.length := by have := E4.out; omega
     obtain ⟨p, off, cap, x, x0, x1, x2, x3, x4, e1, hx, hm, u0, u1, u2, u3, u4⟩ := V.elemL (V.Row.kept HL.out hw (fun _ _ ⟨x, hx, hm⟩ => ⟨x, hx, V.Mem.kept m hm hw⟩)) k hlt
     simp only [Value.slice.injEq] at e1
     obtain ⟨rfl, _, rfl⟩ := e1
     obtain ⟨p2, off2, cap2, y, z0, z1, z2, z3, z4, e2, hy, hm2, v0, v1, v2, v3, v4⟩ := V.elemL (V.Row.kept HL2.out hw (fun _ _ ⟨x, hx, hm⟩ => ⟨x, hx, V.Mem.kept m hm hw⟩)) k hlt2
     simp only [Value.slice.injEq] at e2
     obtain ⟨rfl, _, rfl⟩ := e2
     have s1 := V.sumL_le (V.bulk m) a.l k x hx
     have s2 := V.sumL_le (V.bulk m) b.l k y hy
     have hI : ∀ w' : World, (w'.cell? ⟨w.heap.size, 3, none⟩ = some (.slice (some ⟨p, off, none⟩) a.l.length cl) /\ w'.cell? ⟨w.heap.size + 1, 3, none⟩ = some (.slice (some ⟨p2, off2, none⟩) b.l.length cl2) /\ w'.cell? ⟨p, off + k * 5, none⟩ = some x0 /\ w'.cell? ⟨p, off + k * 5 + 1, none⟩ = some x1 /\ w'.cell? ⟨p, off + k * 5 + 2, none⟩ = some x2 /\ w'.cell? ⟨p, off + k * 5 + 3, none⟩ = some x3 /\ w'.cell? ⟨p, off + k * 5 + 4, none⟩ = some x4 /\ w'.cell? ⟨p2, off2 + k * 5, none⟩ = some z0 /\ w'.cell? ⟨p2, off2 + k * 5 + 1, none⟩ = some z1 /\ w'.cell? ⟨p2, off2 + k * 5 + 2, none⟩ = some z2 /\ w'.cell? ⟨p2, off2 + k * 5 + 3, none⟩ = some z3 /\ w'.cell? ⟨p2, off2 + k * 5 + 4, none⟩ = some z4 /\ Below wr.heap.size wr w') -> Calls Tryz.prog 54 #[.agg #[x0, x1, x2, x3, x4], .agg #[z0, z1, z2, z3, z4]] w' fun e w'' => e = .returned (.bool (sm x y)) /\ w''.cell? ⟨w.heap.size, 3, none⟩ = some (.slice (some ⟨p, off, none⟩) a.l.length cl) /\ w''.cell? ⟨w.heap.size + 1, 3, none⟩ = some (.slice (some ⟨p2, off2, none⟩) b.l.length cl2) /\ w''.cell? ⟨p, off + k * 5, none⟩ = some x0 /\ w''.cell? ⟨p, off + k * 5 + 1, none⟩ = some x1 /\ w''.cell? ⟨p, off + k * 5 + 2, none⟩ = some x2 /\ w''.cell? ⟨p, off + k * 5 + 3, none⟩ = some x3 /\ w''.cell? ⟨p, off + k * 5 + 4, none⟩ = some x4 /\ w''.cell? ⟨p2, off2 + k * 5, none⟩ = some z0 /\ w''.cell? ⟨p2, off2 + k * 5 + 1, none⟩ = some z1 /\ w''.cell? ⟨p2, off2 + k * 5 + 2, none⟩ = some z2 /\ w''.cell? ⟨p2, off2 + k * 5 + 3, none⟩ = some z3 /\ w''.cell? ⟨p2, off2 + k * 5 + 4, none⟩ = some z4 /\ Below wr.heap.size wr w'' := by
      intro w' ⟨t0, t1, t2, t3, t4, t5, t6, t7, t8, t9, t10, t11, t12⟩
      refine (IH.out w' x y x0 x1 x2 x3 x4 z0 z1 z2 z3 z4 (V.Mem.kept m hm t12) (V.Mem.kept m hm2 t12) (by omega) (by omega)).mono ?_
      rintro e w'' ⟨rfl, hb⟩
      exact ⟨rfl, kept_cell hb t0, kept_cell hb t1, kept_cell hb t2, kept_cell hb t3, kept_cell hb t4, kept_cell hb t5, kept_cell hb t6, kept_cell hb t7, kept_cell hb t8, kept_cell hb t9, kept_cell hb t10, kept_cell hb t11, t12.trans (hb.mono t12.size)⟩
     have HI : Hid _ := hI
     have HX : Hid _ := hx
     have HY : Hid _ := hy
     have HA : Hid _ := hA
     have HB : Hid _ := hB
     have hbd : Below wr.heap.size wr wr.drew := below_drewN (Below.refl _ _) 1
     have hlA : w.heap.size < wr.heap.size := (blt hA)
     have hlB : w.heap.size + 1 < wr.heap.size := (blt hB)
     clear hI hm hm2 hx hy hA hB s1 s2 a4
     generalize hq : sm x y = q at *
     have HQ : Hid _ := hq
     clear hq
     go_wp2_with fail
     go_region_held3 (fun w' => w'.cell? ⟨w.heap.size, 3, none⟩ = some (.slice (some ⟨p, off, none⟩) a.l.length cl) /\ w'.cell? ⟨w.heap.size + 1, 3, none⟩ = some (.slice (some ⟨p2, off2, none⟩) b.l.length cl2) /\ w'.cell? ⟨p, off + k * 5, none⟩ = some x0 /\ w'.cell? ⟨p, off + k * 5 + 1, none⟩ = some x1 /\ w'.cell? ⟨p, off + k * 5 + 2, none⟩ = some x2 /\ w'.cell? ⟨p, off + k * 5 + 3, none⟩ = some x3 /\ w'.cell? ⟨p, off + k * 5 + 4, none⟩ = some x4 /\ w'.cell? ⟨p2, off2 + k * 5, none⟩ = some z0 /\ w'.cell? ⟨p2, off2 + k * 5 + 1, none⟩ = some z1 /\ w'.cell? ⟨p2, off2 + k * 5 + 2, none⟩ = some z2 /\ w'.cell? ⟨p2, off2 + k * 5 + 3, none⟩ = some z3 /\ w'.cell? ⟨p2, off2 + k * 5 + 4, none⟩ = some z4 /\ Below wr.heap.size wr w') (go_keep)
      (first | (go_at_call 54; refine Calls.mono (HI.out _ ?_) ?_; exact ⟨‹_›, ‹_›, ‹_›, ‹_›, ‹_›, ‹_›, ‹_›, ‹_›, ‹_›, ‹_›, ‹_›, ‹_›, ‹_›⟩; rintro e w3 ⟨rfl, t0, t1, t2, t3, t4, t5, t6, t7, t8, t9, t10, t11, t12⟩))
     all_goals
      have hA3 := (t12.block w.heap.size hlA).trans HA.out
      have hB3 := (t12.block (w.heap.size + 1) hlB).trans HB.out
      have hw3 := hw.trans (t12.mono hw.size)
      clear t0 t1 t2 t3 t4 t5 t6 t7 t8 t9 t10 t11 t12
      cases q
      ·have E : Hid (sm a b = false) := hsm.no a b (fun h => by
        have h1 := HX.out; have h2 := HY.out; rw [h, h2] at h1
        have h3 := HQ.out; rw [hsm.yes x y (Option.some.inj h1).symm] at h3; exact absurd h3 (by decide))
       go_wp2_with fail
       go_ret
       exact ⟨ret_bool E.out.symm, hw3⟩
      ·go_wp2_with fail
       go_roundw
       case rel =>
        refine ⟨k + 1, by omega, by go_num, fun j hj => ?_, hA3, hB3, hw3⟩
        rcases Nat.lt_or_ge j k with h | h
        ·exact HOK.out j h
        ·rw [show j = k by omega, HX.out, HY.out, hsm.eq x y HQ.out]
       case measure => simp [intOf]; omega
    ·have HLL : Hid (a.l = b.l) := by
      show _ = _
      apply List.ext_getElem?
      intro j
      rcases Nat.lt_or_ge j a.l.length with h | h
      ·exact HOK.out j (by omega)
      ·rw [List.getElem?_eq_none h, List.getElem?_eq_none (by have := E4.out; omega)]
     clear HOK HL HL2 b3
     go_wp2_with fail
     go_loopw [7, 8] (fun vi _ wr => ∃ k : Nat, k <= a.f.length /\ vi = .int .i64 k /\ (∀ j, j < k -> a.f[j]? = b.f[j]?) /\ wr.heap[w.heap.size]? = some (.cells #[.int .i64 a.kind, .int .i64 a.n, .string a.s, .slice al a.l.length cl, .slice af a.f.length cf] 61 (0, 0)) /\ wr.heap[w.heap.size + 1]? = some (.cells #[.int .i64 b.kind, .int .i64 b.n, .string b.s, .slice al2 b.l.length cl2, .slice af2 b.f.length cf2] 61 (0, 0)) /\ Below w.heap.size w wr) (fun vi _ _ => a.f.length - (intOf vi).toNat)
     case atStart => exact ⟨0, Nat.zero_le _, rfl, fun j hj => absurd hj (by omega), hA, hB, hw⟩
     case round =>
      clear hA hB hw a3 a4
      obtain ⟨k, hk, rfl, hok, hA, hB, hw⟩ := hrel
      have HOK : Hid _ := hok
      clear hok
      have a4 := cell_of_block hA 4 _ rfl
      have b4 := cell_of_block hB 4 _ rfl
      by_cases hlt : k < a.f.length
      ·have hlt2 : k < b.f.length := by have := E5.out; omega
       obtain ⟨p, off, cap, x, x0, x1, x2, x3, x4, e1, hx, hm, un, u0, u1, u2, u3, u4⟩ := V.elemF (V.Row.kept HF.out hw (fun _ _ ⟨x, c', hx, hc, hm⟩ => ⟨x, c', hx, hc, V.Mem.kept m hm hw⟩)) k hlt
       simp only [Value.slice.injEq] at e1
       obtain ⟨rfl, _, rfl⟩ := e1
       obtain ⟨p2, off2, cap2, y, z0, z1, z2, z3, z4, e2, hy, hm2, vn, v0, v1, v2, v3, v4⟩ := V.elemF (V.Row.kept HF2.out hw (fun _ _ ⟨x, c', hx, hc, hm⟩ => ⟨x, c', hx, hc, V.Mem.kept m hm hw⟩)) k hlt2
       simp only [Value.slice.injEq] at e2
       obtain ⟨rfl, _, rfl⟩ := e2
       have s1 := V.sumF_le (fun x => x.1.size + V.bulk m x.2) a.f k x hx
       have s2 := V.sumF_le (fun x => x.1.size + V.bulk m x.2) b.f k y hy
       have hI : ∀ w' : World, (w'.cell? ⟨w.heap.size, 4, none⟩ = some (.slice (some ⟨p, off, none⟩) a.f.length cf) /\ w'.cell? ⟨w.heap.size + 1, 4, none⟩ = some (.slice (some ⟨p2, off2, none⟩) b.f.length cf2) /\ w'.cell? ⟨p, off + k * 6 + 1, none⟩ = some x0 /\ w'.cell? ⟨p, off + k * 6 + 2, none⟩ = some x1 /\ w'.cell? ⟨p, off + k * 6 + 3, none⟩ = some x2 /\ w'.cell? ⟨p, off + k * 6 + 4, none⟩ = some x3 /\ w'.cell? ⟨p, off + k * 6 + 5, none⟩ = some x4 /\ w'.cell? ⟨p2, off2 + k * 6 + 1, none⟩ = some z0 /\ w'.cell? ⟨p2, off2 + k * 6 + 2, none⟩ = some z1 /\ w'.cell? ⟨p2, off2 + k * 6 + 3, none⟩ = some z2 /\ w'.cell? ⟨p2, off2 + k * 6 + 4, none⟩ = some z3 /\ w'.cell? ⟨p2, off2 + k * 6 + 5, none⟩ = some z4 /\ Below wr.heap.size wr w') -> Calls Tryz.prog 54 #[.agg #[x0, x1, x2, x3, x4], .agg #[z0, z1, z2, z3, z4]] w' fun e w'' => e = .returned (.bool (sm x.2 y.2)) /\ w''.cell? ⟨w.heap.size, 4, none⟩ = some (.slice (some ⟨p, off, none⟩) a.f.length cf) /\ w''.cell? ⟨w.heap.size + 1, 4, none⟩ = some (.slice (some ⟨p2, off2, none⟩) b.f.length cf2) /\ w''.cell? ⟨p, off + k * 6 + 1, none⟩ = some x0 /\ w''.cell? ⟨p, off + k * 6 + 2, none⟩ = some x1 /\ w''.cell? ⟨p, off + k * 6 + 3, none⟩ = some x2 /\ w''.cell? ⟨p, off + k * 6 + 4, none⟩ = some x3 /\ w''.cell? ⟨p, off + k * 6 + 5, none⟩ = some x4 /\ w''.cell? ⟨p2, off2 + k * 6 + 1, none⟩ = some z0 /\ w''.cell? ⟨p2, off2 + k * 6 + 2, none⟩ = some z1 /\ w''.cell? ⟨p2, off2 + k * 6 + 3, none⟩ = some z2 /\ w''.cell? ⟨p2, off2 + k * 6 + 4, none⟩ = some z3 /\ w''.cell? ⟨p2, off2 + k * 6 + 5, none⟩ = some z4 /\ Below wr.heap.size wr w'' := by
        intro w' ⟨t0, t1, t2, t3, t4, t5, t6, t7, t8, t9, t10, t11, t12⟩
        refine (IH.out w' x.2 y.2 x0 x1 x2 x3 x4 z0 z1 z2 z3 z4 (V.Mem.kept m hm t12) (V.Mem.kept m hm2 t12) (by omega) (by omega)).mono ?_
        rintro e w'' ⟨rfl, hb⟩
        exact ⟨rfl, kept_cell hb t0, kept_cell hb t1, kept_cell hb t2, kept_cell hb t3, kept_cell hb t4, kept_cell hb t5, kept_cell hb t6, kept_cell hb t7, kept_cell hb t8, kept_cell hb t9, kept_cell hb t10, kept_cell hb t11, t12.trans (hb.mono t12.size)⟩
       have HI : Hid _ := hI
       have HX : Hid _ := hx
       have HY : Hid _ := hy
       have HA : Hid _ := hA
       have HB : Hid _ := hB
       have UN : Hid _ := un
       have VN : Hid _ := vn
       have hbd : Below wr.heap.size wr wr.drew := below_drewN (Below.refl _ _) 1
       have hlA : w.heap.size < wr.heap.size := (blt hA)
       have hlB : w.heap.size + 1 < wr.heap.size := (blt hB)
       clear hI hm hm2 hx hy hA hB s1 s2 un vn
       generalize hq : sm x.2 y.2 = q at *
       have HQ : Hid _ := hq
       clear hq
       go_wp2_with fail
       go_region_held3 (fun w' => w'.cell? ⟨w.heap.size, 4, none⟩ = some (.slice (some ⟨p, off, none⟩) a.f.length cf) /\ w'.cell? ⟨w.heap.size + 1, 4, none⟩ = some (.slice (some ⟨p2, off2, none⟩) b.f.length cf2) /\ w'.cell? ⟨p, off + k * 6 + 1, none⟩ = some x0 /\ w'.cell? ⟨p, off + k * 6 + 2, none⟩ = some x1 /\ w'.cell? ⟨p, off + k * 6 + 3, none⟩ = some x2 /\ w'.cell? ⟨p, off + k * 6 + 4, none⟩ = some x3 /\ w'.cell? ⟨p, off + k * 6 + 5, none⟩ = some x4 /\ w'.cell? ⟨p2, off2 + k * 6 + 1, none⟩ = some z0 /\ w'.cell? ⟨p2, off2 + k * 6 + 2, none⟩ = some z1 /\ w'.cell? ⟨p2, off2 + k * 6 + 3, none⟩ = some z2 /\ w'.cell? ⟨p2, off2 + k * 6 + 4, none⟩ = some z3 /\ w'.cell? ⟨p2, off2 + k * 6 + 5, none⟩ = some z4 /\ Below wr.heap.size wr w') (go_keep)
        (first | (go_at_call 54; refine Calls.mono (HI.out _ ?_) ?_; exact ⟨‹_›, ‹_›, ‹_›, ‹_›, ‹_›, ‹_›, ‹_›, ‹_›, ‹_›, ‹_›, ‹_›, ‹_›, ‹_›⟩; rintro e w3 ⟨rfl, t0, t1, t2, t3, t4, t5, t6, t7, t8, t9, t10, t11, t12⟩))
       all_goals
        have hA3 := (t12.block w.heap.size hlA).trans HA.out
        have hB3 := (t12.block (w.heap.size + 1) hlB).trans HB.out
        have hw3 := hw.trans (t12.mono hw.size)
        have un := kept_cell t12 UN.out
        have vn := kept_cell t12 VN.out
        clear t2 t3 t4 t5 t6 t7 t8 t9 t10 t11 t12 u0 v0 u1 v1 u2 v2 u3 v3 u4 v4 a4 b4
        cases q
        ·have E : Hid (sm a b = false) := hsm.no a b (fun h => by
          have h1 := HX.out; have h2 := HY.out; rw [h, h2] at h1
          have h3 := HQ.out; rw [hsm.yes x.2 y.2 (by rw [Option.some.inj h1])] at h3; exact absurd h3 (by decide))
         go_wp2_with fail
         go_quiet (fail)
         go_wp2_with fail
         go_ret
         exact ⟨ret_bool E.out.symm, below_drewN hw3 _⟩
        ·by_cases hnm : x.1.toList = y.1.toList
         ·have HN : Hid (x = y) := Prod.ext (V.toList_inj hnm) (hsm.eq _ _ HQ.out)
          go_wp2_with fail
          go_quiet (fail)
          go_wp2_with fail
          go_roundw
          case rel =>
           refine ⟨k + 1, by omega, by go_num, fun j hj => ?_, hA3, hB3, below_drewN hw3 _⟩
           rcases Nat.lt_or_ge j k with h | h
           ·exact HOK.out j h
           ·rw [show j = k by omega, HX.out, HY.out, HN.out]
          case measure => simp [intOf]; omega
         ·have E : Hid (sm a b = false) := hsm.no a b (fun h => by
           have h1 := HX.out; have h2 := HY.out; rw [h, h2] at h1
           exact hnm (by rw [Option.some.inj h1]))
          have g1 : (x.1.toList == y.1.toList) = false := beq_eq_false_iff_ne.2 hnm
          clear hnm
          go_wp2_with fail
          go_quiet (fail)
          go_wp2_with fail
          go_ret
          exact ⟨ret_bool E.out.symm, below_drewN hw3 _⟩
      ·have E : Hid (sm a b = true) := hsm.yes a b (V.val_ext a b E1.out E2.out E3.out HLL.out (by
        apply List.ext_getElem?
        intro j
        rcases Nat.lt_or_ge j a.f.length with h | h
        ·exact HOK.out j (by omega)
        ·rw [List.getElem?_eq_none h, List.getElem?_eq_none (by have := E5.out; omega)]))
       go_wp2_with fail
       go_ret
       exact ⟨ret_bool E.out.symm, hw⟩
theorem same_no {a b : ByteArray} (h : a ≠ b) : (a.toList == b.toList) = false := by
 cases hq : (a.toList == b.toList) with
 | false => rfl
 | true => exact absurd (V.toList_inj (eq_of_beq hq)) h
theorem S.Mem.form2 {m : Nat} {w : World} {v : Val} {cs : List Value} (h : V.Mem m w v cs) : ∃ al cl af cf, cs = [.int .i64 v.kind, .int .i64 v.n, .string v.s, .slice al v.l.length cl, .slice af v.f.length cf] := by
 cases m with
 | zero => exact h.elim
 | succ m =>
  obtain ⟨lv, fv, h1, h2, h3⟩ := h
  obtain ⟨al, cl, rfl⟩ := V.Row.shape h2
  obtain ⟨af, cf, rfl⟩ := V.Row.shape h3
  exact ⟨al, cl, af, cf, h1⟩
theorem sameHeld_any (sm : Val -> Val -> Bool) (hsm : V.Says sm) (m : Nat) (w : World) (a b : Hd) (a0 a1 a2 a3 a4 b0 b1 b2 b3 b4 : Value) (hma : V.Mem m w a.v [a0, a1, a2, a3, a4]) (hmb : V.Mem m w b.v [b0, b1, b2, b3, b4]) (hba : V.bulk m a.v <= 2000000) (hbb : V.bulk m b.v <= 2000000) :
  Calls Tryz.prog 26 #[.agg #[.string a.name, .string a.kind, .int .i64 a.id, a0, a1, a2, a3, a4], .agg #[.string b.name, .string b.kind, .int .i64 b.id, b0, b1, b2, b3, b4]] w fun e w' => (∃ r : Bool, e = .returned (.bool r) /\ (a = b -> r = true)) /\ Below w.heap.size w w' := by
 obtain ⟨al1, cl1, af1, cf1, hcs⟩ := S.Mem.form2 hma
 simp only [List.cons.injEq, and_true] at hcs
 obtain ⟨rfl, rfl, rfl, rfl, rfl⟩ := hcs
 obtain ⟨al2, cl2, af2, cf2, hcs⟩ := S.Mem.form2 hmb
 simp only [List.cons.injEq, and_true] at hcs
 obtain ⟨rfl, rfl, rfl, rfl, rfl⟩ := hcs
 have hbL : Below w.heap.size w ((w.alloc (.cells #[.string a.name, .string a.kind, .int .i64 a.id, .int .i64 a.v.kind, .int .i64 a.v.n, .string a.v.s, .slice al1 a.v.l.length cl1, .slice af1 a.v.f.length cf1] 63)).alloc (.cells #[.string b.name, .string b.kind, .int .i64 b.id, .int .i64 b.v.kind, .int .i64 b.v.n, .string b.v.s, .slice al2 b.v.l.length cl2, .slice af2 b.v.f.length cf2] 63)) := ((Below.refl _ _).alloc (Nat.le_refl _) _).alloc (by simp) _
 have hA0 : ((w.alloc (.cells #[.string a.name, .string a.kind, .int .i64 a.id, .int .i64 a.v.kind, .int .i64 a.v.n, .string a.v.s, .slice al1 a.v.l.length cl1, .slice af1 a.v.f.length cf1] 63)).alloc (.cells #[.string b.name, .string b.kind, .int .i64 b.id, .int .i64 b.v.kind, .int .i64 b.v.n, .string b.v.s, .slice al2 b.v.l.length cl2, .slice af2 b.v.f.length cf2] 63)).heap[w.heap.size]? = some (.cells #[.string a.name, .string a.kind, .int .i64 a.id, .int .i64 a.v.kind, .int .i64 a.v.n, .string a.v.s, .slice al1 a.v.l.length cl1, .slice af1 a.v.f.length cf1] 63 (0, 0)) := by rw [heap_alloc_old _ _ (by simp)]; exact heap_alloc_new _ _
 have hB0 : ((w.alloc (.cells #[.string a.name, .string a.kind, .int .i64 a.id, .int .i64 a.v.kind, .int .i64 a.v.n, .string a.v.s, .slice al1 a.v.l.length cl1, .slice af1 a.v.f.length cf1] 63)).alloc (.cells #[.string b.name, .string b.kind, .int .i64 b.id, .int .i64 b.v.kind, .int .i64 b.v.n, .string b.v.s, .slice al2 b.v.l.length cl2, .slice af2 b.v.f.length cf2] 63)).heap[w.heap.size + 1]? = some (.cells #[.string b.name, .string b.kind, .int .i64 b.id, .int .i64 b.v.kind, .int .i64 b.v.n, .string b.v.s, .slice al2 b.v.l.length cl2, .slice af2 b.v.f.length cf2] 63 (0, 0)) := by
  have h1 := heap_alloc_new (w.alloc (.cells #[.string a.name, .string a.kind, .int .i64 a.id, .int .i64 a.v.kind, .int .i64 a.v.n, .string a.v.s, .slice al1 a.v.l.length cl1, .slice af1 a.v.f.length cf1] 63)) (.cells #[.string b.name, .string b.kind, .int .i64 b.id, .int .i64 b.v.kind, .int .i64 b.v.n, .string b.v.s, .slice al2 b.v.l.length cl2, .slice af2 b.v.f.length cf2] 63)
  rw [World.size_alloc] at h1
  exact h1
 have HC := hide (refAlike_any sm hsm m ((w.alloc (.cells #[.string a.name, .string a.kind, .int .i64 a.id, .int .i64 a.v.kind, .int .i64 a.v.n, .string a.v.s, .slice al1 a.v.l.length cl1, .slice af1 a.v.f.length cf1] 63)).alloc (.cells #[.string b.name, .string b.kind, .int .i64 b.id, .int .i64 b.v.kind, .int .i64 b.v.n, .string b.v.s, .slice al2 b.v.l.length cl2, .slice af2 b.v.f.length cf2] 63)) a.v b.v _ _ _ _ _ _ _ _ _ _ (V.Mem.kept m hma hbL) (V.Mem.kept m hmb hbL) hba hbb)
 obtain ⟨HB, HA0, HB0, HSM⟩ := hd4 hbL hA0 hB0 hsm
 have x3 := cell_of_block hA0 3 _ rfl
 have x4 := cell_of_block hA0 4 _ rfl
 have x5 := cell_of_block hA0 5 _ rfl
 have x6 := cell_of_block hA0 6 _ rfl
 have x7 := cell_of_block hA0 7 _ rfl
 have y3 := cell_of_block hB0 3 _ rfl
 have y4 := cell_of_block hB0 4 _ rfl
 have y5 := cell_of_block hB0 5 _ rfl
 have y6 := cell_of_block hB0 6 _ rfl
 have y7 := cell_of_block hB0 7 _ rfl
 clear hbL hA0 hB0 hma hmb hba hbb hsm
 go_enter Tryz.func26, Tryz.ntmps26
 go_wp2_with fail
 generalize ((w.alloc _).alloc _) = w2 at *
 refine HC.out.mono ?_
 rintro o w3 ⟨rfl, hb3⟩
 have hA3 := (hb3.block w.heap.size (blt HA0.out)).trans HA0.out
 have hB3 := (hb3.block (w.heap.size + 1) (blt HB0.out)).trans HB0.out
 have HB3 := hide (HB.out.trans (hb3.mono HB.out.size))
 obtain ⟨q, hq⟩ : ∃ q, q = sm a.v b.v := ⟨_, rfl⟩
 have HQ := hide hq
 rw [<- hq]
 clear hq x3 y3 x4 y4 x5 y5 x6 y6 x7 y7 hb3 HC
 have x0 := cell_of_block hA3 0 _ rfl
 have x1 := cell_of_block hA3 1 _ rfl
 have x2 := cell_of_block hA3 2 _ rfl
 have y0 := cell_of_block hB3 0 _ rfl
 have y1 := cell_of_block hB3 1 _ rfl
 have y2 := cell_of_block hB3 2 _ rfl
 clear hA3 hB3
 by_cases e0 : a.name = b.name
 ·by_cases e1 : a.kind = b.kind
  ·by_cases e2 : a.id = b.id
   ·have x0' : w3.cell? ⟨w.heap.size, 0, none⟩ = some (.string b.name) := by rw [<- e0]; exact x0
    have x1' : w3.cell? ⟨w.heap.size, 1, none⟩ = some (.string b.kind) := by rw [<- e1]; exact x1
    have x2' : w3.cell? ⟨w.heap.size, 2, none⟩ = some (.int .i64 b.id) := by rw [<- e2]; exact x2
    clear x0 x1 x2 e0 e1 e2
    go_wp2_with fail
    go_ret
    refine ⟨⟨_, rfl, fun e => ?_⟩, HB3.out⟩
    rw [HQ.out]
    exact HSM.out.yes _ _ (by rw [e])
   ·have n2 : (a.id == b.id) = false := by simpa using e2
    have x0' : w3.cell? ⟨w.heap.size, 0, none⟩ = some (.string b.name) := by rw [<- e0]; exact x0
    have x1' : w3.cell? ⟨w.heap.size, 1, none⟩ = some (.string b.kind) := by rw [<- e1]; exact x1
    have HE := hide e2
    clear x0 x1 e0 e1 e2
    go_wp2_with fail
    go_ret
    exact ⟨⟨_, rfl, fun e => absurd (by rw [e]) HE.out⟩, HB3.out⟩
  ·have n1 := same_no e1
   have x0' : w3.cell? ⟨w.heap.size, 0, none⟩ = some (.string b.name) := by rw [<- e0]; exact x0
   have HE := hide e1
   clear x0 e0 e1
   go_wp2_with fail
   go_ret
   exact ⟨⟨_, rfl, fun e => absurd (by rw [e]) HE.out⟩, HB3.out⟩
 ·have n0 := same_no e0
  have HE := hide e0
  clear e0
  go_wp2_with fail
  go_ret
  exact ⟨⟨_, rfl, fun e => absurd (by rw [e]) HE.out⟩, HB3.out⟩
theorem sameFields_any (sm : Val -> Val -> Bool) (hsm : V.Says sm) (m : Nat) (w : World) (l1 l2 : List (ByteArray × Val)) (v1 v2 : Option Addr) (c1 c2 : Nat) (h1 : S.ORow m w (.slice v1 l1.length c1) l1) (h2 : S.ORow m w (.slice v2 l2.length c2) l2) (hb1 : ∀ x ∈ l1, V.bulk m x.2 <= 2000000) (hb2 : ∀ x ∈ l2, V.bulk m x.2 <= 2000000) (hl1 : l1.length <= 2000000) (hl2 : l2.length <= 2000000) :
  Calls Tryz.prog 27 #[.slice v1 l1.length c1, .slice v2 l2.length c2] w fun e w' => (∃ r : Bool, e = .returned (.bool r) /\ (l1 = l2 -> r = true)) /\ Below w.heap.size w w' := by
 by_cases hlen : l1.length = l2.length
 ·have hd : ((l1.length : Int) != (l2.length : Int)) = false := by
   rw [hlen]
   simp
  obtain ⟨HLN, H1, H2, HB1, HB2, HSM, HL1, HL2⟩ := hd8 hlen h1 h2 hb1 hb2 hsm hl1 hl2
  have HW0 : Hid (Below w.heap.size w w) := Below.refl _ _
  clear hlen h1 h2 hb1 hb2 hsm hl2
  go_enter Tryz.func27, Tryz.ntmps27
  go_wp2_with fail
  go_loopw [5, 6] (fun vi _ wr => ∃ k : Nat, k <= l1.length /\ vi = .int .i64 k /\ Below w.heap.size w wr) (fun vi _ _ => l1.length - (intOf vi).toNat)
  case atStart => exact ⟨0, Nat.zero_le _, rfl, HW0.out⟩
  case round =>
   clear HW0
   obtain ⟨k, hk, rfl, hw⟩ := hrel
   by_cases hlt : k < l1.length
   ·have hlt2 : k < l2.length := by have := HLN.out; omega
    obtain ⟨p1, o1, cap1, x, a0, a1, a2, a3, a4, e1, hx, hm1, u0, u1, u2, u3, u4, u5⟩ := S.elemO (H1.out.kept hw) k hlt
    simp only [Value.slice.injEq] at e1
    obtain ⟨rfl, _, rfl⟩ := e1
    obtain ⟨p2, o2, cap2, y, b0, b1, b2, b3, b4, e2, hy, hm2, s0, s1, s2, s3, s4, s5⟩ := S.elemO (H2.out.kept hw) k hlt2
    simp only [Value.slice.injEq] at e2
    obtain ⟨rfl, _, rfl⟩ := e2
    obtain ⟨al1, cl1, af1, cf1, hcs⟩ := S.Mem.form2 hm1
    simp only [List.cons.injEq, and_true] at hcs
    obtain ⟨rfl, rfl, rfl, rfl, rfl⟩ := hcs
    obtain ⟨al2, cl2, af2, cf2, hcs⟩ := S.Mem.form2 hm2
    simp only [List.cons.injEq, and_true] at hcs
    obtain ⟨rfl, rfl, rfl, rfl, rfl⟩ := hcs
    have hxb := HB1.out x (List.mem_of_getElem? hx)
    have hyb := HB2.out y (List.mem_of_getElem? hy)
    have HNE : Hid (x ≠ y -> l1 ≠ l2) := fun hne e => hne (by rw [e, hy] at hx; exact (Option.some.inj hx).symm)
    have hI : ∀ w' : World, (w'.cell? ⟨p1, o1 + k * 6, none⟩ = some (.string x.1) /\ w'.cell? ⟨p1, o1 + k * 6 + 1, none⟩ = some (.int .i64 x.2.kind) /\ w'.cell? ⟨p1, o1 + k * 6 + 2, none⟩ = some (.int .i64 x.2.n) /\ w'.cell? ⟨p1, o1 + k * 6 + 3, none⟩ = some (.string x.2.s) /\ w'.cell? ⟨p1, o1 + k * 6 + 4, none⟩ = some (.slice al1 x.2.l.length cl1) /\ w'.cell? ⟨p1, o1 + k * 6 + 5, none⟩ = some (.slice af1 x.2.f.length cf1) /\ w'.cell? ⟨p2, o2 + k * 6, none⟩ = some (.string y.1) /\ w'.cell? ⟨p2, o2 + k * 6 + 1, none⟩ = some (.int .i64 y.2.kind) /\ w'.cell? ⟨p2, o2 + k * 6 + 2, none⟩ = some (.int .i64 y.2.n) /\ w'.cell? ⟨p2, o2 + k * 6 + 3, none⟩ = some (.string y.2.s) /\ w'.cell? ⟨p2, o2 + k * 6 + 4, none⟩ = some (.slice al2 y.2.l.length cl2) /\ w'.cell? ⟨p2, o2 + k * 6 + 5, none⟩ = some (.slice af2 y.2.f.length cf2) /\ Below wr.heap.size wr w') -> Calls Tryz.prog 54 #[.agg #[.int .i64 x.2.kind, .int .i64 x.2.n, .string x.2.s, .slice al1 x.2.l.length cl1, .slice af1 x.2.f.length cf1], .agg #[.int .i64 y.2.kind, .int .i64 y.2.n, .string y.2.s, .slice al2 y.2.l.length cl2, .slice af2 y.2.f.length cf2]] w' fun e w'' => e = .returned (.bool (sm x.2 y.2)) /\ w''.cell? ⟨p1, o1 + k * 6, none⟩ = some (.string x.1) /\ w''.cell? ⟨p1, o1 + k * 6 + 1, none⟩ = some (.int .i64 x.2.kind) /\ w''.cell? ⟨p1, o1 + k * 6 + 2, none⟩ = some (.int .i64 x.2.n) /\ w''.cell? ⟨p1, o1 + k * 6 + 3, none⟩ = some (.string x.2.s) /\ w''.cell? ⟨p1, o1 + k * 6 + 4, none⟩ = some (.slice al1 x.2.l.length cl1) /\ w''.cell? ⟨p1, o1 + k * 6 + 5, none⟩ = some (.slice af1 x.2.f.length cf1) /\ w''.cell? ⟨p2, o2 + k * 6, none⟩ = some (.string y.1) /\ w''.cell? ⟨p2, o2 + k * 6 + 1, none⟩ = some (.int .i64 y.2.kind) /\ w''.cell? ⟨p2, o2 + k * 6 + 2, none⟩ = some (.int .i64 y.2.n) /\ w''.cell? ⟨p2, o2 + k * 6 + 3, none⟩ = some (.string y.2.s) /\ w''.cell? ⟨p2, o2 + k * 6 + 4, none⟩ = some (.slice al2 y.2.l.length cl2) /\ w''.cell? ⟨p2, o2 + k * 6 + 5, none⟩ = some (.slice af2 y.2.f.length cf2) /\ Below wr.heap.size wr w'' := by
     intro w' ⟨t0, t1, t2, t3, t4, t5, t6, t7, t8, t9, t10, t11, t12⟩
     refine (refAlike_any sm HSM.out m w' x.2 y.2 _ _ _ _ _ _ _ _ _ _ (V.Mem.kept _ hm1 t12) (V.Mem.kept _ hm2 t12) hxb hyb).mono ?_
     rintro r w'' ⟨rfl, hb⟩
     exact ⟨rfl, kept_cell hb t0, kept_cell hb t1, kept_cell hb t2, kept_cell hb t3, kept_cell hb t4, kept_cell hb t5, kept_cell hb t6, kept_cell hb t7, kept_cell hb t8, kept_cell hb t9, kept_cell hb t10, kept_cell hb t11, t12.trans (hb.mono t12.size)⟩
    obtain ⟨HI, HW, HLT⟩ := hd3 hI hw hlt
    have hbd : Below wr.heap.size wr wr.drew := below_drewN (Below.refl _ _) 1
    have hi1 : (k : Int) < l1.length := by omega
    have hi2 : (k : Int) < l2.length := by omega
    obtain ⟨q, hq⟩ : ∃ q, q = sm x.2 y.2 := ⟨_, rfl⟩
    have HQ := hide hq
    rw [<- hq] at HI
    clear hI hm1 hm2 hx hy hw hxb hyb hq
    go_wp2_with fail
    go_region_held3 (fun w' => w'.cell? ⟨p1, o1 + k * 6, none⟩ = some (.string x.1) /\ w'.cell? ⟨p1, o1 + k * 6 + 1, none⟩ = some (.int .i64 x.2.kind) /\ w'.cell? ⟨p1, o1 + k * 6 + 2, none⟩ = some (.int .i64 x.2.n) /\ w'.cell? ⟨p1, o1 + k * 6 + 3, none⟩ = some (.string x.2.s) /\ w'.cell? ⟨p1, o1 + k * 6 + 4, none⟩ = some (.slice al1 x.2.l.length cl1) /\ w'.cell? ⟨p1, o1 + k * 6 + 5, none⟩ = some (.slice af1 x.2.f.length cf1) /\ w'.cell? ⟨p2, o2 + k * 6, none⟩ = some (.string y.1) /\ w'.cell? ⟨p2, o2 + k * 6 + 1, none⟩ = some (.int .i64 y.2.kind) /\ w'.cell? ⟨p2, o2 + k * 6 + 2, none⟩ = some (.int .i64 y.2.n) /\ w'.cell? ⟨p2, o2 + k * 6 + 3, none⟩ = some (.string y.2.s) /\ w'.cell? ⟨p2, o2 + k * 6 + 4, none⟩ = some (.slice al2 y.2.l.length cl2) /\ w'.cell? ⟨p2, o2 + k * 6 + 5, none⟩ = some (.slice af2 y.2.f.length cf2) /\ Below wr.heap.size wr w') (go_keep)
     (first | (go_at_call 54; refine Calls.mono (HI.out _ ?_) ?_; exact ⟨‹_›, ‹_›, ‹_›, ‹_›, ‹_›, ‹_›, ‹_›, ‹_›, ‹_›, ‹_›, ‹_›, ‹_›, ‹_›⟩; rintro r w3 ⟨rfl, t0, t1, t2, t3, t4, t5, t6, t7, t8, t9, t10, t11, t12⟩))
    all_goals
     have HT := hide t12
     have HW3 := hide (HW.out.trans (t12.mono HW.out.size))
     clear t12
     go_wp2_with fail
     by_cases e0 : x.1 = y.1
     ·have n0 : (x.1.toList == y.1.toList) = true := by rw [e0]; exact beq_self_eq_true _
      have HE := hide e0
      cases q with
      | true =>
       clear e0
       go_quiet (fail)
       all_goals
        clear t0 t1 t2 t3 t4 t5 t6 t7 t8 t9 t10 t11
        go_wp2_with fail
        go_roundw
        case rel => exact ⟨k + 1, HLT.out, by go_num, below_drewN HW3.out _⟩
        case measure =>
         have h1 := HLT.out
         simp [intOf]
         omega
      | false =>
       clear e0
       go_quiet (fail)
       all_goals
        clear t0 t1 t2 t3 t4 t5 t6 t7 t8 t9 t10 t11
        go_wp2_with fail
        go_ret
        refine ⟨⟨_, rfl, fun e => absurd e (HNE.out (fun e2 => ?_))⟩, below_drewN HW3.out _⟩
        have h9 := HQ.out
        rw [e2, HSM.out.yes _ _ rfl] at h9
        cases h9
     ·have n0 := same_no e0
      have HE := hide e0
      clear e0
      go_quiet (fail)
      all_goals
       clear t0 t1 t2 t3 t4 t5 t6 t7 t8 t9 t10 t11
       go_wp2_with fail
       go_ret
       exact ⟨⟨_, rfl, fun e => absurd e (HNE.out (fun e2 => HE.out (by rw [e2])))⟩, below_drewN HW3.out _⟩
   ·have HW3 := hide hw
    clear hw
    go_wp2_with fail
    go_ret
    exact ⟨⟨_, rfl, fun _ => rfl⟩, HW3.out⟩
 ·have hd : ((l1.length : Int) != (l2.length : Int)) = true := by
   simp
   omega
  have HE := hide hlen
  clear h1 h2 hlen hb1 hb2
  go_enter Tryz.func27, Tryz.ntmps27
  go_wp2_with fail
  go_ret
  exact ⟨⟨_, rfl, fun e => absurd (by rw [e]) HE.out⟩, Below.refl _ _⟩
end Go.Proofs.YtcekcfjabhlheaaGreatDoor.Vx
