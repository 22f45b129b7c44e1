/- For TopPrint: SameStack, SameStacks; number. -/
import Derived.Test.YtbdbpfcblppnbaaGreatDoorTF
import Derived.Test.YtbdbpfcblppnbaaGreatDoorX3
namespace Go.Proofs.YtbdbpfcblppnbaaGreatDoor.Vx
open Go.RowKit
set_option maxRecDepth 100000 in
set_option maxHeartbeats 6400000 in
theorem sameStack_same (sm : Val → Val → Bool) (hsm : V.Says sm) (m : Nat) (w : World) (s : Sk) (ai1 ai2 ar1 ar2 ao1 ao2 : Option Addr) (ci1 ci2 cr1 cr2 co1 co2 : Nat)
  (hI1 : X.Vals m w (.slice ai1 s.ins.length ci1) s.ins) (hI2 : X.Vals m w (.slice ai2 s.ins.length ci2) s.ins) (hR1 : X.Ress m w (.slice ar1 s.res.length cr1) s.res) (hR2 : X.Ress m w (.slice ar2 s.res.length cr2) s.res)
  (hO1 : X.Named m w (.slice ao1 s.outs.length co1) s.outs) (hO2 : X.Named m w (.slice ao2 s.outs.length co2) s.outs) (hbk : X.bulkS m s ≤ 2000000) (hpl : ∀ r ∈ s.res, r.parts.length ≤ 2000000) :
  Calls Tryz.prog 19 #[.agg #[.string s.name, .slice ai1 s.ins.length ci1, .slice ar1 s.res.length cr1, .slice ao1 s.outs.length co1], .agg #[.string s.name, .slice ai2 s.ins.length ci2, .slice ar2 s.res.length cr2, .slice ao2 s.outs.length co2]] w fun r w' => r = .returned (.bool true) ∧ Below w.heap.size w w' := by
 have hbL : Below w.heap.size w ((w.alloc (.cells #[.string s.name, .slice ai1 s.ins.length ci1, .slice ar1 s.res.length cr1, .slice ao1 s.outs.length co1] 41)).alloc (.cells #[.string s.name, .slice ai2 s.ins.length ci2, .slice ar2 s.res.length cr2, .slice ao2 s.outs.length co2] 41)) := ((Below.refl _ _).alloc (Nat.le_refl _) _).alloc (by simp) _
 have hA0 : ((w.alloc (.cells #[.string s.name, .slice ai1 s.ins.length ci1, .slice ar1 s.res.length cr1, .slice ao1 s.outs.length co1] 41)).alloc (.cells #[.string s.name, .slice ai2 s.ins.length ci2, .slice ar2 s.res.length cr2, .slice ao2 s.outs.length co2] 41)).heap[w.heap.size]? = some (.cells #[.string s.name, .slice ai1 s.ins.length ci1, .slice ar1 s.res.length cr1, .slice ao1 s.outs.length co1] 41 (0, 0)) := by rw [heap_alloc_old _ _ (by simp)]; exact heap_alloc_new _ _
 have hB0 : ((w.alloc (.cells #[.string s.name, .slice ai1 s.ins.length ci1, .slice ar1 s.res.length cr1, .slice ao1 s.outs.length co1] 41)).alloc (.cells #[.string s.name, .slice ai2 s.ins.length ci2, .slice ar2 s.res.length cr2, .slice ao2 s.outs.length co2] 41)).heap[w.heap.size + 1]? = some (.cells #[.string s.name, .slice ai2 s.ins.length ci2, .slice ar2 s.res.length cr2, .slice ao2 s.outs.length co2] 41 (0, 0)) := by
  have h1 := heap_alloc_new (w.alloc (.cells #[.string s.name, .slice ai1 s.ins.length ci1, .slice ar1 s.res.length cr1, .slice ao1 s.outs.length co1] 41)) (.cells #[.string s.name, .slice ai2 s.ins.length ci2, .slice ar2 s.res.length cr2, .slice ao2 s.outs.length co2] 41)
  rw [P.size_alloc] at h1
  exact h1
 have hlen : s.ins.length ≤ 2000000 ∧ s.res.length ≤ 2000000 ∧ s.outs.length ≤ 2000000 := by
  unfold X.bulkS at hbk
  omega
 have HSI : Hid (X.sumI m s.ins ≤ 2000000) := by
  show _ ≤ _
  unfold X.bulkS at hbk
  omega
 have HSR : Hid (X.sumR m s.res ≤ 2000000) := by
  show _ ≤ _
  unfold X.bulkS at hbk
  omega
 have HSO : Hid (X.sumP m s.outs ≤ 2000000) := by
  show _ ≤ _
  unfold X.bulkS at hbk
  omega
 obtain ⟨hl1, hl2, hl3⟩ := hlen
 have HI1 := hide hI1
 have HI2 := hide hI2
 have HR1 := hide hR1
 have HR2 := hide hR2
 have HO1 := hide hO1
 have HO2 := hide hO2
 have HPL := hide hpl
 have HBW := hide hbL
 have HK0 := hide hA0
 have HK1 := hide hB0
 have n1 : ((s.ins.length : Int) != (s.ins.length : Int)) = false := by simp
 have n2 : ((s.res.length : Int) != (s.res.length : Int)) = false := by simp
 have n3 : ((s.outs.length : Int) != (s.outs.length : Int)) = false := by simp
 have z0 := cell_of_block hA0 0 _ rfl
 have y0 := cell_of_block hB0 0 _ rfl
 have z1 := cell_of_block hA0 1 _ rfl
 have y1 := cell_of_block hB0 1 _ rfl
 have z2 := cell_of_block hA0 2 _ rfl
 have y2 := cell_of_block hB0 2 _ rfl
 have z3 := cell_of_block hA0 3 _ rfl
 have y3 := cell_of_block hB0 3 _ rfl
 clear hI1 hI2 hR1 hR2 hO1 hO2 hbk hbL hA0 hB0 hpl
 go_enter Tryz.func19, Tryz.ntmps19
 go_wp2_with fail
 generalize ((w.alloc (.cells #[.string s.name, .slice ai1 s.ins.length ci1, .slice ar1 s.res.length cr1, .slice ao1 s.outs.length co1] 41)).alloc (.cells #[.string s.name, .slice ai2 s.ins.length ci2, .slice ar2 s.res.length cr2, .slice ao2 s.outs.length co2] 41)) = wa at *
 clear z0 y0 z1 y1 z2 y2 z3 y3
 go_loopw [5, 6] (fun vi _ wr => ∃ k : Nat, k ≤ s.ins.length ∧ vi = .int .i64 k ∧ wr.heap[w.heap.size]? = some (.cells #[.string s.name, .slice ai1 s.ins.length ci1, .slice ar1 s.res.length cr1, .slice ao1 s.outs.length co1] 41 (0, 0)) ∧ wr.heap[w.heap.size + 1]? = some (.cells #[.string s.name, .slice ai2 s.ins.length ci2, .slice ar2 s.res.length cr2, .slice ao2 s.outs.length co2] 41 (0, 0)) ∧ Below w.heap.size w wr) (fun vi _ _ => s.ins.length - (intOf vi).toNat)
 case atStart => exact ⟨0, Nat.zero_le _, rfl, HK0.out, HK1.out, HBW.out⟩
 case round =>
  clear HBW HK0 HK1
  obtain ⟨ki, hk, rfl, hb0, hb1, hw⟩ := hrel
  have s0_1 := cell_of_block hb0 1 _ rfl
  have s1_1 := cell_of_block hb1 1 _ rfl
  by_cases hlt : ki < s.ins.length
  ·obtain ⟨p1, o1, cap1, x, alp, clp, afp, cfp, e1, hx, hm1, u0, u1, u2, u3, u4, u5⟩ := X.elemI (HI1.out.kept (hw)) ki hlt
   simp only [Value.slice.injEq] at e1
   obtain ⟨rfl, _, rfl⟩ := e1
   obtain ⟨p2, o2, cap2, y, alq, clq, afq, cfq, e2, hy, hm2, v0, v1, v2, v3, v4, v5⟩ := X.elemI (HI2.out.kept (hw)) ki hlt
   simp only [Value.slice.injEq] at e2
   obtain ⟨rfl, _, rfl⟩ := e2
   have exy : x = y := by
    rw [hx] at hy
    exact Option.some.inj hy
   subst exy
   have hxb := (X.sumI_mem (List.mem_of_getElem? hx) HSI.out).2
   have hI : ∀ w' : World, (w'.cell? ⟨w.heap.size, 1, none⟩ = some (.slice (some ⟨p1, o1, none⟩) s.ins.length ci1) ∧ w'.cell? ⟨w.heap.size + 1, 1, none⟩ = some (.slice (some ⟨p2, o2, none⟩) s.ins.length ci2) ∧ w'.cell? ⟨p1, o1 + ki * 6, none⟩ = some (.string x.1) ∧ w'.cell? ⟨p2, o2 + ki * 6, none⟩ = some (.string x.1) ∧ w'.cell? ⟨p1, o1 + ki * 6 + 1, none⟩ = some (.int .i64 x.2.kind) ∧ w'.cell? ⟨p1, o1 + ki * 6 + 2, none⟩ = some (.int .i64 x.2.n) ∧ w'.cell? ⟨p1, o1 + ki * 6 + 3, none⟩ = some (.string x.2.s) ∧ w'.cell? ⟨p1, o1 + ki * 6 + 4, none⟩ = some (.slice alp x.2.l.length clp) ∧ w'.cell? ⟨p1, o1 + ki * 6 + 5, none⟩ = some (.slice afp x.2.f.length cfp) ∧ w'.cell? ⟨p2, o2 + ki * 6 + 1, none⟩ = some (.int .i64 x.2.kind) ∧ w'.cell? ⟨p2, o2 + ki * 6 + 2, none⟩ = some (.int .i64 x.2.n) ∧ w'.cell? ⟨p2, o2 + ki * 6 + 3, none⟩ = some (.string x.2.s) ∧ w'.cell? ⟨p2, o2 + ki * 6 + 4, none⟩ = some (.slice alq x.2.l.length clq) ∧ w'.cell? ⟨p2, o2 + ki * 6 + 5, none⟩ = some (.slice afq x.2.f.length cfq) ∧ Below wr.heap.size wr w') → Calls Tryz.prog 40 #[.agg #[.int .i64 x.2.kind, .int .i64 x.2.n, .string x.2.s, .slice alp x.2.l.length clp, .slice afp x.2.f.length cfp], .agg #[.int .i64 x.2.kind, .int .i64 x.2.n, .string x.2.s, .slice alq x.2.l.length clq, .slice afq x.2.f.length cfq]] w' fun r w'' => r = .returned (.bool true) ∧ w''.cell? ⟨w.heap.size, 1, none⟩ = some (.slice (some ⟨p1, o1, none⟩) s.ins.length ci1) ∧ w''.cell? ⟨w.heap.size + 1, 1, none⟩ = some (.slice (some ⟨p2, o2, none⟩) s.ins.length ci2) ∧ w''.cell? ⟨p1, o1 + ki * 6, none⟩ = some (.string x.1) ∧ w''.cell? ⟨p2, o2 + ki * 6, none⟩ = some (.string x.1) ∧ w''.cell? ⟨p1, o1 + ki * 6 + 1, none⟩ = some (.int .i64 x.2.kind) ∧ w''.cell? ⟨p1, o1 + ki * 6 + 2, none⟩ = some (.int .i64 x.2.n) ∧ w''.cell? ⟨p1, o1 + ki * 6 + 3, none⟩ = some (.string x.2.s) ∧ w''.cell? ⟨p1, o1 + ki * 6 + 4, none⟩ = some (.slice alp x.2.l.length clp) ∧ w''.cell? ⟨p1, o1 + ki * 6 + 5, none⟩ = some (.slice afp x.2.f.length cfp) ∧ w''.cell? ⟨p2, o2 + ki * 6 + 1, none⟩ = some (.int .i64 x.2.kind) ∧ w''.cell? ⟨p2, o2 + ki * 6 + 2, none⟩ = some (.int .i64 x.2.n) ∧ w''.cell? ⟨p2, o2 + ki * 6 + 3, none⟩ = some (.string x.2.s) ∧ w''.cell? ⟨p2, o2 + ki * 6 + 4, none⟩ = some (.slice alq x.2.l.length clq) ∧ w''.cell? ⟨p2, o2 + ki * 6 + 5, none⟩ = some (.slice afq x.2.f.length cfq) ∧ Below wr.heap.size wr w'' := by
    intro w' ⟨t0, t1, t2, t3, t4, t5, t6, t7, t8, t9, t10, t11, t12, t13, t14⟩
    have hC := refAlike_any sm hsm m w' x.2 x.2 _ _ _ _ _ _ _ _ _ _ (V.Mem.kept _ hm1 t14) (V.Mem.kept _ hm2 t14) hxb hxb
    rw [hsm.yes x.2 x.2 rfl] at hC
    refine hC.mono ?_
    rintro r w'' ⟨rfl, hb⟩
    exact ⟨rfl, kept_cell hb t0, kept_cell hb t1, kept_cell hb t2, kept_cell hb t3, kept_cell hb t4, kept_cell hb t5, kept_cell hb t6, kept_cell hb t7, kept_cell hb t8, kept_cell hb t9, kept_cell hb t10, kept_cell hb t11, kept_cell hb t12, kept_cell hb t13, t14.trans (hb.mono t14.size)⟩
   have HI := hide hI
   have HW := hide hw
   have HLT := hide hlt
   have hbd : Below wr.heap.size wr wr.drew := below_drewN (Below.refl _ _) 1
   have HB0 := hide hb0
   have HLB0 := hide (blt hb0)
   have HB1 := hide hb1
   have HLB1 := hide (blt hb1)
   clear hI hm1 hm2 hx hy hw hxb hb0 hb1
   go_wp2_with fail
   go_region_held3 (fun w' => w'.cell? ⟨w.heap.size, 1, none⟩ = some (.slice (some ⟨p1, o1, none⟩) s.ins.length ci1) ∧ w'.cell? ⟨w.heap.size + 1, 1, none⟩ = some (.slice (some ⟨p2, o2, none⟩) s.ins.length ci2) ∧ w'.cell? ⟨p1, o1 + ki * 6, none⟩ = some (.string x.1) ∧ w'.cell? ⟨p2, o2 + ki * 6, none⟩ = some (.string x.1) ∧ w'.cell? ⟨p1, o1 + ki * 6 + 1, none⟩ = some (.int .i64 x.2.kind) ∧ w'.cell? ⟨p1, o1 + ki * 6 + 2, none⟩ = some (.int .i64 x.2.n) ∧ w'.cell? ⟨p1, o1 + ki * 6 + 3, none⟩ = some (.string x.2.s) ∧ w'.cell? ⟨p1, o1 + ki * 6 + 4, none⟩ = some (.slice alp x.2.l.length clp) ∧ w'.cell? ⟨p1, o1 + ki * 6 + 5, none⟩ = some (.slice afp x.2.f.length cfp) ∧ w'.cell? ⟨p2, o2 + ki * 6 + 1, none⟩ = some (.int .i64 x.2.kind) ∧ w'.cell? ⟨p2, o2 + ki * 6 + 2, none⟩ = some (.int .i64 x.2.n) ∧ w'.cell? ⟨p2, o2 + ki * 6 + 3, none⟩ = some (.string x.2.s) ∧ w'.cell? ⟨p2, o2 + ki * 6 + 4, none⟩ = some (.slice alq x.2.l.length clq) ∧ w'.cell? ⟨p2, o2 + ki * 6 + 5, none⟩ = some (.slice afq x.2.f.length cfq) ∧ Below wr.heap.size wr w') (go_keep)
    (first | (go_at_call 40; refine Calls.mono (HI.out _ ?_) ?_; exact ⟨‹_›, ‹_›, ‹_›, ‹_›, ‹_›, ‹_›, ‹_›, ‹_›, ‹_›, ‹_›, ‹_›, ‹_›, ‹_›, ‹_›, ‹_›⟩; rintro r w3 ⟨rfl, t0, t1, t2, t3, t4, t5, t6, t7, t8, t9, t10, t11, t12, t13, t14⟩))
   all_goals
    have HT := hide t14
    clear t14
    go_wp2_with fail
    go_quiet (fail)
    all_goals
     have HK0 := hide ((HT.out.block w.heap.size HLB0.out).trans HB0.out)
     have HK1 := hide ((HT.out.block (w.heap.size + 1) HLB1.out).trans HB1.out)
     have HW3 := hide (HW.out.trans (HT.out.mono HW.out.size))
     have hl8 := HLT.out
     clear t0 t1 t2 t3 t4 t5 t6 t7 t8 t9 t10 t11 t12 t13
     go_wp2_with fail
     go_roundw
     case rel => exact ⟨ki + 1, HLT.out, by go_num, HK0.out, HK1.out, below_drewN HW3.out _⟩
     case measure =>
      have h1 := HLT.out
      simp [intOf]
      omega
  ·have HBW := hide hw
   have HK0 := hide hb0
   have HK1 := hide hb1
   have s0_2 := cell_of_block HK0.out 2 _ rfl
   have s0_3 := cell_of_block HK0.out 3 _ rfl
   have s1_2 := cell_of_block HK1.out 2 _ rfl
   have s1_3 := cell_of_block HK1.out 3 _ rfl
   clear hw hk hb0 hb1
   go_wp2_with fail
   go_loopw [7, 8, 9, 10, 11] (fun vi _ _ _ _ wr => ∃ k : Nat, k ≤ s.res.length ∧ vi = .int .i64 k ∧ wr.heap[w.heap.size]? = some (.cells #[.string s.name, .slice ai1 s.ins.length ci1, .slice ar1 s.res.length cr1, .slice ao1 s.outs.length co1] 41 (0, 0)) ∧ wr.heap[w.heap.size + 1]? = some (.cells #[.string s.name, .slice ai2 s.ins.length ci2, .slice ar2 s.res.length cr2, .slice ao2 s.outs.length co2] 41 (0, 0)) ∧ Below w.heap.size w wr) (fun vi _ _ _ _ _ => s.res.length - (intOf vi).toNat)
   case atStart => exact ⟨0, Nat.zero_le _, rfl, HK0.out, HK1.out, HBW.out⟩
   case round =>
    clear HBW HK0 HK1
    obtain ⟨k2, hk, rfl, hb0, hb1, hw⟩ := hrel
    obtain ⟨wo, hwo⟩ : ∃ wo, wo = wr := ⟨_, rfl⟩
    subst hwo
    have s0_2 := cell_of_block hb0 2 _ rfl
    have s1_2 := cell_of_block hb1 2 _ rfl
    by_cases hlt : k2 < s.res.length
    ·obtain ⟨p1, o1, cap1, r, ap1, cp1, e1, hx, hm1, u0, u1, u2⟩ := X.elemR (HR1.out.kept hw) k2 hlt
     simp only [Value.slice.injEq] at e1
     rw [e1.1] at s0_2
     clear e1
     obtain ⟨p2, o2, cap2, y, ap2, cp2, e2, hy, hm2, v0, v1, v2⟩ := X.elemR (HR2.out.kept hw) k2 hlt
     simp only [Value.slice.injEq] at e2
     rw [e2.1] at s1_2
     clear e2
     have exy : y = r := by
      rw [hx] at hy
      exact (Option.some.inj hy).symm
     subst exy
     have HSP : Hid (X.sumP m y.parts ≤ 2000000) := (X.sumR_mem (List.mem_of_getElem? hx) HSR.out).2.2
     have hpl := HPL.out y (List.mem_of_getElem? hx)
     have n5 : ((y.parts.length : Int) != (y.parts.length : Int)) = false := by simp
     have HLT2 := hide hlt
     have hbA : Below wo.heap.size wo ((wo.alloc (.cells #[.string y.kind, .string y.name, .slice ap1 y.parts.length cp1] 53)).alloc (.cells #[.string y.kind, .string y.name, .slice ap2 y.parts.length cp2] 53)) := ((Below.refl _ _).alloc (Nat.le_refl _) _).alloc (by simp) _
     have hg3 : ((wo.alloc (.cells #[.string y.kind, .string y.name, .slice ap1 y.parts.length cp1] 53)).alloc (.cells #[.string y.kind, .string y.name, .slice ap2 y.parts.length cp2] 53)).heap[wo.heap.size]? = some (.cells #[.string y.kind, .string y.name, .slice ap1 y.parts.length cp1] 53 (0, 0)) := by rw [heap_alloc_old _ _ (by simp)]; exact heap_alloc_new _ _
     have hg4 : ((wo.alloc (.cells #[.string y.kind, .string y.name, .slice ap1 y.parts.length cp1] 53)).alloc (.cells #[.string y.kind, .string y.name, .slice ap2 y.parts.length cp2] 53)).heap[wo.heap.size + 1]? = some (.cells #[.string y.kind, .string y.name, .slice ap2 y.parts.length cp2] 53 (0, 0)) := by
      have h1 := heap_alloc_new (wo.alloc (.cells #[.string y.kind, .string y.name, .slice ap1 y.parts.length cp1] 53)) (.cells #[.string y.kind, .string y.name, .slice ap2 y.parts.length cp2] 53)
      rw [P.size_alloc] at h1
      exact h1
     have HQ1 := hide hm1
     have HQ2 := hide hm2
     have HW0 := hide hw
     have HBW := hide hbA
     have HK0 := hide ((hbA.block w.heap.size (blt hb0)).trans hb0)
     have HK1 := hide ((hbA.block (w.heap.size + 1) (blt hb1)).trans hb1)
     have HK2 := hide hg3
     have HK3 := hide hg4
     obtain ⟨x0, x1, x2⟩ := cl3 hg3
     obtain ⟨w0, w1, w2⟩ := cl3 hg4
     have s1_2b := kept_cell ((Below.refl wo.heap.size wo).alloc (Nat.le_refl _) (.cells #[.string y.kind, .string y.name, .slice ap1 y.parts.length cp1] 53)) s1_2
     have v0b := kept_cell ((Below.refl wo.heap.size wo).alloc (Nat.le_refl _) (.cells #[.string y.kind, .string y.name, .slice ap1 y.parts.length cp1] 53)) v0
     have v1b := kept_cell ((Below.refl wo.heap.size wo).alloc (Nat.le_refl _) (.cells #[.string y.kind, .string y.name, .slice ap1 y.parts.length cp1] 53)) v1
     have v2b := kept_cell ((Below.refl wo.heap.size wo).alloc (Nat.le_refl _) (.cells #[.string y.kind, .string y.name, .slice ap1 y.parts.length cp1] 53)) v2
     clear hx hy hm1 hm2 hbA hg3 hg4 hb0 hb1 hk hw
     go_wp2_with fail
     generalize ((wo.alloc (.cells #[.string y.kind, .string y.name, .slice ap1 y.parts.length cp1] 53)).alloc (.cells #[.string y.kind, .string y.name, .slice ap2 y.parts.length cp2] 53)) = wq at *
     clear x0 x1 x2 w0 w1 w2 s1_2b v0b v1b v2b u0 u1 u2 v0 v1 v2 s0_2 s1_2
     go_loopw [10, 11] (fun vi _ wr => ∃ k : Nat, k ≤ y.parts.length ∧ vi = .int .i64 k ∧ wr.heap[w.heap.size]? = some (.cells #[.string s.name, .slice ai1 s.ins.length ci1, .slice ar1 s.res.length cr1, .slice ao1 s.outs.length co1] 41 (0, 0)) ∧ wr.heap[w.heap.size + 1]? = some (.cells #[.string s.name, .slice ai2 s.ins.length ci2, .slice ar2 s.res.length cr2, .slice ao2 s.outs.length co2] 41 (0, 0)) ∧ wr.heap[wo.heap.size]? = some (.cells #[.string y.kind, .string y.name, .slice ap1 y.parts.length cp1] 53 (0, 0)) ∧ wr.heap[wo.heap.size + 1]? = some (.cells #[.string y.kind, .string y.name, .slice ap2 y.parts.length cp2] 53 (0, 0)) ∧ Below wo.heap.size wo wr) (fun vi _ _ => y.parts.length - (intOf vi).toNat)
     case atStart => exact ⟨0, Nat.zero_le _, rfl, HK0.out, HK1.out, HK2.out, HK3.out, HBW.out⟩
     case round =>
      clear HBW HK0 HK1 HK2 HK3
      obtain ⟨kj, hk, rfl, hb0, hb1, hb2, hb3, hw⟩ := hrel
      have s0_2 := cell_of_block hb2 2 _ rfl
      have s1_2 := cell_of_block hb3 2 _ rfl
      by_cases hlt : kj < y.parts.length
      ·obtain ⟨p1, o1, cap1, x, alp, clp, afp, cfp, aap, cap, anp, cnp, e1, hx, hm1, u0, u1, u2, u3, u4, u5, u6, u7, u8, u9, u10⟩ := X.elemE (HQ1.out.kept (hw)) kj hlt
       simp only [Value.slice.injEq] at e1
       obtain ⟨rfl, _, rfl⟩ := e1
       obtain ⟨p2, o2, cap2, z, alq, clq, afq, cfq, aaq, caq, anq, cnq, e2, hz, hm2, v0, v1, v2, v3, v4, v5, v6, v7, v8, v9, v10⟩ := X.elemE (HQ2.out.kept (hw)) kj hlt
       simp only [Value.slice.injEq] at e2
       obtain ⟨rfl, _, rfl⟩ := e2
       have exz : x = z := by
        rw [hx] at hz
        exact Option.some.inj hz
       subst exz
       have hxb := (X.sumP_mem (List.mem_of_getElem? hx) HSP.out).2
       have hI : ∀ w' : World, (w'.cell? ⟨wo.heap.size, 2, none⟩ = some (.slice (some ⟨p1, o1, none⟩) y.parts.length cp1) ∧ w'.cell? ⟨wo.heap.size + 1, 2, none⟩ = some (.slice (some ⟨p2, o2, none⟩) y.parts.length cp2) ∧ w'.cell? ⟨p1, o1 + kj * 11, none⟩ = some (.string x.1) ∧ w'.cell? ⟨p2, o2 + kj * 11, none⟩ = some (.string x.1) ∧ w'.cell? ⟨p1, o1 + kj * 11 + 1, none⟩ = some (.int .i64 x.2.kind) ∧ w'.cell? ⟨p1, o1 + kj * 11 + 2, none⟩ = some (.int .i64 x.2.v.kind) ∧ w'.cell? ⟨p1, o1 + kj * 11 + 3, none⟩ = some (.int .i64 x.2.v.n) ∧ w'.cell? ⟨p1, o1 + kj * 11 + 4, none⟩ = some (.string x.2.v.s) ∧ w'.cell? ⟨p1, o1 + kj * 11 + 5, none⟩ = some (.slice alp x.2.v.l.length clp) ∧ w'.cell? ⟨p1, o1 + kj * 11 + 6, none⟩ = some (.slice afp x.2.v.f.length cfp) ∧ w'.cell? ⟨p1, o1 + kj * 11 + 7, none⟩ = some (.string x.2.s) ∧ w'.cell? ⟨p1, o1 + kj * 11 + 8, none⟩ = some (.string x.2.t) ∧ w'.cell? ⟨p1, o1 + kj * 11 + 9, none⟩ = some (.slice aap x.2.a.length cap) ∧ w'.cell? ⟨p1, o1 + kj * 11 + 10, none⟩ = some (.slice anp x.2.n.length cnp) ∧ w'.cell? ⟨p2, o2 + kj * 11 + 1, none⟩ = some (.int .i64 x.2.kind) ∧ w'.cell? ⟨p2, o2 + kj * 11 + 2, none⟩ = some (.int .i64 x.2.v.kind) ∧ w'.cell? ⟨p2, o2 + kj * 11 + 3, none⟩ = some (.int .i64 x.2.v.n) ∧ w'.cell? ⟨p2, o2 + kj * 11 + 4, none⟩ = some (.string x.2.v.s) ∧ w'.cell? ⟨p2, o2 + kj * 11 + 5, none⟩ = some (.slice alq x.2.v.l.length clq) ∧ w'.cell? ⟨p2, o2 + kj * 11 + 6, none⟩ = some (.slice afq x.2.v.f.length cfq) ∧ w'.cell? ⟨p2, o2 + kj * 11 + 7, none⟩ = some (.string x.2.s) ∧ w'.cell? ⟨p2, o2 + kj * 11 + 8, none⟩ = some (.string x.2.t) ∧ w'.cell? ⟨p2, o2 + kj * 11 + 9, none⟩ = some (.slice aaq x.2.a.length caq) ∧ w'.cell? ⟨p2, o2 + kj * 11 + 10, none⟩ = some (.slice anq x.2.n.length cnq) ∧ Below wr.heap.size wr w') → Calls Tryz.prog 41 #[.agg #[.int .i64 x.2.kind, .int .i64 x.2.v.kind, .int .i64 x.2.v.n, .string x.2.v.s, .slice alp x.2.v.l.length clp, .slice afp x.2.v.f.length cfp, .string x.2.s, .string x.2.t, .slice aap x.2.a.length cap, .slice anp x.2.n.length cnp], .agg #[.int .i64 x.2.kind, .int .i64 x.2.v.kind, .int .i64 x.2.v.n, .string x.2.v.s, .slice alq x.2.v.l.length clq, .slice afq x.2.v.f.length cfq, .string x.2.s, .string x.2.t, .slice aaq x.2.a.length caq, .slice anq x.2.n.length cnq]] w' fun r w'' => r = .returned (.bool true) ∧ w''.cell? ⟨wo.heap.size, 2, none⟩ = some (.slice (some ⟨p1, o1, none⟩) y.parts.length cp1) ∧ w''.cell? ⟨wo.heap.size + 1, 2, none⟩ = some (.slice (some ⟨p2, o2, none⟩) y.parts.length cp2) ∧ w''.cell? ⟨p1, o1 + kj * 11, none⟩ = some (.string x.1) ∧ w''.cell? ⟨p2, o2 + kj * 11, none⟩ = some (.string x.1) ∧ w''.cell? ⟨p1, o1 + kj * 11 + 1, none⟩ = some (.int .i64 x.2.kind) ∧ w''.cell? ⟨p1, o1 + kj * 11 + 2, none⟩ = some (.int .i64 x.2.v.kind) ∧ w''.cell? ⟨p1, o1 + kj * 11 + 3, none⟩ = some (.int .i64 x.2.v.n) ∧ w''.cell? ⟨p1, o1 + kj * 11 + 4, none⟩ = some (.string x.2.v.s) ∧ w''.cell? ⟨p1, o1 + kj * 11 + 5, none⟩ = some (.slice alp x.2.v.l.length clp) ∧ w''.cell? ⟨p1, o1 + kj * 11 + 6, none⟩ = some (.slice afp x.2.v.f.length cfp) ∧ w''.cell? ⟨p1, o1 + kj * 11 + 7, none⟩ = some (.string x.2.s) ∧ w''.cell? ⟨p1, o1 + kj * 11 + 8, none⟩ = some (.string x.2.t) ∧ w''.cell? ⟨p1, o1 + kj * 11 + 9, none⟩ = some (.slice aap x.2.a.length cap) ∧ w''.cell? ⟨p1, o1 + kj * 11 + 10, none⟩ = some (.slice anp x.2.n.length cnp) ∧ w''.cell? ⟨p2, o2 + kj * 11 + 1, none⟩ = some (.int .i64 x.2.kind) ∧ w''.cell? ⟨p2, o2 + kj * 11 + 2, none⟩ = some (.int .i64 x.2.v.kind) ∧ w''.cell? ⟨p2, o2 + kj * 11 + 3, none⟩ = some (.int .i64 x.2.v.n) ∧ w''.cell? ⟨p2, o2 + kj * 11 + 4, none⟩ = some (.string x.2.v.s) ∧ w''.cell? ⟨p2, o2 + kj * 11 + 5, none⟩ = some (.slice alq x.2.v.l.length clq) ∧ w''.cell? ⟨p2, o2 + kj * 11 + 6, none⟩ = some (.slice afq x.2.v.f.length cfq) ∧ w''.cell? ⟨p2, o2 + kj * 11 + 7, none⟩ = some (.string x.2.s) ∧ w''.cell? ⟨p2, o2 + kj * 11 + 8, none⟩ = some (.string x.2.t) ∧ w''.cell? ⟨p2, o2 + kj * 11 + 9, none⟩ = some (.slice aaq x.2.a.length caq) ∧ w''.cell? ⟨p2, o2 + kj * 11 + 10, none⟩ = some (.slice anq x.2.n.length cnq) ∧ Below wr.heap.size wr w'' := by
        intro w' ⟨t0, t1, t2, t3, t4, t5, t6, t7, t8, t9, t10, t11, t12, t13, t14, t15, t16, t17, t18, t19, t20, t21, t22, t23, t24⟩
        have hC := sameExpr_same sm hsm m w' x.2 _ _ _ _ _ _ _ _ _ _ _ _ _ _ _ _ _ _ _ _ (X.Mem.kept _ hm1 t24) (X.Mem.kept _ hm2 t24) hxb
        refine hC.mono ?_
        rintro r w'' ⟨rfl, hb⟩
        exact ⟨rfl, kept_cell hb t0, kept_cell hb t1, kept_cell hb t2, kept_cell hb t3, kept_cell hb t4, kept_cell hb t5, kept_cell hb t6, kept_cell hb t7, kept_cell hb t8, kept_cell hb t9, kept_cell hb t10, kept_cell hb t11, kept_cell hb t12, kept_cell hb t13, kept_cell hb t14, kept_cell hb t15, kept_cell hb t16, kept_cell hb t17, kept_cell hb t18, kept_cell hb t19, kept_cell hb t20, kept_cell hb t21, kept_cell hb t22, kept_cell hb t23, t24.trans (hb.mono t24.size)⟩
       have HI := hide hI
       have HW := hide hw
       have HLT := hide hlt
       have hbd : Below wr.heap.size wr wr.drew := below_drewN (Below.refl _ _) 1
       have HB0 := hide hb0
       have HLB0 := hide (blt hb0)
       have HB1 := hide hb1
       have HLB1 := hide (blt hb1)
       have HB2 := hide hb2
       have HLB2 := hide (blt hb2)
       have HB3 := hide hb3
       have HLB3 := hide (blt hb3)
       clear hI hm1 hm2 hx hz hw hxb hb0 hb1 hb2 hb3
       go_wp2_with fail
       go_region_held3 (fun w' => w'.cell? ⟨wo.heap.size, 2, none⟩ = some (.slice (some ⟨p1, o1, none⟩) y.parts.length cp1) ∧ w'.cell? ⟨wo.heap.size + 1, 2, none⟩ = some (.slice (some ⟨p2, o2, none⟩) y.parts.length cp2) ∧ w'.cell? ⟨p1, o1 + kj * 11, none⟩ = some (.string x.1) ∧ w'.cell? ⟨p2, o2 + kj * 11, none⟩ = some (.string x.1) ∧ w'.cell? ⟨p1, o1 + kj * 11 + 1, none⟩ = some (.int .i64 x.2.kind) ∧ w'.cell? ⟨p1, o1 + kj * 11 + 2, none⟩ = some (.int .i64 x.2.v.kind) ∧ w'.cell? ⟨p1, o1 + kj * 11 + 3, none⟩ = some (.int .i64 x.2.v.n) ∧ w'.cell? ⟨p1, o1 + kj * 11 + 4, none⟩ = some (.string x.2.v.s) ∧ w'.cell? ⟨p1, o1 + kj * 11 + 5, none⟩ = some (.slice alp x.2.v.l.length clp) ∧ w'.cell? ⟨p1, o1 + kj * 11 + 6, none⟩ = some (.slice afp x.2.v.f.length cfp) ∧ w'.cell? ⟨p1, o1 + kj * 11 + 7, none⟩ = some (.string x.2.s) ∧ w'.cell? ⟨p1, o1 + kj * 11 + 8, none⟩ = some (.string x.2.t) ∧ w'.cell? ⟨p1, o1 + kj * 11 + 9, none⟩ = some (.slice aap x.2.a.length cap) ∧ w'.cell? ⟨p1, o1 + kj * 11 + 10, none⟩ = some (.slice anp x.2.n.length cnp) ∧ w'.cell? ⟨p2, o2 + kj * 11 + 1, none⟩ = some (.int .i64 x.2.kind) ∧ w'.cell? ⟨p2, o2 + kj * 11 + 2, none⟩ = some (.int .i64 x.2.v.kind) ∧ w'.cell? ⟨p2, o2 + kj * 11 + 3, none⟩ = some (.int .i64 x.2.v.n) ∧ w'.cell? ⟨p2, o2 + kj * 11 + 4, none⟩ = some (.string x.2.v.s) ∧ w'.cell? ⟨p2, o2 + kj * 11 + 5, none⟩ = some (.slice alq x.2.v.l.length clq) ∧ w'.cell? ⟨p2, o2 + kj * 11 + 6, none⟩ = some (.slice afq x.2.v.f.length cfq) ∧ w'.cell? ⟨p2, o2 + kj * 11 + 7, none⟩ = some (.string x.2.s) ∧ w'.cell? ⟨p2, o2 + kj * 11 + 8, none⟩ = some (.string x.2.t) ∧ w'.cell? ⟨p2, o2 + kj * 11 + 9, none⟩ = some (.slice aaq x.2.a.length caq) ∧ w'.cell? ⟨p2, o2 + kj * 11 + 10, none⟩ = some (.slice anq x.2.n.length cnq) ∧ Below wr.heap.size wr w') (go_keep)
        (first | (go_at_call 41; refine Calls.mono (HI.out _ ?_) ?_; exact ⟨‹_›, ‹_›, ‹_›, ‹_›, ‹_›, ‹_›, ‹_›, ‹_›, ‹_›, ‹_›, ‹_›, ‹_›, ‹_›, ‹_›, ‹_›, ‹_›, ‹_›, ‹_›, ‹_›, ‹_›, ‹_›, ‹_›, ‹_›, ‹_›, ‹_›⟩; rintro r w3 ⟨rfl, t0, t1, t2, t3, t4, t5, t6, t7, t8, t9, t10, t11, t12, t13, t14, t15, t16, t17, t18, t19, t20, t21, t22, t23, t24⟩))
       all_goals
        have HT := hide t24
        clear t24
        go_wp2_with fail
        go_quiet (fail)
        all_goals
         have HK0 := hide ((HT.out.block w.heap.size HLB0.out).trans HB0.out)
         have HK1 := hide ((HT.out.block (w.heap.size + 1) HLB1.out).trans HB1.out)
         have HK2 := hide ((HT.out.block wo.heap.size HLB2.out).trans HB2.out)
         have HK3 := hide ((HT.out.block (wo.heap.size + 1) HLB3.out).trans HB3.out)
         have HW3 := hide (HW.out.trans (HT.out.mono HW.out.size))
         have hl8 := HLT.out
         clear t0 t1 t2 t3 t4 t5 t6 t7 t8 t9 t10 t11 t12 t13 t14 t15 t16 t17 t18 t19 t20 t21 t22 t23
         go_wp2_with fail
         go_roundw
         case rel => exact ⟨kj + 1, HLT.out, by go_num, HK0.out, HK1.out, HK2.out, HK3.out, below_drewN HW3.out _⟩
         case measure =>
          have h1 := HLT.out
          simp [intOf]
          omega
      ·have HBW := hide hw
       have HK0 := hide hb0
       have HK1 := hide hb1
       have HK2 := hide hb2
       have HK3 := hide hb3
       have s0_2 := cell_of_block HK0.out 2 _ rfl
       have s0_3 := cell_of_block HK0.out 3 _ rfl
       have s1_2 := cell_of_block HK1.out 2 _ rfl
       have s1_3 := cell_of_block HK1.out 3 _ rfl
       clear hw hk hb0 hb1 hb2 hb3
       have hl8 : k2 < 2000000 := Nat.lt_of_lt_of_le HLT2.out hl2
       go_wp2_with fail
       go_roundw
       case rel => exact ⟨k2 + 1, HLT2.out, by go_num, HK0.out, HK1.out, HW0.out.trans (HBW.out.mono HW0.out.size)⟩
       case measure =>
        have h1 := HLT2.out
        simp [intOf]
        omega
    ·have HBW := hide hw
     have HK0 := hide hb0
     have HK1 := hide hb1
     have s0_3 := cell_of_block hb0 3 _ rfl
     have s1_3 := cell_of_block hb1 3 _ rfl
     clear hw hk hb0 hb1
     go_wp2_with fail
     go_loopw [12, 13] (fun vi _ wr => ∃ k : Nat, k ≤ s.outs.length ∧ vi = .int .i64 k ∧ wr.heap[w.heap.size]? = some (.cells #[.string s.name, .slice ai1 s.ins.length ci1, .slice ar1 s.res.length cr1, .slice ao1 s.outs.length co1] 41 (0, 0)) ∧ wr.heap[w.heap.size + 1]? = some (.cells #[.string s.name, .slice ai2 s.ins.length ci2, .slice ar2 s.res.length cr2, .slice ao2 s.outs.length co2] 41 (0, 0)) ∧ Below w.heap.size w wr) (fun vi _ _ => s.outs.length - (intOf vi).toNat)
     case atStart => exact ⟨0, Nat.zero_le _, rfl, HK0.out, HK1.out, HBW.out⟩
     case round =>
      clear HBW HK0 HK1
      obtain ⟨ko, hk, rfl, hb0, hb1, hw⟩ := hrel
      have s0_3 := cell_of_block hb0 3 _ rfl
      have s1_3 := cell_of_block hb1 3 _ rfl
      by_cases hlt : ko < s.outs.length
      ·obtain ⟨p1, o1, cap1, x, alp, clp, afp, cfp, aap, cap, anp, cnp, e1, hx, hm1, u0, u1, u2, u3, u4, u5, u6, u7, u8, u9, u10⟩ := X.elemE (HO1.out.kept (hw)) ko hlt
       simp only [Value.slice.injEq] at e1
       obtain ⟨rfl, _, rfl⟩ := e1
       obtain ⟨p2, o2, cap2, y, alq, clq, afq, cfq, aaq, caq, anq, cnq, e2, hy, hm2, v0, v1, v2, v3, v4, v5, v6, v7, v8, v9, v10⟩ := X.elemE (HO2.out.kept (hw)) ko hlt
       simp only [Value.slice.injEq] at e2
       obtain ⟨rfl, _, rfl⟩ := e2
       have exy : x = y := by
        rw [hx] at hy
        exact Option.some.inj hy
       subst exy
       have hxb := (X.sumP_mem (List.mem_of_getElem? hx) HSO.out).2
       have hI : ∀ w' : World, (w'.cell? ⟨w.heap.size, 3, none⟩ = some (.slice (some ⟨p1, o1, none⟩) s.outs.length co1) ∧ w'.cell? ⟨w.heap.size + 1, 3, none⟩ = some (.slice (some ⟨p2, o2, none⟩) s.outs.length co2) ∧ w'.cell? ⟨p1, o1 + ko * 11, none⟩ = some (.string x.1) ∧ w'.cell? ⟨p2, o2 + ko * 11, none⟩ = some (.string x.1) ∧ w'.cell? ⟨p1, o1 + ko * 11 + 1, none⟩ = some (.int .i64 x.2.kind) ∧ w'.cell? ⟨p1, o1 + ko * 11 + 2, none⟩ = some (.int .i64 x.2.v.kind) ∧ w'.cell? ⟨p1, o1 + ko * 11 + 3, none⟩ = some (.int .i64 x.2.v.n) ∧ w'.cell? ⟨p1, o1 + ko * 11 + 4, none⟩ = some (.string x.2.v.s) ∧ w'.cell? ⟨p1, o1 + ko * 11 + 5, none⟩ = some (.slice alp x.2.v.l.length clp) ∧ w'.cell? ⟨p1, o1 + ko * 11 + 6, none⟩ = some (.slice afp x.2.v.f.length cfp) ∧ w'.cell? ⟨p1, o1 + ko * 11 + 7, none⟩ = some (.string x.2.s) ∧ w'.cell? ⟨p1, o1 + ko * 11 + 8, none⟩ = some (.string x.2.t) ∧ w'.cell? ⟨p1, o1 + ko * 11 + 9, none⟩ = some (.slice aap x.2.a.length cap) ∧ w'.cell? ⟨p1, o1 + ko * 11 + 10, none⟩ = some (.slice anp x.2.n.length cnp) ∧ w'.cell? ⟨p2, o2 + ko * 11 + 1, none⟩ = some (.int .i64 x.2.kind) ∧ w'.cell? ⟨p2, o2 + ko * 11 + 2, none⟩ = some (.int .i64 x.2.v.kind) ∧ w'.cell? ⟨p2, o2 + ko * 11 + 3, none⟩ = some (.int .i64 x.2.v.n) ∧ w'.cell? ⟨p2, o2 + ko * 11 + 4, none⟩ = some (.string x.2.v.s) ∧ w'.cell? ⟨p2, o2 + ko * 11 + 5, none⟩ = some (.slice alq x.2.v.l.length clq) ∧ w'.cell? ⟨p2, o2 + ko * 11 + 6, none⟩ = some (.slice afq x.2.v.f.length cfq) ∧ w'.cell? ⟨p2, o2 + ko * 11 + 7, none⟩ = some (.string x.2.s) ∧ w'.cell? ⟨p2, o2 + ko * 11 + 8, none⟩ = some (.string x.2.t) ∧ w'.cell? ⟨p2, o2 + ko * 11 + 9, none⟩ = some (.slice aaq x.2.a.length caq) ∧ w'.cell? ⟨p2, o2 + ko * 11 + 10, none⟩ = some (.slice anq x.2.n.length cnq) ∧ Below wr.heap.size wr w') → Calls Tryz.prog 41 #[.agg #[.int .i64 x.2.kind, .int .i64 x.2.v.kind, .int .i64 x.2.v.n, .string x.2.v.s, .slice alp x.2.v.l.length clp, .slice afp x.2.v.f.length cfp, .string x.2.s, .string x.2.t, .slice aap x.2.a.length cap, .slice anp x.2.n.length cnp], .agg #[.int .i64 x.2.kind, .int .i64 x.2.v.kind, .int .i64 x.2.v.n, .string x.2.v.s, .slice alq x.2.v.l.length clq, .slice afq x.2.v.f.length cfq, .string x.2.s, .string x.2.t, .slice aaq x.2.a.length caq, .slice anq x.2.n.length cnq]] w' fun r w'' => r = .returned (.bool true) ∧ w''.cell? ⟨w.heap.size, 3, none⟩ = some (.slice (some ⟨p1, o1, none⟩) s.outs.length co1) ∧ w''.cell? ⟨w.heap.size + 1, 3, none⟩ = some (.slice (some ⟨p2, o2, none⟩) s.outs.length co2) ∧ w''.cell? ⟨p1, o1 + ko * 11, none⟩ = some (.string x.1) ∧ w''.cell? ⟨p2, o2 + ko * 11, none⟩ = some (.string x.1) ∧ w''.cell? ⟨p1, o1 + ko * 11 + 1, none⟩ = some (.int .i64 x.2.kind) ∧ w''.cell? ⟨p1, o1 + ko * 11 + 2, none⟩ = some (.int .i64 x.2.v.kind) ∧ w''.cell? ⟨p1, o1 + ko * 11 + 3, none⟩ = some (.int .i64 x.2.v.n) ∧ w''.cell? ⟨p1, o1 + ko * 11 + 4, none⟩ = some (.string x.2.v.s) ∧ w''.cell? ⟨p1, o1 + ko * 11 + 5, none⟩ = some (.slice alp x.2.v.l.length clp) ∧ w''.cell? ⟨p1, o1 + ko * 11 + 6, none⟩ = some (.slice afp x.2.v.f.length cfp) ∧ w''.cell? ⟨p1, o1 + ko * 11 + 7, none⟩ = some (.string x.2.s) ∧ w''.cell? ⟨p1, o1 + ko * 11 + 8, none⟩ = some (.string x.2.t) ∧ w''.cell? ⟨p1, o1 + ko * 11 + 9, none⟩ = some (.slice aap x.2.a.length cap) ∧ w''.cell? ⟨p1, o1 + ko * 11 + 10, none⟩ = some (.slice anp x.2.n.length cnp) ∧ w''.cell? ⟨p2, o2 + ko * 11 + 1, none⟩ = some (.int .i64 x.2.kind) ∧ w''.cell? ⟨p2, o2 + ko * 11 + 2, none⟩ = some (.int .i64 x.2.v.kind) ∧ w''.cell? ⟨p2, o2 + ko * 11 + 3, none⟩ = some (.int .i64 x.2.v.n) ∧ w''.cell? ⟨p2, o2 + ko * 11 + 4, none⟩ = some (.string x.2.v.s) ∧ w''.cell? ⟨p2, o2 + ko * 11 + 5, none⟩ = some (.slice alq x.2.v.l.length clq) ∧ w''.cell? ⟨p2, o2 + ko * 11 + 6, none⟩ = some (.slice afq x.2.v.f.length cfq) ∧ w''.cell? ⟨p2, o2 + ko * 11 + 7, none⟩ = some (.string x.2.s) ∧ w''.cell? ⟨p2, o2 + ko * 11 + 8, none⟩ = some (.string x.2.t) ∧ w''.cell? ⟨p2, o2 + ko * 11 + 9, none⟩ = some (.slice aaq x.2.a.length caq) ∧ w''.cell? ⟨p2, o2 + ko * 11 + 10, none⟩ = some (.slice anq x.2.n.length cnq) ∧ Below wr.heap.size wr w'' := by
        intro w' ⟨t0, t1, t2, t3, t4, t5, t6, t7, t8, t9, t10, t11, t12, t13, t14, t15, t16, t17, t18, t19, t20, t21, t22, t23, t24⟩
        have hC := sameExpr_same sm hsm m w' x.2 _ _ _ _ _ _ _ _ _ _ _ _ _ _ _ _ _ _ _ _ (X.Mem.kept _ hm1 t24) (X.Mem.kept _ hm2 t24) hxb
        refine hC.mono ?_
        rintro r w'' ⟨rfl, hb⟩
        exact ⟨rfl, kept_cell hb t0, kept_cell hb t1, kept_cell hb t2, kept_cell hb t3, kept_cell hb t4, kept_cell hb t5, kept_cell hb t6, kept_cell hb t7, kept_cell hb t8, kept_cell hb t9, kept_cell hb t10, kept_cell hb t11, kept_cell hb t12, kept_cell hb t13, kept_cell hb t14, kept_cell hb t15, kept_cell hb t16, kept_cell hb t17, kept_cell hb t18, kept_cell hb t19, kept_cell hb t20, kept_cell hb t21, kept_cell hb t22, kept_cell hb t23, t24.trans (hb.mono t24.size)⟩
       have HI := hide hI
       have HW := hide hw
       have HLT := hide hlt
       have hbd : Below wr.heap.size wr wr.drew := below_drewN (Below.refl _ _) 1
       have HB0 := hide hb0
       have HLB0 := hide (blt hb0)
       have HB1 := hide hb1
       have HLB1 := hide (blt hb1)
       clear hI hm1 hm2 hx hy hw hxb hb0 hb1
       go_wp2_with fail
       go_region_held3 (fun w' => w'.cell? ⟨w.heap.size, 3, none⟩ = some (.slice (some ⟨p1, o1, none⟩) s.outs.length co1) ∧ w'.cell? ⟨w.heap.size + 1, 3, none⟩ = some (.slice (some ⟨p2, o2, none⟩) s.outs.length co2) ∧ w'.cell? ⟨p1, o1 + ko * 11, none⟩ = some (.string x.1) ∧ w'.cell? ⟨p2, o2 + ko * 11, none⟩ = some (.string x.1) ∧ w'.cell? ⟨p1, o1 + ko * 11 + 1, none⟩ = some (.int .i64 x.2.kind) ∧ w'.cell? ⟨p1, o1 + ko * 11 + 2, none⟩ = some (.int .i64 x.2.v.kind) ∧ w'.cell? ⟨p1, o1 + ko * 11 + 3, none⟩ = some (.int .i64 x.2.v.n) ∧ w'.cell? ⟨p1, o1 + ko * 11 + 4, none⟩ = some (.string x.2.v.s) ∧ w'.cell? ⟨p1, o1 + ko * 11 + 5, none⟩ = some (.slice alp x.2.v.l.length clp) ∧ w'.cell? ⟨p1, o1 + ko * 11 + 6, none⟩ = some (.slice afp x.2.v.f.length cfp) ∧ w'.cell? ⟨p1, o1 + ko * 11 + 7, none⟩ = some (.string x.2.s) ∧ w'.cell? ⟨p1, o1 + ko * 11 + 8, none⟩ = some (.string x.2.t) ∧ w'.cell? ⟨p1, o1 + ko * 11 + 9, none⟩ = some (.slice aap x.2.a.length cap) ∧ w'.cell? ⟨p1, o1 + ko * 11 + 10, none⟩ = some (.slice anp x.2.n.length cnp) ∧ w'.cell? ⟨p2, o2 + ko * 11 + 1, none⟩ = some (.int .i64 x.2.kind) ∧ w'.cell? ⟨p2, o2 + ko * 11 + 2, none⟩ = some (.int .i64 x.2.v.kind) ∧ w'.cell? ⟨p2, o2 + ko * 11 + 3, none⟩ = some (.int .i64 x.2.v.n) ∧ w'.cell? ⟨p2, o2 + ko * 11 + 4, none⟩ = some (.string x.2.v.s) ∧ w'.cell? ⟨p2, o2 + ko * 11 + 5, none⟩ = some (.slice alq x.2.v.l.length clq) ∧ w'.cell? ⟨p2, o2 + ko * 11 + 6, none⟩ = some (.slice afq x.2.v.f.length cfq) ∧ w'.cell? ⟨p2, o2 + ko * 11 + 7, none⟩ = some (.string x.2.s) ∧ w'.cell? ⟨p2, o2 + ko * 11 + 8, none⟩ = some (.string x.2.t) ∧ w'.cell? ⟨p2, o2 + ko * 11 + 9, none⟩ = some (.slice aaq x.2.a.length caq) ∧ w'.cell? ⟨p2, o2 + ko * 11 + 10, none⟩ = some (.slice anq x.2.n.length cnq) ∧ Below wr.heap.size wr w') (go_keep)
        (first | (go_at_call 41; refine Calls.mono (HI.out _ ?_) ?_; exact ⟨‹_›, ‹_›, ‹_›, ‹_›, ‹_›, ‹_›, ‹_›, ‹_›, ‹_›, ‹_›, ‹_›, ‹_›, ‹_›, ‹_›, ‹_›, ‹_›, ‹_›, ‹_›, ‹_›, ‹_›, ‹_›, ‹_›, ‹_›, ‹_›, ‹_›⟩; rintro r w3 ⟨rfl, t0, t1, t2, t3, t4, t5, t6, t7, t8, t9, t10, t11, t12, t13, t14, t15, t16, t17, t18, t19, t20, t21, t22, t23, t24⟩))
       all_goals
        have HT := hide t24
        clear t24
        go_wp2_with fail
        go_quiet (fail)
        all_goals
         have HK0 := hide ((HT.out.block w.heap.size HLB0.out).trans HB0.out)
         have HK1 := hide ((HT.out.block (w.heap.size + 1) HLB1.out).trans HB1.out)
         have HW3 := hide (HW.out.trans (HT.out.mono HW.out.size))
         have hl8 := HLT.out
         clear t0 t1 t2 t3 t4 t5 t6 t7 t8 t9 t10 t11 t12 t13 t14 t15 t16 t17 t18 t19 t20 t21 t22 t23
         go_wp2_with fail
         go_roundw
         case rel => exact ⟨ko + 1, HLT.out, by go_num, HK0.out, HK1.out, below_drewN HW3.out _⟩
         case measure =>
          have h1 := HLT.out
          simp [intOf]
          omega
      ·have HBW := hide hw
       have HK0 := hide hb0
       have HK1 := hide hb1
       have s0_2 := cell_of_block HK0.out 2 _ rfl
       have s0_3 := cell_of_block HK0.out 3 _ rfl
       have s1_2 := cell_of_block HK1.out 2 _ rfl
       have s1_3 := cell_of_block HK1.out 3 _ rfl
       clear hw hk hb0 hb1
       go_wp2_with fail
       go_ret
       exact ⟨rfl, HBW.out⟩
namespace X
theorem Mem.up : ∀ (m : Nat) {w : World} {e : Ex} {cs : List Value}, Mem m w e cs → Mem (m + 1) w e cs
 | 0, _, _, _, h => h.elim
 | m + 1, _, _, _, ⟨c0, c1, c2, c3, c4, av, nv, h1, h2, h3, h4⟩ => ⟨c0, c1, c2, c3, c4, av, nv, h1, V.Mem.up _ h2, h3.imp (fun _ _ ⟨x, hx, hm⟩ => ⟨x, hx, Mem.up m hm⟩), h4⟩
theorem Named.up {m : Nat} {w : World} {v : Value} {l : List (ByteArray × Ex)} (h : Named m w v l) : Named (m + 1) w v l := V.Row.imp h (fun _ _ ⟨x, c', hx, hc, hm⟩ => ⟨x, c', hx, hc, Mem.up m hm⟩)
theorem Vals.up {m : Nat} {w : World} {v : Value} {l : List (ByteArray × Val)} (h : Vals m w v l) : Vals (m + 1) w v l := V.Row.imp h (fun _ _ ⟨x, c', hx, hc, hm⟩ => ⟨x, c', hx, hc, V.Mem.up m hm⟩)
theorem Ress.up {m : Nat} {w : World} {v : Value} {l : List Rs} (h : Ress m w v l) : Ress (m + 1) w v l := V.Row.imp h (fun _ _ ⟨x, pv, hx, hc, hm⟩ => ⟨x, pv, hx, hc, hm.up⟩)
theorem SMem.up {m : Nat} {w : World} {s : Sk} {cs : List Value} (h : SMem m w s cs) : SMem (m + 1) w s cs := by
 obtain ⟨iv, rv, ov, h1, h2, h3, h4⟩ := h
 exact ⟨iv, rv, ov, h1, h2.up, h3.up, h4.up⟩
theorem Stks.up {m : Nat} {w : World} {v : Value} {l : List Sk} (h : Stks m w v l) : Stks (m + 1) w v l := V.Row.imp h (fun _ _ ⟨x, hx, hm⟩ => ⟨x, hx, hm.up⟩)
theorem Stks.le {m k : Nat} (hk : m ≤ k) {w : World} {v : Value} {l : List Sk} (h : Stks m w v l) : Stks k w v l := by
 obtain ⟨j, rfl⟩ := Nat.exists_eq_add_of_le hk
 clear hk
 induction j with
 | zero => exact h
 | succ j ih => exact ih.up
end X
set_option maxRecDepth 100000 in
set_option maxHeartbeats 3200000 in
theorem sameStacks_same (sm : Val → Val → Bool) (hsm : V.Says sm) (m : Nat) (w : World) (l : List Sk) (v1 v2 : Value) (h1 : X.Stks m w v1 l) (h2 : X.Stks m w v2 l) (hbk : ∀ x ∈ l, X.bulkS m x ≤ 2000000) (hpl : ∀ x ∈ l, ∀ r ∈ x.res, r.parts.length ≤ 2000000) (hll : l.length ≤ 2000000) :
  Calls Tryz.prog 7 #[v1, v2] w fun r w' => r = .returned (.bool true) ∧ Below w.heap.size w w' := by
 obtain ⟨a1, c1, rfl⟩ := V.Row.shape h1
 obtain ⟨a2, c2, rfl⟩ := V.Row.shape h2
 have n1 : ((l.length : Int) != (l.length : Int)) = false := by simp
 have H1 := hide h1
 have H2 := hide h2
 have HBK := hide hbk
 have HPL := hide hpl
 clear h1 h2 hbk hpl
 go_enter Tryz.func7, Tryz.ntmps7
 go_wp2_with fail
 go_loopw [5, 6] (fun vi _ wr => ∃ k : Nat, k ≤ l.length ∧ vi = .int .i64 k ∧ Below w.heap.size w wr) (fun vi _ _ => l.length - (intOf vi).toNat)
 case atStart => exact ⟨0, Nat.zero_le _, rfl, Below.refl _ _⟩
 case round =>
  obtain ⟨k, hk, rfl, hw⟩ := hrel
  by_cases hlt : k < l.length
  ·obtain ⟨p1, o1, cap1, x, ai1, ci1, ar1, cr1, ao1, co1, e1, hx, hI1, hR1, hO1, u0, u1, u2, u3⟩ := X.elemS (H1.out.kept hw) k hlt
   simp only [Value.slice.injEq] at e1
   obtain ⟨rfl, _, rfl⟩ := e1
   obtain ⟨p2, o2, cap2, y, ai2, ci2, ar2, cr2, ao2, co2, e2, hy, hI2, hR2, hO2, v0, v1, v2, v3⟩ := X.elemS (H2.out.kept hw) k hlt
   simp only [Value.slice.injEq] at e2
   obtain ⟨rfl, _, rfl⟩ := e2
   have exy : x = y := by
    rw [hx] at hy
    exact Option.some.inj hy
   subst exy
   have hI : ∀ w' : World, (w'.cell? ⟨p1, o1 + k * 4, none⟩ = some (.string x.name) ∧ w'.cell? ⟨p1, o1 + k * 4 + 1, none⟩ = some (.slice ai1 x.ins.length ci1) ∧ w'.cell? ⟨p1, o1 + k * 4 + 2, none⟩ = some (.slice ar1 x.res.length cr1) ∧ w'.cell? ⟨p1, o1 + k * 4 + 3, none⟩ = some (.slice ao1 x.outs.length co1) ∧ w'.cell? ⟨p2, o2 + k * 4, none⟩ = some (.string x.name) ∧ w'.cell? ⟨p2, o2 + k * 4 + 1, none⟩ = some (.slice ai2 x.ins.length ci2) ∧ w'.cell? ⟨p2, o2 + k * 4 + 2, none⟩ = some (.slice ar2 x.res.length cr2) ∧ w'.cell? ⟨p2, o2 + k * 4 + 3, none⟩ = some (.slice ao2 x.outs.length co2) ∧ Below wr.heap.size wr w') → Calls Tryz.prog 19 #[.agg #[.string x.name, .slice ai1 x.ins.length ci1, .slice ar1 x.res.length cr1, .slice ao1 x.outs.length co1], .agg #[.string x.name, .slice ai2 x.ins.length ci2, .slice ar2 x.res.length cr2, .slice ao2 x.outs.length co2]] w' fun r w'' => r = .returned (.bool true) ∧ w''.cell? ⟨p1, o1 + k * 4, none⟩ = some (.string x.name) ∧ w''.cell? ⟨p1, o1 + k * 4 + 1, none⟩ = some (.slice ai1 x.ins.length ci1) ∧ w''.cell? ⟨p1, o1 + k * 4 + 2, none⟩ = some (.slice ar1 x.res.length cr1) ∧ w''.cell? ⟨p1, o1 + k * 4 + 3, none⟩ = some (.slice ao1 x.outs.length co1) ∧ w''.cell? ⟨p2, o2 + k * 4, none⟩ = some (.string x.name) ∧ w''.cell? ⟨p2, o2 + k * 4 + 1, none⟩ = some (.slice ai2 x.ins.length ci2) ∧ w''.cell? ⟨p2, o2 + k * 4 + 2, none⟩ = some (.slice ar2 x.res.length cr2) ∧ w''.cell? ⟨p2, o2 + k * 4 + 3, none⟩ = some (.slice ao2 x.outs.length co2) ∧ Below wr.heap.size wr w'' := by
    intro w' ⟨t0, t1, t2, t3, t4, t5, t6, t7, t8⟩
    refine (sameStack_same sm hsm m w' x ai1 ai2 ar1 ar2 ao1 ao2 ci1 ci2 cr1 cr2 co1 co2 (hI1.kept t8) (hI2.kept t8) (hR1.kept t8) (hR2.kept t8) (hO1.kept t8) (hO2.kept t8) (HBK.out x (List.mem_of_getElem? hx)) (HPL.out x (List.mem_of_getElem? hx))).mono ?_
    rintro r w'' ⟨rfl, hb⟩
    exact ⟨rfl, kept_cell hb t0, kept_cell hb t1, kept_cell hb t2, kept_cell hb t3, kept_cell hb t4, kept_cell hb t5, kept_cell hb t6, kept_cell hb t7, t8.trans (hb.mono t8.size)⟩
   have HI := hide hI
   have HW := hide hw
   have hbd : Below wr.heap.size wr wr.drew := below_drewN (Below.refl _ _) 1
   clear hI hx hy hI1 hI2 hR1 hR2 hO1 hO2 hw
   go_wp2_with fail
   go_region_held3 (fun w' => w'.cell? ⟨p1, o1 + k * 4, none⟩ = some (.string x.name) ∧ w'.cell? ⟨p1, o1 + k * 4 + 1, none⟩ = some (.slice ai1 x.ins.length ci1) ∧ w'.cell? ⟨p1, o1 + k * 4 + 2, none⟩ = some (.slice ar1 x.res.length cr1) ∧ w'.cell? ⟨p1, o1 + k * 4 + 3, none⟩ = some (.slice ao1 x.outs.length co1) ∧ w'.cell? ⟨p2, o2 + k * 4, none⟩ = some (.string x.name) ∧ w'.cell? ⟨p2, o2 + k * 4 + 1, none⟩ = some (.slice ai2 x.ins.length ci2) ∧ w'.cell? ⟨p2, o2 + k * 4 + 2, none⟩ = some (.slice ar2 x.res.length cr2) ∧ w'.cell? ⟨p2, o2 + k * 4 + 3, none⟩ = some (.slice ao2 x.outs.length co2) ∧ Below wr.heap.size wr w') (go_keep)
    (first | (go_at_call 19; refine Calls.mono (HI.out _ ?_) ?_; exact ⟨‹_›, ‹_›, ‹_›, ‹_›, ‹_›, ‹_›, ‹_›, ‹_›, ‹_›⟩; rintro r w3 ⟨rfl, t0, t1, t2, t3, t4, t5, t6, t7, t8⟩))
   all_goals
    have HW3 := hide (HW.out.trans (t8.mono HW.out.size))
    clear t0 t1 t2 t3 t4 t5 t6 t7 t8
    go_wp2_with fail
    go_roundw
    case rel => exact ⟨k + 1, by omega, by go_num, HW3.out⟩
    case measure => simp [intOf]; omega
  ·have HW := hide hw
   clear hw
   go_wp2_with fail
   go_ret
   exact ⟨rfl, HW.out⟩
theorem ta_errno (n : Int) (w : World) : (Instr.typeAssert (.iface 62 (.int .i64 n)) 24 62 true).run Tryz.prog w = .ok (.tuple #[.int .i64 n, .bool true]) w := by kernel_rfl
set_option maxRecDepth 100000 in
theorem number_err (f : Int) (w : World) : Calls Tryz.prog 8 #[.iface 62 (.int .i64 f)] w fun r w' => r = .returned (.int .i64 f) ∧ w' = w := by
 have hta := ta_errno f w
 go_enter Tryz.func8, Tryz.ntmps8
 go_wp2_with fail
 go_ret
 exact ⟨rfl, rfl⟩
end Go.Proofs.YtbdbpfcblppnbaaGreatDoor.Vx
