/- TopState: SH. -/
import Derived.Test.YtcekcfjabhlheaaGreatDoorSG
set_option maxRecDepth 100000
set_option maxHeartbeats 12800000
namespace Go.Proofs.YtcekcfjabhlheaaGreatDoor.Vx
open Go.RowKit
theorem S.len_sum {α : Type} {f : α -> Nat} (h : ∀ x, 1 <= f x) : ∀ l : List α, l.length <= (l.map f).sum
 | [] => Nat.zero_le _
 | a :: l => by
  have := S.len_sum h l
  have := h a
  simp only [List.length_cons, List.map_cons, List.sum_cons]
  omega
theorem S.lens {m : Nat} {s : St} (h : S.bulk m s <= 2000000) : s.held.length <= 2000000 /\ s.its.length <= 2000000 /\ s.outs.length <= 2000000 := by
 have h1 := S.len_sum (f := S.bulkH m) (fun x => by unfold S.bulkH; omega) s.held
 have h2 := S.len_sum (f := S.bulkI m) (fun x => by unfold S.bulkI; omega) s.its
 have h3 := S.len_sum (f := S.bulkO m) (fun x => by unfold S.bulkO; omega) s.outs
 unfold S.bulk at h
 omega
theorem int_ne {a b : Int} (h : a ≠ b) : (a != b) = true := by simpa using h
theorem int_eq {a b : Int} (h : a = b) : (a != b) = false := by simpa using h
theorem sameState_any (sm : Val -> Val -> Bool) (hsm : V.Says sm) (m : Nat) (w : World) (a b : St) (a0 a1 a2 a3 b0 b1 b2 b3 : Value) (hma : S.Mem m w a [a0, a1, a2, a3]) (hmb : S.Mem m w b [b0, b1, b2, b3]) (hba : S.bulk m a <= 2000000) (hbb : S.bulk m b <= 2000000) :
  Calls Tryz.prog 11 #[.agg #[a0, a1, a2, a3], .agg #[b0, b1, b2, b3]] w fun e w' => (∃ r : Bool, e = .returned (.bool r) /\ (a = b -> r = true)) /\ Below w.heap.size w w' := by
 have few1 := S.Few.of hba
 have few2 := S.Few.of hbb
 have len1 := S.lens hba
 have len2 := S.lens hbb
 obtain ⟨hv1, iv1, ov1, hcs, hh1, hi1, ho1, _⟩ := hma
 simp only [List.cons.injEq, and_true] at hcs
 obtain ⟨rfl, rfl, rfl, rfl⟩ := hcs
 obtain ⟨ah1, ch1, rfl⟩ := V.Row.shape hh1
 obtain ⟨ai1, ci1, rfl⟩ := V.Row.shape hi1
 obtain ⟨ao1, co1, rfl⟩ := V.Row.shape ho1
 obtain ⟨hv2, iv2, ov2, hcs, hh2, hi2, ho2, _⟩ := hmb
 simp only [List.cons.injEq, and_true] at hcs
 obtain ⟨rfl, rfl, rfl, rfl⟩ := hcs
 obtain ⟨ah2, ch2, rfl⟩ := V.Row.shape hh2
 obtain ⟨ai2, ci2, rfl⟩ := V.Row.shape hi2
 obtain ⟨ao2, co2, rfl⟩ := V.Row.shape ho2
 have hbL : Below w.heap.size w ((w.alloc (.cells #[.int .i64 a.serial, .slice ah1 a.held.length ch1, .slice ai1 a.its.length ci1, .slice ao1 a.outs.length co1] 26)).alloc (.cells #[.int .i64 b.serial, .slice ah2 b.held.length ch2, .slice ai2 b.its.length ci2, .slice ao2 b.outs.length co2] 26)) := ((Below.refl _ _).alloc (Nat.le_refl _) _).alloc (by simp) _
 have hA0 : ((w.alloc (.cells #[.int .i64 a.serial, .slice ah1 a.held.length ch1, .slice ai1 a.its.length ci1, .slice ao1 a.outs.length co1] 26)).alloc (.cells #[.int .i64 b.serial, .slice ah2 b.held.length ch2, .slice ai2 b.its.length ci2, .slice ao2 b.outs.length co2] 26)).heap[w.heap.size]? = some (.cells #[.int .i64 a.serial, .slice ah1 a.held.length ch1, .slice ai1 a.its.length ci1, .slice ao1 a.outs.length co1] 26 (0, 0)) := by rw [heap_alloc_old _ _ (by simp)]; exact heap_alloc_new _ _
 have hB0 : ((w.alloc (.cells #[.int .i64 a.serial, .slice ah1 a.held.length ch1, .slice ai1 a.its.length ci1, .slice ao1 a.outs.length co1] 26)).alloc (.cells #[.int .i64 b.serial, .slice ah2 b.held.length ch2, .slice ai2 b.its.length ci2, .slice ao2 b.outs.length co2] 26)).heap[w.heap.size + 1]? = some (.cells #[.int .i64 b.serial, .slice ah2 b.held.length ch2, .slice ai2 b.its.length ci2, .slice ao2 b.outs.length co2] 26 (0, 0)) := by
  have h1 := heap_alloc_new (w.alloc (.cells #[.int .i64 a.serial, .slice ah1 a.held.length ch1, .slice ai1 a.its.length ci1, .slice ao1 a.outs.length co1] 26)) (.cells #[.int .i64 b.serial, .slice ah2 b.held.length ch2, .slice ai2 b.its.length ci2, .slice ao2 b.outs.length co2] 26)
  rw [World.size_alloc] at h1
  exact h1
 obtain ⟨HBW, HK0, HK1, HSM, HF1, HF2, H1, H2⟩ := hd8 hbL hA0 hB0 hsm few1 few2 hh1 hh2
 obtain ⟨HI1, HI2, HO1, HO2, HN1, HN2⟩ := hd6 hi1 hi2 ho1 ho2 len1 len2
 obtain ⟨l11, l12, l13⟩ := len1
 obtain ⟨x0, x1, x2, x3⟩ := cl4 hA0
 obtain ⟨y0, y1, y2, y3⟩ := cl4 hB0
 clear hbL hA0 hB0 hh1 hh2 hi1 hi2 ho1 ho2 hba hbb hsm few1 few2 len2
 go_enter Tryz.func11, Tryz.ntmps11
 by_cases e0 : a.serial = b.serial
 rotate_left
 ·have n0 := int_ne e0
  have HE := hide e0
  clear e0 l11 l12 l13
  go_wp2_with fail
  go_ret
  exact ⟨⟨_, rfl, fun e => absurd (by rw [e]) HE.out⟩, HBW.out⟩
 have n0 := int_eq e0
 by_cases e1 : a.held.length = b.held.length
 rotate_left
 ·have n1 : ((a.held.length : Int) != (b.held.length : Int)) = true := int_ne (by omega)
  have HE := hide e1
  clear e0 e1 l11 l12 l13
  go_wp2_with fail
  go_ret
  exact ⟨⟨_, rfl, fun e => absurd (by rw [e]) HE.out⟩, HBW.out⟩
 have n1 : ((a.held.length : Int) != (b.held.length : Int)) = false := int_eq (by omega)
 by_cases e2 : a.its.length = b.its.length
 rotate_left
 ·have n2 : ((a.its.length : Int) != (b.its.length : Int)) = true := int_ne (by omega)
  have HE := hide e2
  clear e0 e1 e2 l11 l12 l13
  go_wp2_with fail
  go_ret
  exact ⟨⟨_, rfl, fun e => absurd (by rw [e]) HE.out⟩, HBW.out⟩
 have n2 : ((a.its.length : Int) != (b.its.length : Int)) = false := int_eq (by omega)
 by_cases e3 : a.outs.length = b.outs.length
 rotate_left
 ·have n3 : ((a.outs.length : Int) != (b.outs.length : Int)) = true := int_ne (by omega)
  have HE := hide e3
  clear e0 e1 e2 e3 l11 l12 l13
  go_wp2_with fail
  go_ret
  exact ⟨⟨_, rfl, fun e => absurd (by rw [e]) HE.out⟩, HBW.out⟩
 have n3 : ((a.outs.length : Int) != (b.outs.length : Int)) = false := int_eq (by omega)
 obtain ⟨HE1, HE2⟩ := hd2 e1 e2
 clear e0 e1 e2 e3
 go_wp2_with fail
 generalize ((w.alloc _).alloc _) = wa at *
 clear x0 x1 x2 x3 y0 y1 y2 y3 n0 n1 n2 n3
 go_loopw [5, 6] (fun vi _ wr => ∃ k : Nat, k <= a.held.length /\ vi = .int .i64 k /\ wr.heap[w.heap.size]? = some (.cells #[.int .i64 a.serial, .slice ah1 a.held.length ch1, .slice ai1 a.its.length ci1, .slice ao1 a.outs.length co1] 26 (0, 0)) /\ wr.heap[w.heap.size + 1]? = some (.cells #[.int .i64 b.serial, .slice ah2 b.held.length ch2, .slice ai2 b.its.length ci2, .slice ao2 b.outs.length co2] 26 (0, 0)) /\ Below w.heap.size w wr) (fun vi _ _ => a.held.length - (intOf vi).toNat)
 case atStart => exact ⟨0, Nat.zero_le _, rfl, HK0.out, HK1.out, HBW.out⟩
 case round =>
  clear HBW HK0 HK1
  obtain ⟨k, hk, rfl, hb0, hb1, hw⟩ := hrel
  have s0 := cell_of_block hb0 1 _ rfl
  have s1 := cell_of_block hb1 1 _ rfl
  by_cases hlt : k < a.held.length
  ·have hlt2 : k < b.held.length := by have := HE1.out; omega
   obtain ⟨p1, o1, cap1, x, d0, d1, d2, d3, d4, e1, hx, hm1, _, u0, u1, u2, u3, u4, u5, u6, u7⟩ := S.elemH (H1.out.kept hw) k hlt
   simp only [Value.slice.injEq] at e1
   obtain ⟨rfl, _, rfl⟩ := e1
   obtain ⟨p2, o2, cap2, y, d5, d6, d7, d8, d9, e2, hy, hm2, _, v0, v1, v2, v3, v4, v5, v6, v7⟩ := S.elemH (H2.out.kept hw) k hlt2
   simp only [Value.slice.injEq] at e2
   obtain ⟨rfl, _, rfl⟩ := e2
   obtain ⟨al5, cl5, af5, cf5, hcs⟩ := S.Mem.form2 hm1
   simp only [List.cons.injEq, and_true] at hcs
   obtain ⟨rfl, rfl, rfl, rfl, rfl⟩ := hcs
   obtain ⟨al6, cl6, af6, cf6, hcs⟩ := S.Mem.form2 hm2
   simp only [List.cons.injEq, and_true] at hcs
   obtain ⟨rfl, rfl, rfl, rfl, rfl⟩ := hcs
   have hxb := (HF1.out.held x (List.mem_of_getElem? hx)).2.2
   have hyb := (HF2.out.held y (List.mem_of_getElem? hy)).2.2
   have HNE : Hid (x ≠ y -> a ≠ b) := fun hne e => hne (by rw [e, hy] at hx; exact (Option.some.inj hx).symm)
   have hI : ∀ w' : World, (w'.cell? ⟨w.heap.size, 1, none⟩ = some (.slice (some ⟨p1, o1, none⟩) a.held.length ch1) /\ w'.cell? ⟨w.heap.size + 1, 1, none⟩ = some (.slice (some ⟨p2, o2, none⟩) b.held.length ch2) /\ w'.cell? ⟨p1, o1 + k * 8, none⟩ = some (.string x.name) /\ w'.cell? ⟨p1, o1 + k * 8 + 1, none⟩ = some (.string x.kind) /\ w'.cell? ⟨p1, o1 + k * 8 + 2, none⟩ = some (.int .i64 x.id) /\ w'.cell? ⟨p1, o1 + k * 8 + 3, none⟩ = some (.int .i64 x.v.kind) /\ w'.cell? ⟨p1, o1 + k * 8 + 4, none⟩ = some (.int .i64 x.v.n) /\ w'.cell? ⟨p1, o1 + k * 8 + 5, none⟩ = some (.string x.v.s) /\ w'.cell? ⟨p1, o1 + k * 8 + 6, none⟩ = some (.slice al5 x.v.l.length cl5) /\ w'.cell? ⟨p1, o1 + k * 8 + 7, none⟩ = some (.slice af5 x.v.f.length cf5) /\ w'.cell? ⟨p2, o2 + k * 8, none⟩ = some (.string y.name) /\ w'.cell? ⟨p2, o2 + k * 8 + 1, none⟩ = some (.string y.kind) /\ w'.cell? ⟨p2, o2 + k * 8 + 2, none⟩ = some (.int .i64 y.id) /\ w'.cell? ⟨p2, o2 + k * 8 + 3, none⟩ = some (.int .i64 y.v.kind) /\ w'.cell? ⟨p2, o2 + k * 8 + 4, none⟩ = some (.int .i64 y.v.n) /\ w'.cell? ⟨p2, o2 + k * 8 + 5, none⟩ = some (.string y.v.s) /\ w'.cell? ⟨p2, o2 + k * 8 + 6, none⟩ = some (.slice al6 y.v.l.length cl6) /\ w'.cell? ⟨p2, o2 + k * 8 + 7, none⟩ = some (.slice af6 y.v.f.length cf6) /\ Below wr.heap.size wr w') -> Calls Tryz.prog 26 #[.agg #[.string x.name, .string x.kind, .int .i64 x.id, .int .i64 x.v.kind, .int .i64 x.v.n, .string x.v.s, .slice al5 x.v.l.length cl5, .slice af5 x.v.f.length cf5], .agg #[.string y.name, .string y.kind, .int .i64 y.id, .int .i64 y.v.kind, .int .i64 y.v.n, .string y.v.s, .slice al6 y.v.l.length cl6, .slice af6 y.v.f.length cf6]] w' fun e w'' => (∃ r : Bool, e = .returned (.bool r) /\ (x = y -> r = true)) /\ w''.cell? ⟨w.heap.size, 1, none⟩ = some (.slice (some ⟨p1, o1, none⟩) a.held.length ch1) /\ w''.cell? ⟨w.heap.size + 1, 1, none⟩ = some (.slice (some ⟨p2, o2, none⟩) b.held.length ch2) /\ w''.cell? ⟨p1, o1 + k * 8, none⟩ = some (.string x.name) /\ w''.cell? ⟨p1, o1 + k * 8 + 1, none⟩ = some (.string x.kind) /\ w''.cell? ⟨p1, o1 + k * 8 + 2, none⟩ = some (.int .i64 x.id) /\ w''.cell? ⟨p1, o1 + k * 8 + 3, none⟩ = some (.int .i64 x.v.kind) /\ w''.cell? ⟨p1, o1 + k * 8 + 4, none⟩ = some (.int .i64 x.v.n) /\ w''.cell? ⟨p1, o1 + k * 8 + 5, none⟩ = some (.string x.v.s) /\ w''.cell? ⟨p1, o1 + k * 8 + 6, none⟩ = some (.slice al5 x.v.l.length cl5) /\ w''.cell? ⟨p1, o1 + k * 8 + 7, none⟩ = some (.slice af5 x.v.f.length cf5) /\ w''.cell? ⟨p2, o2 + k * 8, none⟩ = some (.string y.name) /\ w''.cell? ⟨p2, o2 + k * 8 + 1, none⟩ = some (.string y.kind) /\ w''.cell? ⟨p2, o2 + k * 8 + 2, none⟩ = some (.int .i64 y.id) /\ w''.cell? ⟨p2, o2 + k * 8 + 3, none⟩ = some (.int .i64 y.v.kind) /\ w''.cell? ⟨p2, o2 + k * 8 + 4, none⟩ = some (.int .i64 y.v.n) /\ w''.cell? ⟨p2, o2 + k * 8 + 5, none⟩ = some (.string y.v.s) /\ w''.cell? ⟨p2, o2 + k * 8 + 6, none⟩ = some (.slice al6 y.v.l.length cl6) /\ w''.cell? ⟨p2, o2 + k * 8 + 7, none⟩ = some (.slice af6 y.v.f.length cf6) /\ Below wr.heap.size wr w'' := by
    intro w' ⟨t0, t1, t2, t3, t4, t5, t6, t7, t8, t9, t10, t11, t12, t13, t14, t15, t16, t17, t18⟩
    refine (sameHeld_any sm HSM.out m w' x y _ _ _ _ _ _ _ _ _ _ (V.Mem.kept _ hm1 t18) (V.Mem.kept _ hm2 t18) hxb hyb).mono ?_
    rintro r w'' ⟨hr, hb⟩
    exact ⟨hr, kept_cell hb t0, kept_cell hb t1, kept_cell hb t2, kept_cell hb t3, kept_cell hb t4, kept_cell hb t5, kept_cell hb t6, kept_cell hb t7, kept_cell hb t8, kept_cell hb t9, kept_cell hb t10, kept_cell hb t11, kept_cell hb t12, kept_cell hb t13, kept_cell hb t14, kept_cell hb t15, kept_cell hb t16, kept_cell hb t17, t18.trans (hb.mono t18.size)⟩
   obtain ⟨HI, HW, HLT, HB0, HB1⟩ := hd5 hI hw hlt hb0 hb1
   have HLB0 := hide (blt hb0)
   have HLB1 := hide (blt hb1)
   have hbd : Below wr.heap.size wr wr.drew := below_drewN (Below.refl _ _) 1
   have hi1 : (k : Int) < a.held.length := by omega
   have hi2 : (k : Int) < b.held.length := by omega
   clear hI hm1 hm2 hx hy hw hxb hyb hb0 hb1
   go_wp2_with fail
   go_region_held3 (fun w' => w'.cell? ⟨w.heap.size, 1, none⟩ = some (.slice (some ⟨p1, o1, none⟩) a.held.length ch1) /\ w'.cell? ⟨w.heap.size + 1, 1, none⟩ = some (.slice (some ⟨p2, o2, none⟩) b.held.length ch2) /\ w'.cell? ⟨p1, o1 + k * 8, none⟩ = some (.string x.name) /\ w'.cell? ⟨p1, o1 + k * 8 + 1, none⟩ = some (.string x.kind) /\ w'.cell? ⟨p1, o1 + k * 8 + 2, none⟩ = some (.int .i64 x.id) /\ w'.cell? ⟨p1, o1 + k * 8 + 3, none⟩ = some (.int .i64 x.v.kind) /\ w'.cell? ⟨p1, o1 + k * 8 + 4, none⟩ = some (.int .i64 x.v.n) /\ w'.cell? ⟨p1, o1 + k * 8 + 5, none⟩ = some (.string x.v.s) /\ w'.cell? ⟨p1, o1 + k * 8 + 6, none⟩ = some (.slice al5 x.v.l.length cl5) /\ w'.cell? ⟨p1, o1 + k * 8 + 7, none⟩ = some (.slice af5 x.v.f.length cf5) /\ w'.cell? ⟨p2, o2 + k * 8, none⟩ = some (.string y.name) /\ w'.cell? ⟨p2, o2 + k * 8 + 1, none⟩ = some (.string y.kind) /\ w'.cell? ⟨p2, o2 + k * 8 + 2, none⟩ = some (.int .i64 y.id) /\ w'.cell? ⟨p2, o2 + k * 8 + 3, none⟩ = some (.int .i64 y.v.kind) /\ w'.cell? ⟨p2, o2 + k * 8 + 4, none⟩ = some (.int .i64 y.v.n) /\ w'.cell? ⟨p2, o2 + k * 8 + 5, none⟩ = some (.string y.v.s) /\ w'.cell? ⟨p2, o2 + k * 8 + 6, none⟩ = some (.slice al6 y.v.l.length cl6) /\ w'.cell? ⟨p2, o2 + k * 8 + 7, none⟩ = some (.slice af6 y.v.f.length cf6) /\ Below wr.heap.size wr w') (go_keep)
    (first | (go_at_call 26; refine Calls.mono (HI.out _ ?_) ?_; exact ⟨‹_›, ‹_›, ‹_›, ‹_›, ‹_›, ‹_›, ‹_›, ‹_›, ‹_›, ‹_›, ‹_›, ‹_›, ‹_›, ‹_›, ‹_›, ‹_›, ‹_›, ‹_›, ‹_›⟩; rintro r w3 ⟨⟨q, rfl, hq⟩, t0, t1, t2, t3, t4, t5, t6, t7, t8, t9, t10, t11, t12, t13, t14, t15, t16, t17, t18⟩))
   all_goals
    have HW3 := hide (HW.out.trans (t18.mono HW.out.size))
    have HK0 := hide ((t18.block w.heap.size HLB0.out).trans HB0.out)
    have HK1 := hide ((t18.block (w.heap.size + 1) HLB1.out).trans HB1.out)
    have HQ := hide hq
    clear t18 t0 t1 t2 t3 t4 t5 t6 t7 t8 t9 t10 t11 t12 t13 t14 t15 t16 t17 hq
    cases q with
    | true =>
     go_wp2_with fail
     go_roundw
     case rel => exact ⟨k + 1, HLT.out, by go_num, HK0.out, HK1.out, HW3.out⟩
     case measure =>
      have h1 := HLT.out
      simp [intOf]
      omega
    | false =>
     go_wp2_with fail
     go_ret
     exact ⟨⟨_, rfl, fun e => absurd e (HNE.out (fun e2 => by have := HQ.out e2; cases this))⟩, HW3.out⟩
  ·have HBW := hide hw
   obtain ⟨HK0, HK1⟩ := hd2 hb0 hb1
   have s02 := cell_of_block hb0 2 _ rfl
   have s12 := cell_of_block hb1 2 _ rfl
   clear hw hk hb0 hb1
   go_wp2_with fail
   clear s0 s1 s02 s12
   go_loopw [7, 8] (fun vi _ wr => ∃ k : Nat, k <= a.its.length /\ vi = .int .i64 k /\ wr.heap[w.heap.size]? = some (.cells #[.int .i64 a.serial, .slice ah1 a.held.length ch1, .slice ai1 a.its.length ci1, .slice ao1 a.outs.length co1] 26 (0, 0)) /\ wr.heap[w.heap.size + 1]? = some (.cells #[.int .i64 b.serial, .slice ah2 b.held.length ch2, .slice ai2 b.its.length ci2, .slice ao2 b.outs.length co2] 26 (0, 0)) /\ Below w.heap.size w wr) (fun vi _ _ => a.its.length - (intOf vi).toNat)
   case atStart => exact ⟨0, Nat.zero_le _, rfl, HK0.out, HK1.out, HBW.out⟩
   case round =>
    clear HBW HK0 HK1 hlt
    obtain ⟨k, hk, rfl, hb0, hb1, hw⟩ := hrel
    have s0 := cell_of_block hb0 2 _ rfl
    have s1 := cell_of_block hb1 2 _ rfl
    by_cases hlt : k < a.its.length
    ·have hlt2 : k < b.its.length := by have := HE2.out; omega
     obtain ⟨p1, o1, cap1, x, d0, d1, d2, d3, d4, e1, hx, hm1, _, _, u0, u1, u2, u3, u4, u5, u6, u7, u8, u9⟩ := S.elemI (HI1.out.kept hw) k hlt
     simp only [Value.slice.injEq] at e1
     obtain ⟨rfl, _, rfl⟩ := e1
     obtain ⟨p2, o2, cap2, y, d5, d6, d7, d8, d9, e2, hy, hm2, _, _, v0, v1, v2, v3, v4, v5, v6, v7, v8, v9⟩ := S.elemI (HI2.out.kept hw) k hlt2
     simp only [Value.slice.injEq] at e2
     obtain ⟨rfl, _, rfl⟩ := e2
     obtain ⟨al5, cl5, af5, cf5, hcs⟩ := S.Mem.form2 hm1
     simp only [List.cons.injEq, and_true] at hcs
     obtain ⟨rfl, rfl, rfl, rfl, rfl⟩ := hcs
     obtain ⟨al6, cl6, af6, cf6, hcs⟩ := S.Mem.form2 hm2
     simp only [List.cons.injEq, and_true] at hcs
     obtain ⟨rfl, rfl, rfl, rfl, rfl⟩ := hcs
     have hxb := (HF1.out.its x (List.mem_of_getElem? hx)).1.2.2
     have hyb := (HF2.out.its y (List.mem_of_getElem? hy)).1.2.2
     have HNE : Hid (x ≠ y -> a ≠ b) := fun hne e => hne (by rw [e, hy] at hx; exact (Option.some.inj hx).symm)
     have hI : ∀ w' : World, (w'.cell? ⟨w.heap.size, 2, none⟩ = some (.slice (some ⟨p1, o1, none⟩) a.its.length ci1) /\ w'.cell? ⟨w.heap.size + 1, 2, none⟩ = some (.slice (some ⟨p2, o2, none⟩) b.its.length ci2) /\ w'.cell? ⟨p1, o1 + k * 10, none⟩ = some (.int .i64 x.op) /\ w'.cell? ⟨p1, o1 + k * 10 + 1, none⟩ = some (.string x.h.name) /\ w'.cell? ⟨p1, o1 + k * 10 + 2, none⟩ = some (.string x.h.kind) /\ w'.cell? ⟨p1, o1 + k * 10 + 3, none⟩ = some (.int .i64 x.h.id) /\ w'.cell? ⟨p1, o1 + k * 10 + 4, none⟩ = some (.int .i64 x.h.v.kind) /\ w'.cell? ⟨p1, o1 + k * 10 + 5, none⟩ = some (.int .i64 x.h.v.n) /\ w'.cell? ⟨p1, o1 + k * 10 + 6, none⟩ = some (.string x.h.v.s) /\ w'.cell? ⟨p1, o1 + k * 10 + 7, none⟩ = some (.slice al5 x.h.v.l.length cl5) /\ w'.cell? ⟨p1, o1 + k * 10 + 8, none⟩ = some (.slice af5 x.h.v.f.length cf5) /\ w'.cell? ⟨p1, o1 + k * 10 + 9, none⟩ = some (.string x.token) /\ w'.cell? ⟨p2, o2 + k * 10, none⟩ = some (.int .i64 y.op) /\ w'.cell? ⟨p2, o2 + k * 10 + 1, none⟩ = some (.string y.h.name) /\ w'.cell? ⟨p2, o2 + k * 10 + 2, none⟩ = some (.string y.h.kind) /\ w'.cell? ⟨p2, o2 + k * 10 + 3, none⟩ = some (.int .i64 y.h.id) /\ w'.cell? ⟨p2, o2 + k * 10 + 4, none⟩ = some (.int .i64 y.h.v.kind) /\ w'.cell? ⟨p2, o2 + k * 10 + 5, none⟩ = some (.int .i64 y.h.v.n) /\ w'.cell? ⟨p2, o2 + k * 10 + 6, none⟩ = some (.string y.h.v.s) /\ w'.cell? ⟨p2, o2 + k * 10 + 7, none⟩ = some (.slice al6 y.h.v.l.length cl6) /\ w'.cell? ⟨p2, o2 + k * 10 + 8, none⟩ = some (.slice af6 y.h.v.f.length cf6) /\ w'.cell? ⟨p2, o2 + k * 10 + 9, none⟩ = some (.string y.token) /\ Below wr.heap.size wr w') -> Calls Tryz.prog 26 #[.agg #[.string x.h.name, .string x.h.kind, .int .i64 x.h.id, .int .i64 x.h.v.kind, .int .i64 x.h.v.n, .string x.h.v.s, .slice al5 x.h.v.l.length cl5, .slice af5 x.h.v.f.length cf5], .agg #[.string y.h.name, .string y.h.kind, .int .i64 y.h.id, .int .i64 y.h.v.kind, .int .i64 y.h.v.n, .string y.h.v.s, .slice al6 y.h.v.l.length cl6, .slice af6 y.h.v.f.length cf6]] w' fun e w'' => (∃ r : Bool, e = .returned (.bool r) /\ (x.h = y.h -> r = true)) /\ w''.cell? ⟨w.heap.size, 2, none⟩ = some (.slice (some ⟨p1, o1, none⟩) a.its.length ci1) /\ w''.cell? ⟨w.heap.size + 1, 2, none⟩ = some (.slice (some ⟨p2, o2, none⟩) b.its.length ci2) /\ w''.cell? ⟨p1, o1 + k * 10, none⟩ = some (.int .i64 x.op) /\ w''.cell? ⟨p1, o1 + k * 10 + 1, none⟩ = some (.string x.h.name) /\ w''.cell? ⟨p1, o1 + k * 10 + 2, none⟩ = some (.string x.h.kind) /\ w''.cell? ⟨p1, o1 + k * 10 + 3, none⟩ = some (.int .i64 x.h.id) /\ w''.cell? ⟨p1, o1 + k * 10 + 4, none⟩ = some (.int .i64 x.h.v.kind) /\ w''.cell? ⟨p1, o1 + k * 10 + 5, none⟩ = some (.int .i64 x.h.v.n) /\ w''.cell? ⟨p1, o1 + k * 10 + 6, none⟩ = some (.string x.h.v.s) /\ w''.cell? ⟨p1, o1 + k * 10 + 7, none⟩ = some (.slice al5 x.h.v.l.length cl5) /\ w''.cell? ⟨p1, o1 + k * 10 + 8, none⟩ = some (.slice af5 x.h.v.f.length cf5) /\ w''.cell? ⟨p1, o1 + k * 10 + 9, none⟩ = some (.string x.token) /\ w''.cell? ⟨p2, o2 + k * 10, none⟩ = some (.int .i64 y.op) /\ w''.cell? ⟨p2, o2 + k * 10 + 1, none⟩ = some (.string y.h.name) /\ w''.cell? ⟨p2, o2 + k * 10 + 2, none⟩ = some (.string y.h.kind) /\ w''.cell? ⟨p2, o2 + k * 10 + 3, none⟩ = some (.int .i64 y.h.id) /\ w''.cell? ⟨p2, o2 + k * 10 + 4, none⟩ = some (.int .i64 y.h.v.kind) /\ w''.cell? ⟨p2, o2 + k * 10 + 5, none⟩ = some (.int .i64 y.h.v.n) /\ w''.cell? ⟨p2, o2 + k * 10 + 6, none⟩ = some (.string y.h.v.s) /\ w''.cell? ⟨p2, o2 + k * 10 + 7, none⟩ = some (.slice al6 y.h.v.l.length cl6) /\ w''.cell? ⟨p2, o2 + k * 10 + 8, none⟩ = some (.slice af6 y.h.v.f.length cf6) /\ w''.cell? ⟨p2, o2 + k * 10 + 9, none⟩ = some (.string y.token) /\ Below wr.heap.size wr w'' := by
      intro w' ⟨t0, t1, t2, t3, t4, t5, t6, t7, t8, t9, t10, t11, t12, t13, t14, t15, t16, t17, t18, t19, t20, t21, t22⟩
      refine (sameHeld_any sm HSM.out m w' x.h y.h _ _ _ _ _ _ _ _ _ _ (V.Mem.kept _ hm1 t22) (V.Mem.kept _ hm2 t22) hxb hyb).mono ?_
      rintro r w'' ⟨hr, hb⟩
      exact ⟨hr, kept_cell hb t0, kept_cell hb t1, kept_cell hb t2, kept_cell hb t3, kept_cell hb t4, kept_cell hb t5, kept_cell hb t6, kept_cell hb t7, kept_cell hb t8, kept_cell hb t9, kept_cell hb t10, kept_cell hb t11, kept_cell hb t12, kept_cell hb t13, kept_cell hb t14, kept_cell hb t15, kept_cell hb t16, kept_cell hb t17, kept_cell hb t18, kept_cell hb t19, kept_cell hb t20, kept_cell hb t21, t22.trans (hb.mono t22.size)⟩
     obtain ⟨HI, HW, HLT, HB0, HB1⟩ := hd5 hI hw hlt hb0 hb1
     have HLB0 := hide (blt hb0)
     have HLB1 := hide (blt hb1)
     have hbd : Below wr.heap.size wr wr.drew := below_drewN (Below.refl _ _) 1
     have hi1 : (k : Int) < a.its.length := by omega
     have hi2 : (k : Int) < b.its.length := by omega
     clear hI hm1 hm2 hx hy hw hxb hyb hb0 hb1
     go_wp2_with fail
     go_region_held3 (fun w' => w'.cell? ⟨w.heap.size, 2, none⟩ = some (.slice (some ⟨p1, o1, none⟩) a.its.length ci1) /\ w'.cell? ⟨w.heap.size + 1, 2, none⟩ = some (.slice (some ⟨p2, o2, none⟩) b.its.length ci2) /\ w'.cell? ⟨p1, o1 + k * 10, none⟩ = some (.int .i64 x.op) /\ w'.cell? ⟨p1, o1 + k * 10 + 1, none⟩ = some (.string x.h.name) /\ w'.cell? ⟨p1, o1 + k * 10 + 2, none⟩ = some (.string x.h.kind) /\ w'.cell? ⟨p1, o1 + k * 10 + 3, none⟩ = some (.int .i64 x.h.id) /\ w'.cell? ⟨p1, o1 + k * 10 + 4, none⟩ = some (.int .i64 x.h.v.kind) /\ w'.cell? ⟨p1, o1 + k * 10 + 5, none⟩ = some (.int .i64 x.h.v.n) /\ w'.cell? ⟨p1, o1 + k * 10 + 6, none⟩ = some (.string x.h.v.s) /\ w'.cell? ⟨p1, o1 + k * 10 + 7, none⟩ = some (.slice al5 x.h.v.l.length cl5) /\ w'.cell? ⟨p1, o1 + k * 10 + 8, none⟩ = some (.slice af5 x.h.v.f.length cf5) /\ w'.cell? ⟨p1, o1 + k * 10 + 9, none⟩ = some (.string x.token) /\ w'.cell? ⟨p2, o2 + k * 10, none⟩ = some (.int .i64 y.op) /\ w'.cell? ⟨p2, o2 + k * 10 + 1, none⟩ = some (.string y.h.name) /\ w'.cell? ⟨p2, o2 + k * 10 + 2, none⟩ = some (.string y.h.kind) /\ w'.cell? ⟨p2, o2 + k * 10 + 3, none⟩ = some (.int .i64 y.h.id) /\ w'.cell? ⟨p2, o2 + k * 10 + 4, none⟩ = some (.int .i64 y.h.v.kind) /\ w'.cell? ⟨p2, o2 + k * 10 + 5, none⟩ = some (.int .i64 y.h.v.n) /\ w'.cell? ⟨p2, o2 + k * 10 + 6, none⟩ = some (.string y.h.v.s) /\ w'.cell? ⟨p2, o2 + k * 10 + 7, none⟩ = some (.slice al6 y.h.v.l.length cl6) /\ w'.cell? ⟨p2, o2 + k * 10 + 8, none⟩ = some (.slice af6 y.h.v.f.length cf6) /\ w'.cell? ⟨p2, o2 + k * 10 + 9, none⟩ = some (.string y.token) /\ Below wr.heap.size wr w') (go_keep)
      (first | (go_at_call 26; refine Calls.mono (HI.out _ ?_) ?_; exact ⟨‹_›, ‹_›, ‹_›, ‹_›, ‹_›, ‹_›, ‹_›, ‹_›, ‹_›, ‹_›, ‹_›, ‹_›, ‹_›, ‹_›, ‹_›, ‹_›, ‹_›, ‹_›, ‹_›, ‹_›, ‹_›, ‹_›, ‹_›⟩; rintro r w3 ⟨⟨q, rfl, hq⟩, t0, t1, t2, t3, t4, t5, t6, t7, t8, t9, t10, t11, t12, t13, t14, t15, t16, t17, t18, t19, t20, t21, t22⟩))
     all_goals
      have HW3 := hide (HW.out.trans (t22.mono HW.out.size))
      have HK0 := hide ((t22.block w.heap.size HLB0.out).trans HB0.out)
      have HK1 := hide ((t22.block (w.heap.size + 1) HLB1.out).trans HB1.out)
      have HQ := hide hq
      clear t22 hq
      go_wp2_with fail
      cases q with
      | false =>
       go_quiet (fail)
       all_goals
        clear t0 t1 t2 t3 t4 t5 t6 t7 t8 t9 t10 t11 t12 t13 t14 t15 t16 t17 t18 t19 t20 t21
        go_wp2_with fail
        go_ret
        exact ⟨⟨_, rfl, fun e => absurd e (HNE.out (fun e2 => by have := HQ.out (by rw [e2]); cases this))⟩, below_drewN HW3.out _⟩
      | true =>
       by_cases e0 : x.op = y.op
       ·have n0 := int_eq e0
        by_cases e1 : x.token = y.token
        ·have n1 : (x.token.toList == y.token.toList) = true := by rw [e1]; exact beq_self_eq_true _
         clear e0 e1
         go_quiet (fail)
         all_goals
          clear t0 t1 t2 t3 t4 t5 t6 t7 t8 t9 t10 t11 t12 t13 t14 t15 t16 t17 t18 t19 t20 t21 n0 n1
          go_wp2_with fail
          go_roundw
          case rel => exact ⟨k + 1, HLT.out, by go_num, HK0.out, HK1.out, below_drewN HW3.out _⟩
          case measure =>
           have h1 := HLT.out
           simp [intOf]
           omega
        ·have n1 := same_no e1
         have HE := hide e1
         clear e0 e1
         go_quiet (fail)
         all_goals
          clear t0 t1 t2 t3 t4 t5 t6 t7 t8 t9 t10 t11 t12 t13 t14 t15 t16 t17 t18 t19 t20 t21 n0 n1
          go_wp2_with fail
          refine bodyPost_ret (v := .bool false) (by simp [results, Tryz.results11, go_sem]) rfl ?_
          exact ⟨.inl ⟨rfl, HNE.out (fun e2 => HE.out (by rw [e2]))⟩, below_drewN HW3.out _⟩
       ·have n0 := int_ne e0
        have HE := hide e0
        clear e0
        go_quiet (fail)
        all_goals
         clear t0 t1 t2 t3 t4 t5 t6 t7 t8 t9 t10 t11 t12 t13 t14 t15 t16 t17 t18 t19 t20 t21 n0
         go_wp2_with fail
         refine bodyPost_ret (v := .bool false) (by simp [results, Tryz.results11, go_sem]) rfl ?_
         exact ⟨.inl ⟨rfl, HNE.out (fun e2 => HE.out (by rw [e2]))⟩, below_drewN HW3.out _⟩
    ·have HC := hide (sameFields_any sm HSM.out m wr a.outs b.outs ao1 ao2 co1 co2 (HO1.out.kept hw) (HO2.out.kept hw) (fun x hx => (HF1.out.outs x hx).2) (fun x hx => (HF2.out.outs x hx).2) HN1.out.2.2 HN2.out.2.2)
     have s03 := cell_of_block hb0 3 _ rfl
     have s13 := cell_of_block hb1 3 _ rfl
     have HW := hide hw
     clear hw hb0 hb1 hk
     go_wp2_with fail
     refine HC.out.mono ?_
     rintro o w4 ⟨⟨r, rfl, hr⟩, hb4⟩
     have HR := hide hr
     have HW4 := hide (HW.out.trans (hb4.mono HW.out.size))
     clear hr hb4 HC s0 s1 s03 s13
     go_wp2_with fail
     go_ret
     exact ⟨⟨_, rfl, fun e => HR.out (by rw [e])⟩, HW4.out⟩
end Go.Proofs.YtcekcfjabhlheaaGreatDoor.Vx
