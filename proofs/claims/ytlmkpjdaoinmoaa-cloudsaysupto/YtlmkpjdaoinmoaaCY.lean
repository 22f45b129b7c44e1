/- For CloudSays: Spoil and Read of the program. -/
import Derived.Test.YtlmkpjdaoinmoaaCX
namespace Go.Proofs.Ytlmkpjdaoinmoaa
open Go.RowKit
attribute [local go_sem ↓] Go.wp_at_zero Go.wp_at_succ
set_option maxRecDepth 100000 in
set_option maxHeartbeats 1000000 in
theorem spoil_none (w : World) (B : Nat → Prop) (g gc bt bd bf : Nat) (D : Dk) (q given calls : Int) (Th : List (Int × Value)) (Di : List (ByteArray × Value)) (Fa : List (Int × Value)) (id : Int) (m : Nat) (v : Val) (c0 c1 c2 c3 c4 : Value) (h : Cl w B g gc bt bd bf D q given calls Th Di Fa) (Z : Nat → Prop) (hv : ∀ x ∈ Th, ∃ t : Tg, x.2 = t.val) (hM : V.MemX Z (m + 1) w v [c0, c1, c2, c3, c4]) (hg : T.get Th id = none) : Calls Try.prog 21 #[.pointer (some ⟨gc, 0, none⟩), .int .i64 id, .agg #[c0, c1, c2, c3, c4]] w fun o w' => o = .returned (.tuple #[]) ∧ Cl w' B g gc bt bd bf D q given calls Th Di Fa ∧ Fr w w' (fun _ => False) := by
  obtain ⟨al, cl, af, cf, rfl, rfl, rfl, rfl, rfl⟩ := hM.mem.form
  obtain ⟨w2, hw2⟩ : ∃ w2, w2 = w.alloc (.cells #[.int .i64 v.kind, .int .i64 v.n, .string v.s, .slice al v.l.length cl, .slice af v.f.length cf] 40) := ⟨_, rfl⟩
  have hf2 : Fr w w2 (fun _ => False) := by rw [hw2]; exact (Fr.refl _ _).alloc _
  have hb2 : w2.heap[w.heap.size]? = some (.cells #[.int .i64 v.kind, .int .i64 v.n, .string v.s, .slice al v.l.length cl, .slice af v.f.length cf] 40 (0, 0)) := by rw [hw2]; exact heap_alloc_new _ _
  have hmx2 := hM.fr (hf2.weak (ex1 := Z) (fun _ _ e => e.elim))
  have hha := has_any w2 B g gc bt bd bf D q given calls Th Di Fa id (h.fr hf2) hv
  rw [hg] at hha
  have HHA := hide hha
  have HCL := hide (h.fr hf2)
  have HF := hide hf2
  clear h hv hM hf2 hb2 hmx2 hha hg
  go_enter Try.func21, Try.ntmps21
  go_upto_region 1 with fail
  rw [← hw2]
  clear hw2
  go_wp2_with (go_at_call 42; (with_reducible refine Calls.mono HHA.out ?_); rintro o w3 ⟨rfl, hf3⟩; have HC3 := hide (HCL.out.fr hf3); have HF3 := hide (HF.out.trans hf3 (fun _ _ e => e)); clear hf3)
  go_end0
  exact ⟨rfl, HC3.out, HF3.out⟩
set_option maxRecDepth 100000 in
set_option maxHeartbeats 1000000 in
theorem spoil_bad (w : World) (B : Nat → Prop) (g gc bt bd bf : Nat) (D : Dk) (q given calls : Int) (Th : List (Int × Value)) (Di : List (ByteArray × Value)) (Fa : List (Int × Value)) (id : Int) (m : Nat) (v : Val) (c0 c1 c2 c3 c4 : Value) (h : Cl w B g gc bt bd bf D q given calls Th Di Fa) (Z : Nat → Prop) (hv : ∀ x ∈ Th, ∃ t : Tg, x.2 = t.val) (hM : V.MemX Z (m + 1) w v [c0, c1, c2, c3, c4]) (hbk : V.bulk (m + 1) v ≤ 2000000) (hg : (T.get Th id).isSome = true) (hA : attrE (m + 1) v ≠ 0) : Calls Try.prog 21 #[.pointer (some ⟨gc, 0, none⟩), .int .i64 id, .agg #[c0, c1, c2, c3, c4]] w fun o w' => o = .returned (.tuple #[]) ∧ Cl w' B g gc bt bd bf D q given calls Th Di Fa ∧ Fr w w' (fun _ => False) := by
  obtain ⟨al, cl, af, cf, rfl, rfl, rfl, rfl, rfl⟩ := hM.mem.form
  obtain ⟨w2, hw2⟩ : ∃ w2, w2 = w.alloc (.cells #[.int .i64 v.kind, .int .i64 v.n, .string v.s, .slice al v.l.length cl, .slice af v.f.length cf] 40) := ⟨_, rfl⟩
  have hf2 : Fr w w2 (fun _ => False) := by rw [hw2]; exact (Fr.refl _ _).alloc _
  have hb2 : w2.heap[w.heap.size]? = some (.cells #[.int .i64 v.kind, .int .i64 v.n, .string v.s, .slice al v.l.length cl, .slice af v.f.length cf] 40 (0, 0)) := by rw [hw2]; exact heap_alloc_new _ _
  have hmx2 := hM.fr (hf2.weak (ex1 := Z) (fun _ _ e => e.elim))
  have hha := has_any w2 B g gc bt bd bf D q given calls Th Di Fa id (h.fr hf2) hv
  rw [hg] at hha
  have HHA := hide hha
  have HCL := hide (h.fr hf2)
  have HF := hide hf2
  have HB2 := hide hb2
  have HAT : Hid (∀ W, Fr w2 W (fun _ => False) → Calls Try.prog 32 #[.agg #[.int .i64 v.kind, .int .i64 v.n, .string v.s, .slice al v.l.length cl, .slice af v.f.length cf]] W fun e w' => e = .returned (.iface 80 (.int .i64 (attrE (m + 1) v))) ∧ Below W.heap.size W w') := fun W hf => by
    have h1 := attributes_any (m + 1) W v _ _ _ _ _ (hmx2.fr (hf.weak (ex1 := Z) (fun _ _ e => e.elim))).mem hbk
    rw [show (if v.kind = 5 then V.fault (m + 1) v else 9) = attrE (m + 1) v from rfl, show V.errOf (attrE (m + 1) v) = .iface 80 (.int .i64 (attrE (m + 1) v)) by unfold V.errOf; rw [if_neg hA]] at h1
    exact h1
  clear h hv hM hf2 hb2 hmx2 hha hg hA
  generalize attrE (m + 1) v = ea at *
  go_enter Try.func21, Try.ntmps21
  go_upto_region 1 with fail
  rw [← hw2]
  clear hw2
  go_wp2_with fail
  refine HHA.out.mono ?_
  rintro o w3 ⟨rfl, hf3⟩
  have K := (hf3.block _ (Array.getElem?_eq_some_iff.1 HB2.out).1 (fun e => e)).trans HB2.out
  have a0 := cell_of_block K 0 _ rfl
  have a1 := cell_of_block K 1 _ rfl
  have a2 := cell_of_block K 2 _ rfl
  have a3 := cell_of_block K 3 _ rfl
  have a4 := cell_of_block K 4 _ rfl
  have HA3 := hide (HAT.out w3 hf3)
  have HC3 := hide (HCL.out.fr hf3)
  have HF3 := hide (HF.out.trans hf3 (fun _ _ e => e))
  clear hf3 K HHA HAT
  go_wp2_with (go_at_call 32; (with_reducible refine Calls.mono HA3.out ?_); rintro o w4 ⟨rfl, hb4⟩; have HC4 := hide (HC3.out.fr (fr_of_below hb4)); have HF4 := hide (HF3.out.trans (fr_of_below hb4) (fun _ _ e => e)); clear hb4)
  go_end0
  exact ⟨rfl, HC4.out, HF4.out⟩
set_option maxRecDepth 100000 in
set_option maxHeartbeats 1000000 in
theorem spoil_yes (w : World) (B : Nat → Prop) (g gc bt bd bf : Nat) (D : Dk) (q given calls : Int) (Th : List (Int × Value)) (Di : List (ByteArray × Value)) (Fa : List (Int × Value)) (id : Int) (m : Nat) (v : Val) (c0 c1 c2 c3 c4 : Value) (h : Cl w B g gc bt bd bf D q given calls Th Di Fa) (Z : Nat → Prop) (hv : ∀ x ∈ Th, ∃ t : Tg, x.2 = t.val) (hM : V.MemX Z (m + 1) w v [c0, c1, c2, c3, c4]) (hZ : ∀ c, Cl.own B gc bt bd bf c → Z c) (hZl : ∀ c, Z c → c < w.heap.size) (hB : ∀ x, B x → x < w.heap.size) (hbk : V.bulk (m + 1) v ≤ 2000000) (t0 : Tg) (hg : T.get Th id = some t0.val) (hA : attrE (m + 1) v = 0) : Calls Try.prog 21 #[.pointer (some ⟨gc, 0, none⟩), .int .i64 id, .agg #[c0, c1, c2, c3, c4]] w fun o w' => o = .returned (.tuple #[]) ∧ ∃ t : Tg, t.id = t0.id ∧ t.kind = t0.kind ∧ V.MemX Z (m + 1) w' v t.cells ∧ Cl w' B g gc bt bd bf D q given calls (T.put Th id t.val) Di Fa ∧ Fr w w' (fun c => c = bt) := by
  obtain ⟨al, cl, af, cf, rfl, rfl, rfl, rfl, rfl⟩ := hM.mem.form
  obtain ⟨w2, hw2⟩ : ∃ w2, w2 = w.alloc (.cells #[.int .i64 v.kind, .int .i64 v.n, .string v.s, .slice al v.l.length cl, .slice af v.f.length cf] 40) := ⟨_, rfl⟩
  have hf2 : Fr w w2 (fun _ => False) := by rw [hw2]; exact (Fr.refl _ _).alloc _
  have hb2 : w2.heap[w.heap.size]? = some (.cells #[.int .i64 v.kind, .int .i64 v.n, .string v.s, .slice al v.l.length cl, .slice af v.f.length cf] 40 (0, 0)) := by rw [hw2]; exact heap_alloc_new _ _
  have hmx2 := hM.fr (hf2.weak (ex1 := Z) (fun _ _ e => e.elim))
  have hha := has_any w2 B g gc bt bd bf D q given calls Th Di Fa id (h.fr hf2) hv
  have hg1 : (T.get Th id).isSome = true := by rw [hg]; rfl
  rw [hg1] at hha
  have HHA := hide hha
  have HF := hide hf2
  have HB2 := hide hb2
  have HAT : Hid (∀ W, Fr w2 W (fun _ => False) → Calls Try.prog 32 #[.agg #[.int .i64 v.kind, .int .i64 v.n, .string v.s, .slice al v.l.length cl, .slice af v.f.length cf]] W fun e w' => e = .returned .nilIface ∧ Below W.heap.size W w') := fun W hf => by
    have h1 := attributes_any (m + 1) W v _ _ _ _ _ (hmx2.fr (hf.weak (ex1 := Z) (fun _ _ e => e.elim))).mem hbk
    rw [show (if v.kind = 5 then V.fault (m + 1) v else 9) = attrE (m + 1) v from rfl, show V.errOf (attrE (m + 1) v) = .nilIface by rw [hA]; rfl] at h1
    exact h1
  have HCH : Hid (∀ W, Fr w2 W (fun _ => False) → Calls Try.prog 43 #[.pointer (some ⟨gc, 0, none⟩), .int .i64 id, .agg #[.int .i64 v.kind, .int .i64 v.n, .string v.s, .slice al v.l.length cl, .slice af v.f.length cf]] W fun o w' => o = .returned (.tuple #[]) ∧ ∃ t : Tg, t.id = t0.id ∧ t.kind = t0.kind ∧ V.MemX Z (m + 1) w' v t.cells ∧ Cl w' B g gc bt bd bf D q given calls (T.put Th id t.val) Di Fa ∧ Fr W w' (fun c => c = bt)) := fun W hf => by
    have hz : w.heap.size ≤ W.heap.size := Nat.le_trans hf2.size hf.size
    exact changeZ W B g gc bt bd bf D q given calls Th Di Fa id m v _ _ _ _ _ t0 ((h.fr hf2).fr hf) Z hZ (fun c hc => Nat.lt_of_lt_of_le (hZl c hc) hz) (fun c hc => Nat.lt_of_lt_of_le (hB c hc) hz) (hmx2.fr (hf.weak (ex1 := Z) (fun _ _ e => e.elim))) hbk hg
  clear h hv hM hf2 hb2 hmx2 hha hg hA hg1 hZ hZl hB
  go_enter Try.func21, Try.ntmps21
  go_upto_region 1 with fail
  rw [← hw2]
  clear hw2
  go_wp2_with fail
  refine HHA.out.mono ?_
  rintro o w3 ⟨rfl, hf3⟩
  have K := (hf3.block _ (Array.getElem?_eq_some_iff.1 HB2.out).1 (fun e => e)).trans HB2.out
  have a0 := cell_of_block K 0 _ rfl
  have a1 := cell_of_block K 1 _ rfl
  have a2 := cell_of_block K 2 _ rfl
  have a3 := cell_of_block K 3 _ rfl
  have a4 := cell_of_block K 4 _ rfl
  have HA3 := hide (HAT.out w3 hf3)
  have HF23 := hide hf3
  have HK := hide K
  clear hf3 K HHA HAT
  go_wp2_with fail
  refine HA3.out.mono ?_
  rintro o w4 ⟨rfl, hb4⟩
  clear a0 a1 a2 a3 a4
  have hf4 := fr_of_below hb4
  have K := (hf4.block _ (Array.getElem?_eq_some_iff.1 HK.out).1 (fun e => e)).trans HK.out
  have a0 := cell_of_block K 0 _ rfl
  have a1 := cell_of_block K 1 _ rfl
  have a2 := cell_of_block K 2 _ rfl
  have a3 := cell_of_block K 3 _ rfl
  have a4 := cell_of_block K 4 _ rfl
  have HC4 := hide (HCH.out w4 (HF23.out.trans hf4 (fun _ _ e => e)))
  have HF4 := hide ((HF.out.trans HF23.out (fun _ _ e => e)).trans hf4 (fun _ _ e => e))
  clear hf4 hb4 K HA3 HCH HF23 HF
  go_wp2_with fail
  refine HC4.out.mono ?_
  rintro o w5 ⟨rfl, t, t1, t2, t3, t4, t5⟩
  have HMX := hide t3
  have HCL := hide t4
  have HF5 := hide ((HF4.out.weak (ex1 := fun c => c = bt) (fun _ _ e => e.elim)).trans t5 (fun _ _ e => e))
  clear t3 t4 t5 HC4
  go_wp2_with fail
  go_end0
  exact ⟨rfl, t, t1, t2, HMX.out, HCL.out, HF5.out⟩
end Go.Proofs.Ytlmkpjdaoinmoaa
