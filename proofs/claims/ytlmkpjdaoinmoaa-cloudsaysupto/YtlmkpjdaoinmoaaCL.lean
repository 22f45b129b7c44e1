/- For TopToken and CloudSays: Update, but by a new token of a thing that is there. -/
import Derived.Test.YtlmkpjdaoinmoaaCK
namespace Go.Proofs.Ytlmkpjdaoinmoaa
open Go.RowKit
attribute [local go_sem ↓] Go.wp_at_zero Go.wp_at_succ
set_option maxRecDepth 100000 in
set_option maxHeartbeats 600000 in
/-- What Update does of a thing that is not there. -/
theorem updNone_any (w : World) (B : Nat → Prop) (g gc bt bd bf bc bi bv : Nat) (D : Dk) (q given calls : Int) (Th : List (Int × Value)) (Di : List (ByteArray × Value)) (Fa : List (Int × Value)) (id : Int) (h : Cl w B g gc bt bd bf D q given calls Th Di Fa)
    (hv : ∀ x ∈ Th, ∃ t : Tg, x.2 = t.val) (hg0 : T.get Th id = none) (h1 : w.cell? ⟨bc, 0, none⟩ = some (.pointer (some ⟨gc, 0, none⟩))) (h2 : w.cell? ⟨bi, 0, none⟩ = some (.int .i64 id)) :
    Calls Try.prog 41 #[.pointer (some ⟨bc, 0, none⟩), .pointer (some ⟨bi, 0, none⟩), .pointer (some ⟨bv, 0, none⟩)] w fun o w' => o = .returned (.tuple #[.int .i64 0, V.errOf 7]) ∧ Cl w' B g gc bt bd bf D q given calls Th Di Fa ∧ Fr w w' (fun c => c = gc ∨ c = bt) := by
  have hha := has_any w B g gc bt bd bf D q given calls Th Di Fa id h hv
  rw [hg0] at hha
  have HHA := hide hha
  have HH := hide h
  clear h hv hg0 hha
  go_enter Try.func41, Try.ntmps41
  go_wp2_with fail
  refine HHA.out.mono ?_
  rintro o w1 ⟨rfl, hf1⟩
  have HCL := hide (HH.out.fr hf1)
  have HF := hide (hf1.weak (ex1 := fun c => c = gc ∨ c = bt) (fun _ _ e => e.elim))
  clear hf1 HHA
  go_wp2_with fail
  go_ret2
  exact ⟨rfl, HCL.out, HF.out⟩
/-- The three boxes of Update. -/
def boxesU (w : World) (gc : Nat) (id : Int) (cs : Array Value) : World := ((w.alloc (.cells #[.pointer (some ⟨gc, 0, none⟩)] 27)).alloc (.cells #[.int .i64 id] 3)).alloc (.cells cs 40)
theorem boxesU_fr (w : World) (gc : Nat) (id : Int) (cs : Array Value) : Fr w (boxesU w gc id cs) (fun _ => False) := (((Fr.refl w _).alloc _).alloc _).alloc _
theorem boxesU_at (w : World) (gc : Nat) (id : Int) (cs : Array Value) : (boxesU w gc id cs).cell? ⟨w.heap.size, 0, none⟩ = some (.pointer (some ⟨gc, 0, none⟩)) ∧ (boxesU w gc id cs).cell? ⟨w.heap.size + 1, 0, none⟩ = some (.int .i64 id) ∧ (boxesU w gc id cs).heap[w.heap.size + 1 + 1]? = some (.cells cs 40 (0, 0)) ∧ (boxesU w gc id cs).heap.size = w.heap.size + 3 := by
  have s1 : (w.alloc (.cells #[.pointer (some ⟨gc, 0, none⟩)] 27)).heap.size = w.heap.size + 1 := by simp
  have s2 : ((w.alloc (.cells #[.pointer (some ⟨gc, 0, none⟩)] 27)).alloc (.cells #[.int .i64 id] 3)).heap.size = w.heap.size + 1 + 1 := by simp
  unfold boxesU
  refine ⟨?_, ?_, ?_, by simp⟩
  · have h0 := cell_of_block (heap_alloc_new w (.cells #[.pointer (some ⟨gc, 0, none⟩)] 27)) 0 _ rfl
    exact cell_frx (((Fr.refl _ (fun _ => False)).alloc _).alloc _) (fun e => e) h0
  · have h0 := cell_of_block (heap_alloc_new (w.alloc (.cells #[.pointer (some ⟨gc, 0, none⟩)] 27)) (.cells #[.int .i64 id] 3)) 0 _ rfl
    rw [s1] at h0
    exact cell_frx ((Fr.refl _ (fun _ => False)).alloc _) (fun e => e) h0
  · have h0 := heap_alloc_new ((w.alloc (.cells #[.pointer (some ⟨gc, 0, none⟩)] 27)).alloc (.cells #[.int .i64 id] 3)) (.cells cs 40)
    rw [s2] at h0
    exact h0
set_option maxRecDepth 100000 in
set_option maxHeartbeats 600000 in
theorem updateBad (w : World) (B : Nat → Prop) (g gc bt bd bf : Nat) (D : Dk) (q given calls : Int) (Th : List (Int × Value)) (Di : List (ByteArray × Value)) (Fa : List (Int × Value)) (tok : ByteArray) (id : Int) (m : Nat) (v : Val) (c0 c1 c2 c3 c4 : Value) (h : Cl w B g gc bt bd bf D q given calls Th Di Fa) (hM : V.MemX (Cl.own B gc bt bd bf) (m + 1) w v [c0, c1, c2, c3, c4]) (hbk : V.bulk (m + 1) v ≤ 2000000) (hA : attrE (m + 1) v ≠ 0) :
    Calls Try.prog 14 #[.pointer (some ⟨gc, 0, none⟩), .string tok, .int .i64 id, .agg #[c0, c1, c2, c3, c4]] w fun o w' => o = .returned (V.errOf (attrE (m + 1) v)) ∧ Cl w' B g gc bt bd bf D q given calls Th Di Fa ∧ Fr w w' (fun _ => False) := by
  obtain ⟨al, cl, af, cf, rfl, rfl, rfl, rfl, rfl⟩ := hM.mem.form
  obtain ⟨w2, hw2⟩ : ∃ w2, w2 = boxesU w gc id #[.int .i64 v.kind, .int .i64 v.n, .string v.s, .slice al v.l.length cl, .slice af v.f.length cf] := ⟨_, rfl⟩
  have hf2 : Fr w w2 (fun _ => False) := by rw [hw2]; exact boxesU_fr ..
  obtain ⟨b1, b2, b3, b4⟩ := boxesU_at w gc id #[.int .i64 v.kind, .int .i64 v.n, .string v.s, .slice al v.l.length cl, .slice af v.f.length cf]
  rw [← hw2] at b1 b2 b3 b4
  have hmx2 := hM.fr (hf2.weak (ex1 := Cl.own B gc bt bd bf) (fun _ _ e => e.elim))
  have HAT := hide (attributes_any (m + 1) w2 v _ _ _ _ _ hmx2.mem hbk)
  have hcl2 := h.fr hf2
  have hae : (if v.kind = 5 then V.fault (m + 1) v else 9) = attrE (m + 1) v := rfl
  rw [hae] at HAT
  clear hae
  have a0 := cell_of_block b3 0 _ rfl
  have a1 := cell_of_block b3 1 _ rfl
  have a2 := cell_of_block b3 2 _ rfl
  have a3 := cell_of_block b3 3 _ rfl
  have a4 := cell_of_block b3 4 _ rfl
  unfold boxesU at hw2
  have hE : V.errOf (attrE (m + 1) v) = .iface 80 (.int .i64 (attrE (m + 1) v)) := by unfold V.errOf; rw [if_neg hA]
  rw [hE] at HAT ⊢
  have HCL := hide hcl2
  have HF := hide hf2
  clear h hM hmx2 hcl2 hf2 b1 b2 b3 b4 hE hA
  generalize attrE (m + 1) v = ea at *
  go_enter Try.func14, Try.ntmps14
  go_wp2_with fail
  rw [← hw2]
  clear hw2
  go_wp2_with fail
  refine HAT.out.mono ?_
  rintro o w3 ⟨rfl, hb3⟩
  have HCL3 := hide (HCL.out.fr (fr_of_below hb3))
  have HF3 := hide (HF.out.trans (fr_of_below hb3) (fun _ _ e => e))
  clear hb3 HAT
  go_wp2_with fail
  go_ret
  exact ⟨rfl, HCL3.out, HF3.out⟩
set_option maxRecDepth 100000 in
set_option maxHeartbeats 600000 in
theorem updateOld (w : World) (B : Nat → Prop) (g gc bt bd bf : Nat) (D : Dk) (q given calls : Int) (Th : List (Int × Value)) (Di : List (ByteArray × Value)) (Fa : List (Int × Value)) (tok : ByteArray) (id : Int) (m : Nat) (v : Val) (c0 c1 c2 c3 c4 : Value) (h : Cl w B g gc bt bd bf D q given calls Th Di Fa) (hM : V.MemX (Cl.own B gc bt bd bf) (m + 1) w v [c0, c1, c2, c3, c4]) (hbk : V.bulk (m + 1) v ≤ 2000000) (hA : attrE (m + 1) v = 0) (hs : 0 ≤ D.steps ∧ D.steps ≤ 1000000) (hl : -9223372036854775808 ≤ D.left ∧ D.left ≤ 9223372036854775807) (hn : ¬ D.fails) (hc : 0 ≤ calls ∧ calls ≤ 1000000) (hF : T.get Fa calls = none) (p : Int × Int) (hp : S.get Di tok = some (dval p)) :
    Calls Try.prog 14 #[.pointer (some ⟨gc, 0, none⟩), .string tok, .int .i64 id, .agg #[c0, c1, c2, c3, c4]] w fun o w' => o = .returned (V.errOf (if p.1 = 2 then 0 else 15)) ∧ Cl w' B g gc bt bd bf D.step q given (calls + 1) Th Di Fa ∧ Fr w w' (fun c => c = g ∨ c = gc) := by
  obtain ⟨al, cl, af, cf, rfl, rfl, rfl, rfl, rfl⟩ := hM.mem.form
  obtain ⟨w2, hw2⟩ : ∃ w2, w2 = boxesU w gc id #[.int .i64 v.kind, .int .i64 v.n, .string v.s, .slice al v.l.length cl, .slice af v.f.length cf] := ⟨_, rfl⟩
  have hf2 : Fr w w2 (fun _ => False) := by rw [hw2]; exact boxesU_fr ..
  obtain ⟨b1, b2, b3, b4⟩ := boxesU_at w gc id #[.int .i64 v.kind, .int .i64 v.n, .string v.s, .slice al v.l.length cl, .slice af v.f.length cf]
  rw [← hw2] at b1 b2 b3 b4
  have hmx2 := hM.fr (hf2.weak (ex1 := Cl.own B gc bt bd bf) (fun _ _ e => e.elim))
  have HAT := hide (attributes_any (m + 1) w2 v _ _ _ _ _ hmx2.mem hbk)
  have hcl2 := h.fr hf2
  have hae : (if v.kind = 5 then V.fault (m + 1) v else 9) = attrE (m + 1) v := rfl
  rw [hae] at HAT
  clear hae
  have a0 := cell_of_block b3 0 _ rfl
  have a1 := cell_of_block b3 1 _ rfl
  have a2 := cell_of_block b3 2 _ rfl
  have a3 := cell_of_block b3 3 _ rfl
  have a4 := cell_of_block b3 4 _ rfl
  unfold boxesU at hw2
  have hE : V.errOf (attrE (m + 1) v) = .nilIface := by rw [hA]; rfl
  rw [hE] at HAT
  clear hE hA
  obtain ⟨e0, he0⟩ : ∃ e0, e0 = (if p.1 = 2 then 0 else 15) := ⟨_, rfl⟩
  obtain ⟨r0, hr0⟩ : ∃ r0, r0 = (if p.1 = 2 then p.2 else 0) := ⟨_, rfl⟩
  rw [← he0]
  have HC : Hid (∀ W, Fr w2 W (fun _ => False) → Calls Try.prog 34 #[.pointer (some ⟨gc, 0, none⟩), .string tok, .int .i64 2, .func (.func 41) #[] #[.pointer (some ⟨w.heap.size, 0, none⟩), .pointer (some ⟨w.heap.size + 1, 0, none⟩), .pointer (some ⟨w.heap.size + 1 + 1, 0, none⟩)]] W fun o w' => o = .returned (.tuple #[.int .i64 r0, V.errOf e0]) ∧ Cl w' B g gc bt bd bf D.step q given (calls + 1) Th Di Fa ∧ Fr W w' (fun c => c = g ∨ c = gc)) := fun W hf => by
    have := callOld_any W B g gc bt bd bf D q given calls Th Di Fa tok 2 (.func (.func 41) #[] #[.pointer (some ⟨w.heap.size, 0, none⟩), .pointer (some ⟨w.heap.size + 1, 0, none⟩), .pointer (some ⟨w.heap.size + 1 + 1, 0, none⟩)]) p (hcl2.fr hf) hp hs hl hn hc hF
    rw [← he0, ← hr0] at this
    exact this
  have HF := hide hf2
  clear h hM hmx2 hcl2 hf2 b3 b4 he0 hr0 hp hs hl hn hc hF
  go_enter Try.func14, Try.ntmps14
  go_wp2_with fail
  rw [← hw2]
  clear hw2
  go_wp2_with fail
  refine HAT.out.mono ?_
  rintro o w3 ⟨rfl, hb3⟩
  have hf3 := fr_of_below hb3
  have k2 := cell_frx hf3 (fun e => e) b2
  have k1 := cell_frx hf3 (fun e => e) b1
  have HC3 := hide (HC.out w3 hf3)
  have HF3 := hide (HF.out.trans hf3 (fun _ _ e => e))
  clear hb3 hf3 HAT HC
  go_wp2_with (first
    | (go_at_call 34; (with_reducible refine Calls.mono HC3.out ?_); rintro o w5 ⟨rfl, hcl5, hf5⟩; have HCL5 := hide hcl5; have HF5 := hide ((HF3.out.weak (ex1 := fun c => c = g ∨ c = gc) (fun _ _ e => e.elim)).trans hf5 (fun _ _ e => e)); clear hcl5 hf5))
  go_ret
  exact ⟨rfl, HCL5.out, HF5.out⟩
set_option maxRecDepth 100000 in
set_option maxHeartbeats 600000 in
theorem updateNone (w : World) (B : Nat → Prop) (g gc bt bd bf : Nat) (D : Dk) (q given calls : Int) (Th : List (Int × Value)) (Di : List (ByteArray × Value)) (Fa : List (Int × Value)) (tok : ByteArray) (id : Int) (m : Nat) (v : Val) (c0 c1 c2 c3 c4 : Value) (h : Cl w B g gc bt bd bf D q given calls Th Di Fa) (hM : V.MemX (Cl.own B gc bt bd bf) (m + 1) w v [c0, c1, c2, c3, c4]) (hbk : V.bulk (m + 1) v ≤ 2000000) (hA : attrE (m + 1) v = 0) (hs : 0 ≤ D.steps ∧ D.steps ≤ 1000000) (hl : -9223372036854775808 ≤ D.left ∧ D.left ≤ 9223372036854775807) (hn : ¬ D.fails) (hc : 0 ≤ calls ∧ calls ≤ 1000000) (hF : T.get Fa calls = none) (hp : S.get Di tok = none) (hv : ∀ x ∈ Th, ∃ t : Tg, x.2 = t.val) (hg0 : T.get Th id = none) (hB : ∀ x, B x → x < w.heap.size) :
    Calls Try.prog 14 #[.pointer (some ⟨gc, 0, none⟩), .string tok, .int .i64 id, .agg #[c0, c1, c2, c3, c4]] w fun o w' => o = .returned (V.errOf 7) ∧ Cl w' B g gc bt bd bf D.step q given (calls + 1) Th Di Fa ∧ Fr w w' (fun c => c = g ∨ c = gc ∨ c = bt ∨ c = bd) := by
  obtain ⟨al, cl, af, cf, rfl, rfl, rfl, rfl, rfl⟩ := hM.mem.form
  obtain ⟨w2, hw2⟩ : ∃ w2, w2 = boxesU w gc id #[.int .i64 v.kind, .int .i64 v.n, .string v.s, .slice al v.l.length cl, .slice af v.f.length cf] := ⟨_, rfl⟩
  have hf2 : Fr w w2 (fun _ => False) := by rw [hw2]; exact boxesU_fr ..
  obtain ⟨b1, b2, b3, b4⟩ := boxesU_at w gc id #[.int .i64 v.kind, .int .i64 v.n, .string v.s, .slice al v.l.length cl, .slice af v.f.length cf]
  rw [← hw2] at b1 b2 b3 b4
  have hmx2 := hM.fr (hf2.weak (ex1 := Cl.own B gc bt bd bf) (fun _ _ e => e.elim))
  have HAT := hide (attributes_any (m + 1) w2 v _ _ _ _ _ hmx2.mem hbk)
  have hcl2 := h.fr hf2
  have hae : (if v.kind = 5 then V.fault (m + 1) v else 9) = attrE (m + 1) v := rfl
  rw [hae] at HAT
  clear hae
  have a0 := cell_of_block b3 0 _ rfl
  have a1 := cell_of_block b3 1 _ rfl
  have a2 := cell_of_block b3 2 _ rfl
  have a3 := cell_of_block b3 3 _ rfl
  have a4 := cell_of_block b3 4 _ rfl
  unfold boxesU at hw2
  have hE : V.errOf (attrE (m + 1) v) = .nilIface := by rw [hA]; rfl
  rw [hE] at HAT
  clear hE hA
  have HC : Hid (∀ W, Fr w2 W (fun _ => False) → Calls Try.prog 34 #[.pointer (some ⟨gc, 0, none⟩), .string tok, .int .i64 2, .func (.func 41) #[] #[.pointer (some ⟨w.heap.size, 0, none⟩), .pointer (some ⟨w.heap.size + 1, 0, none⟩), .pointer (some ⟨w.heap.size + 1 + 1, 0, none⟩)]] W fun o w' => o = .returned (.tuple #[.int .i64 0, V.errOf 7]) ∧ Cl w' B g gc bt bd bf D.step q given (calls + 1) Th Di Fa ∧ Fr W w' (fun c => c = g ∨ c = gc ∨ c = bt ∨ c = bd)) := fun W hf => by
    have hgl0 := hB g h.disk.has_g
    have hc0 : gc < w.heap.size := (Array.getElem?_eq_some_iff.1 h.blk).1
    exact callNew41_any W B g gc bt bd bf w.heap.size (w.heap.size + 1) (w.heap.size + 1 + 1) D q given calls Th Di Fa tok 2 0 7 Th given (hcl2.fr hf) hp hs hl hn hc hF (fun W2 hcl hfr => updNone_any W2 B g gc bt bd bf w.heap.size (w.heap.size + 1) (w.heap.size + 1 + 1) D.step q given (calls + 1) Th Di Fa id hcl hv hg0 (cell_frx hfr (by omega) (cell_frx hf (fun e => e) b1)) (cell_frx hfr (by omega) (cell_frx hf (fun e => e) b2)))
  have HF := hide hf2
  clear h hM hmx2 hcl2 hf2 b3 b4 hp hs hl hn hc hF hv hg0 hB
  go_enter Try.func14, Try.ntmps14
  go_wp2_with fail
  rw [← hw2]
  clear hw2
  go_wp2_with fail
  refine HAT.out.mono ?_
  rintro o w3 ⟨rfl, hb3⟩
  have hf3 := fr_of_below hb3
  have k2 := cell_frx hf3 (fun e => e) b2
  have k1 := cell_frx hf3 (fun e => e) b1
  have HC3 := hide (HC.out w3 hf3)
  have HF3 := hide (HF.out.trans hf3 (fun _ _ e => e))
  clear hb3 hf3 HAT HC
  go_wp2_with (first
    | (go_at_call 34; (with_reducible refine Calls.mono HC3.out ?_); rintro o w5 ⟨rfl, hcl5, hf5⟩; have HCL5 := hide hcl5; have HF5 := hide ((HF3.out.weak (ex1 := fun c => c = g ∨ c = gc ∨ c = bt ∨ c = bd) (fun _ _ e => e.elim)).trans hf5 (fun _ _ e => e)); clear hcl5 hf5))
  go_ret
  exact ⟨rfl, HCL5.out, HF5.out⟩
end Go.Proofs.Ytlmkpjdaoinmoaa
