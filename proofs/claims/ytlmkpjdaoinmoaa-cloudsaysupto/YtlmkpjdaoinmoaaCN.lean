/- For TopToken and CloudSays: copied; SameThing. -/
import Derived.Test.YtlmkpjdaoinmoaaCM
namespace Go.Proofs.Ytlmkpjdaoinmoaa
open Go.RowKit
attribute [local go_sem ↓] Go.wp_at_zero Go.wp_at_succ
set_option maxRecDepth 100000 in
set_option maxHeartbeats 600000 in
/-- A copy of a thing: its attributes lie apart. -/
theorem copied_any (ex : Nat → Prop) (m : Nat) (w : World) (t : Tg) (v : Val) (hM : V.MemX ex (m + 1) w v t.cells) (hex : ∀ c, ex c → c < w.heap.size) (hbk : V.bulk (m + 1) v ≤ 2000000) :
    Calls Try.prog 46 #[t.val] w fun o w' => ∃ t2 : Tg, o = .returned t2.val ∧ t2.id = t.id ∧ t2.kind = t.kind ∧ V.MemX ex (m + 1) w' v t2.cells ∧ Below w.heap.size w w' := by
  obtain ⟨w2, hw2⟩ : ∃ w2, w2 = (w.alloc (.cells #[.int .i64 t.id, .string t.kind, .int .i64 t.k, .int .i64 t.n, .string t.s, .slice t.la t.ln t.lc, .slice t.fa t.fn t.fc] 51)).alloc (.cells #[.int .i64 0, .string ⟨#[]⟩, .int .i64 0, .int .i64 0, .string ⟨#[]⟩, .slice none 0 0, .slice none 0 0] 51) := ⟨_, rfl⟩
  have hf2 : Fr w w2 (fun _ => False) := by rw [hw2]; exact ((Fr.refl _ _).alloc _).alloc _
  have hs2 : w2.heap.size = w.heap.size + 2 := by rw [hw2]; simp
  have hb0 : w2.heap[w.heap.size]? = some (.cells #[.int .i64 t.id, .string t.kind, .int .i64 t.k, .int .i64 t.n, .string t.s, .slice t.la t.ln t.lc, .slice t.fa t.fn t.fc] 51 (0, 0)) := by
    rw [hw2]
    exact ((World.grownBy_alloc (w.alloc _) _ none).block _ (by simp) (by simp)).trans (heap_alloc_new w _)
  have hb1 : w2.heap[w.heap.size + 1]? = some (.cells #[.int .i64 0, .string ⟨#[]⟩, .int .i64 0, .int .i64 0, .string ⟨#[]⟩, .slice none 0 0, .slice none 0 0] 51 (0, 0)) := by
    have h0 := heap_alloc_new (w.alloc (.cells #[.int .i64 t.id, .string t.kind, .int .i64 t.k, .int .i64 t.n, .string t.s, .slice t.la t.ln t.lc, .slice t.fa t.fn t.fc] 51)) (.cells #[.int .i64 0, .string ⟨#[]⟩, .int .i64 0, .int .i64 0, .string ⟨#[]⟩, .slice none 0 0, .slice none 0 0] 51)
    rw [← hw2, World.size_alloc] at h0
    exact h0
  have hmx2 : V.MemX (fun c => ex c ∨ c = w.heap.size ∨ c = w.heap.size + 1) (m + 1) w2 v t.cells := (hM.more (ex2 := fun c => ex c ∨ c = w.heap.size ∨ c = w.heap.size + 1) (fun c e => e.imp (fun e => e) (fun e => by omega))).fr (hf2.weak (fun _ _ e => e.elim))
  have hex2 : ∀ c, (ex c ∨ c = w.heap.size ∨ c = w.heap.size + 1) → c < w2.heap.size := by
    intro c hc
    rcases hc with hc | hc | hc
    · have := hex c hc; omega
    · omega
    · omega
  unfold Tg.cells at hmx2
  have HCP := hide (copyX_any (fun c => ex c ∨ c = w.heap.size ∨ c = w.heap.size + 1) m w2 v _ _ _ _ _ hmx2 hex2 hbk)
  have HEX := hide hex
  clear hM hmx2 hex2 hex
  unfold Tg.val
  go_enter Try.func46, Try.ntmps46
  go_wp2_with fail
  rw [← hw2]
  clear hw2
  have q2 := cell_of_block hb0 2 _ rfl
  have q3 := cell_of_block hb0 3 _ rfl
  have q4 := cell_of_block hb0 4 _ rfl
  have q5 := cell_of_block hb0 5 _ rfl
  have q6 := cell_of_block hb0 6 _ rfl
  go_wp2_with fail
  refine HCP.out.mono ?_
  rintro o w3 ⟨⟨e0, e1, e2, e3, e4, rfl, hmx3⟩, hb3⟩
  obtain ⟨al3, cl3, af3, cf3, rfl, rfl, rfl, rfl, rfl⟩ := hmx3.mem.form
  clear q2 q3 q4 q5 q6
  have hk0 := (hb3.block _ (Array.getElem?_eq_some_iff.1 hb0).1).trans hb0
  have hk1 := (hb3.block _ (Array.getElem?_eq_some_iff.1 hb1).1).trans hb1
  have q0 := cell_of_block hk0 0 _ rfl
  have q1 := cell_of_block hk0 1 _ rfl
  have q2 := cell_of_block hk0 2 _ rfl
  have q3 := cell_of_block hk0 3 _ rfl
  have q4 := cell_of_block hk0 4 _ rfl
  have q5 := cell_of_block hk0 5 _ rfl
  have q6 := cell_of_block hk0 6 _ rfl
  have r2 := free_of_block hk0 2
  have r3 := free_of_block hk0 3
  have r4 := free_of_block hk0 4
  have r5 := free_of_block hk0 5
  have r6 := free_of_block hk0 6
  obtain ⟨w4, hw4⟩ : ∃ w4, w4 = ((((w3.setCell ⟨w.heap.size, 2, none⟩ (.int .i64 v.kind)).setCell ⟨w.heap.size, 3, none⟩ (.int .i64 v.n)).setCell ⟨w.heap.size, 4, none⟩ (.string v.s)).setCell ⟨w.heap.size, 5, none⟩ (.slice al3 v.l.length cl3)).setCell ⟨w.heap.size, 6, none⟩ (.slice af3 v.f.length cf3) := ⟨_, rfl⟩
  have hb4 : w4.heap[w.heap.size]? = some (.cells #[.int .i64 t.id, .string t.kind, .int .i64 v.kind, .int .i64 v.n, .string v.s, .slice al3 v.l.length cl3, .slice af3 v.f.length cf3] 51 (0, 0)) := by
    rw [hw4]
    simp [World.setCell, Array.getElem?_modify, hk0]
  have hf4 : Fr w3 w4 (fun c => c = w.heap.size) := by
    rw [hw4]
    exact (((((Fr.refl w3 (fun c => c = w.heap.size)).set ⟨w.heap.size, 2, none⟩ _ (fun _ => rfl)).set ⟨w.heap.size, 3, none⟩ _ (fun _ => rfl)).set ⟨w.heap.size, 4, none⟩ _ (fun _ => rfl)).set ⟨w.heap.size, 5, none⟩ _ (fun _ => rfl)).set ⟨w.heap.size, 6, none⟩ _ (fun _ => rfl)
  have hk4 := (hf4.block (w.heap.size + 1) (Array.getElem?_eq_some_iff.1 hk1).1 (by omega)).trans hk1
  obtain ⟨w5, hw5⟩ : ∃ w5, w5 = ((((((w4.setCell ⟨w.heap.size + 1, 0, none⟩ (.int .i64 t.id)).setCell ⟨w.heap.size + 1, 1, none⟩ (.string t.kind)).setCell ⟨w.heap.size + 1, 2, none⟩ (.int .i64 v.kind)).setCell ⟨w.heap.size + 1, 3, none⟩ (.int .i64 v.n)).setCell ⟨w.heap.size + 1, 4, none⟩ (.string v.s)).setCell ⟨w.heap.size + 1, 5, none⟩ (.slice al3 v.l.length cl3)).setCell ⟨w.heap.size + 1, 6, none⟩ (.slice af3 v.f.length cf3) := ⟨_, rfl⟩
  have hb5 : w5.heap[w.heap.size + 1]? = some (.cells #[.int .i64 t.id, .string t.kind, .int .i64 v.kind, .int .i64 v.n, .string v.s, .slice al3 v.l.length cl3, .slice af3 v.f.length cf3] 51 (0, 0)) := by
    rw [hw5]
    simp [World.setCell, Array.getElem?_modify, hk4]
  have hf5 : Fr w4 w5 (fun c => c = w.heap.size + 1) := by
    rw [hw5]
    exact (((((((Fr.refl w4 (fun c => c = w.heap.size + 1)).set ⟨w.heap.size + 1, 0, none⟩ _ (fun _ => rfl)).set ⟨w.heap.size + 1, 1, none⟩ _ (fun _ => rfl)).set ⟨w.heap.size + 1, 2, none⟩ _ (fun _ => rfl)).set ⟨w.heap.size + 1, 3, none⟩ _ (fun _ => rfl)).set ⟨w.heap.size + 1, 4, none⟩ _ (fun _ => rfl)).set ⟨w.heap.size + 1, 5, none⟩ _ (fun _ => rfl)).set ⟨w.heap.size + 1, 6, none⟩ _ (fun _ => rfl)
  have hmx5 : V.MemX ex (m + 1) w5 v [.int .i64 v.kind, .int .i64 v.n, .string v.s, .slice al3 v.l.length cl3, .slice af3 v.f.length cf3] :=
    ((hmx3.fr (hf4.weak (fun _ _ e => .inr (.inl e)))).fr (hf5.weak (fun _ _ e => .inr (.inr e)))).more (fun c e => .inl (.inl e))
  have hf05 : Fr w w5 (fun _ => False) := ((hf2.trans (fr_of_below hb3) (fun _ _ e => e)).trans hf4 (fun c hc e => by omega)).trans hf5 (fun c hc e => by omega)
  have s0 := cell_of_block hb4 0 _ rfl
  have s1 := cell_of_block hb4 1 _ rfl
  have s2 := cell_of_block hb4 2 _ rfl
  have s3 := cell_of_block hb4 3 _ rfl
  have s4 := cell_of_block hb4 4 _ rfl
  have s5 := cell_of_block hb4 5 _ rfl
  have s6 := cell_of_block hb4 6 _ rfl
  have p0 := cell_of_block hk4 0 _ rfl
  have p1 := cell_of_block hk4 1 _ rfl
  have p2 := cell_of_block hk4 2 _ rfl
  have p3 := cell_of_block hk4 3 _ rfl
  have p4 := cell_of_block hk4 4 _ rfl
  have p5 := cell_of_block hk4 5 _ rfl
  have p6 := cell_of_block hk4 6 _ rfl
  have y0 := free_of_block hk4 0
  have y1 := free_of_block hk4 1
  have y2 := free_of_block hk4 2
  have y3 := free_of_block hk4 3
  have y4 := free_of_block hk4 4
  have y5 := free_of_block hk4 5
  have y6 := free_of_block hk4 6
  go_upto_region 2 with (fail)
  rw [← hw4]
  clear hw4 q0 q1 q2 q3 q4 q5 q6 r2 r3 r4 r5 r6 hk0 hk1
  have HMX := hide hmx5
  have HF := hide hf05
  clear hmx5 hf05 hf4 hf5 hb4 hmx3 hb3 HCP HEX hk4 hb0 hb1 hf2
  have z0 := cell_of_block hb5 0 _ rfl
  have z1 := cell_of_block hb5 1 _ rfl
  have z2 := cell_of_block hb5 2 _ rfl
  have z3 := cell_of_block hb5 3 _ rfl
  have z4 := cell_of_block hb5 4 _ rfl
  have z5 := cell_of_block hb5 5 _ rfl
  have z6 := cell_of_block hb5 6 _ rfl
  clear hb5
  go_wp2_with fail
  rw [← hw5]
  clear hw5
  refine bodyPost_ret (v := .agg #[.int .i64 t.id, .string t.kind, .int .i64 v.kind, .int .i64 v.n, .string v.s, .slice al3 v.l.length cl3, .slice af3 v.f.length cf3]) (by simp [results, Try.results46, go_sem, z0, z1, z2, z3, z4, z5, z6]) rfl ?_
  exact ⟨⟨t.id, t.kind, v.kind, v.n, v.s, al3, v.l.length, cl3, af3, v.f.length, cf3⟩, rfl, rfl, rfl, HMX.out, HF.out.below (Nat.le_refl _) (fun _ e => e.elim)⟩
set_option maxRecDepth 100000 in
set_option maxHeartbeats 600000 in
/-- Two things: the same number, kind, attributes? -/
theorem sameThing_any (sm : Val → Val → Bool) (hsm : V.Says sm) (m : Nat) (w : World) (a b : Tg) (va vb : Val) (ha : V.Mem (m + 1) w va a.cells) (hb : V.Mem (m + 1) w vb b.cells) (hbk : V.bulk (m + 1) va ≤ 2000000) (hbk2 : V.bulk (m + 1) vb ≤ 2000000) :
    Calls Try.prog 18 #[a.val, b.val] w fun o w' => o = .returned (.bool (decide (a.id = b.id) && (decide (a.kind = b.kind) && sm va vb))) ∧ Below w.heap.size w w' := by
  obtain ⟨w2, hw2⟩ : ∃ w2, w2 = (w.alloc (.cells #[.int .i64 a.id, .string a.kind, .int .i64 a.k, .int .i64 a.n, .string a.s, .slice a.la a.ln a.lc, .slice a.fa a.fn a.fc] 51)).alloc (.cells #[.int .i64 b.id, .string b.kind, .int .i64 b.k, .int .i64 b.n, .string b.s, .slice b.la b.ln b.lc, .slice b.fa b.fn b.fc] 51) := ⟨_, rfl⟩
  have hf2 : Below w.heap.size w w2 := by rw [hw2]; exact ((Below.refl _ _).alloc (Nat.le_refl _) _).alloc (by simp) _
  have hb0 : w2.heap[w.heap.size]? = some (.cells #[.int .i64 a.id, .string a.kind, .int .i64 a.k, .int .i64 a.n, .string a.s, .slice a.la a.ln a.lc, .slice a.fa a.fn a.fc] 51 (0, 0)) := by
    rw [hw2]
    exact ((World.grownBy_alloc (w.alloc _) _ none).block _ (by simp) (by simp)).trans (heap_alloc_new w _)
  have hb1 : w2.heap[w.heap.size + 1]? = some (.cells #[.int .i64 b.id, .string b.kind, .int .i64 b.k, .int .i64 b.n, .string b.s, .slice b.la b.ln b.lc, .slice b.fa b.fn b.fc] 51 (0, 0)) := by
    have h0 := heap_alloc_new (w.alloc (.cells #[.int .i64 a.id, .string a.kind, .int .i64 a.k, .int .i64 a.n, .string a.s, .slice a.la a.ln a.lc, .slice a.fa a.fn a.fc] 51)) (.cells #[.int .i64 b.id, .string b.kind, .int .i64 b.k, .int .i64 b.n, .string b.s, .slice b.la b.ln b.lc, .slice b.fa b.fn b.fc] 51)
    rw [← hw2, World.size_alloc] at h0
    exact h0
  have HAL := hide (refAlike_any sm hsm (m + 1) w2 va vb _ _ _ _ _ _ _ _ _ _ (V.Mem.kept (m + 1) ha hf2) (V.Mem.kept (m + 1) hb hf2) hbk hbk2)
  have HF2 := hide hf2
  have HB0 := hide hb0
  have HB1 := hide hb1
  have q2 := cell_of_block hb0 2 _ rfl
  have q3 := cell_of_block hb0 3 _ rfl
  have q4 := cell_of_block hb0 4 _ rfl
  have q5 := cell_of_block hb0 5 _ rfl
  have q6 := cell_of_block hb0 6 _ rfl
  have p2 := cell_of_block hb1 2 _ rfl
  have p3 := cell_of_block hb1 3 _ rfl
  have p4 := cell_of_block hb1 4 _ rfl
  have p5 := cell_of_block hb1 5 _ rfl
  have p6 := cell_of_block hb1 6 _ rfl
  clear ha hb hf2 hb0 hb1
  generalize sm va vb = ss at *
  unfold Tg.val
  go_enter Try.func18, Try.ntmps18
  go_upto_region 1 with (fail)
  rw [← hw2]
  clear hw2
  go_wp2_with fail
  refine HAL.out.mono ?_
  rintro o w3 ⟨rfl, hb3⟩
  have hk0 := (hb3.block _ (Array.getElem?_eq_some_iff.1 HB0.out).1).trans HB0.out
  have hk1 := (hb3.block _ (Array.getElem?_eq_some_iff.1 HB1.out).1).trans HB1.out
  have s0 := cell_of_block hk0 0 _ rfl
  have s1 := cell_of_block hk0 1 _ rfl
  have t0 := cell_of_block hk1 0 _ rfl
  have t1 := cell_of_block hk1 1 _ rfl
  have HF3 := hide (HF2.out.trans (hb3.mono HF2.out.size))
  clear hk0 hk1 hb3 HAL HF2 HB0 HB1 q2 q3 q4 q5 q6 p2 p3 p4 p5 p6
  by_cases h1 : a.id = b.id
  · by_cases h2 : a.kind = b.kind
    · go_wp2_with fail
      go_ret
      exact ⟨by simp [h1, h2], HF3.out⟩
    · have h3 : ¬ a.kind.toList = b.kind.toList := fun e => h2 (V.toList_inj e)
      go_wp2_with fail
      go_ret
      exact ⟨by simp [h1, h2], HF3.out⟩
  · go_wp2_with fail
    go_ret
    exact ⟨by simp [h1], HF3.out⟩
end Go.Proofs.Ytlmkpjdaoinmoaa
