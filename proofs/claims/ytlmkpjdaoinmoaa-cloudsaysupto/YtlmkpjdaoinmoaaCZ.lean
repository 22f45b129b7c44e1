/- For CloudSays: Read of the program. -/
import Derived.Test.YtlmkpjdaoinmoaaCY
namespace Go.Proofs.Ytlmkpjdaoinmoaa
open Go.RowKit
attribute [local go_sem ↓] Go.wp_at_zero Go.wp_at_succ
theorem set7 (w : World) (b : Nat) (o0 o1 o2 o3 o4 o5 o6 u0 u1 u2 u3 u4 u5 u6 : Value) (h : w.heap[b]? = some (.cells #[o0, o1, o2, o3, o4, o5, o6] 51 (0, 0))) :
    ∃ w5, w5 = ((((((w.setCell ⟨b, 0, none⟩ (u0)).setCell ⟨b, 1, none⟩ (u1)).setCell ⟨b, 2, none⟩ (u2)).setCell ⟨b, 3, none⟩ (u3)).setCell ⟨b, 4, none⟩ (u4)).setCell ⟨b, 5, none⟩ (u5)).setCell ⟨b, 6, none⟩ (u6) ∧ w5.heap[b]? = some (.cells #[u0, u1, u2, u3, u4, u5, u6] 51 (0, 0)) ∧ Fr w w5 (fun c => c = b) := by
  refine ⟨_, rfl, ?_, ?_⟩
  · simp [World.setCell, Array.getElem?_modify, h]
  · exact (((((((Fr.refl w (fun c => c = b)).set ⟨b, 0, none⟩ _ (fun _ => rfl)).set ⟨b, 1, none⟩ _ (fun _ => rfl)).set ⟨b, 2, none⟩ _ (fun _ => rfl)).set ⟨b, 3, none⟩ _ (fun _ => rfl)).set ⟨b, 4, none⟩ _ (fun _ => rfl)).set ⟨b, 5, none⟩ _ (fun _ => rfl)).set ⟨b, 6, none⟩ _ (fun _ => rfl)
set_option maxRecDepth 100000 in
set_option maxHeartbeats 1000000 in
theorem read_down (w : World) (B : Nat → Prop) (g gc bt bd bf : Nat) (D : Dk) (q given calls : Int) (Th : List (Int × Value)) (Di : List (ByteArray × Value)) (Fa : List (Int × Value)) (id : Int) (h : Cl w B g gc bt bd bf D q given calls Th Di Fa) (hd : D.down = true) : Calls Try.prog 16 #[.pointer (some ⟨gc, 0, none⟩), .int .i64 id] w fun o w' => o = .returned (.tuple #[.agg #[.int .i64 0, .string ⟨#[]⟩, .int .i64 0, .int .i64 0, .string ⟨#[]⟩, .slice none 0 0, .slice none 0 0], .iface 80 (.int .i64 10)]) ∧ Fr w w' (fun _ => False) := by
  obtain ⟨w2, hw2⟩ : ∃ w2, w2 = w.alloc (.cells #[.int .i64 0, .string ⟨#[]⟩, .int .i64 0, .int .i64 0, .string ⟨#[]⟩, .slice none 0 0, .slice none 0 0] 51) := ⟨_, rfl⟩
  have hf2 : Fr w w2 (fun _ => False) := by rw [hw2]; exact (Fr.refl _ _).alloc _
  have hb2 : w2.heap[w.heap.size]? = some (.cells #[.int .i64 0, .string ⟨#[]⟩, .int .i64 0, .int .i64 0, .string ⟨#[]⟩, .slice none 0 0, .slice none 0 0] 51 (0, 0)) := by rw [hw2]; exact heap_alloc_new _ _
  have y0 := cell_of_block (h.fr hf2).blk 0 _ rfl
  have HDN := hide (down_any w2 B g D (h.fr hf2).disk)
  have HCL := hide (h.fr hf2)
  have HF := hide hf2
  have HB2 := hide hb2
  clear h hf2
  rw [hd] at HDN
  have q0 := cell_of_block hb2 0 _ rfl
  have q1 := cell_of_block hb2 1 _ rfl
  have q2 := cell_of_block hb2 2 _ rfl
  have q3 := cell_of_block hb2 3 _ rfl
  have q4 := cell_of_block hb2 4 _ rfl
  have q5 := cell_of_block hb2 5 _ rfl
  have q6 := cell_of_block hb2 6 _ rfl
  have r0 := free_of_block hb2 0
  have r1 := free_of_block hb2 1
  have r2 := free_of_block hb2 2
  have r3 := free_of_block hb2 3
  have r4 := free_of_block hb2 4
  have r5 := free_of_block hb2 5
  have r6 := free_of_block hb2 6
  go_enter Try.func16, Try.ntmps16
  go_upto_region 1 with fail
  rw [← hw2]
  clear hw2
  go_wp2_with fail
  refine HDN.out.mono ?_
  rintro o w3 ⟨rfl, hw3⟩
  rw [hw3]
  clear hw3 HDN
  obtain ⟨w5, hw5, hb5, hf5⟩ := set7 w2 w.heap.size _ _ _ _ _ _ _ (.int .i64 0) (.string ⟨#[]⟩) (.int .i64 0) (.int .i64 0) (.string ⟨#[]⟩) (.slice none 0 0) (.slice none 0 0) HB2.out
  go_wp2_with fail
  rw [← hw5]
  have z0 := cell_of_block hb5 0 _ rfl
  have z1 := cell_of_block hb5 1 _ rfl
  have z2 := cell_of_block hb5 2 _ rfl
  have z3 := cell_of_block hb5 3 _ rfl
  have z4 := cell_of_block hb5 4 _ rfl
  have z5 := cell_of_block hb5 5 _ rfl
  have z6 := cell_of_block hb5 6 _ rfl
  refine bodyPost_ret (v := .tuple #[.agg #[.int .i64 0, .string ⟨#[]⟩, .int .i64 0, .int .i64 0, .string ⟨#[]⟩, .slice none 0 0, .slice none 0 0], .iface 80 (.int .i64 10)]) (by simp [results, Try.results16, go_sem, z0, z1, z2, z3, z4, z5, z6]) rfl ?_
  exact ⟨rfl, HF.out.trans hf5 (fun c hc e => by omega)⟩
set_option maxRecDepth 100000 in
set_option maxHeartbeats 1000000 in
theorem read_none (w : World) (B : Nat → Prop) (g gc bt bd bf : Nat) (D : Dk) (q given calls : Int) (Th : List (Int × Value)) (Di : List (ByteArray × Value)) (Fa : List (Int × Value)) (id : Int) (h : Cl w B g gc bt bd bf D q given calls Th Di Fa) (hv : ∀ x ∈ Th, ∃ t : Tg, x.2 = t.val) (hd : D.down = false) (hg : T.get Th id = none) : Calls Try.prog 16 #[.pointer (some ⟨gc, 0, none⟩), .int .i64 id] w fun o w' => o = .returned (.tuple #[.agg #[.int .i64 0, .string ⟨#[]⟩, .int .i64 0, .int .i64 0, .string ⟨#[]⟩, .slice none 0 0, .slice none 0 0], .iface 80 (.int .i64 7)]) ∧ Fr w w' (fun _ => False) := by
  obtain ⟨w2, hw2⟩ : ∃ w2, w2 = w.alloc (.cells #[.int .i64 0, .string ⟨#[]⟩, .int .i64 0, .int .i64 0, .string ⟨#[]⟩, .slice none 0 0, .slice none 0 0] 51) := ⟨_, rfl⟩
  have hf2 : Fr w w2 (fun _ => False) := by rw [hw2]; exact (Fr.refl _ _).alloc _
  have hb2 : w2.heap[w.heap.size]? = some (.cells #[.int .i64 0, .string ⟨#[]⟩, .int .i64 0, .int .i64 0, .string ⟨#[]⟩, .slice none 0 0, .slice none 0 0] 51 (0, 0)) := by rw [hw2]; exact heap_alloc_new _ _
  have y0 := cell_of_block (h.fr hf2).blk 0 _ rfl
  have HDN := hide (down_any w2 B g D (h.fr hf2).disk)
  have HCL := hide (h.fr hf2)
  have HF := hide hf2
  have HB2 := hide hb2
  have hha := has_any w2 B g gc bt bd bf D q given calls Th Di Fa id (h.fr hf2) hv
  rw [hg] at hha
  have HHA := hide hha
  clear h hf2 hha hv hg
  rw [hd] at HDN
  go_enter Try.func16, Try.ntmps16
  go_upto_region 1 with fail
  rw [← hw2]
  clear hw2
  go_wp2_with fail
  refine HDN.out.mono ?_
  rintro o w3 ⟨rfl, hw3⟩
  rw [hw3]
  clear hw3 HDN
  go_wp2_with fail
  refine HHA.out.mono ?_
  rintro o w4 ⟨rfl, hf4⟩
  have hk4 := (hf4.block _ (Array.getElem?_eq_some_iff.1 HB2.out).1 (fun e => e)).trans HB2.out
  have HK4 := hide hk4
  have q0 := cell_of_block hk4 0 _ rfl
  have q1 := cell_of_block hk4 1 _ rfl
  have q2 := cell_of_block hk4 2 _ rfl
  have q3 := cell_of_block hk4 3 _ rfl
  have q4 := cell_of_block hk4 4 _ rfl
  have q5 := cell_of_block hk4 5 _ rfl
  have q6 := cell_of_block hk4 6 _ rfl
  have r0 := free_of_block hk4 0
  have r1 := free_of_block hk4 1
  have r2 := free_of_block hk4 2
  have r3 := free_of_block hk4 3
  have r4 := free_of_block hk4 4
  have r5 := free_of_block hk4 5
  have r6 := free_of_block hk4 6
  have HF4 := hide hf4
  clear hf4 hk4 HHA
  obtain ⟨w5, hw5, hb5, hf5⟩ := set7 w4 w.heap.size _ _ _ _ _ _ _ (.int .i64 0) (.string ⟨#[]⟩) (.int .i64 0) (.int .i64 0) (.string ⟨#[]⟩) (.slice none 0 0) (.slice none 0 0) HK4.out
  go_wp2_with fail
  rw [← hw5]
  have z0 := cell_of_block hb5 0 _ rfl
  have z1 := cell_of_block hb5 1 _ rfl
  have z2 := cell_of_block hb5 2 _ rfl
  have z3 := cell_of_block hb5 3 _ rfl
  have z4 := cell_of_block hb5 4 _ rfl
  have z5 := cell_of_block hb5 5 _ rfl
  have z6 := cell_of_block hb5 6 _ rfl
  refine bodyPost_ret (v := .tuple #[.agg #[.int .i64 0, .string ⟨#[]⟩, .int .i64 0, .int .i64 0, .string ⟨#[]⟩, .slice none 0 0, .slice none 0 0], .iface 80 (.int .i64 7)]) (by simp [results, Try.results16, go_sem, z0, z1, z2, z3, z4, z5, z6]) rfl ?_
  exact ⟨rfl, (HF.out.trans HF4.out (fun _ _ e => e)).trans hf5 (fun c hc e => by omega)⟩
set_option maxRecDepth 100000 in
set_option maxHeartbeats 1000000 in
theorem read_ok (w : World) (B : Nat → Prop) (g gc bt bd bf : Nat) (D : Dk) (q given calls : Int) (Th : List (Int × Value)) (Di : List (ByteArray × Value)) (Fa : List (Int × Value)) (id : Int) (h : Cl w B g gc bt bd bf D q given calls Th Di Fa) (hv : ∀ x ∈ Th, ∃ t : Tg, x.2 = t.val) (hd : D.down = false) (t0 : Tg) (hg : T.get Th id = some t0.val) (Z : Nat → Prop) (hZl : ∀ c, Z c → c < w.heap.size) (m : Nat) (v : Val) (hM : V.MemX Z (m + 1) w v t0.cells) (hbk : V.bulk (m + 1) v ≤ 2000000) :
    Calls Try.prog 16 #[.pointer (some ⟨gc, 0, none⟩), .int .i64 id] w fun o w' => ∃ t2 : Tg, o = .returned (.tuple #[t2.val, .nilIface]) ∧ t2.id = t0.id ∧ t2.kind = t0.kind ∧ V.MemX Z (m + 1) w' v t2.cells ∧ Fr w w' (fun _ => False) := by
  obtain ⟨w2, hw2⟩ : ∃ w2, w2 = w.alloc (.cells #[.int .i64 0, .string ⟨#[]⟩, .int .i64 0, .int .i64 0, .string ⟨#[]⟩, .slice none 0 0, .slice none 0 0] 51) := ⟨_, rfl⟩
  have hf2 : Fr w w2 (fun _ => False) := by rw [hw2]; exact (Fr.refl _ _).alloc _
  have hb2 : w2.heap[w.heap.size]? = some (.cells #[.int .i64 0, .string ⟨#[]⟩, .int .i64 0, .int .i64 0, .string ⟨#[]⟩, .slice none 0 0, .slice none 0 0] 51 (0, 0)) := by rw [hw2]; exact heap_alloc_new _ _
  have y0 := cell_of_block (h.fr hf2).blk 0 _ rfl
  have HDN := hide (down_any w2 B g D (h.fr hf2).disk)
  have HCL := hide (h.fr hf2)
  have HF := hide hf2
  have HB2 := hide hb2
  have hha := has_any w2 B g gc bt bd bf D q given calls Th Di Fa id (h.fr hf2) hv
  have hg1 : (T.get Th id).isSome = true := by rw [hg]; rfl
  rw [hg1] at hha
  have HHA := hide hha
  have HLK : Hid (∀ W, T.Is W bt Th → (Instr.lookup 81 (.map (some bt)) (.int .i64 id) false).run Try.prog W = .ok t0.val W) := by
    intro W hI
    have hlk := T.look u81 hI id false z51
    cases ha : T.at_ id Th 0 with
    | none => unfold T.get at hg; rw [ha] at hg; cases hg
    | some x =>
      rw [ha] at hlk
      unfold T.get at hg
      rw [ha] at hg
      have hx : x.2 = t0.val := by simpa using hg
      rw [hlk, ← hx]
      rfl
  have HMX : Hid (∀ W, Fr w2 W (fun _ => False) → Calls Try.prog 46 #[t0.val] W fun o w' => ∃ t2 : Tg, o = .returned t2.val ∧ t2.id = t0.id ∧ t2.kind = t0.kind ∧ V.MemX (fun c => Z c ∨ c = w.heap.size) (m + 1) w' v t2.cells ∧ Below W.heap.size W w') := fun W hf =>
    copied_any _ m W t0 v (((hM.more (ex2 := fun c => Z c ∨ c = w.heap.size) (fun c e => e.imp (fun e => e) (fun e => by omega))).fr (hf2.weak (fun _ _ e => e.elim))).fr (hf.weak (fun _ _ e => e.elim))) (fun c e => by
      have h1 := hf2.size
      have h2 := hf.size
      have h3 : w2.heap.size = w.heap.size + 1 := by rw [hw2]; simp
      rcases e with e | e
      · have := hZl c e; omega
      · omega) hbk
  clear h hf2 hha hv hg hM hZl hg1
  rw [hd] at HDN
  go_enter Try.func16, Try.ntmps16
  go_upto_region 1 with fail
  rw [← hw2]
  clear hw2
  go_wp2_with fail
  refine HDN.out.mono ?_
  rintro o w3 ⟨rfl, hw3⟩
  rw [hw3]
  clear hw3 HDN
  go_wp2_with fail
  refine HHA.out.mono ?_
  rintro o w4 ⟨rfl, hf4⟩
  have hk4 := (hf4.block _ (Array.getElem?_eq_some_iff.1 HB2.out).1 (fun e => e)).trans HB2.out
  have HK4 := hide hk4
  have y2 := cell_of_block (HCL.out.fr hf4).blk 2 _ rfl
  have hlk := HLK.out w4 (HCL.out.fr hf4).th
  have HC4 := hide (HMX.out w4 hf4)
  have HF4 := hide hf4
  unfold Tg.val at hlk HC4
  clear hf4 hk4 HHA HLK HMX
  go_wp2_with fail
  refine HC4.out.mono ?_
  rintro o w5 ⟨t2, rfl, t1, t3, t4, hb5⟩
  have hk5 := (hb5.block _ (Array.getElem?_eq_some_iff.1 HK4.out).1).trans HK4.out
  have q0 := cell_of_block hk5 0 _ rfl
  have q1 := cell_of_block hk5 1 _ rfl
  have q2 := cell_of_block hk5 2 _ rfl
  have q3 := cell_of_block hk5 3 _ rfl
  have q4 := cell_of_block hk5 4 _ rfl
  have q5 := cell_of_block hk5 5 _ rfl
  have q6 := cell_of_block hk5 6 _ rfl
  have r0 := free_of_block hk5 0
  have r1 := free_of_block hk5 1
  have r2 := free_of_block hk5 2
  have r3 := free_of_block hk5 3
  have r4 := free_of_block hk5 4
  have r5 := free_of_block hk5 5
  have r6 := free_of_block hk5 6
  have HF5 := hide ((HF.out.trans HF4.out (fun _ _ e => e)).trans (fr_of_below hb5) (fun _ _ e => e))
  have HMX := hide t4
  have HK5 := hide hk5
  have HT1 := hide t1
  have HT3 := hide t3
  clear t1 t3 t4 hb5 hk5 HC4 HF4 hlk y2
  obtain ⟨w6, hw6, hb6, hf6⟩ := set7 w5 w.heap.size _ _ _ _ _ _ _ (.int .i64 t2.id) (.string t2.kind) (.int .i64 t2.k) (.int .i64 t2.n) (.string t2.s) (.slice t2.la t2.ln t2.lc) (.slice t2.fa t2.fn t2.fc) HK5.out
  go_wp2_with fail
  rw [← hw6]
  have z0 := cell_of_block hb6 0 _ rfl
  have z1 := cell_of_block hb6 1 _ rfl
  have z2 := cell_of_block hb6 2 _ rfl
  have z3 := cell_of_block hb6 3 _ rfl
  have z4 := cell_of_block hb6 4 _ rfl
  have z5 := cell_of_block hb6 5 _ rfl
  have z6 := cell_of_block hb6 6 _ rfl
  refine bodyPost_ret (v := .tuple #[.agg #[.int .i64 t2.id, .string t2.kind, .int .i64 t2.k, .int .i64 t2.n, .string t2.s, .slice t2.la t2.ln t2.lc, .slice t2.fa t2.fn t2.fc], .nilIface]) (by simp [results, Try.results16, go_sem, z0, z1, z2, z3, z4, z5, z6]) rfl ?_
  exact ⟨t2, rfl, HT1.out, HT3.out, (HMX.out.fr (hf6.weak (fun c _ e => .inr e))).more (fun c e => .inl (.inl e)), HF5.out.trans hf6 (fun c hc e => by omega)⟩
end Go.Proofs.Ytlmkpjdaoinmoaa
