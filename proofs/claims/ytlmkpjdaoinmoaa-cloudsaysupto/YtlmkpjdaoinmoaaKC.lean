/- For CloudSays: the reference's Spoil and Read. -/
import Derived.Test.YtlmkpjdaoinmoaaKB
namespace Go.Proofs.Ytlmkpjdaoinmoaa
open Go.RowKit
attribute [local go_sem ↓] Go.wp_at_zero Go.wp_at_succ
/-- The thing t with the attributes that b has. -/
def tgPut (t b : Tg) : Tg := { b with id := t.id, kind := t.kind }
def set5L (xs : List Value) (o : Nat) (b : Tg) : List Value := ((((xs.set (o + 2) (.int .i64 b.k)).set (o + 3) (.int .i64 b.n)).set (o + 4) (.string b.s)).set (o + 5) (.slice b.la b.ln b.lc)).set (o + 6) (.slice b.fa b.fn b.fc)
theorem set5L_append (a xs : List Value) (o : Nat) (b : Tg) : set5L (a ++ xs) (a.length + o) b = a ++ set5L xs o b := by
  unfold set5L
  simp only [Nat.add_assoc, List.set_append_right _ _ (Nat.le_add_right _ _), Nat.add_sub_cancel_left]
theorem flat_put : ∀ (G : List Tv) (k : Nat) (x : Tv) (b : Tg) (v : Val), G[k]? = some x → set5L (G.flatMap (fun x => c7 x.1)) (k * 7) b = (G.set k (tgPut x.1 b, v)).flatMap (fun x => c7 x.1)
  | [], _, _, _, _, h => by simp at h
  | y :: G, 0, x, b, v, h => by
    have e : y = x := by simpa using h
    subst e
    rfl
  | y :: G, k + 1, x, b, v, h => by
    have h2 : G[k]? = some x := by simpa using h
    rw [List.flatMap_cons, show (k + 1) * 7 = (c7 y.1).length + k * 7 by rw [c7_len]; omega, set5L_append, flat_put G k x b v h2]
    rfl
theorem own_set1 {w : World} {base n z b cap : Nat} {t : TypeId} {xs : List Value} (h : w.ownsRow base t z (.slice (some ⟨b, 0, none⟩) n cap) n xs) (j : Nat) (u : Value) : (w.setCell ⟨b, j, none⟩ u).ownsRow base t z (.slice (some ⟨b, 0, none⟩) n cap) n (xs.set j u) := by
  refine ⟨by rw [List.length_set]; exact h.1, .inr ?_⟩
  rcases h.2 with ⟨e, _⟩ | ⟨g, cap2, cur, e, hb, hg, hnc, hcm, hcs, htk⟩
  · cases e
  · simp only [Value.slice.injEq, Option.some.injEq, Addr.mk.injEq, and_true, true_and] at e
    obtain ⟨rfl, rfl⟩ := e
    refine ⟨b, cap, cur.set! j u, rfl, hb, ?_, hnc, hcm, by simpa using hcs, ?_⟩
    · simp [World.setCell, Array.getElem?_modify, hg]
    · rw [← htk]
      simp only [Array.set!_eq_setIfInBounds, Array.toList_setIfInBounds]
      rw [List.take_set]
/-- Five stores into a row of things. -/
theorem own_put {w : World} {base b cap : Nat} {G : List Tv} (h : w.ownsRow base 51 7 (.slice (some ⟨b, 0, none⟩) G.length cap) G.length (G.flatMap (fun x => c7 x.1))) (k : Nat) (x : Tv) (a : Tg) (v : Val) (hx : G[k]? = some x) :
    ∃ w5, w5 = ((((w.setCell ⟨b, k * 7 + 2, none⟩ (.int .i64 a.k)).setCell ⟨b, k * 7 + 2 + 1, none⟩ (.int .i64 a.n)).setCell ⟨b, k * 7 + 2 + 2, none⟩ (.string a.s)).setCell ⟨b, k * 7 + 2 + 3, none⟩ (.slice a.la a.ln a.lc)).setCell ⟨b, k * 7 + 2 + 4, none⟩ (.slice a.fa a.fn a.fc) ∧
      w5.ownsRow base 51 7 (.slice (some ⟨b, 0, none⟩) (G.set k (tgPut x.1 a, v)).length cap) (G.set k (tgPut x.1 a, v)).length ((G.set k (tgPut x.1 a, v)).flatMap (fun x => c7 x.1)) ∧ Fr w w5 (fun c => c = b) := by
  have hk : k < G.length := (List.getElem?_eq_some_iff.1 hx).1
  refine ⟨_, rfl, ?_, ?_⟩
  · rw [List.length_set, ← flat_put G k x a v hx]
    exact own_set1 (own_set1 (own_set1 (own_set1 (own_set1 h (k * 7 + 2) _) (k * 7 + 3) _) (k * 7 + 4) _) (k * 7 + 5) _) (k * 7 + 6) _
  · exact (((((Fr.refl w (fun c => c = b)).set ⟨b, k * 7 + 2, none⟩ _ (fun _ => rfl)).set ⟨b, k * 7 + 2 + 1, none⟩ _ (fun _ => rfl)).set ⟨b, k * 7 + 2 + 2, none⟩ _ (fun _ => rfl)).set ⟨b, k * 7 + 2 + 3, none⟩ _ (fun _ => rfl)).set ⟨b, k * 7 + 2 + 4, none⟩ _ (fun _ => rfl)
/-- The same cloud with one thing turned. -/
theorem Rc.put {w w5 : World} {P : Nat → Prop} {rd rc b cap : Nat} {kv fv : Value} {S : Rm} (h : Rc w P rd rc (.slice (some ⟨b, 0, none⟩) S.things.length cap) kv fv S) {G2 : List Tv} (hl : G2.length = S.things.length) (ho : w5.ownsRow 0 51 7 (.slice (some ⟨b, 0, none⟩) G2.length cap) G2.length (G2.flatMap (fun x => c7 x.1))) (hf : Fr w w5 (fun c => c = b)) :
    Rc w5 P rd rc (.slice (some ⟨b, 0, none⟩) S.things.length cap) kv fv { S with things := G2 } := by
  have hbd : b ≠ rd := fun e => owns_type h.t h.d (by decide) (by rw [← e]; rfl)
  have hbc : b ≠ rc := fun e => owns_type h.t h.c (by decide) (by rw [← e]; rfl)
  refine ⟨(hf.block rd (Array.getElem?_eq_some_iff.1 h.d).1 (fun e => hbd e.symm)).trans h.d, (hf.block rc (Array.getElem?_eq_some_iff.1 h.c).1 (fun e => hbc e.symm)).trans h.c, ?_, owns_fr h.k hf (fun c hc e => owns_other h.t h.k (by decide) rfl (by rw [hc, e])), owns_fr h.f hf (fun c hc e => owns_other h.t h.f (by decide) rfl (by rw [hc, e])), h.pd, h.pc, h.pt, h.pk, h.pf⟩
  rw [← hl]
  exact ho
set_option maxRecDepth 100000 in
set_option maxHeartbeats 1600000 in
/-- Spoil of a thing that is there, by attributes that may be. -/
theorem refSpoil_yes (w : World) (P : Nat → Prop) (rd rc : Nat) (tv kv fv : Value) (S : Rm) (id : Int) (m : Nat) (v : Val) (a : Tg) (h : Rc w P rd rc tv kv fv S) (hn : S.things.length ≤ 900) (hM : V.MemX P (m + 1) w v a.cells) (hP : ∀ c, P c → c < w.heap.size) (hbk : V.bulk (m + 1) v ≤ 2000000) (hA : attrE (m + 1) v = 0) (hin : ∃ x ∈ S.things, x.1.id = id) :
    Calls Try.prog 22 #[.pointer (some ⟨rc, 0, none⟩), .int .i64 id, .agg #[.int .i64 a.k, .int .i64 a.n, .string a.s, .slice a.la a.ln a.lc, .slice a.fa a.fn a.fc]] w fun o w' => o = .returned (.tuple #[]) ∧ ∃ k x, S.things[k]? = some x ∧ x.1.id = id ∧ Rc w' P rd rc tv kv fv { S with things := S.things.set k (tgPut x.1 a, v) } ∧ Fr w w' P := by
  obtain ⟨w2, hw2⟩ : ∃ w2, w2 = w.alloc (.cells #[.int .i64 a.k, .int .i64 a.n, .string a.s, .slice a.la a.ln a.lc, .slice a.fa a.fn a.fc] 40) := ⟨_, rfl⟩
  have hf2 : Fr w w2 (fun _ => False) := by rw [hw2]; exact (Fr.refl _ _).alloc _
  have hb2 : w2.heap[w.heap.size]? = some (.cells #[.int .i64 a.k, .int .i64 a.n, .string a.s, .slice a.la a.ln a.lc, .slice a.fa a.fn a.fc] 40 (0, 0)) := by rw [hw2]; exact heap_alloc_new _ _
  have h2 := h.fr hf2 (fun _ _ e => e)
  have HPL := hide (place_any w2 P rd rc tv kv fv S id h2 (by omega))
  have hmx2 := hM.fr (hf2.weak (ex1 := P) (fun _ _ e => e.elim))
  unfold Tg.cells at hmx2
  have hat := attrsFault_any m w2 v _ _ _ _ _ hmx2.mem hbk
  rw [hA] at hat
  have HAT := hide hat
  have HB2 := hide hb2
  have HH := hide h2
  have HF := hide hf2
  have HIN := hide hin
  have HP := hide hP
  have hsz : w.heap.size < w2.heap.size := (Array.getElem?_eq_some_iff.1 hb2).1
  clear h hM hf2 h2 hat hmx2 hin hP
  have a0 := cell_of_block hb2 0 _ rfl
  have a1 := cell_of_block hb2 1 _ rfl
  have a2 := cell_of_block hb2 2 _ rfl
  have a3 := cell_of_block hb2 3 _ rfl
  have a4 := cell_of_block hb2 4 _ rfl
  clear hb2
  go_enter Try.func22, Try.ntmps22
  go_upto_region 1 with fail
  rw [← hw2]
  clear hw2
  go_wp2_with fail
  refine HPL.out.mono ?_
  rintro o w3 ⟨hsay, hw3⟩
  rcases hsay with ⟨k, x, rfl, hx, hid⟩ | ⟨_, hno⟩
  · rw [hw3]
    clear hw3 HPL
    have hk0 : ¬ (k : Int) < 0 := by omega
    go_wp2_with fail
    refine HAT.out.mono ?_
    rintro o w4 ⟨rfl, hb4⟩
    clear a0 a1 a2 a3 a4
    have hf4 := fr_of_below hb4
    have hk4 := (hf4.block _ (Array.getElem?_eq_some_iff.1 HB2.out).1 (fun e => e)).trans HB2.out
    have h4 := HH.out.fr hf4 (fun _ _ e => e)
    obtain ⟨b, cap, e1, hc, hfz⟩ := own_at h4.t k x hx
    subst e1
    obtain ⟨w5, hw5, ho5, hf5⟩ := own_put h4.t k x a v hx
    have hR5 := (Rc.put h4 (by rw [List.length_set]) ho5 hf5).fr (Fr.refl w5 (fun _ => False)).drew (fun _ _ e => e)
    have hfA : Fr w w5.drew P := (((HF.out.trans hf4 (fun _ _ e => e)).weak (fun _ _ e => e.elim)).trans hf5 (fun c hc e => by rw [e]; exact h4.pt b rfl)).drew
    have a0 := cell_of_block hk4 0 _ rfl
    have a1 := cell_of_block hk4 1 _ rfl
    have a2 := cell_of_block hk4 2 _ rfl
    have a3 := cell_of_block hk4 3 _ rfl
    have a4 := cell_of_block hk4 4 _ rfl
    have y1 := cell_of_block h4.c 1 _ rfl
    have hlt : k < S.things.length := (List.getElem?_eq_some_iff.1 hx).1
    have z2 := hc 2 (by omega)
    have z3 : w4.cell? ⟨b, k * 7 + 2 + 1, none⟩ = (c7 x.1)[3]? := hc 3 (by omega)
    have z4 : w4.cell? ⟨b, k * 7 + 2 + 2, none⟩ = (c7 x.1)[4]? := hc 4 (by omega)
    have z5 : w4.cell? ⟨b, k * 7 + 2 + 3, none⟩ = (c7 x.1)[5]? := hc 5 (by omega)
    have z6 : w4.cell? ⟨b, k * 7 + 2 + 4, none⟩ = (c7 x.1)[6]? := hc 6 (by omega)
    rw [show (c7 x.1)[2]? = some (.int .i64 x.1.k) from rfl] at z2
    rw [show (c7 x.1)[3]? = some (.int .i64 x.1.n) from rfl] at z3
    rw [show (c7 x.1)[4]? = some (.string x.1.s) from rfl] at z4
    rw [show (c7 x.1)[5]? = some (.slice x.1.la x.1.ln x.1.lc) from rfl] at z5
    rw [show (c7 x.1)[6]? = some (.slice x.1.fa x.1.fn x.1.fc) from rfl] at z6
    have f2 := hfz (k * 7 + 2)
    have f3 := hfz (k * 7 + 2 + 1)
    have f4 := hfz (k * 7 + 2 + 2)
    have f5 := hfz (k * 7 + 2 + 3)
    have f6 := hfz (k * 7 + 2 + 4)
    have HR5 := hide hR5
    have HFA := hide hfA
    have HX := hide hx
    have HW5 := hide hw5
    clear hb4 hf4 hk4 h4 hc hfz ho5 hf5 hR5 hfA HAT hx hw5
    go_wp2_with fail
    go_region
    go_wp2_with fail
    go_end0
    rw [← HW5.out]
    exact ⟨rfl, k, x, HX.out, hid, HR5.out, HFA.out⟩
  · obtain ⟨x, hx, hid⟩ := HIN.out
    exact absurd hid (hno x hx)
set_option maxRecDepth 100000 in
set_option maxHeartbeats 1600000 in
theorem refSpoil_none (w : World) (P : Nat → Prop) (rd rc : Nat) (tv kv fv : Value) (S : Rm) (id : Int) (a : Tg) (h : Rc w P rd rc tv kv fv S) (hn : S.things.length ≤ 900) (hno : ∀ x ∈ S.things, x.1.id ≠ id) :
    Calls Try.prog 22 #[.pointer (some ⟨rc, 0, none⟩), .int .i64 id, .agg #[.int .i64 a.k, .int .i64 a.n, .string a.s, .slice a.la a.ln a.lc, .slice a.fa a.fn a.fc]] w fun o w' => o = .returned (.tuple #[]) ∧ Rc w' P rd rc tv kv fv S ∧ Fr w w' (fun _ => False) := by
  obtain ⟨w2, hw2⟩ : ∃ w2, w2 = w.alloc (.cells #[.int .i64 a.k, .int .i64 a.n, .string a.s, .slice a.la a.ln a.lc, .slice a.fa a.fn a.fc] 40) := ⟨_, rfl⟩
  have hf2 : Fr w w2 (fun _ => False) := by rw [hw2]; exact (Fr.refl _ _).alloc _
  have hb2 : w2.heap[w.heap.size]? = some (.cells #[.int .i64 a.k, .int .i64 a.n, .string a.s, .slice a.la a.ln a.lc, .slice a.fa a.fn a.fc] 40 (0, 0)) := by rw [hw2]; exact heap_alloc_new _ _
  have h2 := h.fr hf2 (fun _ _ e => e)
  have HPL := hide (place_any w2 P rd rc tv kv fv S id h2 (by omega))
  have HH := hide h2
  have HF := hide hf2
  have HNO := hide hno
  clear h hf2 h2 hno hb2
  go_enter Try.func22, Try.ntmps22
  go_upto_region 1 with fail
  rw [← hw2]
  clear hw2
  go_wp2_with fail
  refine HPL.out.mono ?_
  rintro o w3 ⟨hsay, hw3⟩
  rcases hsay with ⟨k, x, rfl, hx, hid⟩ | ⟨rfl, _⟩
  · exact absurd hid (HNO.out x (List.mem_of_getElem? hx))
  · rw [hw3]
    clear hw3 HPL
    go_wp2_with fail
    go_end0
    exact ⟨rfl, HH.out, HF.out⟩
set_option maxRecDepth 100000 in
set_option maxHeartbeats 1600000 in
theorem refSpoil_bad (w : World) (P : Nat → Prop) (rd rc : Nat) (tv kv fv : Value) (S : Rm) (id : Int) (m : Nat) (v : Val) (a : Tg) (h : Rc w P rd rc tv kv fv S) (hn : S.things.length ≤ 900) (hM : V.MemX P (m + 1) w v a.cells) (hbk : V.bulk (m + 1) v ≤ 2000000) (hA : attrE (m + 1) v ≠ 0) (hin : ∃ x ∈ S.things, x.1.id = id) :
    Calls Try.prog 22 #[.pointer (some ⟨rc, 0, none⟩), .int .i64 id, .agg #[.int .i64 a.k, .int .i64 a.n, .string a.s, .slice a.la a.ln a.lc, .slice a.fa a.fn a.fc]] w fun o w' => o = .returned (.tuple #[]) ∧ Rc w' P rd rc tv kv fv S ∧ Fr w w' (fun _ => False) := by
  obtain ⟨w2, hw2⟩ : ∃ w2, w2 = w.alloc (.cells #[.int .i64 a.k, .int .i64 a.n, .string a.s, .slice a.la a.ln a.lc, .slice a.fa a.fn a.fc] 40) := ⟨_, rfl⟩
  have hf2 : Fr w w2 (fun _ => False) := by rw [hw2]; exact (Fr.refl _ _).alloc _
  have hb2 : w2.heap[w.heap.size]? = some (.cells #[.int .i64 a.k, .int .i64 a.n, .string a.s, .slice a.la a.ln a.lc, .slice a.fa a.fn a.fc] 40 (0, 0)) := by rw [hw2]; exact heap_alloc_new _ _
  have h2 := h.fr hf2 (fun _ _ e => e)
  have HPL := hide (place_any w2 P rd rc tv kv fv S id h2 (by omega))
  have hmx2 := hM.fr (hf2.weak (ex1 := P) (fun _ _ e => e.elim))
  unfold Tg.cells at hmx2
  have HAT := hide (attrsFault_any m w2 v _ _ _ _ _ hmx2.mem hbk)
  have hea : ¬ ((attrE (m + 1) v : Nat) : Int) = 0 := by omega
  have HH := hide h2
  have HF := hide hf2
  have HIN := hide hin
  clear h hM hf2 h2 hmx2 hin hA
  generalize attrE (m + 1) v = ea at *
  have a0 := cell_of_block hb2 0 _ rfl
  have a1 := cell_of_block hb2 1 _ rfl
  have a2 := cell_of_block hb2 2 _ rfl
  have a3 := cell_of_block hb2 3 _ rfl
  have a4 := cell_of_block hb2 4 _ rfl
  clear hb2
  go_enter Try.func22, Try.ntmps22
  go_upto_region 1 with fail
  rw [← hw2]
  clear hw2
  go_wp2_with fail
  refine HPL.out.mono ?_
  rintro o w3 ⟨hsay, hw3⟩
  rcases hsay with ⟨k, x, rfl, hx, hid⟩ | ⟨_, hno⟩
  · rw [hw3]
    clear hw3 HPL hx
    have hk0 : ¬ (k : Int) < 0 := by omega
    go_wp2_with fail
    refine HAT.out.mono ?_
    rintro o w4 ⟨rfl, hb4⟩
    have HR4 := hide (HH.out.fr (fr_of_below hb4) (fun _ _ e => e))
    have HF4 := hide (HF.out.trans (fr_of_below hb4) (fun _ _ e => e))
    clear hb4 HAT a0 a1 a2 a3 a4
    go_wp2_with fail
    go_end0
    exact ⟨rfl, HR4.out, HF4.out⟩
  · obtain ⟨x, hx, hid⟩ := HIN.out
    exact absurd hid (hno x hx)
set_option maxRecDepth 100000 in
set_option maxHeartbeats 1600000 in
theorem refRead_down (w : World) (P : Nat → Prop) (rd rc : Nat) (tv kv fv : Value) (S : Rm) (id : Int) (h : Rc w P rd rc tv kv fv S) (hd : S.down = true) : Calls Try.prog 17 #[.pointer (some ⟨rc, 0, none⟩), .int .i64 id] w fun o w' => o = .returned (.tuple #[.agg #[.int .i64 0, .string ⟨#[]⟩, .int .i64 0, .int .i64 0, .string ⟨#[]⟩, .slice none 0 0, .slice none 0 0], .int .i64 10]) ∧ Fr w w' (fun _ => False) := by
  rw [show S = { S with down := true } by rw [← hd]] at h
  obtain ⟨w2, hw2⟩ : ∃ w2, w2 = w.alloc (.cells #[.int .i64 0, .string ⟨#[]⟩, .int .i64 0, .int .i64 0, .string ⟨#[]⟩, .slice none 0 0, .slice none 0 0] 51) := ⟨_, rfl⟩
  have hf2 : Fr w w2 (fun _ => False) := by rw [hw2]; exact (Fr.refl _ _).alloc _
  have hb2 : w2.heap[w.heap.size]? = some (.cells #[.int .i64 0, .string ⟨#[]⟩, .int .i64 0, .int .i64 0, .string ⟨#[]⟩, .slice none 0 0, .slice none 0 0] 51 (0, 0)) := by rw [hw2]; exact heap_alloc_new _ _
  have h2 := h.fr hf2 (fun _ _ e => e)
  have y0 := cell_of_block h2.c 0 _ rfl
  have y1 := cell_of_block h2.c 1 _ rfl
  have d4 := cell_of_block h2.d 4 _ rfl
  have HF := hide hf2
  have HB2 := hide hb2
  have HT := hide h2.t
  have q0 := cell_of_block hb2 0 _ rfl
  have q1 := cell_of_block hb2 1 _ rfl
  have q2 := cell_of_block hb2 2 _ rfl
  have q3 := cell_of_block hb2 3 _ rfl
  have q4 := cell_of_block hb2 4 _ rfl
  have q5 := cell_of_block hb2 5 _ rfl
  have q6 := cell_of_block hb2 6 _ rfl
  have r0 := free_of_block hb2 0
  have r1 := free_of_block hb2 1
  have r2 := free_of_block hb2 2
  have r3 := free_of_block hb2 3
  have r4 := free_of_block hb2 4
  have r5 := free_of_block hb2 5
  have r6 := free_of_block hb2 6
  clear h h2 hf2 hd HT
  go_enter Try.func17, Try.ntmps17
  go_upto_region 1 with fail
  rw [← hw2]
  clear hw2
  obtain ⟨w5, hw5, hb5, hf5⟩ := set7 w2 w.heap.size _ _ _ _ _ _ _ (.int .i64 0) (.string ⟨#[]⟩) (.int .i64 0) (.int .i64 0) (.string ⟨#[]⟩) (.slice none 0 0) (.slice none 0 0) HB2.out
  go_wp2_with fail
  rw [← hw5]
  have z0 := cell_of_block hb5 0 _ rfl
  have z1 := cell_of_block hb5 1 _ rfl
  have z2 := cell_of_block hb5 2 _ rfl
  have z3 := cell_of_block hb5 3 _ rfl
  have z4 := cell_of_block hb5 4 _ rfl
  have z5 := cell_of_block hb5 5 _ rfl
  have z6 := cell_of_block hb5 6 _ rfl
  refine bodyPost_ret (v := .tuple #[.agg #[.int .i64 0, .string ⟨#[]⟩, .int .i64 0, .int .i64 0, .string ⟨#[]⟩, .slice none 0 0, .slice none 0 0], .int .i64 10]) (by simp [results, Try.results17, go_sem, z0, z1, z2, z3, z4, z5, z6]) rfl ?_
  exact ⟨rfl, HF.out.trans hf5 (fun c hc e => by omega)⟩
set_option maxRecDepth 100000 in
set_option maxHeartbeats 1600000 in
theorem refRead_none (w : World) (P : Nat → Prop) (rd rc : Nat) (tv kv fv : Value) (S : Rm) (id : Int) (h : Rc w P rd rc tv kv fv S) (hn : S.things.length ≤ 900) (hd : S.down = false) (hno : ∀ x ∈ S.things, x.1.id ≠ id) : Calls Try.prog 17 #[.pointer (some ⟨rc, 0, none⟩), .int .i64 id] w fun o w' => o = .returned (.tuple #[.agg #[.int .i64 0, .string ⟨#[]⟩, .int .i64 0, .int .i64 0, .string ⟨#[]⟩, .slice none 0 0, .slice none 0 0], .int .i64 7]) ∧ Fr w w' (fun _ => False) := by
  obtain ⟨w2, hw2⟩ : ∃ w2, w2 = w.alloc (.cells #[.int .i64 0, .string ⟨#[]⟩, .int .i64 0, .int .i64 0, .string ⟨#[]⟩, .slice none 0 0, .slice none 0 0] 51) := ⟨_, rfl⟩
  have hf2 : Fr w w2 (fun _ => False) := by rw [hw2]; exact (Fr.refl _ _).alloc _
  have hb2 : w2.heap[w.heap.size]? = some (.cells #[.int .i64 0, .string ⟨#[]⟩, .int .i64 0, .int .i64 0, .string ⟨#[]⟩, .slice none 0 0, .slice none 0 0] 51 (0, 0)) := by rw [hw2]; exact heap_alloc_new _ _
  have h2 := h.fr hf2 (fun _ _ e => e)
  have y0 := cell_of_block h2.c 0 _ rfl
  have y1 := cell_of_block h2.c 1 _ rfl
  have d4 := cell_of_block h2.d 4 _ rfl
  have HF := hide hf2
  have HB2 := hide hb2
  have HT := hide h2.t
  have q0 := cell_of_block hb2 0 _ rfl
  have q1 := cell_of_block hb2 1 _ rfl
  have q2 := cell_of_block hb2 2 _ rfl
  have q3 := cell_of_block hb2 3 _ rfl
  have q4 := cell_of_block hb2 4 _ rfl
  have q5 := cell_of_block hb2 5 _ rfl
  have q6 := cell_of_block hb2 6 _ rfl
  have r0 := free_of_block hb2 0
  have r1 := free_of_block hb2 1
  have r2 := free_of_block hb2 2
  have r3 := free_of_block hb2 3
  have r4 := free_of_block hb2 4
  have r5 := free_of_block hb2 5
  have r6 := free_of_block hb2 6
  have HPL := hide (place_any w2 P rd rc tv kv fv S id h2 (by omega))
  have HNO := hide hno
  clear h h2 hf2 HT hno
  go_enter Try.func17, Try.ntmps17
  go_upto_region 1 with fail
  rw [← hw2]
  clear hw2
  go_wp2_with fail
  refine HPL.out.mono ?_
  rintro o w3 ⟨hsay, hw3⟩
  rcases hsay with ⟨k, x, rfl, hx, hid⟩ | ⟨rfl, _⟩
  · exact absurd hid (HNO.out x (List.mem_of_getElem? hx))
  · rw [hw3]
    clear hw3 HPL
    obtain ⟨w5, hw5, hb5, hf5⟩ := set7 w2 w.heap.size _ _ _ _ _ _ _ (.int .i64 0) (.string ⟨#[]⟩) (.int .i64 0) (.int .i64 0) (.string ⟨#[]⟩) (.slice none 0 0) (.slice none 0 0) HB2.out
    go_wp2_with fail
    rw [← hw5]
    have z0 := cell_of_block hb5 0 _ rfl
    have z1 := cell_of_block hb5 1 _ rfl
    have z2 := cell_of_block hb5 2 _ rfl
    have z3 := cell_of_block hb5 3 _ rfl
    have z4 := cell_of_block hb5 4 _ rfl
    have z5 := cell_of_block hb5 5 _ rfl
    have z6 := cell_of_block hb5 6 _ rfl
    refine bodyPost_ret (v := .tuple #[.agg #[.int .i64 0, .string ⟨#[]⟩, .int .i64 0, .int .i64 0, .string ⟨#[]⟩, .slice none 0 0, .slice none 0 0], .int .i64 7]) (by simp [results, Try.results17, go_sem, z0, z1, z2, z3, z4, z5, z6]) rfl ?_
    exact ⟨rfl, HF.out.trans hf5 (fun c hc e => by omega)⟩
set_option maxRecDepth 100000 in
set_option maxHeartbeats 1600000 in
theorem refRead_ok (w : World) (P : Nat → Prop) (rd rc : Nat) (tv kv fv : Value) (S : Rm) (id : Int) (h : Rc w P rd rc tv kv fv S) (hn : S.things.length ≤ 900) (hd : S.down = false) (hin : ∃ x ∈ S.things, x.1.id = id) : Calls Try.prog 17 #[.pointer (some ⟨rc, 0, none⟩), .int .i64 id] w fun o w' => ∃ (k : Nat) (x : Tv), S.things[k]? = some x ∧ x.1.id = id ∧ o = .returned (.tuple #[x.1.val, .int .i64 0]) ∧ Fr w w' (fun _ => False) := by
  obtain ⟨w2, hw2⟩ : ∃ w2, w2 = w.alloc (.cells #[.int .i64 0, .string ⟨#[]⟩, .int .i64 0, .int .i64 0, .string ⟨#[]⟩, .slice none 0 0, .slice none 0 0] 51) := ⟨_, rfl⟩
  have hf2 : Fr w w2 (fun _ => False) := by rw [hw2]; exact (Fr.refl _ _).alloc _
  have hb2 : w2.heap[w.heap.size]? = some (.cells #[.int .i64 0, .string ⟨#[]⟩, .int .i64 0, .int .i64 0, .string ⟨#[]⟩, .slice none 0 0, .slice none 0 0] 51 (0, 0)) := by rw [hw2]; exact heap_alloc_new _ _
  have h2 := h.fr hf2 (fun _ _ e => e)
  have y0 := cell_of_block h2.c 0 _ rfl
  have y1 := cell_of_block h2.c 1 _ rfl
  have d4 := cell_of_block h2.d 4 _ rfl
  have HF := hide hf2
  have HB2 := hide hb2
  have HT := hide h2.t
  have q0 := cell_of_block hb2 0 _ rfl
  have q1 := cell_of_block hb2 1 _ rfl
  have q2 := cell_of_block hb2 2 _ rfl
  have q3 := cell_of_block hb2 3 _ rfl
  have q4 := cell_of_block hb2 4 _ rfl
  have q5 := cell_of_block hb2 5 _ rfl
  have q6 := cell_of_block hb2 6 _ rfl
  have r0 := free_of_block hb2 0
  have r1 := free_of_block hb2 1
  have r2 := free_of_block hb2 2
  have r3 := free_of_block hb2 3
  have r4 := free_of_block hb2 4
  have r5 := free_of_block hb2 5
  have r6 := free_of_block hb2 6
  have HPL := hide (place_any w2 P rd rc tv kv fv S id h2 (by omega))
  have HIN := hide hin
  clear h h2 hf2 hin
  go_enter Try.func17, Try.ntmps17
  go_upto_region 1 with fail
  rw [← hw2]
  clear hw2
  go_wp2_with fail
  refine HPL.out.mono ?_
  rintro o w3 ⟨hsay, hw3⟩
  rcases hsay with ⟨k, x, rfl, hx, hid⟩ | ⟨_, hno⟩
  · rw [hw3]
    clear hw3 HPL
    have hk0 : ¬ (k : Int) < 0 := by omega
    have hlt : k < S.things.length := (List.getElem?_eq_some_iff.1 hx).1
    obtain ⟨b, cap, e1, hc, _⟩ := own_at HT.out k x hx
    subst e1
    have x0 : w2.cell? ⟨b, k * 7, none⟩ = some (.int .i64 x.1.id) := hc 0 (by omega)
    have x1 : w2.cell? ⟨b, k * 7 + 1, none⟩ = some (.string x.1.kind) := hc 1 (by omega)
    have x2 : w2.cell? ⟨b, k * 7 + 2, none⟩ = some (.int .i64 x.1.k) := hc 2 (by omega)
    have x3 : w2.cell? ⟨b, k * 7 + 3, none⟩ = some (.int .i64 x.1.n) := hc 3 (by omega)
    have x4 : w2.cell? ⟨b, k * 7 + 4, none⟩ = some (.string x.1.s) := hc 4 (by omega)
    have x5 : w2.cell? ⟨b, k * 7 + 5, none⟩ = some (.slice x.1.la x.1.ln x.1.lc) := hc 5 (by omega)
    have x6 : w2.cell? ⟨b, k * 7 + 6, none⟩ = some (.slice x.1.fa x.1.fn x.1.fc) := hc 6 (by omega)
    have HX := hide hx
    have HID := hide hid
    clear hc hx HT hid
    obtain ⟨w5, hw5, hb5, hf5⟩ := set7 w2 w.heap.size _ _ _ _ _ _ _ (.int .i64 x.1.id) (.string x.1.kind) (.int .i64 x.1.k) (.int .i64 x.1.n) (.string x.1.s) (.slice x.1.la x.1.ln x.1.lc) (.slice x.1.fa x.1.fn x.1.fc) HB2.out
    go_wp2_with fail
    rw [← hw5]
    have z0 := cell_of_block hb5 0 _ rfl
    have z1 := cell_of_block hb5 1 _ rfl
    have z2 := cell_of_block hb5 2 _ rfl
    have z3 := cell_of_block hb5 3 _ rfl
    have z4 := cell_of_block hb5 4 _ rfl
    have z5 := cell_of_block hb5 5 _ rfl
    have z6 := cell_of_block hb5 6 _ rfl
    refine bodyPost_ret (v := .tuple #[.agg #[.int .i64 x.1.id, .string x.1.kind, .int .i64 x.1.k, .int .i64 x.1.n, .string x.1.s, .slice x.1.la x.1.ln x.1.lc, .slice x.1.fa x.1.fn x.1.fc], .int .i64 0]) (by simp [results, Try.results17, go_sem, z0, z1, z2, z3, z4, z5, z6]) rfl ?_
    exact ⟨k, x, HX.out, HID.out, rfl, HF.out.trans hf5 (fun c hc e => by omega)⟩
  · obtain ⟨x, hx, hid⟩ := HIN.out
    exact absurd hid (hno x hx)
end Go.Proofs.Ytlmkpjdaoinmoaa
