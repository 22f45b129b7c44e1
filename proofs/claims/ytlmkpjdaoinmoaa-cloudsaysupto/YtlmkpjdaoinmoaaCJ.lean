/- For TopToken and CloudSays: change. -/
import Derived.Test.YtlmkpjdaoinmoaaCI
namespace Go.Proofs.Ytlmkpjdaoinmoaa
open Go.RowKit
attribute [local go_sem ↓] Go.wp_at_zero Go.wp_at_succ
theorem Cl.frx {w w' : World} {B : Nat → Prop} {g gc bt bd bf : Nat} {D : Dk} {q given calls : Int} {Th : List (Int × Value)} {Di : List (ByteArray × Value)} {Fa : List (Int × Value)} {ex : Nat → Prop} (h : Cl w B g gc bt bd bf D q given calls Th Di Fa) (hf : Fr w w' ex) (hx : ∀ c, Cl.own B gc bt bd bf c → ¬ ex c) : Cl w' B g gc bt bd bf D q given calls Th Di Fa :=
  ⟨h.disk.fr hf (fun c hc => hx c (.inl hc)), (hf.block gc (Array.getElem?_eq_some_iff.1 h.blk).1 (hx _ (.inr (.inl rfl)))).trans h.blk, h.th.at (hf.block bt h.th.lt (hx _ (.inr (.inr (.inl rfl))))), h.di.at (hf.block bd h.di.lt (hx _ (.inr (.inr (.inr (.inl rfl)))))), h.fa.at (hf.block bf h.fa.lt (hx _ (.inr (.inr (.inr (.inr rfl)))))), h.nc, h.nt, h.nd, h.nf, h.e1, h.e2, h.e3, h.e4, h.e5, h.e6⟩
set_option maxRecDepth 100000 in
set_option maxHeartbeats 600000 in
/-- A thing that is there is changed. -/
theorem change_any (w : World) (B : Nat → Prop) (g gc bt bd bf : Nat) (D : Dk) (q given calls : Int) (Th : List (Int × Value)) (Di : List (ByteArray × Value)) (Fa : List (Int × Value)) (id : Int) (m : Nat) (v : Val) (c0 c1 c2 c3 c4 : Value) (t0 : Tg) (h : Cl w B g gc bt bd bf D q given calls Th Di Fa)
    (hB : ∀ x, B x → x < w.heap.size) (hM : V.MemX (Cl.own B gc bt bd bf) (m + 1) w v [c0, c1, c2, c3, c4]) (hbk : V.bulk (m + 1) v ≤ 2000000) (hg0 : T.get Th id = some t0.val) :
    Calls Try.prog 43 #[.pointer (some ⟨gc, 0, none⟩), .int .i64 id, .agg #[c0, c1, c2, c3, c4]] w fun o w' => o = .returned (.tuple #[]) ∧ ∃ t : Tg, t.id = t0.id ∧ t.kind = t0.kind ∧ V.MemX (Cl.own B gc bt bd bf) (m + 1) w' v t.cells ∧ Cl w' B g gc bt bd bf D q given calls (T.put Th id t.val) Di Fa ∧ Fr w w' (fun c => c = bt) := by
  obtain ⟨al, cl, af, cf, rfl, rfl, rfl, rfl, rfl⟩ := hM.mem.form
  obtain ⟨w1, hw1⟩ : ∃ w1, w1 = w.alloc (.cells #[.int .i64 v.kind, .int .i64 v.n, .string v.s, .slice al v.l.length cl, .slice af v.f.length cf] 40) := ⟨_, rfl⟩
  have hf1 : Fr w w1 (fun _ => False) := by rw [hw1]; exact (Fr.refl _ _).alloc _
  have hcl1 := h.fr hf1
  have hlk : (Instr.lookup 81 (.map (some bt)) (.int .i64 id) false).run Try.prog w1 = .ok t0.val w1 := by
    have hlk := T.look u81 hcl1.th id false z51
    cases ha : T.at_ id Th 0 with
    | none => unfold T.get at hg0; rw [ha] at hg0; cases hg0
    | some x =>
      rw [ha] at hlk
      unfold T.get at hg0
      rw [ha] at hg0
      have hx : x.2 = t0.val := by simpa using hg0
      rw [hlk, ← hx]
      rfl
  unfold Tg.val at hlk
  have y2 := cell_of_block hcl1.blk 2 _ rfl
  subst hw1
  clear hg0
  go_enter Try.func43, Try.ntmps43
  go_wp2_with fail
  obtain ⟨w2, hw2⟩ : ∃ w2, w2 = (w.alloc (.cells #[.int .i64 v.kind, .int .i64 v.n, .string v.s, .slice al v.l.length cl, .slice af v.f.length cf] 40)).alloc (.cells #[.int .i64 t0.id, .string t0.kind, .int .i64 t0.k, .int .i64 t0.n, .string t0.s, .slice t0.la t0.ln t0.lc, .slice t0.fa t0.fn t0.fc] 51) := ⟨_, rfl⟩
  have hf2 : Fr w w2 (fun _ => False) := by rw [hw2]; exact ((Fr.refl _ _).alloc _).alloc _
  have hcl2 := h.fr hf2
  have hmx2 := (hM.more (ex2 := fun c => Cl.own B gc bt bd bf c ∨ c = w.heap.size + 1) (fun c e => e.imp (fun e => e) (fun e => by omega))).fr (hf2.weak (fun _ _ e => e.elim))
  have hb2 : w2.heap[w.heap.size + 1]? = some (.cells #[.int .i64 t0.id, .string t0.kind, .int .i64 t0.k, .int .i64 t0.n, .string t0.s, .slice t0.la t0.ln t0.lc, .slice t0.fa t0.fn t0.fc] 51 (0, 0)) := by
    have h0 := heap_alloc_new (w.alloc (.cells #[.int .i64 v.kind, .int .i64 v.n, .string v.s, .slice al v.l.length cl, .slice af v.f.length cf] 40)) (.cells #[.int .i64 t0.id, .string t0.kind, .int .i64 t0.k, .int .i64 t0.n, .string t0.s, .slice t0.la t0.ln t0.lc, .slice t0.fa t0.fn t0.fc] 51)
    rw [← hw2, World.size_alloc] at h0
    exact h0
  have hex2 : ∀ c, (Cl.own B gc bt bd bf c ∨ c = w.heap.size + 1) → c < w2.heap.size := by
    intro c hc
    have hz := hf2.size
    rcases hc with (hc | rfl | rfl | rfl | rfl) | rfl
    · have := hB c hc; omega
    · exact (Array.getElem?_eq_some_iff.1 hcl2.blk).1
    · exact hcl2.th.lt
    · exact hcl2.di.lt
    · exact hcl2.fa.lt
    · exact (Array.getElem?_eq_some_iff.1 hb2).1
  have HCP := hide (copyX_any (fun c => Cl.own B gc bt bd bf c ∨ c = w.heap.size + 1) m w2 v _ _ _ _ _ hmx2 hex2 hbk)
  rw [← hw2]
  clear hw2 hlk y2 hcl1 hf1 hM
  refine HCP.out.mono ?_
  rintro o w3 ⟨⟨e0, e1, e2, e3, e4, rfl, hmx3⟩, hb3⟩
  obtain ⟨al3, cl3, af3, cf3, rfl, rfl, rfl, rfl, rfl⟩ := hmx3.mem.form
  have hk3 := (hb3.block _ (Array.getElem?_eq_some_iff.1 hb2).1).trans hb2
  have hcl3 := hcl2.fr (fr_of_below hb3)
  have q0 := cell_of_block hk3 0 _ rfl
  have q1 := cell_of_block hk3 1 _ rfl
  have q2 := cell_of_block hk3 2 _ rfl
  have q3 := cell_of_block hk3 3 _ rfl
  have q4 := cell_of_block hk3 4 _ rfl
  have q5 := cell_of_block hk3 5 _ rfl
  have q6 := cell_of_block hk3 6 _ rfl
  have r2 := free_of_block hk3 2
  have r3 := free_of_block hk3 3
  have r4 := free_of_block hk3 4
  have r5 := free_of_block hk3 5
  have r6 := free_of_block hk3 6
  have y2 := cell_of_block hcl3.blk 2 _ rfl
  obtain ⟨w4, hw4⟩ : ∃ w4, w4 = ((((w3.setCell ⟨w.heap.size + 1, 2, none⟩ (.int .i64 v.kind)).setCell ⟨w.heap.size + 1, 3, none⟩ (.int .i64 v.n)).setCell ⟨w.heap.size + 1, 4, none⟩ (.string v.s)).setCell ⟨w.heap.size + 1, 5, none⟩ (.slice al3 v.l.length cl3)).setCell ⟨w.heap.size + 1, 6, none⟩ (.slice af3 v.f.length cf3) := ⟨_, rfl⟩
  have hb4 : w4.heap[w.heap.size + 1]? = some (.cells #[.int .i64 t0.id, .string t0.kind, .int .i64 v.kind, .int .i64 v.n, .string v.s, .slice al3 v.l.length cl3, .slice af3 v.f.length cf3] 51 (0, 0)) := by
    rw [hw4]
    simp [World.setCell, Array.getElem?_modify, hk3]
  have hf4 : Fr w3 w4 (fun c => c = w.heap.size + 1) := by
    rw [hw4]
    exact (((((Fr.refl w3 (fun c => c = w.heap.size + 1)).set ⟨w.heap.size + 1, 2, none⟩ _ (fun _ => rfl)).set ⟨w.heap.size + 1, 3, none⟩ _ (fun _ => rfl)).set ⟨w.heap.size + 1, 4, none⟩ _ (fun _ => rfl)).set ⟨w.heap.size + 1, 5, none⟩ _ (fun _ => rfl)).set ⟨w.heap.size + 1, 6, none⟩ _ (fun _ => rfl)
  have hown : ∀ c, Cl.own B gc bt bd bf c → ¬ c = w.heap.size + 1 := by
    intro c hc e
    rcases hc with hc | rfl | rfl | rfl | rfl
    · have := hB c hc; omega
    · have := (Array.getElem?_eq_some_iff.1 h.blk).1; omega
    · have := h.th.lt; omega
    · have := h.di.lt; omega
    · have := h.fa.lt; omega
  have hcl4 := hcl3.frx hf4 hown
  have hmx4 := (hmx3.fr (hf4.weak (fun _ _ e => .inr e))).more (ex2 := Cl.own B gc bt bd bf) (fun c e => .inl (.inl e))
  have u0 := cell_of_block hb4 0 _ rfl
  have u1 := cell_of_block hb4 1 _ rfl
  have u2 := cell_of_block hb4 2 _ rfl
  have u3 := cell_of_block hb4 3 _ rfl
  have u4 := cell_of_block hb4 4 _ rfl
  have u5 := cell_of_block hb4 5 _ rfl
  have u6 := cell_of_block hb4 6 _ rfl
  have u7 := cell_of_block hcl4.blk 2 _ rfl
  have hf04 : Fr w w4 (fun _ => False) := (hf2.trans (fr_of_below hb3) (fun _ _ e => e)).trans hf4 (fun c hc e => by omega)
  go_wp2_with fail
  rw [← hw4]
  obtain ⟨w5, hr, hI5, hg5⟩ := T.update u81 (w := w4.drew) (hcl4.fr (Fr.refl w4 (fun _ => False)).drew).th id (Tg.val ⟨t0.id, t0.kind, v.kind, v.n, v.s, al3, v.l.length, cl3, af3, v.f.length, cf3⟩)
  unfold Tg.val at hr
  have HCL := hide ((hcl4.fr (Fr.refl w4 (fun _ => False)).drew).things hI5 (frb hg5))
  have HMX := hide ((hmx4.fr (Fr.refl w4 _).drew).fr ((frb hg5).weak (fun _ _ e => .inr (.inr (.inl e)))))
  have HF := hide ((hf04.drew.weak (ex1 := fun c => c = bt) (fun _ _ e => e.elim)).trans (frb hg5) (fun _ _ e => e))
  clear hI5 hg5 hcl4 hmx4 hf4 hf04 hcl3 hmx3 hb3 hw4 hcl2 hmx2 hex2 hf2 HCP hown hb4 hk3 hb2 q0 q1 q2 q3 q4 q5 q6 r2 r3 r4 r5 r6 y2
  go_region
  go_wp2_with fail
  go_end0
  exact ⟨rfl, ⟨t0.id, t0.kind, v.kind, v.n, v.s, al3, v.l.length, cl3, af3, v.f.length, cf3⟩, rfl, rfl, HMX.out, HCL.out, HF.out⟩
end Go.Proofs.Ytlmkpjdaoinmoaa
