/- For TopToken and CloudSays: what Update does. -/
import Derived.Test.YtlmkpjdaoinmoaaCJ
namespace Go.Proofs.Ytlmkpjdaoinmoaa
open Go.RowKit
attribute [local go_sem ↓] Go.wp_at_zero Go.wp_at_succ
set_option maxRecDepth 100000 in
set_option maxHeartbeats 600000 in
/-- What Update does of a thing that is there. -/
theorem updFn_any (w : World) (B : Nat → Prop) (g gc bt bd bf bc bi bv : Nat) (D : Dk) (q given calls : Int) (Th : List (Int × Value)) (Di : List (ByteArray × Value)) (Fa : List (Int × Value)) (id : Int) (m : Nat) (v : Val) (c0 c1 c2 c3 c4 : Value) (t0 : Tg) (h : Cl w B g gc bt bd bf D q given calls Th Di Fa)
    (hv : ∀ x ∈ Th, ∃ t : Tg, x.2 = t.val) (hB : ∀ x, B x → x < w.heap.size) (hM : V.MemX (Cl.own B gc bt bd bf) (m + 1) w v [c0, c1, c2, c3, c4]) (hbk : V.bulk (m + 1) v ≤ 2000000) (hg0 : T.get Th id = some t0.val)
    (h1 : w.cell? ⟨bc, 0, none⟩ = some (.pointer (some ⟨gc, 0, none⟩))) (h2 : w.cell? ⟨bi, 0, none⟩ = some (.int .i64 id)) (h3 : w.heap[bv]? = some (.cells #[c0, c1, c2, c3, c4] 40 (0, 0))) :
    Calls Try.prog 41 #[.pointer (some ⟨bc, 0, none⟩), .pointer (some ⟨bi, 0, none⟩), .pointer (some ⟨bv, 0, none⟩)] w fun o w' => o = .returned (.tuple #[.int .i64 0, .nilIface]) ∧ ∃ t : Tg, t.id = t0.id ∧ t.kind = t0.kind ∧ V.MemX (Cl.own B gc bt bd bf) (m + 1) w' v t.cells ∧ Cl w' B g gc bt bd bf D q given calls (T.put Th id t.val) Di Fa ∧ Fr w w' (fun c => c = bt) := by
  obtain ⟨al, cl, af, cf, rfl, rfl, rfl, rfl, rfl⟩ := hM.mem.form
  have hha := has_any w B g gc bt bd bf D q given calls Th Di Fa id h hv
  rw [hg0] at hha
  have HHA := hide hha
  have HCH : Hid (∀ W, Fr w W (fun _ => False) → Calls Try.prog 43 #[.pointer (some ⟨gc, 0, none⟩), .int .i64 id, .agg #[.int .i64 v.kind, .int .i64 v.n, .string v.s, .slice al v.l.length cl, .slice af v.f.length cf]] W fun o w' => o = .returned (.tuple #[]) ∧ ∃ t : Tg, t.id = t0.id ∧ t.kind = t0.kind ∧ V.MemX (Cl.own B gc bt bd bf) (m + 1) w' v t.cells ∧ Cl w' B g gc bt bd bf D q given calls (T.put Th id t.val) Di Fa ∧ Fr W w' (fun c => c = bt)) := fun W hf =>
    change_any W B g gc bt bd bf D q given calls Th Di Fa id m v _ _ _ _ _ t0 (h.fr hf) (fun x hx => Nat.lt_of_lt_of_le (hB x hx) hf.size) (hM.fr (hf.weak (fun _ _ e => e.elim))) hbk hg0
  have HKC : Hid (∀ W, Fr w W (fun _ => False) → W.cell? ⟨bc, 0, none⟩ = some (.pointer (some ⟨gc, 0, none⟩)) ∧ W.cell? ⟨bi, 0, none⟩ = some (.int .i64 id) ∧ W.heap[bv]? = some (.cells #[.int .i64 v.kind, .int .i64 v.n, .string v.s, .slice al v.l.length cl, .slice af v.f.length cf] 40 (0, 0))) := fun W hf => ⟨cell_frx hf (fun e => e) h1, cell_frx hf (fun e => e) h2, (hf.block bv (Array.getElem?_eq_some_iff.1 h3).1 (fun e => e)).trans h3⟩
  clear h hv hB hM hg0 h3 hha
  go_enter Try.func41, Try.ntmps41
  go_wp2_with fail
  refine HHA.out.mono ?_
  rintro o w1 ⟨rfl, hf1⟩
  obtain ⟨k1, k2, k3⟩ := HKC.out w1 hf1
  have a0 := cell_of_block k3 0 _ rfl
  have a1 := cell_of_block k3 1 _ rfl
  have a2 := cell_of_block k3 2 _ rfl
  have a3 := cell_of_block k3 3 _ rfl
  have a4 := cell_of_block k3 4 _ rfl
  have HC1 := hide (HCH.out w1 hf1)
  have HF1 := hide hf1
  clear hf1 HHA HCH HKC k3
  go_wp2_with fail
  refine HC1.out.mono ?_
  rintro o w2 ⟨rfl, t, t1, t2, t3, t4, t5⟩
  have HMX := hide t3
  have HCL := hide t4
  have HF := hide ((HF1.out.weak (ex1 := fun c => c = bt) (fun _ _ e => e.elim)).trans t5 (fun _ _ e => e))
  clear t3 t4 t5 HC1
  go_wp2_with fail
  go_ret2
  exact ⟨rfl, t, t1, t2, HMX.out, HCL.out, HF.out⟩
end Go.Proofs.Ytlmkpjdaoinmoaa
