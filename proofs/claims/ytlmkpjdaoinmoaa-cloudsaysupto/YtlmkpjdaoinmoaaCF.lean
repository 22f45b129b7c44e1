/- For TopToken and CloudSays: what Create does. -/
import Derived.Test.YtlmkpjdaoinmoaaCE
namespace Go.Proofs.Ytlmkpjdaoinmoaa
open Go.RowKit
attribute [local go_sem ↓] Go.wp_at_zero Go.wp_at_succ
theorem T.len_run {t e : TypeId} (hu : Try.prog.underlying t = some (.map 3 e)) {w : World} {b : Nat} {F : List (Int × Value)} (h : T.Is w b F) : (Builtin.len_ #[t] 3 #[.map (some b)]).run Try.prog w = .ok (.int .i64 F.length) w := by
  obtain ⟨es, c, hb, hF, _⟩ := h
  have hl : es.size = F.length := by
    have h5 := congrArg List.length hF
    simpa using h5
  simp [Builtin.len_, run_underlying hu, MapKept.run_getObj_map hb, Result.andThen, goInt, hl]
theorem V.Mem.form {m : Nat} {w : World} {v : Val} {c0 c1 c2 c3 c4 : Value} (h : V.Mem m w v [c0, c1, c2, c3, c4]) : ∃ al cl af cf, c0 = .int .i64 v.kind ∧ c1 = .int .i64 v.n ∧ c2 = .string v.s ∧ c3 = .slice al v.l.length cl ∧ c4 = .slice af v.f.length cf := by
  cases m with
  | zero => exact h.elim
  | succ m =>
    obtain ⟨lv, fv, hcs, hl, hf⟩ := h
    simp only [List.cons.injEq, and_true] at hcs
    obtain ⟨rfl, rfl, rfl, rfl, rfl⟩ := hcs
    obtain ⟨al, cl, rfl⟩ := hl.shape
    obtain ⟨af, cf, rfl⟩ := hf.shape
    exact ⟨al, cl, af, cf, rfl, rfl, rfl, rfl, rfl⟩
theorem fr_of_below {w w' : World} (h : Below w.heap.size w w') : Fr w w' (fun _ => False) := ⟨h.os, h.tape, h.output, h.size, fun c hc _ => h.block c hc⟩
set_option maxRecDepth 100000 in
set_option maxHeartbeats 600000 in
/-- What Create does, if its token did nothing yet. -/
theorem createFn_any (w : World) (B : Nat → Prop) (g gc bt bd bf bc bi bv : Nat) (D : Dk) (q given calls : Int) (Th : List (Int × Value)) (Di : List (ByteArray × Value)) (Fa : List (Int × Value)) (kind : ByteArray) (m : Nat) (v : Val) (c0 c1 c2 c3 c4 : Value) (h : Cl w B g gc bt bd bf D q given calls Th Di Fa)
    (hB : ∀ x, B x → x < w.heap.size) (hM : V.MemX (Cl.own B gc bt bd bf) (m + 1) w v [c0, c1, c2, c3, c4]) (hbk : V.bulk (m + 1) v ≤ 2000000) (h1 : w.cell? ⟨bc, 0, none⟩ = some (.pointer (some ⟨gc, 0, none⟩))) (h2 : w.cell? ⟨bi, 0, none⟩ = some (.string kind)) (h3 : w.heap[bv]? = some (.cells #[c0, c1, c2, c3, c4] 40 (0, 0)))
    (hbc : bc ≠ gc) (hbi : bi ≠ gc) (hbv : bv ≠ gc) (hq : 0 ≤ given ∧ given ≤ 1000000) (hfull : ¬ (Th.length : Int) ≥ q) :
    Calls Try.prog 35 #[.pointer (some ⟨bc, 0, none⟩), .pointer (some ⟨bi, 0, none⟩), .pointer (some ⟨bv, 0, none⟩)] w fun o w' => o = .returned (.tuple #[.int .i64 (given + 1), .nilIface]) ∧ ∃ t : Tg, t.id = given + 1 ∧ t.kind = kind ∧ V.MemX (Cl.own B gc bt bd bf) (m + 1) w' v t.cells ∧ Cl w' B g gc bt bd bf D q (given + 1) calls (T.put Th (given + 1) t.val) Di Fa ∧ Fr w w' (fun c => c = gc ∨ c = bt) := by
  have HH := hide h
  have HMX := hide hM
  obtain ⟨al, cl, af, cf, rfl, rfl, rfl, rfl, rfl⟩ := hM.mem.form
  have hlen := T.len_run u81 (h.fr (Fr.refl w (fun _ => False)).drew).th
  have y1 := cell_of_block h.blk 1 _ rfl
  have y2 := cell_of_block h.blk 2 _ rfl
  have HB := hide hB
  clear hM hB
  have hfi : ¬ q ≤ (Th.length : Int) := hfull
  have hfd : decide (q ≤ (Th.length : Int)) = false := decide_eq_false hfi
  clear h hfull
  go_enter Try.func35, Try.ntmps35
  have y3 := cell_of_block HH.out.blk 3 _ rfl
  have f3 := free_of_block HH.out.blk 3
  obtain ⟨w2, hw2⟩ : ∃ w2, w2 = (w.setCell ⟨gc, 3, none⟩ (.int .i64 (given + 1))).drew := ⟨_, rfl⟩
  have hb2 : w2.heap[gc]? = some (cblk g q bt (given + 1) bd calls bf) := by
    have := HH.out.blk
    unfold cblk at this ⊢
    rw [hw2]
    show (w.setCell ⟨gc, 3, none⟩ (.int .i64 (given + 1))).heap[gc]? = _
    simp [World.setCell, Array.getElem?_modify, this]
  have hf2 : Fr w w2 (fun c => c = gc) := by rw [hw2]; exact ((Fr.refl w (fun c => c = gc)).set ⟨gc, 3, none⟩ _ (fun _ => rfl)).drew
  have hcl2 := HH.out.wrote hb2 hf2
  have hmx2 : V.MemX (Cl.own B gc bt bd bf) (m + 1) w2 v [.int .i64 v.kind, .int .i64 v.n, .string v.s, .slice al v.l.length cl, .slice af v.f.length cf] := HMX.out.fr (hf2.weak (fun _ _ e => .inr (.inl e)))
  have z1 := cell_frx hf2 hbc h1
  have z2 := cell_frx hf2 hbi h2
  have hb3 := (hf2.block bv (Array.getElem?_eq_some_iff.1 h3).1 hbv).trans h3
  have hwr : wrap64 (given + 1) = given + 1 := by unfold wrap64; omega
  have hex2 : ∀ c, Cl.own B gc bt bd bf c → c < w2.heap.size := by
    intro c hc
    have hz := hf2.size
    rcases hc with hc | rfl | rfl | rfl | rfl
    · have := HB.out c hc; omega
    · exact (Array.getElem?_eq_some_iff.1 hb2).1
    · exact hcl2.th.lt
    · exact hcl2.di.lt
    · exact hcl2.fa.lt
  go_wp2_with fail
  go_region
  go_wp2_with fail
  rw [← hw2]
  have z4 := cell_of_block hb3 0 _ rfl
  have z5 := cell_of_block hb3 1 _ rfl
  have z6 := cell_of_block hb3 2 _ rfl
  have z7 := cell_of_block hb3 3 _ rfl
  have z8 := cell_of_block hb3 4 _ rfl
  have z9 := cell_of_block hb2 2 _ rfl
  have z10 := cell_of_block hb2 3 _ rfl
  have HKC : Hid (∀ W, Fr w2 W (fun _ => False) → W.cell? ⟨bc, 0, none⟩ = some (.pointer (some ⟨gc, 0, none⟩)) ∧ W.cell? ⟨bi, 0, none⟩ = some (.string kind) ∧ W.cell? ⟨gc, 2, none⟩ = some (.map (some bt)) ∧ W.cell? ⟨gc, 3, none⟩ = some (.int .i64 (given + 1)) ∧ W.cell? ⟨bv, 0, none⟩ = some (.int .i64 v.kind) ∧ W.cell? ⟨bv, 1, none⟩ = some (.int .i64 v.n) ∧ W.cell? ⟨bv, 2, none⟩ = some (.string v.s) ∧ W.cell? ⟨bv, 3, none⟩ = some (.slice al v.l.length cl) ∧ W.cell? ⟨bv, 4, none⟩ = some (.slice af v.f.length cf)) := fun W hf => ⟨cell_frx hf (fun e => e) z1, cell_frx hf (fun e => e) z2, cell_frx hf (fun e => e) z9, cell_frx hf (fun e => e) z10, cell_frx hf (fun e => e) z4, cell_frx hf (fun e => e) z5, cell_frx hf (fun e => e) z6, cell_frx hf (fun e => e) z7, cell_frx hf (fun e => e) z8⟩
  have hnm : ∀ {b o : Nat} {u : Value}, w2.cell? ⟨b, o, none⟩ = some u → b ≠ bt := by
    intro b o u hu e
    subst e
    obtain ⟨es, cc, hbm, _⟩ := hcl2.th
    unfold World.cell? at hu
    rw [hbm] at hu
    cases hu
  have HKD : Hid (∀ W W4, Fr w2 W (fun _ => False) → W.grownBy W4 (some bt) → W4.cell? ⟨bc, 0, none⟩ = some (.pointer (some ⟨gc, 0, none⟩)) ∧ W4.cell? ⟨bi, 0, none⟩ = some (.string kind) ∧ W4.cell? ⟨gc, 2, none⟩ = some (.map (some bt)) ∧ W4.cell? ⟨gc, 3, none⟩ = some (.int .i64 (given + 1)) ∧ W4.cell? ⟨bv, 0, none⟩ = some (.int .i64 v.kind) ∧ W4.cell? ⟨bv, 1, none⟩ = some (.int .i64 v.n) ∧ W4.cell? ⟨bv, 2, none⟩ = some (.string v.s) ∧ W4.cell? ⟨bv, 3, none⟩ = some (.slice al v.l.length cl) ∧ W4.cell? ⟨bv, 4, none⟩ = some (.slice af v.f.length cf)) := fun W W4 hf hg =>
    have hf4 : Fr w2 W4 (fun c => c = bt) := (hf.weak (fun _ _ e => e.elim)).trans (frb hg) (fun _ _ e => e)
    ⟨cell_frx hf4 (hnm z1) z1, cell_frx hf4 (hnm z2) z2, cell_frx hf4 (hnm z9) z9, cell_frx hf4 (hnm z10) z10, cell_frx hf4 (hnm z4) z4, cell_frx hf4 (hnm z5) z5, cell_frx hf4 (hnm z6) z6, cell_frx hf4 (hnm z7) z7, cell_frx hf4 (hnm z8) z8⟩
  have HCP := hide (copyX_any (Cl.own B gc bt bd bf) m w2.drew v _ _ _ _ _ (hmx2.fr ((Fr.refl w2 _).drew)) hex2 hbk)
  have HCL2 := hide hcl2
  have HF2 := hide hf2
  clear hnm hcl2 hf2 hmx2 hex2 hb2 hb3 hw2 y1 y2 y3 f3 h1 h2 h3 hlen HMX HH HB
  go_region_held3 (fun W' => W'.cell? ⟨bc, 0, none⟩ = some (.pointer (some ⟨gc, 0, none⟩)) ∧ W'.cell? ⟨bi, 0, none⟩ = some (.string kind) ∧ W'.cell? ⟨gc, 2, none⟩ = some (.map (some bt)) ∧ W'.cell? ⟨gc, 3, none⟩ = some (.int .i64 (given + 1)) ∧ W'.cell? ⟨bv, 0, none⟩ = some (.int .i64 v.kind) ∧ W'.cell? ⟨bv, 1, none⟩ = some (.int .i64 v.n) ∧ W'.cell? ⟨bv, 2, none⟩ = some (.string v.s) ∧ W'.cell? ⟨bv, 3, none⟩ = some (.slice al v.l.length cl) ∧ W'.cell? ⟨bv, 4, none⟩ = some (.slice af v.f.length cf)) (first | exact ⟨z1, z2, z9, z10, z4, z5, z6, z7, z8⟩ | exact HKC.out _ hf3 | exact HKD.out _ _ hf3 hg4 | go_keep)
    (first | (go_at_call 36; (with_reducible refine Calls.mono HCP.out ?_); rintro e w3 ⟨⟨e0, e1, e2, e3, e4, rfl, hmx3⟩, hb3⟩; have hf3 : Fr w2 w3 (fun _ => False) := ((Fr.refl w2 (fun _ => False)).drew).trans (fr_of_below hb3) (fun _ _ e => e); obtain ⟨al3, cl3, af3, cf3, rfl, rfl, rfl, rfl, rfl⟩ := hmx3.mem.form; obtain ⟨w4, hr, hI4, hg4⟩ := T.update u81 (HCL2.out.fr hf3).th (given + 1) (Tg.val ⟨given + 1, kind, v.kind, v.n, v.s, al3, v.l.length, cl3, af3, v.f.length, cf3⟩); unfold Tg.val at hr))
  have HFA := hide ((HF2.out.weak (ex1 := fun c => c = gc ∨ c = bt) (fun _ _ e => .inl e)).trans ((hf3.weak (ex1 := fun c => c = bt) (fun _ _ e => e.elim)).trans (frb hg4) (fun _ _ e => e)) (fun _ _ e => .inr e))
  have HCA := hide ((HCL2.out.fr hf3).things hI4 (frb hg4))
  have HMA := hide (hmx3.fr ((frb hg4).weak (ex1 := Cl.own B gc bt bd bf) (fun _ _ e => .inr (.inr (.inl e)))))
  have y4 := (HKD.out _ _ hf3 hg4).1
  have y5 := (HKD.out _ _ hf3 hg4).2.2.2.1
  clear hmx3 hb3 hf3 hr hI4 hg4 HCP HKC HKD
  go_wp2_with fail
  go_ret2
  exact ⟨rfl, ⟨given + 1, kind, v.kind, v.n, v.s, al3, v.l.length, cl3, af3, v.f.length, cf3⟩, rfl, rfl, HMA.out, HCA.out, HFA.out⟩
end Go.Proofs.Ytlmkpjdaoinmoaa
