/- For CloudSays: Create and Update by a new token, with values that lie apart from more blocks than the cloud's. -/
import Derived.Test.YtlmkpjdaoinmoaaCP
namespace Go.Proofs.Ytlmkpjdaoinmoaa
open Go.RowKit
attribute [local go_sem ↓] Go.wp_at_zero Go.wp_at_succ
set_option maxRecDepth 100000 in
set_option maxHeartbeats 600000 in
/-- What Create does, if its token did nothing yet. -/
theorem createFnZ (w : World) (B : Nat → Prop) (g gc bt bd bf bc bi bv : Nat) (D : Dk) (q given calls : Int) (Th : List (Int × Value)) (Di : List (ByteArray × Value)) (Fa : List (Int × Value)) (kind : ByteArray) (m : Nat) (v : Val) (c0 c1 c2 c3 c4 : Value) (h : Cl w B g gc bt bd bf D q given calls Th Di Fa) (Z : Nat → Prop) (hZ : ∀ c, Cl.own B gc bt bd bf c → Z c) (hZl : ∀ c, Z c → c < w.heap.size)
    (hM : V.MemX Z (m + 1) w v [c0, c1, c2, c3, c4]) (hbk : V.bulk (m + 1) v ≤ 2000000) (h1 : w.cell? ⟨bc, 0, none⟩ = some (.pointer (some ⟨gc, 0, none⟩))) (h2 : w.cell? ⟨bi, 0, none⟩ = some (.string kind)) (h3 : w.heap[bv]? = some (.cells #[c0, c1, c2, c3, c4] 40 (0, 0)))
    (hbc : bc ≠ gc) (hbi : bi ≠ gc) (hbv : bv ≠ gc) (hq : 0 ≤ given ∧ given ≤ 1000000) (hfull : ¬ (Th.length : Int) ≥ q) :
    Calls Try.prog 35 #[.pointer (some ⟨bc, 0, none⟩), .pointer (some ⟨bi, 0, none⟩), .pointer (some ⟨bv, 0, none⟩)] w fun o w' => o = .returned (.tuple #[.int .i64 (given + 1), .nilIface]) ∧ ∃ t : Tg, t.id = given + 1 ∧ t.kind = kind ∧ V.MemX Z (m + 1) w' v t.cells ∧ Cl w' B g gc bt bd bf D q (given + 1) calls (T.put Th (given + 1) t.val) Di Fa ∧ Fr w w' (fun c => c = gc ∨ c = bt) := by
  have HH := hide h
  have HMX := hide hM
  obtain ⟨al, cl, af, cf, rfl, rfl, rfl, rfl, rfl⟩ := hM.mem.form
  have hlen := T.len_run u81 (h.fr (Fr.refl w (fun _ => False)).drew).th
  have y1 := cell_of_block h.blk 1 _ rfl
  have y2 := cell_of_block h.blk 2 _ rfl
  clear hM
  have hfi : ¬ q ≤ (Th.length : Int) := hfull
  have hfd : decide (q ≤ (Th.length : Int)) = false := decide_eq_false hfi
  clear h hfull
  go_enter Try.func35, Try.ntmps35
  have y3 := cell_of_block HH.out.blk 3 _ rfl
  have f3 := free_of_block HH.out.blk 3
  obtain ⟨w2, hw2⟩ : ∃ w2, w2 = (w.setCell ⟨gc, 3, none⟩ (.int .i64 (given + 1))).drew := ⟨_, rfl⟩
  have hb2 : w2.heap[gc]? = some (cblk g q bt (given + 1) bd calls bf) := by
    have := HH.out.blk
    unfold cblk at this ⊢
    rw [hw2]
    show (w.setCell ⟨gc, 3, none⟩ (.int .i64 (given + 1))).heap[gc]? = _
    simp [World.setCell, Array.getElem?_modify, this]
  have hf2 : Fr w w2 (fun c => c = gc) := by rw [hw2]; exact ((Fr.refl w (fun c => c = gc)).set ⟨gc, 3, none⟩ _ (fun _ => rfl)).drew
  have hcl2 := HH.out.wrote hb2 hf2
  have hmx2 : V.MemX Z (m + 1) w2 v [.int .i64 v.kind, .int .i64 v.n, .string v.s, .slice al v.l.length cl, .slice af v.f.length cf] := HMX.out.fr (hf2.weak (fun _ _ e => hZ _ (.inr (.inl e))))
  have z1 := cell_frx hf2 hbc h1
  have z2 := cell_frx hf2 hbi h2
  have hb3 := (hf2.block bv (Array.getElem?_eq_some_iff.1 h3).1 hbv).trans h3
  have hwr : wrap64 (given + 1) = given + 1 := by unfold wrap64; omega
  have hex2 : ∀ c, Z c → c < w2.heap.size := fun c hc => Nat.lt_of_lt_of_le (hZl c hc) hf2.size
  go_wp2_with fail
  go_region
  go_wp2_with fail
  rw [← hw2]
  have z4 := cell_of_block hb3 0 _ rfl
  have z5 := cell_of_block hb3 1 _ rfl
  have z6 := cell_of_block hb3 2 _ rfl
  have z7 := cell_of_block hb3 3 _ rfl
  have z8 := cell_of_block hb3 4 _ rfl
  have z9 := cell_of_block hb2 2 _ rfl
  have z10 := cell_of_block hb2 3 _ rfl
  have HKC : Hid (∀ W, Fr w2 W (fun _ => False) → W.cell? ⟨bc, 0, none⟩ = some (.pointer (some ⟨gc, 0, none⟩)) ∧ W.cell? ⟨bi, 0, none⟩ = some (.string kind) ∧ W.cell? ⟨gc, 2, none⟩ = some (.map (some bt)) ∧ W.cell? ⟨gc, 3, none⟩ = some (.int .i64 (given + 1)) ∧ W.cell? ⟨bv, 0, none⟩ = some (.int .i64 v.kind) ∧ W.cell? ⟨bv, 1, none⟩ = some (.int .i64 v.n) ∧ W.cell? ⟨bv, 2, none⟩ = some (.string v.s) ∧ W.cell? ⟨bv, 3, none⟩ = some (.slice al v.l.length cl) ∧ W.cell? ⟨bv, 4, none⟩ = some (.slice af v.f.length cf)) := fun W hf => ⟨cell_frx hf (fun e => e) z1, cell_frx hf (fun e => e) z2, cell_frx hf (fun e => e) z9, cell_frx hf (fun e => e) z10, cell_frx hf (fun e => e) z4, cell_frx hf (fun e => e) z5, cell_frx hf (fun e => e) z6, cell_frx hf (fun e => e) z7, cell_frx hf (fun e => e) z8⟩
  have hnm : ∀ {b o : Nat} {u : Value}, w2.cell? ⟨b, o, none⟩ = some u → b ≠ bt := by
    intro b o u hu e
    subst e
    obtain ⟨es, cc, hbm, _⟩ := hcl2.th
    unfold World.cell? at hu
    rw [hbm] at hu
    cases hu
  have HKD : Hid (∀ W W4, Fr w2 W (fun _ => False) → W.grownBy W4 (some bt) → W4.cell? ⟨bc, 0, none⟩ = some (.pointer (some ⟨gc, 0, none⟩)) ∧ W4.cell? ⟨bi, 0, none⟩ = some (.string kind) ∧ W4.cell? ⟨gc, 2, none⟩ = some (.map (some bt)) ∧ W4.cell? ⟨gc, 3, none⟩ = some (.int .i64 (given + 1)) ∧ W4.cell? ⟨bv, 0, none⟩ = some (.int .i64 v.kind) ∧ W4.cell? ⟨bv, 1, none⟩ = some (.int .i64 v.n) ∧ W4.cell? ⟨bv, 2, none⟩ = some (.string v.s) ∧ W4.cell? ⟨bv, 3, none⟩ = some (.slice al v.l.length cl) ∧ W4.cell? ⟨bv, 4, none⟩ = some (.slice af v.f.length cf)) := fun W W4 hf hg =>
    have hf4 : Fr w2 W4 (fun c => c = bt) := (hf.weak (fun _ _ e => e.elim)).trans (frb hg) (fun _ _ e => e)
    ⟨cell_frx hf4 (hnm z1) z1, cell_frx hf4 (hnm z2) z2, cell_frx hf4 (hnm z9) z9, cell_frx hf4 (hnm z10) z10, cell_frx hf4 (hnm z4) z4, cell_frx hf4 (hnm z5) z5, cell_frx hf4 (hnm z6) z6, cell_frx hf4 (hnm z7) z7, cell_frx hf4 (hnm z8) z8⟩
  have HCP := hide (copyX_any Z m w2.drew v _ _ _ _ _ (hmx2.fr ((Fr.refl w2 _).drew)) hex2 hbk)
  have HCL2 := hide hcl2
  have HF2 := hide hf2
  clear hnm hcl2 hf2 hmx2 hex2 hb2 hb3 hw2 y1 y2 y3 f3 h1 h2 h3 hlen HMX HH hZl
  go_region_held3 (fun W' => W'.cell? ⟨bc, 0, none⟩ = some (.pointer (some ⟨gc, 0, none⟩)) ∧ W'.cell? ⟨bi, 0, none⟩ = some (.string kind) ∧ W'.cell? ⟨gc, 2, none⟩ = some (.map (some bt)) ∧ W'.cell? ⟨gc, 3, none⟩ = some (.int .i64 (given + 1)) ∧ W'.cell? ⟨bv, 0, none⟩ = some (.int .i64 v.kind) ∧ W'.cell? ⟨bv, 1, none⟩ = some (.int .i64 v.n) ∧ W'.cell? ⟨bv, 2, none⟩ = some (.string v.s) ∧ W'.cell? ⟨bv, 3, none⟩ = some (.slice al v.l.length cl) ∧ W'.cell? ⟨bv, 4, none⟩ = some (.slice af v.f.length cf)) (first | exact ⟨z1, z2, z9, z10, z4, z5, z6, z7, z8⟩ | exact HKC.out _ hf3 | exact HKD.out _ _ hf3 hg4 | go_keep)
    (first | (go_at_call 36; (with_reducible refine Calls.mono HCP.out ?_); rintro e w3 ⟨⟨e0, e1, e2, e3, e4, rfl, hmx3⟩, hb3⟩; have hf3 : Fr w2 w3 (fun _ => False) := ((Fr.refl w2 (fun _ => False)).drew).trans (fr_of_below hb3) (fun _ _ e => e); obtain ⟨al3, cl3, af3, cf3, rfl, rfl, rfl, rfl, rfl⟩ := hmx3.mem.form; obtain ⟨w4, hr, hI4, hg4⟩ := T.update u81 (HCL2.out.fr hf3).th (given + 1) (Tg.val ⟨given + 1, kind, v.kind, v.n, v.s, al3, v.l.length, cl3, af3, v.f.length, cf3⟩); unfold Tg.val at hr))
  have HFA := hide ((HF2.out.weak (ex1 := fun c => c = gc ∨ c = bt) (fun _ _ e => .inl e)).trans ((hf3.weak (ex1 := fun c => c = bt) (fun _ _ e => e.elim)).trans (frb hg4) (fun _ _ e => e)) (fun _ _ e => .inr e))
  have HCA := hide ((HCL2.out.fr hf3).things hI4 (frb hg4))
  have HMA := hide (hmx3.fr ((frb hg4).weak (ex1 := Z) (fun _ _ e => hZ _ (.inr (.inr (.inl e))))))
  have y4 := (HKD.out _ _ hf3 hg4).1
  have y5 := (HKD.out _ _ hf3 hg4).2.2.2.1
  clear hmx3 hb3 hf3 hr hI4 hg4 HCP HKC HKD
  go_wp2_with fail
  go_ret2
  exact ⟨rfl, ⟨given + 1, kind, v.kind, v.n, v.s, al3, v.l.length, cl3, af3, v.f.length, cf3⟩, rfl, rfl, HMA.out, HCA.out, HFA.out⟩
set_option maxRecDepth 100000 in
set_option maxHeartbeats 600000 in
theorem createNewZ (w : World) (B : Nat → Prop) (g gc bt bd bf : Nat) (D : Dk) (q given calls : Int) (Th : List (Int × Value)) (Di : List (ByteArray × Value)) (Fa : List (Int × Value)) (tok kind : ByteArray) (m : Nat) (v : Val) (c0 c1 c2 c3 c4 : Value) (h : Cl w B g gc bt bd bf D q given calls Th Di Fa) (Z : Nat → Prop) (hZ : ∀ c, Cl.own B gc bt bd bf c → Z c) (hZl : ∀ c, Z c → c < w.heap.size) (hM : V.MemX Z (m + 1) w v [c0, c1, c2, c3, c4]) (hbk : V.bulk (m + 1) v ≤ 2000000) (hk : kind.size ≤ maxLen) (hA : attrE (m + 1) v = 0) (hN : V.name (V.bl kind) = true) (hs : 0 ≤ D.steps ∧ D.steps ≤ 1000000) (hl : -9223372036854775808 ≤ D.left ∧ D.left ≤ 9223372036854775807) (hn : ¬ D.fails) (hc : 0 ≤ calls ∧ calls ≤ 1000000) (hF : T.get Fa calls = none) (hp : S.get Di tok = none) (hfu : ¬ (Th.length : Int) ≥ q) (hq : 0 ≤ given ∧ given ≤ 1000000) (hB : ∀ x, B x → x < w.heap.size) :
    Calls Try.prog 12 #[.pointer (some ⟨gc, 0, none⟩), .string tok, .string kind, .agg #[c0, c1, c2, c3, c4]] w fun o w' => o = .returned (.tuple #[.int .i64 (given + 1), .nilIface]) ∧ ∃ Th1, (∃ t : Tg, t.id = given + 1 ∧ t.kind = kind ∧ V.MemX Z (m + 1) w' v t.cells ∧ Th1 = T.put Th (given + 1) t.val) ∧ Cl w' B g gc bt bd bf D.step q (given + 1) (calls + 1) Th1 (S.put Di tok (dval (1, given + 1))) Fa ∧ Fr w w' (fun c => c = g ∨ c = gc ∨ c = bt ∨ c = bd) := by
  obtain ⟨al, cl, af, cf, rfl, rfl, rfl, rfl, rfl⟩ := hM.mem.form
  obtain ⟨w2, hw2⟩ : ∃ w2, w2 = boxes w gc kind #[.int .i64 v.kind, .int .i64 v.n, .string v.s, .slice al v.l.length cl, .slice af v.f.length cf] := ⟨_, rfl⟩
  have hf2 : Fr w w2 (fun _ => False) := by rw [hw2]; exact boxes_fr ..
  obtain ⟨b1, b2, b3, b4⟩ := boxes_at w gc kind #[.int .i64 v.kind, .int .i64 v.n, .string v.s, .slice al v.l.length cl, .slice af v.f.length cf]
  rw [← hw2] at b1 b2 b3 b4
  have hmx2 := hM.fr (hf2.weak (ex1 := Z) (fun _ _ e => e.elim))
  have HAT := hide (attributes_any (m + 1) w2 v _ _ _ _ _ hmx2.mem hbk)
  have hcl2 := h.fr hf2
  have hae : (if v.kind = 5 then V.fault (m + 1) v else 9) = attrE (m + 1) v := rfl
  rw [hae] at HAT
  clear hae
  have a0 := cell_of_block b3 0 _ rfl
  have a1 := cell_of_block b3 1 _ rfl
  have a2 := cell_of_block b3 2 _ rfl
  have a3 := cell_of_block b3 3 _ rfl
  have a4 := cell_of_block b3 4 _ rfl
  unfold boxes at hw2
  have hE : V.errOf (attrE (m + 1) v) = .nilIface := by rw [hA]; rfl
  rw [hE] at HAT
  clear hE hA
  obtain ⟨PT, hPTe⟩ : ∃ PT : World → List (Int × Value) → Prop, PT = (fun W X => ∃ t : Tg, t.id = given + 1 ∧ t.kind = kind ∧ V.MemX Z (m + 1) W v t.cells ∧ X = T.put Th (given + 1) t.val) := ⟨_, rfl⟩
  have hPT : ∀ W W2 X, PT W X → Fr W W2 (fun c => c = bd) → PT W2 X := by
    intro W W2 X hp2 hf4
    rw [hPTe] at hp2 ⊢
    obtain ⟨t, t1, t2, t3, t4⟩ := hp2
    exact ⟨t, t1, t2, t3.fr (hf4.weak (fun _ _ e => hZ _ (.inr (.inr (.inr (.inl e)))))), t4⟩
  have HC : Hid (∀ W, Fr w2 W (fun _ => False) → Calls Try.prog 34 #[.pointer (some ⟨gc, 0, none⟩), .string tok, .int .i64 1, .func (.func 35) #[] #[.pointer (some ⟨w.heap.size, 0, none⟩), .pointer (some ⟨w.heap.size + 1, 0, none⟩), .pointer (some ⟨w.heap.size + 1 + 1, 0, none⟩)]] W fun o w' => o = .returned (.tuple #[.int .i64 (given + 1), .nilIface]) ∧ ∃ Th1, PT w' Th1 ∧ Cl w' B g gc bt bd bf D.step q (given + 1) (calls + 1) Th1 (S.put Di tok (dval (1, given + 1))) Fa ∧ Fr W w' (fun c => c = g ∨ c = gc ∨ c = bt ∨ c = bd)) := fun W hf => by
    have hg0 := hB g h.disk.has_g
    have hc0 : gc < w.heap.size := (Array.getElem?_eq_some_iff.1 h.blk).1
    have hz := hf.size
    refine callNewX_any W B g gc bt bd bf w.heap.size (w.heap.size + 1) (w.heap.size + 1 + 1) D q given calls Th Di Fa tok 1 (given + 1) PT hPT (given + 1) (hcl2.fr hf) hp hs hl hn hc hF (fun W2 hcl hfr => ?_)
    have hfx := (hf.weak (ex1 := fun c => c = g ∨ c = gc) (fun _ _ e => e.elim)).trans hfr (fun _ _ e => e)
    have hmW := hmx2.fr (hfx.weak (ex1 := Z) (fun _ _ e => hZ _ (e.elim (fun e => .inl (e ▸ h.disk.has_g)) (fun e => .inr (.inl e)))))
    refine (createFnZ W2 B g gc bt bd bf w.heap.size (w.heap.size + 1) (w.heap.size + 1 + 1) D.step q given (calls + 1) Th Di Fa kind m v _ _ _ _ _ hcl Z hZ (fun x hx => by have := hZl x hx; have := hfx.size; have := hf2.size; omega) hmW hbk (cell_frx hfx (by omega) b1) (cell_frx hfx (by omega) b2) ((hfx.block _ (by omega) (by omega)).trans b3) (by omega) (by omega) (by omega) hq hfu).mono ?_
    rintro o w' ⟨rfl, t, t1, t2, t3, t4, t5⟩
    exact ⟨rfl, _, by rw [hPTe]; exact ⟨t, t1, t2, t3, rfl⟩, t4, t5⟩
  have HF := hide hf2
  have HK := hide hk
  clear h hM hmx2 hcl2 hf2 b3 b4 hk hp hs hl hn hc hF hfu hB hPT hq hZ hZl
  go_enter Try.func12, Try.ntmps12
  go_wp2_with fail
  rw [← hw2]
  clear hw2
  go_wp2_with fail
  refine HAT.out.mono ?_
  rintro o w3 ⟨rfl, hb3⟩
  have hf3 := fr_of_below hb3
  have k2 := cell_frx hf3 (fun e => e) b2
  have k1 := cell_frx hf3 (fun e => e) b1
  have HNM := hide (name_any kind w3 HK.out)
  rw [hN] at HNM
  have HC3 := hide (HC.out w3 hf3)
  have HF3 := hide (HF.out.trans hf3 (fun _ _ e => e))
  clear hb3 hf3 HAT HC
  go_wp2_with (first
    | (go_at_call 33; (with_reducible refine Calls.mono HNM.out ?_); rintro o w4 ⟨rfl, hw4⟩; rw [hw4]; clear hw4 w4)
    | (go_at_call 34; (with_reducible refine Calls.mono HC3.out ?_); rintro o w5 ⟨rfl, Th1, hpt5, hcl5, hf5⟩; have HCL5 := hide hcl5; have HF5 := hide ((HF3.out.weak (ex1 := fun c => c = g ∨ c = gc ∨ c = bt ∨ c = bd) (fun _ _ e => e.elim)).trans hf5 (fun _ _ e => e)); clear hcl5 hf5))
  go_ret2
  rw [hPTe] at hpt5
  exact ⟨rfl, Th1, hpt5, HCL5.out, HF5.out⟩
set_option maxRecDepth 100000 in
set_option maxHeartbeats 600000 in
/-- A thing that is there is changed. -/
theorem changeZ (w : World) (B : Nat → Prop) (g gc bt bd bf : Nat) (D : Dk) (q given calls : Int) (Th : List (Int × Value)) (Di : List (ByteArray × Value)) (Fa : List (Int × Value)) (id : Int) (m : Nat) (v : Val) (c0 c1 c2 c3 c4 : Value) (t0 : Tg) (h : Cl w B g gc bt bd bf D q given calls Th Di Fa) (Z : Nat → Prop) (hZ : ∀ c, Cl.own B gc bt bd bf c → Z c) (hZl : ∀ c, Z c → c < w.heap.size)
    (hB : ∀ x, B x → x < w.heap.size) (hM : V.MemX Z (m + 1) w v [c0, c1, c2, c3, c4]) (hbk : V.bulk (m + 1) v ≤ 2000000) (hg0 : T.get Th id = some t0.val) :
    Calls Try.prog 43 #[.pointer (some ⟨gc, 0, none⟩), .int .i64 id, .agg #[c0, c1, c2, c3, c4]] w fun o w' => o = .returned (.tuple #[]) ∧ ∃ t : Tg, t.id = t0.id ∧ t.kind = t0.kind ∧ V.MemX Z (m + 1) w' v t.cells ∧ Cl w' B g gc bt bd bf D q given calls (T.put Th id t.val) Di Fa ∧ Fr w w' (fun c => c = bt) := by
  obtain ⟨al, cl, af, cf, rfl, rfl, rfl, rfl, rfl⟩ := hM.mem.form
  obtain ⟨w1, hw1⟩ : ∃ w1, w1 = w.alloc (.cells #[.int .i64 v.kind, .int .i64 v.n, .string v.s, .slice al v.l.length cl, .slice af v.f.length cf] 40) := ⟨_, rfl⟩
  have hf1 : Fr w w1 (fun _ => False) := by rw [hw1]; exact (Fr.refl _ _).alloc _
  have hcl1 := h.fr hf1
  have hlk : (Instr.lookup 81 (.map (some bt)) (.int .i64 id) false).run Try.prog w1 = .ok t0.val w1 := by
    have hlk := T.look u81 hcl1.th id false z51
    cases ha : T.at_ id Th 0 with
    | none => unfold T.get at hg0; rw [ha] at hg0; cases hg0
    | some x =>
      rw [ha] at hlk
      unfold T.get at hg0
      rw [ha] at hg0
      have hx : x.2 = t0.val := by simpa using hg0
      rw [hlk, ← hx]
      rfl
  unfold Tg.val at hlk
  have y2 := cell_of_block hcl1.blk 2 _ rfl
  subst hw1
  clear hg0
  go_enter Try.func43, Try.ntmps43
  go_wp2_with fail
  obtain ⟨w2, hw2⟩ : ∃ w2, w2 = (w.alloc (.cells #[.int .i64 v.kind, .int .i64 v.n, .string v.s, .slice al v.l.length cl, .slice af v.f.length cf] 40)).alloc (.cells #[.int .i64 t0.id, .string t0.kind, .int .i64 t0.k, .int .i64 t0.n, .string t0.s, .slice t0.la t0.ln t0.lc, .slice t0.fa t0.fn t0.fc] 51) := ⟨_, rfl⟩
  have hf2 : Fr w w2 (fun _ => False) := by rw [hw2]; exact ((Fr.refl _ _).alloc _).alloc _
  have hcl2 := h.fr hf2
  have hmx2 := (hM.more (ex2 := fun c => Z c ∨ c = w.heap.size + 1) (fun c e => e.imp (fun e => e) (fun e => by omega))).fr (hf2.weak (fun _ _ e => e.elim))
  have hb2 : w2.heap[w.heap.size + 1]? = some (.cells #[.int .i64 t0.id, .string t0.kind, .int .i64 t0.k, .int .i64 t0.n, .string t0.s, .slice t0.la t0.ln t0.lc, .slice t0.fa t0.fn t0.fc] 51 (0, 0)) := by
    have h0 := heap_alloc_new (w.alloc (.cells #[.int .i64 v.kind, .int .i64 v.n, .string v.s, .slice al v.l.length cl, .slice af v.f.length cf] 40)) (.cells #[.int .i64 t0.id, .string t0.kind, .int .i64 t0.k, .int .i64 t0.n, .string t0.s, .slice t0.la t0.ln t0.lc, .slice t0.fa t0.fn t0.fc] 51)
    rw [← hw2, World.size_alloc] at h0
    exact h0
  have hex2 : ∀ c, (Z c ∨ c = w.heap.size + 1) → c < w2.heap.size := by
    intro c hc
    have hz := hf2.size
    rcases hc with hc | rfl
    · have := hZl c hc; omega
    · exact (Array.getElem?_eq_some_iff.1 hb2).1
  have HCP := hide (copyX_any (fun c => Z c ∨ c = w.heap.size + 1) m w2 v _ _ _ _ _ hmx2 hex2 hbk)
  rw [← hw2]
  clear hw2 hlk y2 hcl1 hf1 hM
  refine HCP.out.mono ?_
  rintro o w3 ⟨⟨e0, e1, e2, e3, e4, rfl, hmx3⟩, hb3⟩
  obtain ⟨al3, cl3, af3, cf3, rfl, rfl, rfl, rfl, rfl⟩ := hmx3.mem.form
  have hk3 := (hb3.block _ (Array.getElem?_eq_some_iff.1 hb2).1).trans hb2
  have hcl3 := hcl2.fr (fr_of_below hb3)
  have q0 := cell_of_block hk3 0 _ rfl
  have q1 := cell_of_block hk3 1 _ rfl
  have q2 := cell_of_block hk3 2 _ rfl
  have q3 := cell_of_block hk3 3 _ rfl
  have q4 := cell_of_block hk3 4 _ rfl
  have q5 := cell_of_block hk3 5 _ rfl
  have q6 := cell_of_block hk3 6 _ rfl
  have r2 := free_of_block hk3 2
  have r3 := free_of_block hk3 3
  have r4 := free_of_block hk3 4
  have r5 := free_of_block hk3 5
  have r6 := free_of_block hk3 6
  have y2 := cell_of_block hcl3.blk 2 _ rfl
  obtain ⟨w4, hw4⟩ : ∃ w4, w4 = ((((w3.setCell ⟨w.heap.size + 1, 2, none⟩ (.int .i64 v.kind)).setCell ⟨w.heap.size + 1, 3, none⟩ (.int .i64 v.n)).setCell ⟨w.heap.size + 1, 4, none⟩ (.string v.s)).setCell ⟨w.heap.size + 1, 5, none⟩ (.slice al3 v.l.length cl3)).setCell ⟨w.heap.size + 1, 6, none⟩ (.slice af3 v.f.length cf3) := ⟨_, rfl⟩
  have hb4 : w4.heap[w.heap.size + 1]? = some (.cells #[.int .i64 t0.id, .string t0.kind, .int .i64 v.kind, .int .i64 v.n, .string v.s, .slice al3 v.l.length cl3, .slice af3 v.f.length cf3] 51 (0, 0)) := by
    rw [hw4]
    simp [World.setCell, Array.getElem?_modify, hk3]
  have hf4 : Fr w3 w4 (fun c => c = w.heap.size + 1) := by
    rw [hw4]
    exact (((((Fr.refl w3 (fun c => c = w.heap.size + 1)).set ⟨w.heap.size + 1, 2, none⟩ _ (fun _ => rfl)).set ⟨w.heap.size + 1, 3, none⟩ _ (fun _ => rfl)).set ⟨w.heap.size + 1, 4, none⟩ _ (fun _ => rfl)).set ⟨w.heap.size + 1, 5, none⟩ _ (fun _ => rfl)).set ⟨w.heap.size + 1, 6, none⟩ _ (fun _ => rfl)
  have hown : ∀ c, Cl.own B gc bt bd bf c → ¬ c = w.heap.size + 1 := by
    intro c hc e
    rcases hc with hc | rfl | rfl | rfl | rfl
    · have := hB c hc; omega
    · have := (Array.getElem?_eq_some_iff.1 h.blk).1; omega
    · have := h.th.lt; omega
    · have := h.di.lt; omega
    · have := h.fa.lt; omega
  have hcl4 := hcl3.frx hf4 hown
  have hmx4 := (hmx3.fr (hf4.weak (fun _ _ e => .inr e))).more (ex2 := Z) (fun c e => .inl (.inl e))
  have u0 := cell_of_block hb4 0 _ rfl
  have u1 := cell_of_block hb4 1 _ rfl
  have u2 := cell_of_block hb4 2 _ rfl
  have u3 := cell_of_block hb4 3 _ rfl
  have u4 := cell_of_block hb4 4 _ rfl
  have u5 := cell_of_block hb4 5 _ rfl
  have u6 := cell_of_block hb4 6 _ rfl
  have u7 := cell_of_block hcl4.blk 2 _ rfl
  have hf04 : Fr w w4 (fun _ => False) := (hf2.trans (fr_of_below hb3) (fun _ _ e => e)).trans hf4 (fun c hc e => by omega)
  go_wp2_with fail
  rw [← hw4]
  obtain ⟨w5, hr, hI5, hg5⟩ := T.update u81 (w := w4.drew) (hcl4.fr (Fr.refl w4 (fun _ => False)).drew).th id (Tg.val ⟨t0.id, t0.kind, v.kind, v.n, v.s, al3, v.l.length, cl3, af3, v.f.length, cf3⟩)
  unfold Tg.val at hr
  have HCL := hide ((hcl4.fr (Fr.refl w4 (fun _ => False)).drew).things hI5 (frb hg5))
  have HMX := hide ((hmx4.fr (Fr.refl w4 _).drew).fr ((frb hg5).weak (fun _ _ e => hZ _ (.inr (.inr (.inl e))))))
  have HF := hide ((hf04.drew.weak (ex1 := fun c => c = bt) (fun _ _ e => e.elim)).trans (frb hg5) (fun _ _ e => e))
  clear hI5 hg5 hcl4 hmx4 hf4 hf04 hcl3 hmx3 hb3 hw4 hcl2 hmx2 hex2 hf2 HCP hown hb4 hk3 hb2 q0 q1 q2 q3 q4 q5 q6 r2 r3 r4 r5 r6 y2
  go_region
  go_wp2_with fail
  go_end0
  exact ⟨rfl, ⟨t0.id, t0.kind, v.kind, v.n, v.s, al3, v.l.length, cl3, af3, v.f.length, cf3⟩, rfl, rfl, HMX.out, HCL.out, HF.out⟩
set_option maxRecDepth 100000 in
set_option maxHeartbeats 600000 in
/-- What Update does of a thing that is there. -/
theorem updFnZ (w : World) (B : Nat → Prop) (g gc bt bd bf bc bi bv : Nat) (D : Dk) (q given calls : Int) (Th : List (Int × Value)) (Di : List (ByteArray × Value)) (Fa : List (Int × Value)) (id : Int) (m : Nat) (v : Val) (c0 c1 c2 c3 c4 : Value) (t0 : Tg) (h : Cl w B g gc bt bd bf D q given calls Th Di Fa) (Z : Nat → Prop) (hZ : ∀ c, Cl.own B gc bt bd bf c → Z c) (hZl : ∀ c, Z c → c < w.heap.size)
    (hv : ∀ x ∈ Th, ∃ t : Tg, x.2 = t.val) (hB : ∀ x, B x → x < w.heap.size) (hM : V.MemX Z (m + 1) w v [c0, c1, c2, c3, c4]) (hbk : V.bulk (m + 1) v ≤ 2000000) (hg0 : T.get Th id = some t0.val)
    (h1 : w.cell? ⟨bc, 0, none⟩ = some (.pointer (some ⟨gc, 0, none⟩))) (h2 : w.cell? ⟨bi, 0, none⟩ = some (.int .i64 id)) (h3 : w.heap[bv]? = some (.cells #[c0, c1, c2, c3, c4] 40 (0, 0))) :
    Calls Try.prog 41 #[.pointer (some ⟨bc, 0, none⟩), .pointer (some ⟨bi, 0, none⟩), .pointer (some ⟨bv, 0, none⟩)] w fun o w' => o = .returned (.tuple #[.int .i64 0, .nilIface]) ∧ ∃ t : Tg, t.id = t0.id ∧ t.kind = t0.kind ∧ V.MemX Z (m + 1) w' v t.cells ∧ Cl w' B g gc bt bd bf D q given calls (T.put Th id t.val) Di Fa ∧ Fr w w' (fun c => c = bt) := by
  obtain ⟨al, cl, af, cf, rfl, rfl, rfl, rfl, rfl⟩ := hM.mem.form
  have hha := has_any w B g gc bt bd bf D q given calls Th Di Fa id h hv
  rw [hg0] at hha
  have HHA := hide hha
  have HCH : Hid (∀ W, Fr w W (fun _ => False) → Calls Try.prog 43 #[.pointer (some ⟨gc, 0, none⟩), .int .i64 id, .agg #[.int .i64 v.kind, .int .i64 v.n, .string v.s, .slice al v.l.length cl, .slice af v.f.length cf]] W fun o w' => o = .returned (.tuple #[]) ∧ ∃ t : Tg, t.id = t0.id ∧ t.kind = t0.kind ∧ V.MemX Z (m + 1) w' v t.cells ∧ Cl w' B g gc bt bd bf D q given calls (T.put Th id t.val) Di Fa ∧ Fr W w' (fun c => c = bt)) := fun W hf =>
    changeZ W B g gc bt bd bf D q given calls Th Di Fa id m v _ _ _ _ _ t0 (h.fr hf) Z hZ (fun x hx => Nat.lt_of_lt_of_le (hZl x hx) hf.size) (fun x hx => Nat.lt_of_lt_of_le (hB x hx) hf.size) (hM.fr (hf.weak (fun _ _ e => e.elim))) hbk hg0
  have HKC : Hid (∀ W, Fr w W (fun _ => False) → W.cell? ⟨bc, 0, none⟩ = some (.pointer (some ⟨gc, 0, none⟩)) ∧ W.cell? ⟨bi, 0, none⟩ = some (.int .i64 id) ∧ W.heap[bv]? = some (.cells #[.int .i64 v.kind, .int .i64 v.n, .string v.s, .slice al v.l.length cl, .slice af v.f.length cf] 40 (0, 0))) := fun W hf => ⟨cell_frx hf (fun e => e) h1, cell_frx hf (fun e => e) h2, (hf.block bv (Array.getElem?_eq_some_iff.1 h3).1 (fun e => e)).trans h3⟩
  clear h hv hB hM hg0 h3 hha hZ hZl
  go_enter Try.func41, Try.ntmps41
  go_wp2_with fail
  refine HHA.out.mono ?_
  rintro o w1 ⟨rfl, hf1⟩
  obtain ⟨k1, k2, k3⟩ := HKC.out w1 hf1
  have a0 := cell_of_block k3 0 _ rfl
  have a1 := cell_of_block k3 1 _ rfl
  have a2 := cell_of_block k3 2 _ rfl
  have a3 := cell_of_block k3 3 _ rfl
  have a4 := cell_of_block k3 4 _ rfl
  have HC1 := hide (HCH.out w1 hf1)
  have HF1 := hide hf1
  clear hf1 HHA HCH HKC k3
  go_wp2_with fail
  refine HC1.out.mono ?_
  rintro o w2 ⟨rfl, t, t1, t2, t3, t4, t5⟩
  have HMX := hide t3
  have HCL := hide t4
  have HF := hide ((HF1.out.weak (ex1 := fun c => c = bt) (fun _ _ e => e.elim)).trans t5 (fun _ _ e => e))
  clear t3 t4 t5 HC1
  go_wp2_with fail
  go_ret2
  exact ⟨rfl, t, t1, t2, HMX.out, HCL.out, HF.out⟩
set_option maxRecDepth 100000 in
set_option maxHeartbeats 600000 in
theorem updateNewZ (w : World) (B : Nat → Prop) (g gc bt bd bf : Nat) (D : Dk) (q given calls : Int) (Th : List (Int × Value)) (Di : List (ByteArray × Value)) (Fa : List (Int × Value)) (tok : ByteArray) (id : Int) (m : Nat) (v : Val) (c0 c1 c2 c3 c4 : Value) (h : Cl w B g gc bt bd bf D q given calls Th Di Fa) (Z : Nat → Prop) (hZ : ∀ c, Cl.own B gc bt bd bf c → Z c) (hZl : ∀ c, Z c → c < w.heap.size) (hM : V.MemX Z (m + 1) w v [c0, c1, c2, c3, c4]) (hbk : V.bulk (m + 1) v ≤ 2000000) (hA : attrE (m + 1) v = 0) (hs : 0 ≤ D.steps ∧ D.steps ≤ 1000000) (hl : -9223372036854775808 ≤ D.left ∧ D.left ≤ 9223372036854775807) (hn : ¬ D.fails) (hc : 0 ≤ calls ∧ calls ≤ 1000000) (hF : T.get Fa calls = none) (hp : S.get Di tok = none) (hv : ∀ x ∈ Th, ∃ t : Tg, x.2 = t.val) (t0 : Tg) (hg0 : T.get Th id = some t0.val) (hB : ∀ x, B x → x < w.heap.size) :
    Calls Try.prog 14 #[.pointer (some ⟨gc, 0, none⟩), .string tok, .int .i64 id, .agg #[c0, c1, c2, c3, c4]] w fun o w' => o = .returned .nilIface ∧ ∃ Th1, (∃ t : Tg, t.id = t0.id ∧ t.kind = t0.kind ∧ V.MemX Z (m + 1) w' v t.cells ∧ Th1 = T.put Th id t.val) ∧ Cl w' B g gc bt bd bf D.step q given (calls + 1) Th1 (S.put Di tok (dval (2, 0))) Fa ∧ Fr w w' (fun c => c = g ∨ c = gc ∨ c = bt ∨ c = bd) := by
  obtain ⟨al, cl, af, cf, rfl, rfl, rfl, rfl, rfl⟩ := hM.mem.form
  obtain ⟨w2, hw2⟩ : ∃ w2, w2 = boxesU w gc id #[.int .i64 v.kind, .int .i64 v.n, .string v.s, .slice al v.l.length cl, .slice af v.f.length cf] := ⟨_, rfl⟩
  have hf2 : Fr w w2 (fun _ => False) := by rw [hw2]; exact boxesU_fr ..
  obtain ⟨b1, b2, b3, b4⟩ := boxesU_at w gc id #[.int .i64 v.kind, .int .i64 v.n, .string v.s, .slice al v.l.length cl, .slice af v.f.length cf]
  rw [← hw2] at b1 b2 b3 b4
  have hmx2 := hM.fr (hf2.weak (ex1 := Z) (fun _ _ e => e.elim))
  have HAT := hide (attributes_any (m + 1) w2 v _ _ _ _ _ hmx2.mem hbk)
  have hcl2 := h.fr hf2
  have hae : (if v.kind = 5 then V.fault (m + 1) v else 9) = attrE (m + 1) v := rfl
  rw [hae] at HAT
  clear hae
  have a0 := cell_of_block b3 0 _ rfl
  have a1 := cell_of_block b3 1 _ rfl
  have a2 := cell_of_block b3 2 _ rfl
  have a3 := cell_of_block b3 3 _ rfl
  have a4 := cell_of_block b3 4 _ rfl
  unfold boxesU at hw2
  have hE : V.errOf (attrE (m + 1) v) = .nilIface := by rw [hA]; rfl
  rw [hE] at HAT
  clear hE hA
  obtain ⟨PT, hPTe⟩ : ∃ PT : World → List (Int × Value) → Prop, PT = (fun W X => ∃ t : Tg, t.id = t0.id ∧ t.kind = t0.kind ∧ V.MemX Z (m + 1) W v t.cells ∧ X = T.put Th id t.val) := ⟨_, rfl⟩
  have hPT : ∀ W W2 X, PT W X → Fr W W2 (fun c => c = bd) → PT W2 X := by
    intro W W2 X hp2 hf4
    rw [hPTe] at hp2 ⊢
    obtain ⟨t, t1, t2, t3, t4⟩ := hp2
    exact ⟨t, t1, t2, t3.fr (hf4.weak (fun _ _ e => hZ _ (.inr (.inr (.inr (.inl e)))))), t4⟩
  have HC : Hid (∀ W, Fr w2 W (fun _ => False) → Calls Try.prog 34 #[.pointer (some ⟨gc, 0, none⟩), .string tok, .int .i64 2, .func (.func 41) #[] #[.pointer (some ⟨w.heap.size, 0, none⟩), .pointer (some ⟨w.heap.size + 1, 0, none⟩), .pointer (some ⟨w.heap.size + 1 + 1, 0, none⟩)]] W fun o w' => o = .returned (.tuple #[.int .i64 0, .nilIface]) ∧ ∃ Th1, PT w' Th1 ∧ Cl w' B g gc bt bd bf D.step q given (calls + 1) Th1 (S.put Di tok (dval (2, 0))) Fa ∧ Fr W w' (fun c => c = g ∨ c = gc ∨ c = bt ∨ c = bd)) := fun W hf => by
    have hgl0 := hB g h.disk.has_g
    have hc0 : gc < w.heap.size := (Array.getElem?_eq_some_iff.1 h.blk).1
    have hz := hf.size
    refine callNewU_any W B g gc bt bd bf w.heap.size (w.heap.size + 1) (w.heap.size + 1 + 1) D q given calls Th Di Fa tok 2 0 PT hPT given (hcl2.fr hf) hp hs hl hn hc hF (fun W2 hcl hfr => ?_)
    have hfx := (hf.weak (ex1 := fun c => c = g ∨ c = gc) (fun _ _ e => e.elim)).trans hfr (fun _ _ e => e)
    have hmW := hmx2.fr (hfx.weak (ex1 := Z) (fun _ _ e => hZ _ (e.elim (fun e => .inl (e ▸ h.disk.has_g)) (fun e => .inr (.inl e)))))
    refine (updFnZ W2 B g gc bt bd bf w.heap.size (w.heap.size + 1) (w.heap.size + 1 + 1) D.step q given (calls + 1) Th Di Fa id m v _ _ _ _ _ t0 hcl Z hZ (fun x hx => by have := hZl x hx; have := hfx.size; have := hf2.size; omega) hv (fun x hx => by have := hB x hx; have := hfx.size; have := hf2.size; omega) hmW hbk hg0 (cell_frx hfx (by omega) b1) (cell_frx hfx (by omega) b2) ((hfx.block _ (by omega) (by omega)).trans b3)).mono ?_
    rintro o w' ⟨rfl, t, t1, t2, t3, t4, t5⟩
    exact ⟨rfl, _, by rw [hPTe]; exact ⟨t, t1, t2, t3, rfl⟩, t4, t5.weak (fun _ _ e => .inr e)⟩
  have HF := hide hf2
  clear h hM hmx2 hcl2 hf2 b3 b4 hp hs hl hn hc hF hv hg0 hB hPT hZ hZl
  go_enter Try.func14, Try.ntmps14
  go_wp2_with fail
  rw [← hw2]
  clear hw2
  go_wp2_with fail
  refine HAT.out.mono ?_
  rintro o w3 ⟨rfl, hb3⟩
  have hf3 := fr_of_below hb3
  have k2 := cell_frx hf3 (fun e => e) b2
  have k1 := cell_frx hf3 (fun e => e) b1
  have HC3 := hide (HC.out w3 hf3)
  have HF3 := hide (HF.out.trans hf3 (fun _ _ e => e))
  clear hb3 hf3 HAT HC
  go_wp2_with (first
    | (go_at_call 34; (with_reducible refine Calls.mono HC3.out ?_); rintro o w5 ⟨rfl, Th1, hpt5, hcl5, hf5⟩; have HCL5 := hide hcl5; have HF5 := hide ((HF3.out.weak (ex1 := fun c => c = g ∨ c = gc ∨ c = bt ∨ c = bd) (fun _ _ e => e.elim)).trans hf5 (fun _ _ e => e)); clear hcl5 hf5))
  go_ret
  rw [hPTe] at hpt5
  exact ⟨rfl, Th1, hpt5, HCL5.out, HF5.out⟩
end Go.Proofs.Ytlmkpjdaoinmoaa
