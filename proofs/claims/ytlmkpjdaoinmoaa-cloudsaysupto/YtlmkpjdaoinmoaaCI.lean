/- For TopToken and CloudSays: Create by a new token, where there is room. -/
import Derived.Test.YtlmkpjdaoinmoaaCH
namespace Go.Proofs.Ytlmkpjdaoinmoaa
open Go.RowKit
attribute [local go_sem ↓] Go.wp_at_zero Go.wp_at_succ
set_option maxRecDepth 100000 in
set_option maxHeartbeats 1000000 in
/-- A call by a new token: it is counted; what is to be done is done; that it was is noted, if it is no error. -/
theorem callNewX_any (w : World) (B : Nat → Prop) (g gc bt bd bf bc bi bv : Nat) (D : Dk) (q given calls : Int) (Th : List (Int × Value)) (Di : List (ByteArray × Value)) (Fa : List (Int × Value)) (tok : ByteArray) (op : Int) (r : Int) (PT : World → List (Int × Value) → Prop) (hPT : ∀ W W2 X, PT W X → Fr W W2 (fun c => c = bd) → PT W2 X) (given1 : Int) (h : Cl w B g gc bt bd bf D q given calls Th Di Fa) (hp : S.get Di tok = none)
    (hs : 0 ≤ D.steps ∧ D.steps ≤ 1000000) (hl : -9223372036854775808 ≤ D.left ∧ D.left ≤ 9223372036854775807) (hn : ¬ D.fails) (hc : 0 ≤ calls ∧ calls ≤ 1000000) (hF : T.get Fa calls = none)
    (hdo : ∀ W, Cl W B g gc bt bd bf D.step q given (calls + 1) Th Di Fa → Fr w W (fun c => c = g ∨ c = gc) → Calls Try.prog 35 #[.pointer (some ⟨bc, 0, none⟩), .pointer (some ⟨bi, 0, none⟩), .pointer (some ⟨bv, 0, none⟩)] W fun o w' => o = .returned (.tuple #[.int .i64 r, .nilIface]) ∧ ∃ Th1, PT w' Th1 ∧ Cl w' B g gc bt bd bf D.step q given1 (calls + 1) Th1 Di Fa ∧ Fr W w' (fun c => c = gc ∨ c = bt)) :
    Calls Try.prog 34 #[.pointer (some ⟨gc, 0, none⟩), .string tok, .int .i64 op, .func (.func 35) #[] #[.pointer (some ⟨bc, 0, none⟩), .pointer (some ⟨bi, 0, none⟩), .pointer (some ⟨bv, 0, none⟩)]] w fun o w' => o = .returned (.tuple #[.int .i64 r, .nilIface]) ∧ ∃ Th1, PT w' Th1 ∧ Cl w' B g gc bt bd bf D.step q given1 (calls + 1) Th1 (S.put Di tok (dval (op, r))) Fa ∧ Fr w w' (fun c => c = g ∨ c = gc ∨ c = bt ∨ c = bd) := by
  have HBG := hide (begin_any w B g gc bt bd bf D q given calls Th Di Fa h hs hl hn hc hF)
  have HLK : Hid (∀ W, S.Is W bd Di → (Instr.lookup 82 (.map (some bd)) (.string tok) true).run Try.prog W = .ok (.tuple #[.agg #[.int .i64 0, .int .i64 0], .bool false]) W) := by
    intro W hI
    have hlk := S.look u82 hI tok true z114
    cases ha : S.at_ tok Di 0 with
    | none => rw [ha] at hlk; exact hlk
    | some x => unfold S.get at hp; rw [ha] at hp; cases hp
  have HDO := hide hdo
  clear h hp hs hl hn hc hF hdo
  go_enter Try.func34, Try.ntmps34
  go_wp2_with fail
  refine HBG.out.mono ?_
  rintro o w1 ⟨rfl, hcl, hf1⟩
  have c4 := cell_of_block hcl.blk 4 _ rfl
  have hlk := HLK.out w1 hcl.di
  have hal : Fr w1 (w1.alloc (.cells #[.int .i64 0, .int .i64 0] 114)) (fun _ => False) := (Fr.refl _ _).alloc _
  have HD1 := hide (HDO.out _ (hcl.fr hal) (hf1.alloc _))
  have HF1 := hide (hf1.alloc (.cells #[.int .i64 0, .int .i64 0] 114))
  clear hcl hf1 HBG HLK HDO hal
  go_wp2_with (go_at_call 35; (with_reducible refine Calls.mono HD1.out ?_); rintro o w2 ⟨rfl, Th1, hpt, hcl2, hf2⟩; have c4' := cell_of_block hcl2.blk 4 _ rfl; have HCL2 := hide hcl2; have HF2 := hide ((HF1.out.weak (ex1 := fun c => c = g ∨ c = gc ∨ c = bt ∨ c = bd) (fun _ _ e => e.elim .inl (fun e => .inr (.inl e)))).trans hf2 (fun _ _ e => e.elim (fun e => .inr (.inl e)) (fun e => .inr (.inr (.inl e))))); obtain ⟨w3, hr, hI3, hg3⟩ := S.update u82 hcl2.di tok (dval (op, r)); unfold dval at hr; have HI3 := hide hI3; have HG3 := hide hg3; clear hcl2 hf2 hI3 hg3)
  go_ret2
  exact ⟨rfl, Th1, hPT _ _ _ hpt (frb HG3.out), HCL2.out.dids HI3.out (frb HG3.out), HF2.out.trans (frb HG3.out) (fun _ _ e => .inr (.inr (.inr e)))⟩
set_option maxRecDepth 100000 in
set_option maxHeartbeats 600000 in
theorem createNew (w : World) (B : Nat → Prop) (g gc bt bd bf : Nat) (D : Dk) (q given calls : Int) (Th : List (Int × Value)) (Di : List (ByteArray × Value)) (Fa : List (Int × Value)) (tok kind : ByteArray) (m : Nat) (v : Val) (c0 c1 c2 c3 c4 : Value) (h : Cl w B g gc bt bd bf D q given calls Th Di Fa) (hM : V.MemX (Cl.own B gc bt bd bf) (m + 1) w v [c0, c1, c2, c3, c4]) (hbk : V.bulk (m + 1) v ≤ 2000000) (hk : kind.size ≤ maxLen) (hA : attrE (m + 1) v = 0) (hN : V.name (V.bl kind) = true) (hs : 0 ≤ D.steps ∧ D.steps ≤ 1000000) (hl : -9223372036854775808 ≤ D.left ∧ D.left ≤ 9223372036854775807) (hn : ¬ D.fails) (hc : 0 ≤ calls ∧ calls ≤ 1000000) (hF : T.get Fa calls = none) (hp : S.get Di tok = none) (hfu : ¬ (Th.length : Int) ≥ q) (hq : 0 ≤ given ∧ given ≤ 1000000) (hB : ∀ x, B x → x < w.heap.size) :
    Calls Try.prog 12 #[.pointer (some ⟨gc, 0, none⟩), .string tok, .string kind, .agg #[c0, c1, c2, c3, c4]] w fun o w' => o = .returned (.tuple #[.int .i64 (given + 1), .nilIface]) ∧ ∃ Th1, (∃ t : Tg, t.id = given + 1 ∧ t.kind = kind ∧ V.MemX (Cl.own B gc bt bd bf) (m + 1) w' v t.cells ∧ Th1 = T.put Th (given + 1) t.val) ∧ Cl w' B g gc bt bd bf D.step q (given + 1) (calls + 1) Th1 (S.put Di tok (dval (1, given + 1))) Fa ∧ Fr w w' (fun c => c = g ∨ c = gc ∨ c = bt ∨ c = bd) := by
  obtain ⟨al, cl, af, cf, rfl, rfl, rfl, rfl, rfl⟩ := hM.mem.form
  obtain ⟨w2, hw2⟩ : ∃ w2, w2 = boxes w gc kind #[.int .i64 v.kind, .int .i64 v.n, .string v.s, .slice al v.l.length cl, .slice af v.f.length cf] := ⟨_, rfl⟩
  have hf2 : Fr w w2 (fun _ => False) := by rw [hw2]; exact boxes_fr ..
  obtain ⟨b1, b2, b3, b4⟩ := boxes_at w gc kind #[.int .i64 v.kind, .int .i64 v.n, .string v.s, .slice al v.l.length cl, .slice af v.f.length cf]
  rw [← hw2] at b1 b2 b3 b4
  have hmx2 := hM.fr (hf2.weak (ex1 := Cl.own B gc bt bd bf) (fun _ _ e => e.elim))
  have HAT := hide (attributes_any (m + 1) w2 v _ _ _ _ _ hmx2.mem hbk)
  have hcl2 := h.fr hf2
  have hae : (if v.kind = 5 then V.fault (m + 1) v else 9) = attrE (m + 1) v := rfl
  rw [hae] at HAT
  clear hae
  have a0 := cell_of_block b3 0 _ rfl
  have a1 := cell_of_block b3 1 _ rfl
  have a2 := cell_of_block b3 2 _ rfl
  have a3 := cell_of_block b3 3 _ rfl
  have a4 := cell_of_block b3 4 _ rfl
  unfold boxes at hw2
  have hE : V.errOf (attrE (m + 1) v) = .nilIface := by rw [hA]; rfl
  rw [hE] at HAT
  clear hE hA
  obtain ⟨PT, hPTe⟩ : ∃ PT : World → List (Int × Value) → Prop, PT = (fun W X => ∃ t : Tg, t.id = given + 1 ∧ t.kind = kind ∧ V.MemX (Cl.own B gc bt bd bf) (m + 1) W v t.cells ∧ X = T.put Th (given + 1) t.val) := ⟨_, rfl⟩
  have hPT : ∀ W W2 X, PT W X → Fr W W2 (fun c => c = bd) → PT W2 X := by
    intro W W2 X hp2 hf4
    rw [hPTe] at hp2 ⊢
    obtain ⟨t, t1, t2, t3, t4⟩ := hp2
    exact ⟨t, t1, t2, t3.fr (hf4.weak (fun _ _ e => .inr (.inr (.inr (.inl e))))), t4⟩
  have HC : Hid (∀ W, Fr w2 W (fun _ => False) → Calls Try.prog 34 #[.pointer (some ⟨gc, 0, none⟩), .string tok, .int .i64 1, .func (.func 35) #[] #[.pointer (some ⟨w.heap.size, 0, none⟩), .pointer (some ⟨w.heap.size + 1, 0, none⟩), .pointer (some ⟨w.heap.size + 1 + 1, 0, none⟩)]] W fun o w' => o = .returned (.tuple #[.int .i64 (given + 1), .nilIface]) ∧ ∃ Th1, PT w' Th1 ∧ Cl w' B g gc bt bd bf D.step q (given + 1) (calls + 1) Th1 (S.put Di tok (dval (1, given + 1))) Fa ∧ Fr W w' (fun c => c = g ∨ c = gc ∨ c = bt ∨ c = bd)) := fun W hf => by
    have hg0 := hB g h.disk.has_g
    have hc0 : gc < w.heap.size := (Array.getElem?_eq_some_iff.1 h.blk).1
    have hz := hf.size
    refine callNewX_any W B g gc bt bd bf w.heap.size (w.heap.size + 1) (w.heap.size + 1 + 1) D q given calls Th Di Fa tok 1 (given + 1) PT hPT (given + 1) (hcl2.fr hf) hp hs hl hn hc hF (fun W2 hcl hfr => ?_)
    have hfx := (hf.weak (ex1 := fun c => c = g ∨ c = gc) (fun _ _ e => e.elim)).trans hfr (fun _ _ e => e)
    have hmW := hmx2.fr (hfx.weak (ex1 := Cl.own B gc bt bd bf) (fun _ _ e => e.elim (fun e => .inl (e ▸ h.disk.has_g)) (fun e => .inr (.inl e))))
    refine (createFn_any W2 B g gc bt bd bf w.heap.size (w.heap.size + 1) (w.heap.size + 1 + 1) D.step q given (calls + 1) Th Di Fa kind m v _ _ _ _ _ hcl (fun x hx => by have := hB x hx; have := hfx.size; have := hf2.size; omega) hmW hbk (cell_frx hfx (by omega) b1) (cell_frx hfx (by omega) b2) ((hfx.block _ (by omega) (by omega)).trans b3) (by omega) (by omega) (by omega) hq hfu).mono ?_
    rintro o w' ⟨rfl, t, t1, t2, t3, t4, t5⟩
    exact ⟨rfl, _, by rw [hPTe]; exact ⟨t, t1, t2, t3, rfl⟩, t4, t5⟩
  have HF := hide hf2
  have HK := hide hk
  clear h hM hmx2 hcl2 hf2 b3 b4 hk hp hs hl hn hc hF hfu hB hPT hq
  go_enter Try.func12, Try.ntmps12
  go_wp2_with fail
  rw [← hw2]
  clear hw2
  go_wp2_with fail
  refine HAT.out.mono ?_
  rintro o w3 ⟨rfl, hb3⟩
  have hf3 := fr_of_below hb3
  have k2 := cell_frx hf3 (fun e => e) b2
  have k1 := cell_frx hf3 (fun e => e) b1
  have HNM := hide (name_any kind w3 HK.out)
  rw [hN] at HNM
  have HC3 := hide (HC.out w3 hf3)
  have HF3 := hide (HF.out.trans hf3 (fun _ _ e => e))
  clear hb3 hf3 HAT HC
  go_wp2_with (first
    | (go_at_call 33; (with_reducible refine Calls.mono HNM.out ?_); rintro o w4 ⟨rfl, hw4⟩; rw [hw4]; clear hw4 w4)
    | (go_at_call 34; (with_reducible refine Calls.mono HC3.out ?_); rintro o w5 ⟨rfl, Th1, hpt5, hcl5, hf5⟩; have HCL5 := hide hcl5; have HF5 := hide ((HF3.out.weak (ex1 := fun c => c = g ∨ c = gc ∨ c = bt ∨ c = bd) (fun _ _ e => e.elim)).trans hf5 (fun _ _ e => e)); clear hcl5 hf5))
  go_ret2
  rw [hPTe] at hpt5
  exact ⟨rfl, Th1, hpt5, HCL5.out, HF5.out⟩
end Go.Proofs.Ytlmkpjdaoinmoaa
