/- For TopToken and CloudSays: Create. -/
import Derived.Test.YtlmkpjdaoinmoaaCG
namespace Go.Proofs.Ytlmkpjdaoinmoaa
open Go.RowKit
attribute [local go_sem ↓] Go.wp_at_zero Go.wp_at_succ
/-- What Create tells ahead of all: of the attributes. -/
def attrE (m : Nat) (v : Val) : Nat := if v.kind = 5 then V.fault m v else 9
set_option maxRecDepth 100000 in
set_option maxHeartbeats 600000 in
theorem createBad1 (w : World) (B : Nat → Prop) (g gc bt bd bf : Nat) (D : Dk) (q given calls : Int) (Th : List (Int × Value)) (Di : List (ByteArray × Value)) (Fa : List (Int × Value)) (tok kind : ByteArray) (m : Nat) (v : Val) (c0 c1 c2 c3 c4 : Value) (h : Cl w B g gc bt bd bf D q given calls Th Di Fa) (hM : V.MemX (Cl.own B gc bt bd bf) (m + 1) w v [c0, c1, c2, c3, c4]) (hbk : V.bulk (m + 1) v ≤ 2000000) (hA : attrE (m + 1) v ≠ 0) :
    Calls Try.prog 12 #[.pointer (some ⟨gc, 0, none⟩), .string tok, .string kind, .agg #[c0, c1, c2, c3, c4]] w fun o w' => o = .returned (.tuple #[.int .i64 0, V.errOf (attrE (m + 1) v)]) ∧ Cl w' B g gc bt bd bf D q given calls Th Di Fa ∧ Fr w w' (fun _ => False) := by
  obtain ⟨al, cl, af, cf, rfl, rfl, rfl, rfl, rfl⟩ := hM.mem.form
  obtain ⟨w2, hw2⟩ : ∃ w2, w2 = boxes w gc kind #[.int .i64 v.kind, .int .i64 v.n, .string v.s, .slice al v.l.length cl, .slice af v.f.length cf] := ⟨_, rfl⟩
  have hf2 : Fr w w2 (fun _ => False) := by rw [hw2]; exact boxes_fr ..
  obtain ⟨b1, b2, b3, b4⟩ := boxes_at w gc kind #[.int .i64 v.kind, .int .i64 v.n, .string v.s, .slice al v.l.length cl, .slice af v.f.length cf]
  rw [← hw2] at b1 b2 b3 b4
  have hmx2 := hM.fr (hf2.weak (ex1 := Cl.own B gc bt bd bf) (fun _ _ e => e.elim))
  have HAT := hide (attributes_any (m + 1) w2 v _ _ _ _ _ hmx2.mem hbk)
  have hcl2 := h.fr hf2
  have hae : (if v.kind = 5 then V.fault (m + 1) v else 9) = attrE (m + 1) v := rfl
  rw [hae] at HAT
  clear hae
  have a0 := cell_of_block b3 0 _ rfl
  have a1 := cell_of_block b3 1 _ rfl
  have a2 := cell_of_block b3 2 _ rfl
  have a3 := cell_of_block b3 3 _ rfl
  have a4 := cell_of_block b3 4 _ rfl
  unfold boxes at hw2
  have hE : V.errOf (attrE (m + 1) v) = .iface 80 (.int .i64 (attrE (m + 1) v)) := by unfold V.errOf; rw [if_neg hA]
  rw [hE] at HAT ⊢
  have HCL := hide hcl2
  have HF := hide hf2
  clear h hM hmx2 hcl2 hf2 b1 b2 b3 b4 hE hA
  generalize attrE (m + 1) v = ea at *
  go_enter Try.func12, Try.ntmps12
  go_wp2_with fail
  rw [← hw2]
  clear hw2
  go_wp2_with fail
  refine HAT.out.mono ?_
  rintro o w3 ⟨rfl, hb3⟩
  have HCL3 := hide (HCL.out.fr (fr_of_below hb3))
  have HF3 := hide (HF.out.trans (fr_of_below hb3) (fun _ _ e => e))
  clear hb3 HAT
  go_wp2_with fail
  go_ret2
  exact ⟨rfl, HCL3.out, HF3.out⟩
set_option maxRecDepth 100000 in
set_option maxHeartbeats 600000 in
theorem createBad2 (w : World) (B : Nat → Prop) (g gc bt bd bf : Nat) (D : Dk) (q given calls : Int) (Th : List (Int × Value)) (Di : List (ByteArray × Value)) (Fa : List (Int × Value)) (tok kind : ByteArray) (m : Nat) (v : Val) (c0 c1 c2 c3 c4 : Value) (h : Cl w B g gc bt bd bf D q given calls Th Di Fa) (hM : V.MemX (Cl.own B gc bt bd bf) (m + 1) w v [c0, c1, c2, c3, c4]) (hbk : V.bulk (m + 1) v ≤ 2000000) (hk : kind.size ≤ maxLen) (hA : attrE (m + 1) v = 0) (hN : V.name (V.bl kind) = false) :
    Calls Try.prog 12 #[.pointer (some ⟨gc, 0, none⟩), .string tok, .string kind, .agg #[c0, c1, c2, c3, c4]] w fun o w' => o = .returned (.tuple #[.int .i64 0, V.errOf 3]) ∧ Cl w' B g gc bt bd bf D q given calls Th Di Fa ∧ Fr w w' (fun _ => False) := by
  obtain ⟨al, cl, af, cf, rfl, rfl, rfl, rfl, rfl⟩ := hM.mem.form
  obtain ⟨w2, hw2⟩ : ∃ w2, w2 = boxes w gc kind #[.int .i64 v.kind, .int .i64 v.n, .string v.s, .slice al v.l.length cl, .slice af v.f.length cf] := ⟨_, rfl⟩
  have hf2 : Fr w w2 (fun _ => False) := by rw [hw2]; exact boxes_fr ..
  obtain ⟨b1, b2, b3, b4⟩ := boxes_at w gc kind #[.int .i64 v.kind, .int .i64 v.n, .string v.s, .slice al v.l.length cl, .slice af v.f.length cf]
  rw [← hw2] at b1 b2 b3 b4
  have hmx2 := hM.fr (hf2.weak (ex1 := Cl.own B gc bt bd bf) (fun _ _ e => e.elim))
  have HAT := hide (attributes_any (m + 1) w2 v _ _ _ _ _ hmx2.mem hbk)
  have hcl2 := h.fr hf2
  have hae : (if v.kind = 5 then V.fault (m + 1) v else 9) = attrE (m + 1) v := rfl
  rw [hae] at HAT
  clear hae
  have a0 := cell_of_block b3 0 _ rfl
  have a1 := cell_of_block b3 1 _ rfl
  have a2 := cell_of_block b3 2 _ rfl
  have a3 := cell_of_block b3 3 _ rfl
  have a4 := cell_of_block b3 4 _ rfl
  unfold boxes at hw2
  have hE : V.errOf (attrE (m + 1) v) = .nilIface := by rw [hA]; rfl
  rw [hE] at HAT
  clear hE hA
  have HCL := hide hcl2
  have HF := hide hf2
  have HK := hide hk
  clear h hM hmx2 hcl2 hf2 b3 b4 hk
  go_enter Try.func12, Try.ntmps12
  go_wp2_with fail
  rw [← hw2]
  clear hw2
  go_wp2_with fail
  refine HAT.out.mono ?_
  rintro o w3 ⟨rfl, hb3⟩
  have hf3 := fr_of_below hb3
  have k2 := cell_frx hf3 (fun e => e) b2
  have k1 := cell_frx hf3 (fun e => e) b1
  have HNM := hide (name_any kind w3 HK.out)
  rw [hN] at HNM
  have HCL3 := hide (HCL.out.fr hf3)
  have HF3 := hide (HF.out.trans hf3 (fun _ _ e => e))
  clear hb3 hf3 HAT
  go_wp2_with (go_at_call 33; (with_reducible refine Calls.mono HNM.out ?_); rintro o w4 ⟨rfl, hw4⟩; rw [hw4]; clear hw4 w4)
  go_ret2
  exact ⟨rfl, HCL3.out, HF3.out⟩
set_option maxRecDepth 100000 in
set_option maxHeartbeats 600000 in
theorem createOld (w : World) (B : Nat → Prop) (g gc bt bd bf : Nat) (D : Dk) (q given calls : Int) (Th : List (Int × Value)) (Di : List (ByteArray × Value)) (Fa : List (Int × Value)) (tok kind : ByteArray) (m : Nat) (v : Val) (c0 c1 c2 c3 c4 : Value) (h : Cl w B g gc bt bd bf D q given calls Th Di Fa) (hM : V.MemX (Cl.own B gc bt bd bf) (m + 1) w v [c0, c1, c2, c3, c4]) (hbk : V.bulk (m + 1) v ≤ 2000000) (hk : kind.size ≤ maxLen) (hA : attrE (m + 1) v = 0) (hN : V.name (V.bl kind) = true) (hs : 0 ≤ D.steps ∧ D.steps ≤ 1000000) (hl : -9223372036854775808 ≤ D.left ∧ D.left ≤ 9223372036854775807) (hn : ¬ D.fails) (hc : 0 ≤ calls ∧ calls ≤ 1000000) (hF : T.get Fa calls = none) (p : Int × Int) (hp : S.get Di tok = some (dval p)) :
    Calls Try.prog 12 #[.pointer (some ⟨gc, 0, none⟩), .string tok, .string kind, .agg #[c0, c1, c2, c3, c4]] w fun o w' => o = .returned (.tuple #[.int .i64 (if p.1 = 1 then p.2 else 0), V.errOf (if p.1 = 1 then 0 else 15)]) ∧ Cl w' B g gc bt bd bf D.step q given (calls + 1) Th Di Fa ∧ Fr w w' (fun c => c = g ∨ c = gc) := by
  obtain ⟨al, cl, af, cf, rfl, rfl, rfl, rfl, rfl⟩ := hM.mem.form
  obtain ⟨w2, hw2⟩ : ∃ w2, w2 = boxes w gc kind #[.int .i64 v.kind, .int .i64 v.n, .string v.s, .slice al v.l.length cl, .slice af v.f.length cf] := ⟨_, rfl⟩
  have hf2 : Fr w w2 (fun _ => False) := by rw [hw2]; exact boxes_fr ..
  obtain ⟨b1, b2, b3, b4⟩ := boxes_at w gc kind #[.int .i64 v.kind, .int .i64 v.n, .string v.s, .slice al v.l.length cl, .slice af v.f.length cf]
  rw [← hw2] at b1 b2 b3 b4
  have hmx2 := hM.fr (hf2.weak (ex1 := Cl.own B gc bt bd bf) (fun _ _ e => e.elim))
  have HAT := hide (attributes_any (m + 1) w2 v _ _ _ _ _ hmx2.mem hbk)
  have hcl2 := h.fr hf2
  have hae : (if v.kind = 5 then V.fault (m + 1) v else 9) = attrE (m + 1) v := rfl
  rw [hae] at HAT
  clear hae
  have a0 := cell_of_block b3 0 _ rfl
  have a1 := cell_of_block b3 1 _ rfl
  have a2 := cell_of_block b3 2 _ rfl
  have a3 := cell_of_block b3 3 _ rfl
  have a4 := cell_of_block b3 4 _ rfl
  unfold boxes at hw2
  have hE : V.errOf (attrE (m + 1) v) = .nilIface := by rw [hA]; rfl
  rw [hE] at HAT
  clear hE hA
  obtain ⟨e0, he0⟩ : ∃ e0, e0 = (if p.1 = 1 then 0 else 15) := ⟨_, rfl⟩
  obtain ⟨r0, hr0⟩ : ∃ r0, r0 = (if p.1 = 1 then p.2 else 0) := ⟨_, rfl⟩
  rw [← he0, ← hr0]
  have HC : Hid (∀ W, Fr w2 W (fun _ => False) → Calls Try.prog 34 #[.pointer (some ⟨gc, 0, none⟩), .string tok, .int .i64 1, .func (.func 35) #[] #[.pointer (some ⟨w.heap.size, 0, none⟩), .pointer (some ⟨w.heap.size + 1, 0, none⟩), .pointer (some ⟨w.heap.size + 1 + 1, 0, none⟩)]] W fun o w' => o = .returned (.tuple #[.int .i64 r0, V.errOf e0]) ∧ Cl w' B g gc bt bd bf D.step q given (calls + 1) Th Di Fa ∧ Fr W w' (fun c => c = g ∨ c = gc)) := fun W hf => by
    have := callOld_any W B g gc bt bd bf D q given calls Th Di Fa tok 1 (.func (.func 35) #[] #[.pointer (some ⟨w.heap.size, 0, none⟩), .pointer (some ⟨w.heap.size + 1, 0, none⟩), .pointer (some ⟨w.heap.size + 1 + 1, 0, none⟩)]) p (hcl2.fr hf) hp hs hl hn hc hF
    rw [← he0, ← hr0] at this
    exact this
  have HF := hide hf2
  have HK := hide hk
  clear h hM hmx2 hcl2 hf2 b3 b4 hk he0 hr0 hp hs hl hn hc hF
  go_enter Try.func12, Try.ntmps12
  go_wp2_with fail
  rw [← hw2]
  clear hw2
  go_wp2_with fail
  refine HAT.out.mono ?_
  rintro o w3 ⟨rfl, hb3⟩
  have hf3 := fr_of_below hb3
  have k2 := cell_frx hf3 (fun e => e) b2
  have k1 := cell_frx hf3 (fun e => e) b1
  have HNM := hide (name_any kind w3 HK.out)
  rw [hN] at HNM
  have HC3 := hide (HC.out w3 hf3)
  have HF3 := hide (HF.out.trans hf3 (fun _ _ e => e))
  clear hb3 hf3 HAT HC
  go_wp2_with (first
    | (go_at_call 33; (with_reducible refine Calls.mono HNM.out ?_); rintro o w4 ⟨rfl, hw4⟩; rw [hw4]; clear hw4 w4)
    | (go_at_call 34; (with_reducible refine Calls.mono HC3.out ?_); rintro o w5 ⟨rfl, hcl5, hf5⟩; have HCL5 := hide hcl5; have HF5 := hide ((HF3.out.weak (ex1 := fun c => c = g ∨ c = gc) (fun _ _ e => e.elim)).trans hf5 (fun _ _ e => e)); clear hcl5 hf5))
  go_ret2
  exact ⟨rfl, HCL5.out, HF5.out⟩
set_option maxRecDepth 100000 in
set_option maxHeartbeats 600000 in
theorem createFull (w : World) (B : Nat → Prop) (g gc bt bd bf : Nat) (D : Dk) (q given calls : Int) (Th : List (Int × Value)) (Di : List (ByteArray × Value)) (Fa : List (Int × Value)) (tok kind : ByteArray) (m : Nat) (v : Val) (c0 c1 c2 c3 c4 : Value) (h : Cl w B g gc bt bd bf D q given calls Th Di Fa) (hM : V.MemX (Cl.own B gc bt bd bf) (m + 1) w v [c0, c1, c2, c3, c4]) (hbk : V.bulk (m + 1) v ≤ 2000000) (hk : kind.size ≤ maxLen) (hA : attrE (m + 1) v = 0) (hN : V.name (V.bl kind) = true) (hs : 0 ≤ D.steps ∧ D.steps ≤ 1000000) (hl : -9223372036854775808 ≤ D.left ∧ D.left ≤ 9223372036854775807) (hn : ¬ D.fails) (hc : 0 ≤ calls ∧ calls ≤ 1000000) (hF : T.get Fa calls = none) (hp : S.get Di tok = none) (hfu : (Th.length : Int) ≥ q) (hB : ∀ x, B x → x < w.heap.size) :
    Calls Try.prog 12 #[.pointer (some ⟨gc, 0, none⟩), .string tok, .string kind, .agg #[c0, c1, c2, c3, c4]] w fun o w' => o = .returned (.tuple #[.int .i64 0, V.errOf 13]) ∧ Cl w' B g gc bt bd bf D.step q given (calls + 1) Th Di Fa ∧ Fr w w' (fun c => c = g ∨ c = gc ∨ c = bt ∨ c = bd) := by
  obtain ⟨al, cl, af, cf, rfl, rfl, rfl, rfl, rfl⟩ := hM.mem.form
  obtain ⟨w2, hw2⟩ : ∃ w2, w2 = boxes w gc kind #[.int .i64 v.kind, .int .i64 v.n, .string v.s, .slice al v.l.length cl, .slice af v.f.length cf] := ⟨_, rfl⟩
  have hf2 : Fr w w2 (fun _ => False) := by rw [hw2]; exact boxes_fr ..
  obtain ⟨b1, b2, b3, b4⟩ := boxes_at w gc kind #[.int .i64 v.kind, .int .i64 v.n, .string v.s, .slice al v.l.length cl, .slice af v.f.length cf]
  rw [← hw2] at b1 b2 b3 b4
  have hmx2 := hM.fr (hf2.weak (ex1 := Cl.own B gc bt bd bf) (fun _ _ e => e.elim))
  have HAT := hide (attributes_any (m + 1) w2 v _ _ _ _ _ hmx2.mem hbk)
  have hcl2 := h.fr hf2
  have hae : (if v.kind = 5 then V.fault (m + 1) v else 9) = attrE (m + 1) v := rfl
  rw [hae] at HAT
  clear hae
  have a0 := cell_of_block b3 0 _ rfl
  have a1 := cell_of_block b3 1 _ rfl
  have a2 := cell_of_block b3 2 _ rfl
  have a3 := cell_of_block b3 3 _ rfl
  have a4 := cell_of_block b3 4 _ rfl
  unfold boxes at hw2
  have hE : V.errOf (attrE (m + 1) v) = .nilIface := by rw [hA]; rfl
  rw [hE] at HAT
  clear hE hA
  have HC : Hid (∀ W, Fr w2 W (fun _ => False) → Calls Try.prog 34 #[.pointer (some ⟨gc, 0, none⟩), .string tok, .int .i64 1, .func (.func 35) #[] #[.pointer (some ⟨w.heap.size, 0, none⟩), .pointer (some ⟨w.heap.size + 1, 0, none⟩), .pointer (some ⟨w.heap.size + 1 + 1, 0, none⟩)]] W fun o w' => o = .returned (.tuple #[.int .i64 0, V.errOf 13]) ∧ Cl w' B g gc bt bd bf D.step q given (calls + 1) Th Di Fa ∧ Fr W w' (fun c => c = g ∨ c = gc ∨ c = bt ∨ c = bd)) := fun W hf => by
    have hg0 := hB g h.disk.has_g
    have hc0 : gc < w.heap.size := (Array.getElem?_eq_some_iff.1 h.blk).1
    exact callNew35_any W B g gc bt bd bf w.heap.size (w.heap.size + 1) (w.heap.size + 1 + 1) D q given calls Th Di Fa tok 1 0 13 Th given (hcl2.fr hf) hp hs hl hn hc hF (fun W2 hcl hfr => createFull_any W2 B g gc bt bd bf w.heap.size (w.heap.size + 1) (w.heap.size + 1 + 1) D.step q given (calls + 1) Th Di Fa hcl (cell_frx hfr (by omega) (cell_frx hf (fun e => e) b1)) hfu)
  have HF := hide hf2
  have HK := hide hk
  clear h hM hmx2 hcl2 hf2 b3 b4 hk hp hs hl hn hc hF hfu hB
  go_enter Try.func12, Try.ntmps12
  go_wp2_with fail
  rw [← hw2]
  clear hw2
  go_wp2_with fail
  refine HAT.out.mono ?_
  rintro o w3 ⟨rfl, hb3⟩
  have hf3 := fr_of_below hb3
  have k2 := cell_frx hf3 (fun e => e) b2
  have k1 := cell_frx hf3 (fun e => e) b1
  have HNM := hide (name_any kind w3 HK.out)
  rw [hN] at HNM
  have HC3 := hide (HC.out w3 hf3)
  have HF3 := hide (HF.out.trans hf3 (fun _ _ e => e))
  clear hb3 hf3 HAT HC
  go_wp2_with (first
    | (go_at_call 33; (with_reducible refine Calls.mono HNM.out ?_); rintro o w4 ⟨rfl, hw4⟩; rw [hw4]; clear hw4 w4)
    | (go_at_call 34; (with_reducible refine Calls.mono HC3.out ?_); rintro o w5 ⟨rfl, hcl5, hf5⟩; have HCL5 := hide hcl5; have HF5 := hide ((HF3.out.weak (ex1 := fun c => c = g ∨ c = gc ∨ c = bt ∨ c = bd) (fun _ _ e => e.elim)).trans hf5 (fun _ _ e => e)); clear hcl5 hf5))
  go_ret2
  exact ⟨rfl, HCL5.out, HF5.out⟩
end Go.Proofs.Ytlmkpjdaoinmoaa
