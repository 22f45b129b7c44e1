/- For TopToken and CloudSays: attributes; what Delete does. -/
import Derived.Test.YtlmkpjdaoinmoaaCC
namespace Go.Proofs.Ytlmkpjdaoinmoaa
open Go.RowKit
attribute [local go_sem ↓] Go.wp_at_zero Go.wp_at_succ
set_option maxRecDepth 100000 in
set_option maxHeartbeats 1000000 in
/-- May a thing have these? -/
theorem attributes_any (m : Nat) (w : World) (v : Val) (c0 c1 c2 c3 c4 : Value) (h : V.Mem m w v [c0, c1, c2, c3, c4]) (hbk : V.bulk m v ≤ 2000000) :
    Calls Try.prog 32 #[.agg #[c0, c1, c2, c3, c4]] w fun e w' => e = .returned (V.errOf (if v.kind = 5 then V.fault m v else 9)) ∧ Below w.heap.size w w' := by
  cases m with
  | zero => exact h.elim
  | succ m =>
    obtain ⟨lv, fv, hcs, hl, hf⟩ := id h
    simp only [List.cons.injEq, and_true] at hcs
    obtain ⟨rfl, rfl, rfl, rfl, rfl⟩ := hcs
    obtain ⟨al, cl, rfl⟩ := hl.shape
    obtain ⟨af, cf, rfl⟩ := hf.shape
    have hb1 : Below w.heap.size w (w.alloc (.cells #[.int .i64 v.kind, .int .i64 v.n, .string v.s, .slice al v.l.length cl, .slice af v.f.length cf] 40)) := (Below.refl _ _).alloc (Nat.le_refl _) _
    have HCK := hide (check_any (m + 1) (w.alloc (.cells #[.int .i64 v.kind, .int .i64 v.n, .string v.s, .slice al v.l.length cl, .slice af v.f.length cf] 40)) v _ _ _ _ _ (V.Mem.kept (m + 1) h hb1) hbk)
    have HB1 := hide hb1
    clear h hl hf hb1
    by_cases h5 : v.kind = 5
    · rw [if_pos h5]
      go_enter Try.func32, Try.ntmps32
      go_wp2_with fail
      rw [h5] at HCK HB1
      refine HCK.out.mono ?_
      rintro o w2 ⟨rfl, hb2⟩
      have HB2 := hide (HB1.out.trans (hb2.mono (by simp)))
      clear hb2 HCK HB1
      go_wp2_with fail
      go_ret
      exact ⟨rfl, HB2.out⟩
    · rw [if_neg h5]
      go_enter Try.func32, Try.ntmps32
      go_wp2_with fail
      go_ret
      exact ⟨rfl, HB1.out⟩
set_option maxRecDepth 100000 in
set_option maxHeartbeats 1000000 in
/-- What Delete does, if its token did nothing yet. -/
theorem delFn_any (w : World) (B : Nat → Prop) (g gc bt bd bf bc bi : Nat) (D : Dk) (q given calls : Int) (Th : List (Int × Value)) (Di : List (ByteArray × Value)) (Fa : List (Int × Value)) (id : Int) (h : Cl w B g gc bt bd bf D q given calls Th Di Fa)
    (hv : ∀ x ∈ Th, ∃ t : Tg, x.2 = t.val) (h1 : w.cell? ⟨bc, 0, none⟩ = some (.pointer (some ⟨gc, 0, none⟩))) (h2 : w.cell? ⟨bi, 0, none⟩ = some (.int .i64 id)) :
    Calls Try.prog 44 #[.pointer (some ⟨bc, 0, none⟩), .pointer (some ⟨bi, 0, none⟩)] w fun o w' => o = .returned (.tuple #[.int .i64 0, V.errOf (if (T.get Th id).isSome then 0 else 7)]) ∧ Cl w' B g gc bt bd bf D q given calls (if (T.get Th id).isSome then T.del Th id else Th) Di Fa ∧ Fr w w' (fun c => c = bt) := by
  have HHA := hide (has_any w B g gc bt bd bf D q given calls Th Di Fa id h hv)
  have HH := hide h
  have HC : Hid (∀ W, Fr w W (fun _ => False) → W.cell? ⟨bc, 0, none⟩ = some (.pointer (some ⟨gc, 0, none⟩)) ∧ W.cell? ⟨bi, 0, none⟩ = some (.int .i64 id) ∧ W.cell? ⟨gc, 2, none⟩ = some (.map (some bt))) := by
    intro W hf
    have hb := hf.below (B := w.heap.size) (Nat.le_refl _) (fun _ e => e.elim)
    exact ⟨kept_cell hb h1, kept_cell hb h2, kept_cell hb (cell_of_block h.blk 2 _ rfl)⟩
  clear h hv
  cases hs : (T.get Th id).isSome with
  | false =>
    rw [hs] at HHA
    go_enter Try.func44, Try.ntmps44
    go_wp2_with fail
    refine HHA.out.mono ?_
    rintro o w1 ⟨rfl, hf1⟩
    have HCL := hide (HH.out.fr hf1)
    have HF := hide (hf1.weak (ex1 := fun c => c = bt) (fun _ _ e => e.elim))
    clear hf1 HHA
    go_wp2_with fail
    go_ret2
    exact ⟨rfl, HCL.out, HF.out⟩
  | true =>
    rw [hs] at HHA
    go_enter Try.func44, Try.ntmps44
    go_wp2_with fail
    refine HHA.out.mono ?_
    rintro o w1 ⟨rfl, hf1⟩
    have hcl := HH.out.fr hf1
    obtain ⟨y1, y2, y3⟩ := HC.out w1 hf1
    obtain ⟨w2, hr, hI2, hg2⟩ := T.delete u81 (w := w1.drew) (hcl.fr (Fr.refl _ _).drew).th id 0
    have HCL := hide ((hcl.fr (Fr.refl w1 (fun _ => False)).drew).things hI2 (frb hg2))
    have HF := hide (((hf1.drew).weak (ex1 := fun c => c = bt) (fun _ _ e => e.elim)).trans (frb hg2) (fun _ _ e => e))
    clear hf1 HHA hcl hI2 hg2
    go_wp2_with fail
    go_region
    go_wp2_with fail
    go_ret2
    exact ⟨rfl, HCL.out, HF.out⟩
/-- What a token did: the operation, the number. -/
def dval (x : Int × Int) : Value := .agg #[.int .i64 x.1, .int .i64 x.2]
set_option maxRecDepth 100000 in
set_option maxHeartbeats 1000000 in
/-- A call by a token that did something already: it is counted, nothing is done. (The disk does not fall, no call is refused.) -/
theorem callOld_any (w : World) (B : Nat → Prop) (g gc bt bd bf : Nat) (D : Dk) (q given calls : Int) (Th : List (Int × Value)) (Di : List (ByteArray × Value)) (Fa : List (Int × Value)) (tok : ByteArray) (op : Int) (f : Value) (p : Int × Int) (h : Cl w B g gc bt bd bf D q given calls Th Di Fa) (hp : S.get Di tok = some (dval p))
    (hs : 0 ≤ D.steps ∧ D.steps ≤ 1000000) (hl : -9223372036854775808 ≤ D.left ∧ D.left ≤ 9223372036854775807) (hn : ¬ D.fails) (hc : 0 ≤ calls ∧ calls ≤ 1000000) (hF : T.get Fa calls = none) :
    Calls Try.prog 34 #[.pointer (some ⟨gc, 0, none⟩), .string tok, .int .i64 op, f] w fun o w' => o = .returned (.tuple #[.int .i64 (if p.1 = op then p.2 else 0), V.errOf (if p.1 = op then 0 else 15)]) ∧ Cl w' B g gc bt bd bf D.step q given (calls + 1) Th Di Fa ∧ Fr w w' (fun c => c = g ∨ c = gc) := by
  have HBG := hide (begin_any w B g gc bt bd bf D q given calls Th Di Fa h hs hl hn hc hF)
  have HLK : Hid (∀ W, S.Is W bd Di → (Instr.lookup 82 (.map (some bd)) (.string tok) true).run Try.prog W = .ok (.tuple #[.agg #[.int .i64 p.1, .int .i64 p.2], .bool true]) W) := by
    intro W hI
    have hlk := S.look u82 hI tok true z114
    cases ha : S.at_ tok Di 0 with
    | none => unfold S.get at hp; rw [ha] at hp; cases hp
    | some x =>
      rw [ha] at hlk
      unfold S.get at hp
      rw [ha] at hp
      have hx : x.2 = dval p := by simpa using hp
      simp only [if_pos] at hlk
      rw [hx] at hlk
      exact hlk
  clear h hp hs hl hn hc hF
  obtain ⟨p1, p2⟩ := p
  go_enter Try.func34, Try.ntmps34
  go_wp2_with fail
  refine HBG.out.mono ?_
  rintro o w1 ⟨rfl, hcl, hf1⟩
  have c4 := cell_of_block hcl.blk 4 _ rfl
  have hlk := HLK.out w1 hcl.di
  have HCL := hide hcl
  have HF1 := hide hf1
  clear hcl hf1 HBG HLK
  by_cases ho : p1 = op
  · subst ho
    go_wp2_with fail
    go_ret2
    exact ⟨by simp <;> rfl, HCL.out.fr ((Fr.refl _ _).alloc _), HF1.out.alloc _⟩
  · go_wp2_with fail
    go_ret2
    exact ⟨by simp <;> rfl, HCL.out.fr ((Fr.refl _ _).alloc _), HF1.out.alloc _⟩
set_option maxRecDepth 100000 in
set_option maxHeartbeats 1000000 in
/-- A call by a new token: it is counted; what is to be done is done; that it was is noted, if it is no error. -/
theorem callNew44_any (w : World) (B : Nat → Prop) (g gc bt bd bf bc bi : Nat) (D : Dk) (q given calls : Int) (Th : List (Int × Value)) (Di : List (ByteArray × Value)) (Fa : List (Int × Value)) (tok : ByteArray) (op : Int) (r : Int) (e : Nat) (Th1 : List (Int × Value)) (given1 : Int) (h : Cl w B g gc bt bd bf D q given calls Th Di Fa) (hp : S.get Di tok = none)
    (hs : 0 ≤ D.steps ∧ D.steps ≤ 1000000) (hl : -9223372036854775808 ≤ D.left ∧ D.left ≤ 9223372036854775807) (hn : ¬ D.fails) (hc : 0 ≤ calls ∧ calls ≤ 1000000) (hF : T.get Fa calls = none)
    (hdo : ∀ W, Cl W B g gc bt bd bf D.step q given (calls + 1) Th Di Fa → Fr w W (fun c => c = g ∨ c = gc) → Calls Try.prog 44 #[.pointer (some ⟨bc, 0, none⟩), .pointer (some ⟨bi, 0, none⟩)] W fun o w' => o = .returned (.tuple #[.int .i64 r, V.errOf e]) ∧ Cl w' B g gc bt bd bf D.step q given1 (calls + 1) Th1 Di Fa ∧ Fr W w' (fun c => c = gc ∨ c = bt)) :
    Calls Try.prog 34 #[.pointer (some ⟨gc, 0, none⟩), .string tok, .int .i64 op, .func (.func 44) #[] #[.pointer (some ⟨bc, 0, none⟩), .pointer (some ⟨bi, 0, none⟩)]] w fun o w' => o = .returned (.tuple #[.int .i64 (if e = 0 then r else 0), V.errOf e]) ∧ Cl w' B g gc bt bd bf D.step q given1 (calls + 1) Th1 (if e = 0 then S.put Di tok (dval (op, r)) else Di) Fa ∧ Fr w w' (fun c => c = g ∨ c = gc ∨ c = bt ∨ c = bd) := by
  have HBG := hide (begin_any w B g gc bt bd bf D q given calls Th Di Fa h hs hl hn hc hF)
  have HLK : Hid (∀ W, S.Is W bd Di → (Instr.lookup 82 (.map (some bd)) (.string tok) true).run Try.prog W = .ok (.tuple #[.agg #[.int .i64 0, .int .i64 0], .bool false]) W) := by
    intro W hI
    have hlk := S.look u82 hI tok true z114
    cases ha : S.at_ tok Di 0 with
    | none => rw [ha] at hlk; exact hlk
    | some x => unfold S.get at hp; rw [ha] at hp; cases hp
  have HDO := hide hdo
  clear h hp hs hl hn hc hF hdo
  by_cases he : e = 0
  · rw [if_pos he, if_pos he]
    have hE : V.errOf e = .nilIface := by rw [he]; rfl
    rw [hE] at HDO ⊢
    clear he hE
    go_enter Try.func34, Try.ntmps34
    go_wp2_with fail
    refine HBG.out.mono ?_
    rintro o w1 ⟨rfl, hcl, hf1⟩
    have c4 := cell_of_block hcl.blk 4 _ rfl
    have hlk := HLK.out w1 hcl.di
    have hal : Fr w1 (w1.alloc (.cells #[.int .i64 0, .int .i64 0] 114)) (fun _ => False) := (Fr.refl _ _).alloc _
    have HD1 := hide (HDO.out _ (hcl.fr hal) (hf1.alloc _))
    have HF1 := hide (hf1.alloc (.cells #[.int .i64 0, .int .i64 0] 114))
    clear hcl hf1 HBG HLK HDO hal
    go_wp2_with (go_at_call 44; (with_reducible refine Calls.mono HD1.out ?_); rintro o w2 ⟨rfl, hcl2, hf2⟩; have c4' := cell_of_block hcl2.blk 4 _ rfl; have HCL2 := hide hcl2; have HF2 := hide ((HF1.out.weak (ex1 := fun c => c = g ∨ c = gc ∨ c = bt ∨ c = bd) (fun _ _ e => e.elim .inl (fun e => .inr (.inl e)))).trans hf2 (fun _ _ e => e.elim (fun e => .inr (.inl e)) (fun e => .inr (.inr (.inl e))))); obtain ⟨w3, hr, hI3, hg3⟩ := S.update u82 hcl2.di tok (dval (op, r)); unfold dval at hr; have HI3 := hide hI3; have HG3 := hide hg3; clear hcl2 hf2 hI3 hg3)
    go_ret2
    exact ⟨rfl, HCL2.out.dids HI3.out (frb HG3.out), HF2.out.trans (frb HG3.out) (fun _ _ e => .inr (.inr (.inr e)))⟩
  · rw [if_neg he, if_neg he]
    have hE : V.errOf e = .iface 80 (.int .i64 e) := by unfold V.errOf; rw [if_neg he]
    rw [hE] at HDO ⊢
    clear he hE
    go_enter Try.func34, Try.ntmps34
    go_wp2_with fail
    refine HBG.out.mono ?_
    rintro o w1 ⟨rfl, hcl, hf1⟩
    have c4 := cell_of_block hcl.blk 4 _ rfl
    have hlk := HLK.out w1 hcl.di
    have hal : Fr w1 (w1.alloc (.cells #[.int .i64 0, .int .i64 0] 114)) (fun _ => False) := (Fr.refl _ _).alloc _
    have HD1 := hide (HDO.out _ (hcl.fr hal) (hf1.alloc _))
    have HF1 := hide (hf1.alloc (.cells #[.int .i64 0, .int .i64 0] 114))
    clear hcl hf1 HBG HLK HDO hal
    go_wp2_with (go_at_call 44; (with_reducible refine Calls.mono HD1.out ?_); rintro o w2 ⟨rfl, hcl2, hf2⟩; have c4' := cell_of_block hcl2.blk 4 _ rfl; have HCL2 := hide hcl2; have HF2 := hide ((HF1.out.weak (ex1 := fun c => c = g ∨ c = gc ∨ c = bt ∨ c = bd) (fun _ _ e => e.elim .inl (fun e => .inr (.inl e)))).trans hf2 (fun _ _ e => e.elim (fun e => .inr (.inl e)) (fun e => .inr (.inr (.inl e))))); obtain ⟨w3, hr, hI3, hg3⟩ := S.update u82 hcl2.di tok (dval (op, r)); unfold dval at hr; have HI3 := hide hI3; have HG3 := hide hg3; clear hcl2 hf2 hI3 hg3)
    go_ret2
    exact ⟨rfl, HCL2.out, HF2.out⟩
set_option maxRecDepth 100000 in
set_option maxHeartbeats 1000000 in
/-- A call by a new token: it is counted; what is to be done is done; that it was is noted, if it is no error. -/
theorem callNew41_any (w : World) (B : Nat → Prop) (g gc bt bd bf bc bi bv : Nat) (D : Dk) (q given calls : Int) (Th : List (Int × Value)) (Di : List (ByteArray × Value)) (Fa : List (Int × Value)) (tok : ByteArray) (op : Int) (r : Int) (e : Nat) (Th1 : List (Int × Value)) (given1 : Int) (h : Cl w B g gc bt bd bf D q given calls Th Di Fa) (hp : S.get Di tok = none)
    (hs : 0 ≤ D.steps ∧ D.steps ≤ 1000000) (hl : -9223372036854775808 ≤ D.left ∧ D.left ≤ 9223372036854775807) (hn : ¬ D.fails) (hc : 0 ≤ calls ∧ calls ≤ 1000000) (hF : T.get Fa calls = none)
    (hdo : ∀ W, Cl W B g gc bt bd bf D.step q given (calls + 1) Th Di Fa → Fr w W (fun c => c = g ∨ c = gc) → Calls Try.prog 41 #[.pointer (some ⟨bc, 0, none⟩), .pointer (some ⟨bi, 0, none⟩), .pointer (some ⟨bv, 0, none⟩)] W fun o w' => o = .returned (.tuple #[.int .i64 r, V.errOf e]) ∧ Cl w' B g gc bt bd bf D.step q given1 (calls + 1) Th1 Di Fa ∧ Fr W w' (fun c => c = gc ∨ c = bt)) :
    Calls Try.prog 34 #[.pointer (some ⟨gc, 0, none⟩), .string tok, .int .i64 op, .func (.func 41) #[] #[.pointer (some ⟨bc, 0, none⟩), .pointer (some ⟨bi, 0, none⟩), .pointer (some ⟨bv, 0, none⟩)]] w fun o w' => o = .returned (.tuple #[.int .i64 (if e = 0 then r else 0), V.errOf e]) ∧ Cl w' B g gc bt bd bf D.step q given1 (calls + 1) Th1 (if e = 0 then S.put Di tok (dval (op, r)) else Di) Fa ∧ Fr w w' (fun c => c = g ∨ c = gc ∨ c = bt ∨ c = bd) := by
  have HBG := hide (begin_any w B g gc bt bd bf D q given calls Th Di Fa h hs hl hn hc hF)
  have HLK : Hid (∀ W, S.Is W bd Di → (Instr.lookup 82 (.map (some bd)) (.string tok) true).run Try.prog W = .ok (.tuple #[.agg #[.int .i64 0, .int .i64 0], .bool false]) W) := by
    intro W hI
    have hlk := S.look u82 hI tok true z114
    cases ha : S.at_ tok Di 0 with
    | none => rw [ha] at hlk; exact hlk
    | some x => unfold S.get at hp; rw [ha] at hp; cases hp
  have HDO := hide hdo
  clear h hp hs hl hn hc hF hdo
  by_cases he : e = 0
  · rw [if_pos he, if_pos he]
    have hE : V.errOf e = .nilIface := by rw [he]; rfl
    rw [hE] at HDO ⊢
    clear he hE
    go_enter Try.func34, Try.ntmps34
    go_wp2_with fail
    refine HBG.out.mono ?_
    rintro o w1 ⟨rfl, hcl, hf1⟩
    have c4 := cell_of_block hcl.blk 4 _ rfl
    have hlk := HLK.out w1 hcl.di
    have hal : Fr w1 (w1.alloc (.cells #[.int .i64 0, .int .i64 0] 114)) (fun _ => False) := (Fr.refl _ _).alloc _
    have HD1 := hide (HDO.out _ (hcl.fr hal) (hf1.alloc _))
    have HF1 := hide (hf1.alloc (.cells #[.int .i64 0, .int .i64 0] 114))
    clear hcl hf1 HBG HLK HDO hal
    go_wp2_with (go_at_call 41; (with_reducible refine Calls.mono HD1.out ?_); rintro o w2 ⟨rfl, hcl2, hf2⟩; have c4' := cell_of_block hcl2.blk 4 _ rfl; have HCL2 := hide hcl2; have HF2 := hide ((HF1.out.weak (ex1 := fun c => c = g ∨ c = gc ∨ c = bt ∨ c = bd) (fun _ _ e => e.elim .inl (fun e => .inr (.inl e)))).trans hf2 (fun _ _ e => e.elim (fun e => .inr (.inl e)) (fun e => .inr (.inr (.inl e))))); obtain ⟨w3, hr, hI3, hg3⟩ := S.update u82 hcl2.di tok (dval (op, r)); unfold dval at hr; have HI3 := hide hI3; have HG3 := hide hg3; clear hcl2 hf2 hI3 hg3)
    go_ret2
    exact ⟨rfl, HCL2.out.dids HI3.out (frb HG3.out), HF2.out.trans (frb HG3.out) (fun _ _ e => .inr (.inr (.inr e)))⟩
  · rw [if_neg he, if_neg he]
    have hE : V.errOf e = .iface 80 (.int .i64 e) := by unfold V.errOf; rw [if_neg he]
    rw [hE] at HDO ⊢
    clear he hE
    go_enter Try.func34, Try.ntmps34
    go_wp2_with fail
    refine HBG.out.mono ?_
    rintro o w1 ⟨rfl, hcl, hf1⟩
    have c4 := cell_of_block hcl.blk 4 _ rfl
    have hlk := HLK.out w1 hcl.di
    have hal : Fr w1 (w1.alloc (.cells #[.int .i64 0, .int .i64 0] 114)) (fun _ => False) := (Fr.refl _ _).alloc _
    have HD1 := hide (HDO.out _ (hcl.fr hal) (hf1.alloc _))
    have HF1 := hide (hf1.alloc (.cells #[.int .i64 0, .int .i64 0] 114))
    clear hcl hf1 HBG HLK HDO hal
    go_wp2_with (go_at_call 41; (with_reducible refine Calls.mono HD1.out ?_); rintro o w2 ⟨rfl, hcl2, hf2⟩; have c4' := cell_of_block hcl2.blk 4 _ rfl; have HCL2 := hide hcl2; have HF2 := hide ((HF1.out.weak (ex1 := fun c => c = g ∨ c = gc ∨ c = bt ∨ c = bd) (fun _ _ e => e.elim .inl (fun e => .inr (.inl e)))).trans hf2 (fun _ _ e => e.elim (fun e => .inr (.inl e)) (fun e => .inr (.inr (.inl e))))); obtain ⟨w3, hr, hI3, hg3⟩ := S.update u82 hcl2.di tok (dval (op, r)); unfold dval at hr; have HI3 := hide hI3; have HG3 := hide hg3; clear hcl2 hf2 hI3 hg3)
    go_ret2
    exact ⟨rfl, HCL2.out, HF2.out⟩
set_option maxRecDepth 100000 in
set_option maxHeartbeats 1000000 in
/-- A call by a new token: it is counted; what is to be done is done; that it was is noted, if it is no error. -/
theorem callNew35_any (w : World) (B : Nat → Prop) (g gc bt bd bf bc bi bv : Nat) (D : Dk) (q given calls : Int) (Th : List (Int × Value)) (Di : List (ByteArray × Value)) (Fa : List (Int × Value)) (tok : ByteArray) (op : Int) (r : Int) (e : Nat) (Th1 : List (Int × Value)) (given1 : Int) (h : Cl w B g gc bt bd bf D q given calls Th Di Fa) (hp : S.get Di tok = none)
    (hs : 0 ≤ D.steps ∧ D.steps ≤ 1000000) (hl : -9223372036854775808 ≤ D.left ∧ D.left ≤ 9223372036854775807) (hn : ¬ D.fails) (hc : 0 ≤ calls ∧ calls ≤ 1000000) (hF : T.get Fa calls = none)
    (hdo : ∀ W, Cl W B g gc bt bd bf D.step q given (calls + 1) Th Di Fa → Fr w W (fun c => c = g ∨ c = gc) → Calls Try.prog 35 #[.pointer (some ⟨bc, 0, none⟩), .pointer (some ⟨bi, 0, none⟩), .pointer (some ⟨bv, 0, none⟩)] W fun o w' => o = .returned (.tuple #[.int .i64 r, V.errOf e]) ∧ Cl w' B g gc bt bd bf D.step q given1 (calls + 1) Th1 Di Fa ∧ Fr W w' (fun c => c = gc ∨ c = bt)) :
    Calls Try.prog 34 #[.pointer (some ⟨gc, 0, none⟩), .string tok, .int .i64 op, .func (.func 35) #[] #[.pointer (some ⟨bc, 0, none⟩), .pointer (some ⟨bi, 0, none⟩), .pointer (some ⟨bv, 0, none⟩)]] w fun o w' => o = .returned (.tuple #[.int .i64 (if e = 0 then r else 0), V.errOf e]) ∧ Cl w' B g gc bt bd bf D.step q given1 (calls + 1) Th1 (if e = 0 then S.put Di tok (dval (op, r)) else Di) Fa ∧ Fr w w' (fun c => c = g ∨ c = gc ∨ c = bt ∨ c = bd) := by
  have HBG := hide (begin_any w B g gc bt bd bf D q given calls Th Di Fa h hs hl hn hc hF)
  have HLK : Hid (∀ W, S.Is W bd Di → (Instr.lookup 82 (.map (some bd)) (.string tok) true).run Try.prog W = .ok (.tuple #[.agg #[.int .i64 0, .int .i64 0], .bool false]) W) := by
    intro W hI
    have hlk := S.look u82 hI tok true z114
    cases ha : S.at_ tok Di 0 with
    | none => rw [ha] at hlk; exact hlk
    | some x => unfold S.get at hp; rw [ha] at hp; cases hp
  have HDO := hide hdo
  clear h hp hs hl hn hc hF hdo
  by_cases he : e = 0
  · rw [if_pos he, if_pos he]
    have hE : V.errOf e = .nilIface := by rw [he]; rfl
    rw [hE] at HDO ⊢
    clear he hE
    go_enter Try.func34, Try.ntmps34
    go_wp2_with fail
    refine HBG.out.mono ?_
    rintro o w1 ⟨rfl, hcl, hf1⟩
    have c4 := cell_of_block hcl.blk 4 _ rfl
    have hlk := HLK.out w1 hcl.di
    have hal : Fr w1 (w1.alloc (.cells #[.int .i64 0, .int .i64 0] 114)) (fun _ => False) := (Fr.refl _ _).alloc _
    have HD1 := hide (HDO.out _ (hcl.fr hal) (hf1.alloc _))
    have HF1 := hide (hf1.alloc (.cells #[.int .i64 0, .int .i64 0] 114))
    clear hcl hf1 HBG HLK HDO hal
    go_wp2_with (go_at_call 35; (with_reducible refine Calls.mono HD1.out ?_); rintro o w2 ⟨rfl, hcl2, hf2⟩; have c4' := cell_of_block hcl2.blk 4 _ rfl; have HCL2 := hide hcl2; have HF2 := hide ((HF1.out.weak (ex1 := fun c => c = g ∨ c = gc ∨ c = bt ∨ c = bd) (fun _ _ e => e.elim .inl (fun e => .inr (.inl e)))).trans hf2 (fun _ _ e => e.elim (fun e => .inr (.inl e)) (fun e => .inr (.inr (.inl e))))); obtain ⟨w3, hr, hI3, hg3⟩ := S.update u82 hcl2.di tok (dval (op, r)); unfold dval at hr; have HI3 := hide hI3; have HG3 := hide hg3; clear hcl2 hf2 hI3 hg3)
    go_ret2
    exact ⟨rfl, HCL2.out.dids HI3.out (frb HG3.out), HF2.out.trans (frb HG3.out) (fun _ _ e => .inr (.inr (.inr e)))⟩
  · rw [if_neg he, if_neg he]
    have hE : V.errOf e = .iface 80 (.int .i64 e) := by unfold V.errOf; rw [if_neg he]
    rw [hE] at HDO ⊢
    clear he hE
    go_enter Try.func34, Try.ntmps34
    go_wp2_with fail
    refine HBG.out.mono ?_
    rintro o w1 ⟨rfl, hcl, hf1⟩
    have c4 := cell_of_block hcl.blk 4 _ rfl
    have hlk := HLK.out w1 hcl.di
    have hal : Fr w1 (w1.alloc (.cells #[.int .i64 0, .int .i64 0] 114)) (fun _ => False) := (Fr.refl _ _).alloc _
    have HD1 := hide (HDO.out _ (hcl.fr hal) (hf1.alloc _))
    have HF1 := hide (hf1.alloc (.cells #[.int .i64 0, .int .i64 0] 114))
    clear hcl hf1 HBG HLK HDO hal
    go_wp2_with (go_at_call 35; (with_reducible refine Calls.mono HD1.out ?_); rintro o w2 ⟨rfl, hcl2, hf2⟩; have c4' := cell_of_block hcl2.blk 4 _ rfl; have HCL2 := hide hcl2; have HF2 := hide ((HF1.out.weak (ex1 := fun c => c = g ∨ c = gc ∨ c = bt ∨ c = bd) (fun _ _ e => e.elim .inl (fun e => .inr (.inl e)))).trans hf2 (fun _ _ e => e.elim (fun e => .inr (.inl e)) (fun e => .inr (.inr (.inl e))))); obtain ⟨w3, hr, hI3, hg3⟩ := S.update u82 hcl2.di tok (dval (op, r)); unfold dval at hr; have HI3 := hide hI3; have HG3 := hide hg3; clear hcl2 hf2 hI3 hg3)
    go_ret2
    exact ⟨rfl, HCL2.out, HF2.out⟩
end Go.Proofs.Ytlmkpjdaoinmoaa
