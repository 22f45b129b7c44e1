/- For TopPrint: choice. -/
import Derived.Test.YtbdbpfcblppnbaaGreatDoorR3
import Derived.Test.YtbdbpfcblppnbaaGreatDoorR4
import Derived.Deep.RegionLaw
namespace Go.Proofs.YtbdbpfcblppnbaaGreatDoor.Vx
open Go.RowKit
attribute [local go_sem ↓] Go.wp_at_zero Go.wp_at_succ
set_option maxRecDepth 100000 in
theorem step_call46 {ops : Array Oper} {o : Oper} {a : Act} {w : World} {K : Act → World → Prop} {Q : Exit → Act → World → Prop} {E : Prop} (hgd : o.guard = none) (x y : Operand) (t t2 : TypeId)
  (ho : o.op = .call { callee := .value (.func 46), args := #[x, y], argTypes := #[t, t2] }) (v u : Value) (hx : a.eval x = v) (hy : a.eval y = u)
  (h : Calls Tryz.prog 46 #[v, u] w fun e w' => ∃ u, e = .returned u ∧ K (a.put o.dst u) w') :
  if Region.wanted o (yielded ops a.tmps) = true then Oper.wp Tryz.prog o a w K Q else E := by
 have hw : Region.wanted o (yielded ops a.tmps) = true := by simp [Region.wanted, hgd]
 rw [if_pos hw]
 have hr : (execOp a.eval o).run Tryz.prog w = .ok (.enter 46 #[v, u]) w := by
  unfold execOp
  simp [ho, resolve, invoke, go_sem]
  rw [← hx, ← hy]
  cases x <;> cases y <;> simp [Act.eval]
 unfold Oper.wp
 rw [hr, Oper.upon_enter]
 refine h.mono ?_
 rintro e w' ⟨u, rfl, hK⟩
 exact hK
/-- As ExOut, with the blocks D besides. -/
def P.ChOut (D : Nat → Prop) (b : Nat) (p : Option (Ex × List P.T)) (d R : Nat) (w w' : World) (ts : List P.K) (r : Ending) : Prop :=
 (∃ e n k v s t a i c a' i' c', p = some (e, P.fc (ts.drop (n + 1))) ∧ r = .returned (.tuple #[.agg (P.xc k v s t a i c a' i' c').toArray, .nilIface]) ∧ X.MemD (fun c => D c ∨ P.New w w' c) d w' e (P.xc k v s t a i c a' i' c') ∧
   X.bulk d e + 60 * (ts.drop (n + 1)).length ≤ 60 * ts.length + b ∧ P.Rdr R w' (ts.drop (n + 1))) ∨
  (p = none ∧ (∃ k v s t a i c a' i' c' f, r = .returned (.tuple #[.agg (P.xc k v s t a i c a' i' c').toArray, .iface 62 (.int .i64 f)])) ∧ ∃ ts', P.Rdr R w' ts')
theorem sign_ev (R : Nat) (w : World) (ts : List P.K) (s : ByteArray) (h : P.Rdr R w ts) :
  Calls Tryz.prog 46 #[.pointer (some ⟨R, 0, none⟩), .string s] w fun r w' => Fr w w' (fun c => c = R) ∧ ∃ ev, r = .returned ev ∧
   ((∃ t ts', ts = t :: ts' ∧ P.found 4 (V.bl s) (P.fc ts) = some (P.fc ts') ∧ ev = .nilIface ∧ P.Rdr R w' ts') ∨ (P.found 4 (V.bl s) (P.fc ts) = none ∧ ev = .iface 62 (.int .i64 5) ∧ P.Rdr R w' ts)) := by
 refine (sign_any' R w ts s h).mono ?_
 rintro r w' ⟨hf, ⟨t, ts', h1, h2, h3, h4⟩ | ⟨h1, h2, h3⟩⟩
 ·exact ⟨hf, _, h3, .inl ⟨t, ts', h1, h2, rfl, h4⟩⟩
 ·exact ⟨hf, _, h2, .inr ⟨h1, rfl, h3⟩⟩
set_option maxRecDepth 100000 in
set_option maxHeartbeats 6400000 in
theorem choice_any (D : Nat → Prop) (d R Br Bd : Nat) (w : World) (ts : List P.K) (e1 : Ex) (k1 : Int) (v1 : Val) (s1 t1 : ByteArray) (a1 : Option Addr) (i1 u1 : Nat) (b1 : Option Addr) (j1 p1 : Nat) (hd : d ≤ 6) (ih : P.IH d) (h : P.Rdr R w ts) (hi : P.Inn R Br Bd d w) (hD : ∀ c, D c → c < w.heap.size ∧ c ≠ R) (hM1 : X.MemD D d w e1 (P.xc k1 v1 s1 t1 a1 i1 u1 b1 j1 p1)) :
  Calls Tryz.prog 103 #[.pointer (some ⟨R, 0, none⟩), .agg #[.int .i64 k1, .int .i64 v1.kind, .int .i64 v1.n, .string v1.s, .slice none 0 0, .slice none 0 0, .string s1, .string t1, .slice a1 i1 u1, .slice b1 j1 p1], .func (.func 80) #[] #[.pointer (some ⟨Br, 0, none⟩), .pointer (some ⟨Bd, 0, none⟩)]] w fun r w' => Fr w w' (fun c => c = R) ∧ P.ChOut D (X.bulk d e1) (P.choice (P.ex d) e1 (P.fc ts)) (d + 1) R w w' ts r := by
 have hR := h.lt
 have hb0 : Below w.heap.size w ((w.alloc (.cells #[.int .i64 k1, .int .i64 v1.kind, .int .i64 v1.n, .string v1.s, .slice none 0 0, .slice none 0 0, .string s1, .string t1, .slice a1 i1 u1, .slice b1 j1 p1] 57)).alloc (.cells #[.int .i64 0, .int .i64 0, .int .i64 0, .string ⟨#[]⟩, .slice none 0 0, .slice none 0 0, .string ⟨#[]⟩, .string ⟨#[]⟩, .slice none 0 0, .slice none 0 0] 57)) := ((Below.refl _ _).alloc (Nat.le_refl _) _).alloc (by simp) _
 have hB0 : ((w.alloc (.cells #[.int .i64 k1, .int .i64 v1.kind, .int .i64 v1.n, .string v1.s, .slice none 0 0, .slice none 0 0, .string s1, .string t1, .slice a1 i1 u1, .slice b1 j1 p1] 57)).alloc (.cells #[.int .i64 0, .int .i64 0, .int .i64 0, .string ⟨#[]⟩, .slice none 0 0, .slice none 0 0, .string ⟨#[]⟩, .string ⟨#[]⟩, .slice none 0 0, .slice none 0 0] 57)).heap[w.heap.size]? = some (.cells #[.int .i64 k1, .int .i64 v1.kind, .int .i64 v1.n, .string v1.s, .slice none 0 0, .slice none 0 0, .string s1, .string t1, .slice a1 i1 u1, .slice b1 j1 p1] 57 (0, 0)) := by rw [heap_alloc_old _ _ (by simp)]; exact heap_alloc_new _ _
 have hA0 : ((w.alloc (.cells #[.int .i64 k1, .int .i64 v1.kind, .int .i64 v1.n, .string v1.s, .slice none 0 0, .slice none 0 0, .string s1, .string t1, .slice a1 i1 u1, .slice b1 j1 p1] 57)).alloc (.cells #[.int .i64 0, .int .i64 0, .int .i64 0, .string ⟨#[]⟩, .slice none 0 0, .slice none 0 0, .string ⟨#[]⟩, .string ⟨#[]⟩, .slice none 0 0, .slice none 0 0] 57)).heap[w.heap.size + 1]? = some (.cells #[.int .i64 0, .int .i64 0, .int .i64 0, .string ⟨#[]⟩, .slice none 0 0, .slice none 0 0, .string ⟨#[]⟩, .string ⟨#[]⟩, .slice none 0 0, .slice none 0 0] 57 (0, 0)) := by rw [show w.heap.size + 1 = (w.alloc (.cells #[.int .i64 k1, .int .i64 v1.kind, .int .i64 v1.n, .string v1.s, .slice none 0 0, .slice none 0 0, .string s1, .string t1, .slice a1 i1 u1, .slice b1 j1 p1] 57)).heap.size by simp]; exact heap_alloc_new _ _
 have hsz0 : ((w.alloc (.cells #[.int .i64 k1, .int .i64 v1.kind, .int .i64 v1.n, .string v1.s, .slice none 0 0, .slice none 0 0, .string s1, .string t1, .slice a1 i1 u1, .slice b1 j1 p1] 57)).alloc (.cells #[.int .i64 0, .int .i64 0, .int .i64 0, .string ⟨#[]⟩, .slice none 0 0, .slice none 0 0, .string ⟨#[]⟩, .string ⟨#[]⟩, .slice none 0 0, .slice none 0 0] 57)).heap.size = w.heap.size + 2 := by simp
 have HN := hide (inner_any d R Br Bd _ ts hd ih (h.kept hb0) (hi.kept hb0))
 have HF0 : Hid (Fr w ((w.alloc (.cells #[.int .i64 k1, .int .i64 v1.kind, .int .i64 v1.n, .string v1.s, .slice none 0 0, .slice none 0 0, .string s1, .string t1, .slice a1 i1 u1, .slice b1 j1 p1] 57)).alloc (.cells #[.int .i64 0, .int .i64 0, .int .i64 0, .string ⟨#[]⟩, .slice none 0 0, .slice none 0 0, .string ⟨#[]⟩, .string ⟨#[]⟩, .slice none 0 0, .slice none 0 0] 57)) (fun c => c = R)) := (P.fr_below hb0).weak (fun _ _ e => e.elim)
 have HI := hide (hi.kept hb0)
 have HIH := hide ih
 have HA0 := hide hA0
 have HB0 := hide hB0
 have HSZ0 := hide hsz0
 have HM1 := hide hM1
 have HD := hide hD
 clear h hb0 hA0 hB0 hi ih hsz0 hM1 hD
 unfold P.xc at HM1
 go_enter Tryz.func103, Tryz.ntmps103
 go_wp2_with fail
 generalize (w.alloc (.cells #[.int .i64 k1, .int .i64 v1.kind, .int .i64 v1.n, .string v1.s, .slice none 0 0, .slice none 0 0, .string s1, .string t1, .slice a1 i1 u1, .slice b1 j1 p1] 57)).alloc (.cells #[.int .i64 0, .int .i64 0, .int .i64 0, .string ⟨#[]⟩, .slice none 0 0, .slice none 0 0, .string ⟨#[]⟩, .string ⟨#[]⟩, .slice none 0 0, .slice none 0 0] 57) = w0 at *
 refine HN.out.mono ?_
 rintro r w1 ⟨hf1, ⟨e2, n, k2, v2, s2, t2, a2, i2, u2, b2, j2, p2, hE, rfl, hM, hbk, hr1⟩ | ⟨hE, ⟨k2, v2, s2, t2, a2, i2, u2, b2, j2, p2, f, rfl⟩, ts', hr1⟩⟩
 ·have hA1 := (hf1.block (w.heap.size + 1) (blt HA0.out) (by omega)).trans HA0.out
  have hB1 := (hf1.block w.heap.size (blt HB0.out) (by omega)).trans HB0.out
  have hs1 := hf1.size
  have hlt1 : w.heap.size + 1 < w1.heap.size := (blt hA1)
  have hA2 : (w1.alloc (.cells #[.int .i64 k2, .int .i64 v2.kind, .int .i64 v2.n, .string v2.s, .slice none 0 0, .slice none 0 0, .string s2, .string t2, .slice a2 i2 u2, .slice b2 j2 p2] 57)).heap[w.heap.size + 1]? = some (.cells #[.int .i64 0, .int .i64 0, .int .i64 0, .string ⟨#[]⟩, .slice none 0 0, .slice none 0 0, .string ⟨#[]⟩, .string ⟨#[]⟩, .slice none 0 0, .slice none 0 0] 57 (0, 0)) := by rw [heap_alloc_old _ _ hlt1]; exact hA1
  have hB2 : (w1.alloc (.cells #[.int .i64 k2, .int .i64 v2.kind, .int .i64 v2.n, .string v2.s, .slice none 0 0, .slice none 0 0, .string s2, .string t2, .slice a2 i2 u2, .slice b2 j2 p2] 57)).heap[w.heap.size]? = some (.cells #[.int .i64 k1, .int .i64 v1.kind, .int .i64 v1.n, .string v1.s, .slice none 0 0, .slice none 0 0, .string s1, .string t1, .slice a1 i1 u1, .slice b1 j1 p1] 57 (0, 0)) := by rw [heap_alloc_old _ _ (by omega)]; exact hB1
  have hY2 : (w1.alloc (.cells #[.int .i64 k2, .int .i64 v2.kind, .int .i64 v2.n, .string v2.s, .slice none 0 0, .slice none 0 0, .string s2, .string t2, .slice a2 i2 u2, .slice b2 j2 p2] 57)).heap[w1.heap.size]? = some (.cells #[.int .i64 k2, .int .i64 v2.kind, .int .i64 v2.n, .string v2.s, .slice none 0 0, .slice none 0 0, .string s2, .string t2, .slice a2 i2 u2, .slice b2 j2 p2] 57 (0, 0)) := heap_alloc_new _ _
  have hF2 : Fr w (w1.alloc (.cells #[.int .i64 k2, .int .i64 v2.kind, .int .i64 v2.n, .string v2.s, .slice none 0 0, .slice none 0 0, .string s2, .string t2, .slice a2 i2 u2, .slice b2 j2 p2] 57)) (fun c => c = R) := (HF0.out.trans hf1 (fun _ _ e => e)).alloc _
  have HI2 : Hid (P.Inn R Br Bd d (w1.alloc (.cells #[.int .i64 k2, .int .i64 v2.kind, .int .i64 v2.n, .string v2.s, .slice none 0 0, .slice none 0 0, .string s2, .string t2, .slice a2 i2 u2, .slice b2 j2 p2] 57))) := (HI.out.fr hf1).kept ((Below.refl _ _).alloc (Nat.le_refl _) _)
  have HSG := hide (sign_any' R (w1.alloc (.cells #[.int .i64 k2, .int .i64 v2.kind, .int .i64 v2.n, .string v2.s, .slice none 0 0, .slice none 0 0, .string s2, .string t2, .slice a2 i2 u2, .slice b2 j2 p2] 57)) (ts.drop (n + 1)) ⟨#[58]⟩ (hr1.kept ((Below.refl _ _).alloc (Nat.le_refl _) _)))
  have HE := hide hE
  have HM := hide hM
  have HBK := hide hbk
  have HF2 := hide hF2
  have HA2 := hide hA2
  have HB2 := hide hB2
  have HY2 := hide hY2
  have HLT := hide hlt1
  have HS1 := hide hs1
  unfold P.xc
  clear hf1 hE hr1 hM hbk HN hA1 hB1 hA2 hB2 hY2 hF2 hs1 hlt1
  go_wp2_with fail
  refine HSG.out.mono ?_
  rintro r w2 ⟨hf2, ⟨tc, ts2, eT, hE2, rfl, hr2⟩ | ⟨hE2, rfl, hr2⟩⟩
  ·have hA3 := (hf2.block (w.heap.size + 1) (blt HA2.out) (by omega)).trans HA2.out
   have hB3 := (hf2.block w.heap.size (blt HB2.out) (by omega)).trans HB2.out
   have hY3 := (hf2.block w1.heap.size (blt HY2.out) (by have := HLT.out; omega)).trans HY2.out
   have HF3 := hide (HF2.out.trans hf2 (fun _ _ e => e))
   have HN2 := hide (inner_any d R Br Bd w2 ts2 hd HIH.out hr2 (HI2.out.fr hf2))
   have HA3 := hide hA3
   have HB3 := hide hB3
   have HY3 := hide hY3
   have HE2 := hide hE2
   have HS2 := hide hf2.size
   have HFb := hide hf2
   clear hf2 hr2 hE2 HSG hA3 hB3 hY3
   go_wp2_with fail
   refine HN2.out.mono ?_
   rintro r w3 ⟨hf3, ⟨e3, m, k3, v3, s3, t3, a3, i3, u3, b3, j3, p3, hE3, rfl, hM3, hbk3, hr3⟩ | ⟨hE3, ⟨k3, v3, s3, t3, a3, i3, u3, b3, j3, p3, f, rfl⟩, ts', hr3⟩⟩
   ·unfold P.xc
    have hA4 := (hf3.block (w.heap.size + 1) (blt HA3.out) (by omega)).trans HA3.out
    have hB4 := (hf3.block w.heap.size (blt HB3.out) (by omega)).trans HB3.out
    have hY4 := (hf3.block w1.heap.size (blt HY3.out) (by have := HLT.out; omega)).trans HY3.out
    have HA4 := hide hA4
    have HB4 := hide hB4
    have HY4 := hide hY4
    have HFw : Hid (Fr w (w3.alloc (.cells #[.int .i64 k3, .int .i64 v3.kind, .int .i64 v3.n, .string v3.s, .slice none 0 0, .slice none 0 0, .string s3, .string t3, .slice a3 i3 u3, .slice b3 j3 p3] 57)) (fun c => c = R)) := (HF3.out.trans hf3 (fun _ _ e => e)).alloc _
    have HF14 : Hid (Fr w1 (w3.alloc (.cells #[.int .i64 k3, .int .i64 v3.kind, .int .i64 v3.n, .string v3.s, .slice none 0 0, .slice none 0 0, .string s3, .string t3, .slice a3 i3 u3, .slice b3 j3 p3] 57)) (fun c => c = R)) := ((((Fr.refl w1 _).alloc _).trans HFb.out (fun _ _ e => e)).trans hf3 (fun _ _ e => e)).alloc _
    have HF34 : Hid (Fr w3 (w3.alloc (.cells #[.int .i64 k3, .int .i64 v3.kind, .int .i64 v3.n, .string v3.s, .slice none 0 0, .slice none 0 0, .string s3, .string t3, .slice a3 i3 u3, .slice b3 j3 p3] 57)) (fun c => c = R)) := (Fr.refl w3 _).alloc _
    have HE3 := hide hE3
    have HM3 := hide hM3
    have HBK3 := hide hbk3
    clear hf3 hE3 hM3 hbk3 hA4 hB4 hY4
    have HSG := hide (fun W hW => sign_ev R W (ts2.drop (m + 1)) ⟨#[41]⟩ hW)
    have hA5 : (w3.alloc (.cells #[.int .i64 k3, .int .i64 v3.kind, .int .i64 v3.n, .string v3.s, .slice none 0 0, .slice none 0 0, .string s3, .string t3, .slice a3 i3 u3, .slice b3 j3 p3] 57)).heap[w.heap.size + 1]? = some (.cells #[.int .i64 0, .int .i64 0, .int .i64 0, .string ⟨#[]⟩, .slice none 0 0, .slice none 0 0, .string ⟨#[]⟩, .string ⟨#[]⟩, .slice none 0 0, .slice none 0 0] 57 (0, 0)) := by rw [heap_alloc_old _ _ (blt HA4.out)]; exact HA4.out
    have hB5 : (w3.alloc (.cells #[.int .i64 k3, .int .i64 v3.kind, .int .i64 v3.n, .string v3.s, .slice none 0 0, .slice none 0 0, .string s3, .string t3, .slice a3 i3 u3, .slice b3 j3 p3] 57)).heap[w.heap.size]? = some (.cells #[.int .i64 k1, .int .i64 v1.kind, .int .i64 v1.n, .string v1.s, .slice none 0 0, .slice none 0 0, .string s1, .string t1, .slice a1 i1 u1, .slice b1 j1 p1] 57 (0, 0)) := by rw [heap_alloc_old _ _ (blt HB4.out)]; exact HB4.out
    have hY5 : (w3.alloc (.cells #[.int .i64 k3, .int .i64 v3.kind, .int .i64 v3.n, .string v3.s, .slice none 0 0, .slice none 0 0, .string s3, .string t3, .slice a3 i3 u3, .slice b3 j3 p3] 57)).heap[w1.heap.size]? = some (.cells #[.int .i64 k2, .int .i64 v2.kind, .int .i64 v2.n, .string v2.s, .slice none 0 0, .slice none 0 0, .string s2, .string t2, .slice a2 i2 u2, .slice b2 j2 p2] 57 (0, 0)) := by rw [heap_alloc_old _ _ (blt HY4.out)]; exact HY4.out
    have hZ5 : (w3.alloc (.cells #[.int .i64 k3, .int .i64 v3.kind, .int .i64 v3.n, .string v3.s, .slice none 0 0, .slice none 0 0, .string s3, .string t3, .slice a3 i3 u3, .slice b3 j3 p3] 57)).heap[w3.heap.size]? = some (.cells #[.int .i64 k3, .int .i64 v3.kind, .int .i64 v3.n, .string v3.s, .slice none 0 0, .slice none 0 0, .string s3, .string t3, .slice a3 i3 u3, .slice b3 j3 p3] 57 (0, 0)) := heap_alloc_new _ _
    have hr5 : P.Rdr R (w3.alloc (.cells #[.int .i64 k3, .int .i64 v3.kind, .int .i64 v3.n, .string v3.s, .slice none 0 0, .slice none 0 0, .string s3, .string t3, .slice a3 i3 u3, .slice b3 j3 p3] 57)) (ts2.drop (m + 1)) := hr3.kept ((Below.refl _ _).alloc (Nat.le_refl _) _)
    have hl1 : w.heap.size + 1 < w3.heap.size := (blt HA4.out)
    have hl2 : w1.heap.size < w3.heap.size := (blt HY4.out)
    have HL1 := hide hl1
    have HL2 := hide hl2
    clear hl1 hl2
    go_wp2_with fail
    generalize hw4 : w3.alloc (.cells #[.int .i64 k3, .int .i64 v3.kind, .int .i64 v3.n, .string v3.s, .slice none 0 0, .slice none 0 0, .string s3, .string t3, .slice a3 i3 u3, .slice b3 j3 p3] 57) = w4 at *
    have hsz4 : w4.heap.size = w3.heap.size + 1 := by rw [← hw4]; simp
    have HSZ4 := hide hsz4
    have HW4 := hide hw4
    have HR5 := hide hr5
    have HA5 := hide hA5
    have KQ : Hid (∀ W, Fr w4 W (fun c => c = R ∨ c = w.heap.size + 1) → W.heap[w.heap.size]? = some (.cells #[.int .i64 k1, .int .i64 v1.kind, .int .i64 v1.n, .string v1.s, .slice none 0 0, .slice none 0 0, .string s1, .string t1, .slice a1 i1 u1, .slice b1 j1 p1] 57 (0, 0)) ∧ W.heap[w1.heap.size]? = some (.cells #[.int .i64 k2, .int .i64 v2.kind, .int .i64 v2.n, .string v2.s, .slice none 0 0, .slice none 0 0, .string s2, .string t2, .slice a2 i2 u2, .slice b2 j2 p2] 57 (0, 0)) ∧ W.heap[w3.heap.size]? = some (.cells #[.int .i64 k3, .int .i64 v3.kind, .int .i64 v3.n, .string v3.s, .slice none 0 0, .slice none 0 0, .string s3, .string t3, .slice a3 i3 u3, .slice b3 j3 p3] 57 (0, 0))) := by
     intro W hf
     have q : ∀ {c : Nat} {o : Obj}, c ≠ R → c ≠ w.heap.size + 1 → w4.heap[c]? = some o → W.heap[c]? = some o := fun {c o} hc hc2 ho =>
      (hf.block c (blt ho) (fun e => e.elim hc hc2)).trans ho
     have := HL1.out
     have := HL2.out
     have := HLT.out
     exact ⟨q (by omega) (by omega) hB5, q (by omega) (by omega) hY5, q (by omega) (by omega) hZ5⟩
    clear hw4 hsz4 hr5 hr3 hA5 hB5 hY5 hZ5
    have HFIN : Hid (∀ (W wz : World) (gS : Nat) (ev : Value), Fr w4 W (fun c => c = R) → W.heap[gS]? = some (.cells #[.int .i64 k1, .int .i64 v1.kind, .int .i64 v1.n, .string v1.s, .slice none 0 0, .slice none 0 0, .string s1, .string t1, .slice a1 i1 u1, .slice b1 j1 p1, .int .i64 k2, .int .i64 v2.kind, .int .i64 v2.n, .string v2.s, .slice none 0 0, .slice none 0 0, .string s2, .string t2, .slice a2 i2 u2, .slice b2 j2 p2, .int .i64 k3, .int .i64 v3.kind, .int .i64 v3.n, .string v3.s, .slice none 0 0, .slice none 0 0, .string s3, .string t3, .slice a3 i3 u3, .slice b3 j3 p3] 57 (0, 0)) → w4.heap.size ≤ gS →
      ((∃ t ts', ts2.drop (m + 1) = t :: ts' ∧ P.found 4 (V.bl ⟨#[41]⟩) (P.fc (ts2.drop (m + 1))) = some (P.fc ts') ∧ ev = .nilIface ∧ P.Rdr R W ts') ∨ (P.found 4 (V.bl ⟨#[41]⟩) (P.fc (ts2.drop (m + 1))) = none ∧ ev = .iface 62 (.int .i64 5) ∧ P.Rdr R W (ts2.drop (m + 1)))) →
      Fr W wz (fun c => c = w.heap.size + 1) →
      Fr w wz (fun c => c = R) ∧ P.ChOut D (X.bulk d e1) (P.choice (P.ex d) e1 (P.fc ts)) (d + 1) R w wz ts (.returned (.tuple #[.agg #[.int .i64 7, .int .i64 0, .int .i64 0, .string ⟨#[]⟩, .slice none 0 0, .slice none 0 0, .string ⟨#[]⟩, .string ⟨#[]⟩, .slice (some ⟨gS, 0, none⟩) 3 3, .slice none 0 0], ev]))) := by
     rintro W wz gS ev hf hg hgl hres hz
     have hFw : Fr w wz (fun c => c = R) := (HFw.out.trans hf (fun _ _ e => e)).trans hz (fun c hc e => by omega)
     refine ⟨hFw, ?_⟩
     have l1 := HL1.out
     have l2 := HL2.out
     have l3 := HLT.out
     have l4 := HSZ4.out
     have l5 := hf.size
     have l6 := hz.size
     have l7 := HSZ0.out
     have lg := (blt hg)
     have hP : P.choice (P.ex d) e1 (P.fc ts) = (P.found 4 [41] (P.fc (ts2.drop (m + 1)))).map (fun t4 => (⟨7, V.zero, ⟨#[]⟩, ⟨#[]⟩, [e1, e2, e3], []⟩, t4)) := by
      unfold P.choice
      rw [HE.out]
      simp only
      rw [show P.found 4 [58] _ = _ from HE2.out]
      simp only
      rw [HE3.out]
     rcases hres with ⟨t, ts', eT3, hF, rfl, hr⟩ | ⟨hF, rfl, hr⟩
     ·have hTs : ts.drop (n + m + 3 + 1) = ts' := by
       have e2 : ts.drop (n + 1 + 1) = ts2 := P.drop_next eT
       have e3 : ts2.drop (m + 1 + 1) = ts' := P.drop_next eT3
       rw [← e3, ← e2, List.drop_drop]
       congr 1
       omega
      refine .inl ⟨⟨7, V.zero, ⟨#[]⟩, ⟨#[]⟩, [e1, e2, e3], []⟩, n + m + 3, 7, V.zero, ⟨#[]⟩, ⟨#[]⟩, some ⟨gS, 0, none⟩, 3, 3, none, 0, 0, ?_, rfl, ?_, ?_, ?_⟩
      ·rw [hTs, hP, show P.found 4 [41] _ = _ from hF]
       rfl
      ·refine P.xnode (l := [(e1, (P.xc k1 v1 s1 t1 a1 i1 u1 b1 j1 p1)), (e2, (P.xc k2 v2 s2 t2 a2 i2 u2 b2 j2 p2)), (e3, (P.xc k3 v3 s3 t3 a3 i3 u3 b3 j3 p3))]) (arr := ([(e1, (P.xc k1 v1 s1 t1 a1 i1 u1 b1 j1 p1)), (e2, (P.xc k2 v2 s2 t2 a2 i2 u2 b2 j2 p2)), (e3, (P.xc k3 v3 s3 t3 a3 i3 u3 b3 j3 p3))].flatMap (fun x : Ex × List Value => x.2)).toArray) (ty := 57) (fr := (0, 0)) 7 ⟨#[]⟩ ⟨#[]⟩ ((hz.block gS lg (by omega)).trans hg) (P.flat_at _ (fun x hx => ?_)) (fun x hx => ?_) (.inr ⟨by omega, by omega⟩)
       ·rcases List.mem_cons.1 hx with rfl | hx
        ·rfl
        rcases List.mem_cons.1 hx with rfl | hx
        ·rfl
        rw [List.mem_singleton] at hx
        subst hx
        rfl
       ·rcases List.mem_cons.1 hx with rfl | hx
        ·exact HM1.out.to (fun c hc => hFw.block c (HD.out c hc).1 (HD.out c hc).2) (fun c hc => .inl hc)
        rcases List.mem_cons.1 hx with rfl | hx
        ·refine HM.out.to (fun c hc => ?_) (fun c hc => .inr ⟨by have := hc.1; omega, by have := hc.2; omega⟩)
         have h1 := hc.1
         have h2 := hc.2
         have h3 := HF14.out.size
         rw [hz.block c (by omega) (by omega), hf.block c (by omega) (by omega), HF14.out.block c (by omega) (by omega)]
        rw [List.mem_singleton] at hx
        subst hx
        refine HM3.out.to (fun c hc => ?_) (fun c hc => .inr ⟨by have := hc.1; have := HS2.out; simp at this; omega, by have := hc.2; omega⟩)
        have h1 := hc.1
        have h2 := hc.2
        have h3 := HS2.out
        simp at h3
        rw [hz.block c (by omega) (by omega), hf.block c (by omega) (by omega), HF34.out.block c (by omega) (by omega)]
      ·have h1 := HBK.out
       have h3 := HBK3.out
       have e2 : ts.drop (n + 1) = _ := eT
       rw [e2] at h1
       rw [eT3] at h3
       rw [hTs, X.bulk, V.bulk]
       simp only [V.zero, X.sumA, X.sumN, V.sumL, V.sumF, P.zero_size, List.map_nil, List.map_cons, List.sum_cons, List.sum_nil, List.length_nil, List.length_cons] at h1 h3 ⊢
       omega
      ·rw [hTs]
       exact hr.fr hz (fun c e => by omega)
     ·refine .inr ⟨?_, ⟨7, V.zero, ⟨#[]⟩, ⟨#[]⟩, some ⟨gS, 0, none⟩, 3, 3, none, 0, 0, 5, rfl⟩, _, hr.fr hz (fun c e => by omega)⟩
      rw [hP, show P.found 4 [41] _ = _ from hF]
      rfl
    clear HFw HF14 HF34 HE3 HM3 HBK3 HE HM HBK HE2 HFb
    refine Lt.start (fun W => Fr w4 W (fun c => c = R ∨ c = w.heap.size + 1)) [] (by kernel_rfl) ?_
    have HS0 : Fr w4 w4.drew (fun c => c = R ∨ c = w.heap.size + 1) := (Fr.refl w4 _).drew
    refine Lt.takeS (i := 0) (v := .agg #[.int .i64 k1, .int .i64 v1.kind, .int .i64 v1.n, .string v1.s, .slice none 0 0, .slice none 0 0, .string s1, .string t1, .slice a1 i1 u1, .slice b1 j1 p1]) rfl (by kernel_rfl) (by kernel_rfl) (by kernel_rfl) (by kernel_rfl) (by kernel_rfl) (by kernel_rfl) (fun _ _ _ h => h) (Or.inl ⟨by rfl, ?_⟩) (HS0) ?_
    ·intro W hW
     have k := (KQ.out W hW).1
     obtain ⟨x0, x1, x2, x3, x4, x5, x6, x7, x8, x9⟩ := cl10 k
     clear k
     go_simp

    refine Lt.takeS (i := 1) (v := .agg #[.int .i64 k2, .int .i64 v2.kind, .int .i64 v2.n, .string v2.s, .slice none 0 0, .slice none 0 0, .string s2, .string t2, .slice a2 i2 u2, .slice b2 j2 p2]) rfl (by kernel_rfl) (by kernel_rfl) (by kernel_rfl) (by kernel_rfl) (by kernel_rfl) (by kernel_rfl) (fun _ _ _ h => h) (Or.inl ⟨by rfl, ?_⟩) (HS0) ?_
    ·intro W hW
     have k := (KQ.out W hW).2.1
     obtain ⟨x0, x1, x2, x3, x4, x5, x6, x7, x8, x9⟩ := cl10 k
     clear k
     go_simp

    refine Lt.takeS (i := 2) (v := .agg #[.int .i64 k3, .int .i64 v3.kind, .int .i64 v3.n, .string v3.s, .slice none 0 0, .slice none 0 0, .string s3, .string t3, .slice a3 i3 u3, .slice b3 j3 p3]) rfl (by kernel_rfl) (by kernel_rfl) (by kernel_rfl) (by kernel_rfl) (by kernel_rfl) (by kernel_rfl) (fun _ _ _ h => h) (Or.inl ⟨by rfl, ?_⟩) (HS0) ?_
    ·intro W hW
     have k := (KQ.out W hW).2.2
     obtain ⟨x0, x1, x2, x3, x4, x5, x6, x7, x8, x9⟩ := cl10 k
     clear k
     go_simp

    refine Lt.takeY (i := 5) (v := .pointer (some ⟨R, 0, none⟩)) rfl (by kernel_rfl) (by kernel_rfl) (by kernel_rfl) (by kernel_rfl) (fun _ _ _ h => h) (Or.inl ⟨by rfl, ?_⟩) (HS0) ?_
    ·intro w
     go_simp

    go_simp
    refine Lt.ready2 (i := 3) (j := 6) (by kernel_rfl) rfl rfl (fun K hK => ?_) (fun K hK => ?_)
    ·go_simp
     refine hK _ _ (fun _ => HS0.alloc _) ?_
     clear hK K
     refine Lt.takeY (i := 4) (v := .agg #[.int .i64 7, .int .i64 0, .int .i64 0, .string ⟨#[]⟩, .slice none 0 0, .slice none 0 0, .string ⟨#[]⟩, .string ⟨#[]⟩, .slice (some ⟨w4.heap.size, 0, none⟩) 3 3, .slice none 0 0]) rfl (by kernel_rfl) (by kernel_rfl) (by kernel_rfl) (by kernel_rfl) (fun _ _ _ h => h) (Or.inl ⟨by rfl, ?_⟩) (HS0.alloc _) ?_
     ·intro w
      go_simp

     go_simp
     refine Lt.ready1 (i := 6) (by kernel_rfl) rfl (fun K hK => ?_)
     refine step_call46 ?_ (.tmp 41) (.const (.string ⟨#[41]⟩)) 34 9 ?_ (.pointer (some ⟨R, 0, none⟩)) (.string ⟨#[41]⟩) ?_ ?_ ?_
     rfl
     rfl
     rfl
     rfl
     refine Calls.mono (HSG.out _ (HR5.out.fr (Fr.alloc (Fr.drew (Fr.refl w4 (fun _ => False))) _) (fun _ e => e.elim))) ?_
     rintro r w5 ⟨hf5, ev, rfl, hres⟩
     refine ⟨_, rfl, ?_⟩
     go_simp
     have hW5 : Fr w4 w5 (fun c => c = R) := (((Fr.refl w4 _).drew).alloc _).trans hf5 (fun _ _ e => e)
     refine hK _ _ (fun _ => hW5.weak (fun _ _ e => .inl e)) ?_
     clear hK K
     have hG5 : w5.heap[w4.heap.size]? = some (.cells #[.int .i64 k1, .int .i64 v1.kind, .int .i64 v1.n, .string v1.s, .slice none 0 0, .slice none 0 0, .string s1, .string t1, .slice a1 i1 u1, .slice b1 j1 p1, .int .i64 k2, .int .i64 v2.kind, .int .i64 v2.n, .string v2.s, .slice none 0 0, .slice none 0 0, .string s2, .string t2, .slice a2 i2 u2, .slice b2 j2 p2, .int .i64 k3, .int .i64 v3.kind, .int .i64 v3.n, .string v3.s, .slice none 0 0, .slice none 0 0, .string s3, .string t3, .slice a3 i3 u3, .slice b3 j3 p3] 57 (0, 0)) := (hf5.block w4.heap.size (by simp) (by have := HL1.out; have := HSZ4.out; omega)).trans (heap_alloc_new w4.drew _)
     clear hf5
     have hAz := (hW5.block (w.heap.size + 1) (blt HA5.out) (by omega)).trans HA5.out
     obtain ⟨z0, z1, z2, z3, z4, z5, z6, z7, z8, z9⟩ := cl10 hAz
     obtain ⟨f0, f1, f2, f3, f4, f5, f6, f7, f8, f9⟩ := fl10 hAz
     have HAz := hide hAz
     clear hAz
     refine Lt.ready1 (i := 7) (by kernel_rfl) rfl (fun K hK => ?_)
     go_simp
     have hBz := P.set10 HAz.out (.int .i64 7) (.int .i64 0) (.int .i64 0) (.string ⟨#[]⟩) (.slice none 0 0) (.slice none 0 0) (.string ⟨#[]⟩) (.string ⟨#[]⟩) (.slice (some ⟨w4.heap.size, 0, none⟩) 3 3) (.slice none 0 0)
     have hFz := P.fr10 w5 (w.heap.size + 1) (.int .i64 7) (.int .i64 0) (.int .i64 0) (.string ⟨#[]⟩) (.slice none 0 0) (.slice none 0 0) (.string ⟨#[]⟩) (.string ⟨#[]⟩) (.slice (some ⟨w4.heap.size, 0, none⟩) 3 3) (.slice none 0 0)
     generalize ((((((((((w5.setCell ⟨w.heap.size + 1, 0, none⟩ (.int .i64 7)).setCell ⟨w.heap.size + 1, 1, none⟩ (.int .i64 0)).setCell ⟨w.heap.size + 1, 2, none⟩ (.int .i64 0)).setCell ⟨w.heap.size + 1, 3, none⟩ (.string ⟨#[]⟩)).setCell ⟨w.heap.size + 1, 4, none⟩ (.slice none 0 0)).setCell ⟨w.heap.size + 1, 5, none⟩ (.slice none 0 0)).setCell ⟨w.heap.size + 1, 6, none⟩ (.string ⟨#[]⟩)).setCell ⟨w.heap.size + 1, 7, none⟩ (.string ⟨#[]⟩)).setCell ⟨w.heap.size + 1, 8, none⟩ (.slice (some ⟨w4.heap.size, 0, none⟩) 3 3)).setCell ⟨w.heap.size + 1, 9, none⟩ (.slice none 0 0)) = wz at *
     have hSz : Fr w4 wz (fun c => c = R ∨ c = w.heap.size + 1) := (hW5.weak (fun _ _ e => .inl e)).trans hFz (fun c _ e => .inr e)
     refine hK _ _ (fun _ => hSz) ?_
     clear hK K
     refine Lt.ready1 (i := 8) (by kernel_rfl) rfl (fun K hK => ?_)
     go_simp
     refine hK _ _ (fun _ => hSz) ?_
     clear hK K
     refine Lt.done (by kernel_rfl) ?_ _
     have HE9 := hide (HFIN.out _ wz _ _ hW5 hG5 (Nat.le_refl _) hres hFz)
     clear hres hFz hSz
     obtain ⟨r0, r1, r2, r3, r4, r5, r6, r7, r8, r9⟩ := cl10 hBz
     clear hBz
     clear z0 f0
     clear z1 f1
     clear z2 f2
     clear z3 f3
     clear z4 f4
     clear z5 f5
     clear z6 f6
     clear z7 f7
     clear z8 f8
     clear z9 f9
     go_wp2_with fail
     exact bodyPost_ret (v := .tuple #[.agg #[.int .i64 7, .int .i64 0, .int .i64 0, .string ⟨#[]⟩, .slice none 0 0, .slice none 0 0, .string ⟨#[]⟩, .string ⟨#[]⟩, .slice (some ⟨w4.heap.size, 0, none⟩) 3 3, .slice none 0 0], ev]) (by simp [results, Tryz.results103, go_sem, r0, r1, r2, r3, r4, r5, r6, r7, r8, r9]) rfl HE9.out

    ·refine step_call46 ?_ (.tmp 41) (.const (.string ⟨#[41]⟩)) 34 9 ?_ (.pointer (some ⟨R, 0, none⟩)) (.string ⟨#[41]⟩) ?_ ?_ ?_
     rfl
     rfl
     rfl
     rfl
     refine Calls.mono (HSG.out _ (HR5.out.fr (Fr.drew (Fr.refl w4 (fun _ => False))) (fun _ e => e.elim))) ?_
     rintro r w5 ⟨hf5, ev, rfl, hres⟩
     refine ⟨_, rfl, ?_⟩
     go_simp
     have hW5 : Fr w4 w5 (fun c => c = R) := ((Fr.refl w4 _).drew).trans hf5 (fun _ _ e => e)
     refine hK _ _ (fun _ => hW5.weak (fun _ _ e => .inl e)) ?_
     clear hK K
     refine Lt.ready1 (i := 3) (by kernel_rfl) rfl (fun K hK => ?_)
     go_simp
     have hW6 : Fr w4 (w5.alloc (.cells #[.int .i64 k1, .int .i64 v1.kind, .int .i64 v1.n, .string v1.s, .slice none 0 0, .slice none 0 0, .string s1, .string t1, .slice a1 i1 u1, .slice b1 j1 p1, .int .i64 k2, .int .i64 v2.kind, .int .i64 v2.n, .string v2.s, .slice none 0 0, .slice none 0 0, .string s2, .string t2, .slice a2 i2 u2, .slice b2 j2 p2, .int .i64 k3, .int .i64 v3.kind, .int .i64 v3.n, .string v3.s, .slice none 0 0, .slice none 0 0, .string s3, .string t3, .slice a3 i3 u3, .slice b3 j3 p3] 57)) (fun c => c = R) := hW5.alloc _
     refine hK _ _ (fun _ => hW6.weak (fun _ _ e => .inl e)) ?_
     clear hK K
     have hG6 : (w5.alloc (.cells #[.int .i64 k1, .int .i64 v1.kind, .int .i64 v1.n, .string v1.s, .slice none 0 0, .slice none 0 0, .string s1, .string t1, .slice a1 i1 u1, .slice b1 j1 p1, .int .i64 k2, .int .i64 v2.kind, .int .i64 v2.n, .string v2.s, .slice none 0 0, .slice none 0 0, .string s2, .string t2, .slice a2 i2 u2, .slice b2 j2 p2, .int .i64 k3, .int .i64 v3.kind, .int .i64 v3.n, .string v3.s, .slice none 0 0, .slice none 0 0, .string s3, .string t3, .slice a3 i3 u3, .slice b3 j3 p3] 57)).heap[w5.heap.size]? = some (.cells #[.int .i64 k1, .int .i64 v1.kind, .int .i64 v1.n, .string v1.s, .slice none 0 0, .slice none 0 0, .string s1, .string t1, .slice a1 i1 u1, .slice b1 j1 p1, .int .i64 k2, .int .i64 v2.kind, .int .i64 v2.n, .string v2.s, .slice none 0 0, .slice none 0 0, .string s2, .string t2, .slice a2 i2 u2, .slice b2 j2 p2, .int .i64 k3, .int .i64 v3.kind, .int .i64 v3.n, .string v3.s, .slice none 0 0, .slice none 0 0, .string s3, .string t3, .slice a3 i3 u3, .slice b3 j3 p3] 57 (0, 0)) := heap_alloc_new w5 _
     have hl6 := hW5.size
     clear hf5
     replace hres : (∃ t ts', ts2.drop (m + 1) = t :: ts' ∧ P.found 4 (V.bl ⟨#[41]⟩) (P.fc (ts2.drop (m + 1))) = some (P.fc ts') ∧ ev = .nilIface ∧ P.Rdr R (w5.alloc (.cells #[.int .i64 k1, .int .i64 v1.kind, .int .i64 v1.n, .string v1.s, .slice none 0 0, .slice none 0 0, .string s1, .string t1, .slice a1 i1 u1, .slice b1 j1 p1, .int .i64 k2, .int .i64 v2.kind, .int .i64 v2.n, .string v2.s, .slice none 0 0, .slice none 0 0, .string s2, .string t2, .slice a2 i2 u2, .slice b2 j2 p2, .int .i64 k3, .int .i64 v3.kind, .int .i64 v3.n, .string v3.s, .slice none 0 0, .slice none 0 0, .string s3, .string t3, .slice a3 i3 u3, .slice b3 j3 p3] 57)) ts') ∨ (P.found 4 (V.bl ⟨#[41]⟩) (P.fc (ts2.drop (m + 1))) = none ∧ ev = .iface 62 (.int .i64 5) ∧ P.Rdr R (w5.alloc (.cells #[.int .i64 k1, .int .i64 v1.kind, .int .i64 v1.n, .string v1.s, .slice none 0 0, .slice none 0 0, .string s1, .string t1, .slice a1 i1 u1, .slice b1 j1 p1, .int .i64 k2, .int .i64 v2.kind, .int .i64 v2.n, .string v2.s, .slice none 0 0, .slice none 0 0, .string s2, .string t2, .slice a2 i2 u2, .slice b2 j2 p2, .int .i64 k3, .int .i64 v3.kind, .int .i64 v3.n, .string v3.s, .slice none 0 0, .slice none 0 0, .string s3, .string t3, .slice a3 i3 u3, .slice b3 j3 p3] 57)) (ts2.drop (m + 1))) := by
      rcases hres with ⟨t, ts', q1, q2, q3, q4⟩ | ⟨q1, q2, q3⟩
      ·exact .inl ⟨t, ts', q1, q2, q3, q4.kept ((Below.refl _ _).alloc (Nat.le_refl _) _)⟩
      ·exact .inr ⟨q1, q2, q3.kept ((Below.refl _ _).alloc (Nat.le_refl _) _)⟩
     have HL6 := hide hl6
     clear hl6
     have HG6 := hide hG6
     clear hG6
     have HRES := hide hres
     clear hres
     have hsz6 : (w5.alloc (.cells #[.int .i64 k1, .int .i64 v1.kind, .int .i64 v1.n, .string v1.s, .slice none 0 0, .slice none 0 0, .string s1, .string t1, .slice a1 i1 u1, .slice b1 j1 p1, .int .i64 k2, .int .i64 v2.kind, .int .i64 v2.n, .string v2.s, .slice none 0 0, .slice none 0 0, .string s2, .string t2, .slice a2 i2 u2, .slice b2 j2 p2, .int .i64 k3, .int .i64 v3.kind, .int .i64 v3.n, .string v3.s, .slice none 0 0, .slice none 0 0, .string s3, .string t3, .slice a3 i3 u3, .slice b3 j3 p3] 57)).heap.size = w5.heap.size + 1 := by simp
     generalize w5.alloc (.cells #[.int .i64 k1, .int .i64 v1.kind, .int .i64 v1.n, .string v1.s, .slice none 0 0, .slice none 0 0, .string s1, .string t1, .slice a1 i1 u1, .slice b1 j1 p1, .int .i64 k2, .int .i64 v2.kind, .int .i64 v2.n, .string v2.s, .slice none 0 0, .slice none 0 0, .string s2, .string t2, .slice a2 i2 u2, .slice b2 j2 p2, .int .i64 k3, .int .i64 v3.kind, .int .i64 v3.n, .string v3.s, .slice none 0 0, .slice none 0 0, .string s3, .string t3, .slice a3 i3 u3, .slice b3 j3 p3] 57) = w6 at *
     clear hsz6
     have hres := HRES.out
     clear HRES
     refine Lt.ready1 (i := 4) (by kernel_rfl) rfl (fun K hK => ?_)
     go_simp
     refine hK _ _ (fun _ => hW6.weak (fun _ _ e => .inl e)) ?_
     clear hK K
     have hAz := (hW6.block (w.heap.size + 1) (blt HA5.out) (by omega)).trans HA5.out
     obtain ⟨z0, z1, z2, z3, z4, z5, z6, z7, z8, z9⟩ := cl10 hAz
     obtain ⟨f0, f1, f2, f3, f4, f5, f6, f7, f8, f9⟩ := fl10 hAz
     have HAz := hide hAz
     clear hAz
     refine Lt.ready1 (i := 7) (by kernel_rfl) rfl (fun K hK => ?_)
     go_simp
     have hBz := P.set10 HAz.out (.int .i64 7) (.int .i64 0) (.int .i64 0) (.string ⟨#[]⟩) (.slice none 0 0) (.slice none 0 0) (.string ⟨#[]⟩) (.string ⟨#[]⟩) (.slice (some ⟨w5.heap.size, 0, none⟩) 3 3) (.slice none 0 0)
     have hFz := P.fr10 w6 (w.heap.size + 1) (.int .i64 7) (.int .i64 0) (.int .i64 0) (.string ⟨#[]⟩) (.slice none 0 0) (.slice none 0 0) (.string ⟨#[]⟩) (.string ⟨#[]⟩) (.slice (some ⟨w5.heap.size, 0, none⟩) 3 3) (.slice none 0 0)
     generalize ((((((((((w6.setCell ⟨w.heap.size + 1, 0, none⟩ (.int .i64 7)).setCell ⟨w.heap.size + 1, 1, none⟩ (.int .i64 0)).setCell ⟨w.heap.size + 1, 2, none⟩ (.int .i64 0)).setCell ⟨w.heap.size + 1, 3, none⟩ (.string ⟨#[]⟩)).setCell ⟨w.heap.size + 1, 4, none⟩ (.slice none 0 0)).setCell ⟨w.heap.size + 1, 5, none⟩ (.slice none 0 0)).setCell ⟨w.heap.size + 1, 6, none⟩ (.string ⟨#[]⟩)).setCell ⟨w.heap.size + 1, 7, none⟩ (.string ⟨#[]⟩)).setCell ⟨w.heap.size + 1, 8, none⟩ (.slice (some ⟨w5.heap.size, 0, none⟩) 3 3)).setCell ⟨w.heap.size + 1, 9, none⟩ (.slice none 0 0)) = wz at *
     have hSz : Fr w4 wz (fun c => c = R ∨ c = w.heap.size + 1) := (hW6.weak (fun _ _ e => .inl e)).trans hFz (fun c _ e => .inr e)
     refine hK _ _ (fun _ => hSz) ?_
     clear hK K
     refine Lt.ready1 (i := 8) (by kernel_rfl) rfl (fun K hK => ?_)
     go_simp
     refine hK _ _ (fun _ => hSz) ?_
     clear hK K
     refine Lt.done (by kernel_rfl) ?_ _
     have HE9 := hide (HFIN.out _ wz _ _ hW6 HG6.out HL6.out hres hFz)
     clear hres hFz hSz
     obtain ⟨r0, r1, r2, r3, r4, r5, r6, r7, r8, r9⟩ := cl10 hBz
     clear hBz
     clear z0 f0
     clear z1 f1
     clear z2 f2
     clear z3 f3
     clear z4 f4
     clear z5 f5
     clear z6 f6
     clear z7 f7
     clear z8 f8
     clear z9 f9
     go_wp2_with fail
     exact bodyPost_ret (v := .tuple #[.agg #[.int .i64 7, .int .i64 0, .int .i64 0, .string ⟨#[]⟩, .slice none 0 0, .slice none 0 0, .string ⟨#[]⟩, .string ⟨#[]⟩, .slice (some ⟨w5.heap.size, 0, none⟩) 3 3, .slice none 0 0], ev]) (by simp [results, Tryz.results103, go_sem, r0, r1, r2, r3, r4, r5, r6, r7, r8, r9]) rfl HE9.out
   ·have hA4 := (hf3.block (w.heap.size + 1) (blt HA3.out) (by omega)).trans HA3.out
    have hA5 : (w3.alloc (.cells #[.int .i64 k3, .int .i64 v3.kind, .int .i64 v3.n, .string v3.s, .slice none 0 0, .slice none 0 0, .string s3, .string t3, .slice a3 i3 u3, .slice b3 j3 p3] 57)).heap[w.heap.size + 1]? = some (.cells #[.int .i64 0, .int .i64 0, .int .i64 0, .string ⟨#[]⟩, .slice none 0 0, .slice none 0 0, .string ⟨#[]⟩, .string ⟨#[]⟩, .slice none 0 0, .slice none 0 0] 57 (0, 0)) := by rw [heap_alloc_old _ _ (blt hA4)]; exact hA4
    have HF4 : Hid (Fr w (w3.alloc (.cells #[.int .i64 k3, .int .i64 v3.kind, .int .i64 v3.n, .string v3.s, .slice none 0 0, .slice none 0 0, .string s3, .string t3, .slice a3 i3 u3, .slice b3 j3 p3] 57)) (fun c => c = R)) := (HF3.out.trans hf3 (fun _ _ e => e)).alloc _
    have HR3 : Hid (P.Rdr R (w3.alloc (.cells #[.int .i64 k3, .int .i64 v3.kind, .int .i64 v3.n, .string v3.s, .slice none 0 0, .slice none 0 0, .string s3, .string t3, .slice a3 i3 u3, .slice b3 j3 p3] 57)) ts') := hr3.kept ((Below.refl _ _).alloc (Nat.le_refl _) _)
    have HP : Hid (P.choice (P.ex d) e1 (P.fc ts) = none) := by
     show _ = _
     unfold P.choice
     rw [HE.out]
     simp only
     rw [show P.found 4 [58] _ = _ from HE2.out]
     simp only
     rw [hE3]
    unfold P.xc
    clear hf3 hr3 hE3 HN2 hA4
    obtain ⟨z0, z1, z2, z3, z4, z5, z6, z7, z8, z9⟩ := cl10 hA5
    obtain ⟨f0, f1, f2, f3, f4, f5, f6, f7, f8, f9⟩ := fl10 hA5
    have HAx := hide hA5
    clear hA5
    go_wp2_with fail
    obtain ⟨wz, hwz, hBz, hFz⟩ := P.sf10 HAx.out (.int .i64 0) (.int .i64 0) (.int .i64 0) (.string ⟨#[]⟩) (.slice none 0 0) (.slice none 0 0) (.string ⟨#[]⟩) (.string ⟨#[]⟩) (.slice none 0 0) (.slice none 0 0)
    rw [← hwz]
    clear hwz
    obtain ⟨r0, r1, r2, r3, r4, r5, r6, r7, r8, r9⟩ := cl10 hBz
    refine bodyPost_ret (v := .tuple #[.agg #[.int .i64 0, .int .i64 0, .int .i64 0, .string ⟨#[]⟩, .slice none 0 0, .slice none 0 0, .string ⟨#[]⟩, .string ⟨#[]⟩, .slice none 0 0, .slice none 0 0], .iface 62 (.int .i64 f)]) (by simp [results, Tryz.results103, go_sem, r0, r1, r2, r3, r4, r5, r6, r7, r8, r9]) rfl ⟨HF4.out.trans hFz (fun c hc e => by omega), .inr ⟨HP.out, ⟨0, V.zero, ⟨#[]⟩, ⟨#[]⟩, none, 0, 0, none, 0, 0, f, rfl⟩, _, HR3.out.fr hFz (fun c e => by omega)⟩⟩
  ·have hA3 := (hf2.block (w.heap.size + 1) (blt HA2.out) (by omega)).trans HA2.out
   have HF3 := hide (HF2.out.trans hf2 (fun _ _ e => e))
   have HR3 := hide hr2
   have HP : Hid (P.choice (P.ex d) e1 (P.fc ts) = none) := by
    show _ = _
    unfold P.choice
    rw [HE.out]
    simp only
    rw [show P.found 4 [58] _ = _ from hE2]
   clear hf2 hr2 hE2 HSG
   obtain ⟨z0, z1, z2, z3, z4, z5, z6, z7, z8, z9⟩ := cl10 hA3
   obtain ⟨f0, f1, f2, f3, f4, f5, f6, f7, f8, f9⟩ := fl10 hA3
   have HAx := hide hA3
   clear hA3
   go_wp2_with fail
   obtain ⟨wz, hwz, hBz, hFz⟩ := P.sf10 HAx.out (.int .i64 0) (.int .i64 0) (.int .i64 0) (.string ⟨#[]⟩) (.slice none 0 0) (.slice none 0 0) (.string ⟨#[]⟩) (.string ⟨#[]⟩) (.slice none 0 0) (.slice none 0 0)
   rw [← hwz]
   clear hwz
   obtain ⟨r0, r1, r2, r3, r4, r5, r6, r7, r8, r9⟩ := cl10 hBz
   refine bodyPost_ret (v := .tuple #[.agg #[.int .i64 0, .int .i64 0, .int .i64 0, .string ⟨#[]⟩, .slice none 0 0, .slice none 0 0, .string ⟨#[]⟩, .string ⟨#[]⟩, .slice none 0 0, .slice none 0 0], .iface 62 (.int .i64 5)]) (by simp [results, Tryz.results103, go_sem, r0, r1, r2, r3, r4, r5, r6, r7, r8, r9]) rfl ⟨HF3.out.trans hFz (fun c hc e => by omega), .inr ⟨HP.out, ⟨0, V.zero, ⟨#[]⟩, ⟨#[]⟩, none, 0, 0, none, 0, 0, 5, rfl⟩, _, HR3.out.fr hFz (fun c e => by omega)⟩⟩
 ·have hA1 := (hf1.block (w.heap.size + 1) (blt HA0.out) (by omega)).trans HA0.out
  have hA2 : (w1.alloc (.cells #[.int .i64 k2, .int .i64 v2.kind, .int .i64 v2.n, .string v2.s, .slice none 0 0, .slice none 0 0, .string s2, .string t2, .slice a2 i2 u2, .slice b2 j2 p2] 57)).heap[w.heap.size + 1]? = some (.cells #[.int .i64 0, .int .i64 0, .int .i64 0, .string ⟨#[]⟩, .slice none 0 0, .slice none 0 0, .string ⟨#[]⟩, .string ⟨#[]⟩, .slice none 0 0, .slice none 0 0] 57 (0, 0)) := by rw [heap_alloc_old _ _ (blt hA1)]; exact hA1
  have HF3 : Hid (Fr w (w1.alloc (.cells #[.int .i64 k2, .int .i64 v2.kind, .int .i64 v2.n, .string v2.s, .slice none 0 0, .slice none 0 0, .string s2, .string t2, .slice a2 i2 u2, .slice b2 j2 p2] 57)) (fun c => c = R)) := (HF0.out.trans hf1 (fun _ _ e => e)).alloc _
  have HR3 : Hid (P.Rdr R (w1.alloc (.cells #[.int .i64 k2, .int .i64 v2.kind, .int .i64 v2.n, .string v2.s, .slice none 0 0, .slice none 0 0, .string s2, .string t2, .slice a2 i2 u2, .slice b2 j2 p2] 57)) ts') := hr1.kept ((Below.refl _ _).alloc (Nat.le_refl _) _)
  have HP : Hid (P.choice (P.ex d) e1 (P.fc ts) = none) := by
   show _ = _
   unfold P.choice
   rw [hE]
  unfold P.xc
  clear hf1 hr1 hE HN hA1
  obtain ⟨z0, z1, z2, z3, z4, z5, z6, z7, z8, z9⟩ := cl10 hA2
  obtain ⟨f0, f1, f2, f3, f4, f5, f6, f7, f8, f9⟩ := fl10 hA2
  have HAx := hide hA2
  clear hA2
  go_wp2_with fail
  obtain ⟨wz, hwz, hBz, hFz⟩ := P.sf10 HAx.out (.int .i64 0) (.int .i64 0) (.int .i64 0) (.string ⟨#[]⟩) (.slice none 0 0) (.slice none 0 0) (.string ⟨#[]⟩) (.string ⟨#[]⟩) (.slice none 0 0) (.slice none 0 0)
  rw [← hwz]
  clear hwz
  obtain ⟨r0, r1, r2, r3, r4, r5, r6, r7, r8, r9⟩ := cl10 hBz
  refine bodyPost_ret (v := .tuple #[.agg #[.int .i64 0, .int .i64 0, .int .i64 0, .string ⟨#[]⟩, .slice none 0 0, .slice none 0 0, .string ⟨#[]⟩, .string ⟨#[]⟩, .slice none 0 0, .slice none 0 0], .iface 62 (.int .i64 f)]) (by simp [results, Tryz.results103, go_sem, r0, r1, r2, r3, r4, r5, r6, r7, r8, r9]) rfl ⟨HF3.out.trans hFz (fun c hc e => by omega), .inr ⟨HP.out, ⟨0, V.zero, ⟨#[]⟩, ⟨#[]⟩, none, 0, 0, none, 0, 0, f, rfl⟩, _, HR3.out.fr hFz (fun c e => by omega)⟩⟩
end Go.Proofs.YtbdbpfcblppnbaaGreatDoor.Vx
