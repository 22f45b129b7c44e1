/- StateSays: VU VJ. -/
import Derived.Test.YtcekcfjabhlheaaGreatDoorVT
import Derived.Deep.LoopGhost
import Derived.WalkSmall
import Derived.Test.YtcekcfjabhlheaaGreatDoorVS
set_option maxRecDepth 100000
set_option maxHeartbeats 3200000
namespace Go.Proofs.YtcekcfjabhlheaaGreatDoor.Vx
open Go.RowKit
theorem news_of {w : World} {g : Nat} {cs : Array Value} {e : TypeId} {fr : Nat × Nat} (h : w.heap[g]? = some (.cells cs e fr)) : ∀ j u, cs.toList[j]? = some u -> w.cell? ((⟨g, 0, none⟩ : Addr).add j) = some u := World.news_of_block h
theorem news_alloc (w : World) (cs : Array Value) (e : TypeId) (g : Nat) (h : w.heap.size = g) : ∀ j u, cs.toList[j]? = some u -> (w.alloc (.cells cs e)).cell? ((⟨g, 0, none⟩ : Addr).add j) = some u := by
 subst h;exact news_of (heap_alloc_new w _)
theorem owns_below {w w1 : World} {b e n m : Nat} {v : Value} {xs : List Value} (h : w.ownsRow b e m v n xs) (hb : Below w.heap.size w w1) : w1.ownsRow b e m v n xs :=
 h.kept (⟨hb.os, hb.tape, hb.output, hb.size, fun j hj _ => hb.block j hj⟩ : w.grownBy w1 none) (by cases v.ownBlock <;> simp)
theorem hide {p : Prop} (h : p) : Hid p := h
theorem bt {a b c : World} (h : Hid (Below a.heap.size a b)) (k : Below b.heap.size b c) : Hid (Below a.heap.size a c) := h.out.trans (k.mono h.out.size)
theorem hd2 {p0 p1 : Prop} (a0 : p0) (a1 : p1) : Hid p0 /\ Hid p1 := ⟨a0, a1⟩
theorem hd3 {p0 p1 p2 : Prop} (a0 : p0) (a1 : p1) (a2 : p2) : Hid p0 /\ Hid p1 /\ Hid p2 := ⟨a0, a1, a2⟩
theorem hd4 {p0 p1 p2 p3 : Prop} (a0 : p0) (a1 : p1) (a2 : p2) (a3 : p3) : Hid p0 /\ Hid p1 /\ Hid p2 /\ Hid p3 := ⟨a0, a1, a2, a3⟩
theorem hd5 {p0 p1 p2 p3 p4 : Prop} (a0 : p0) (a1 : p1) (a2 : p2) (a3 : p3) (a4 : p4) : Hid p0 /\ Hid p1 /\ Hid p2 /\ Hid p3 /\ Hid p4 := ⟨a0, a1, a2, a3, a4⟩
theorem hd6 {p0 p1 p2 p3 p4 p5 : Prop} (a0 : p0) (a1 : p1) (a2 : p2) (a3 : p3) (a4 : p4) (a5 : p5) : Hid p0 /\ Hid p1 /\ Hid p2 /\ Hid p3 /\ Hid p4 /\ Hid p5 := ⟨a0, a1, a2, a3, a4, a5⟩
theorem hd7 {p0 p1 p2 p3 p4 p5 p6 : Prop} (a0 : p0) (a1 : p1) (a2 : p2) (a3 : p3) (a4 : p4) (a5 : p5) (a6 : p6) : Hid p0 /\ Hid p1 /\ Hid p2 /\ Hid p3 /\ Hid p4 /\ Hid p5 /\ Hid p6 := ⟨a0, a1, a2, a3, a4, a5, a6⟩
theorem hd8 {p0 p1 p2 p3 p4 p5 p6 p7 : Prop} (a0 : p0) (a1 : p1) (a2 : p2) (a3 : p3) (a4 : p4) (a5 : p5) (a6 : p6) (a7 : p7) : Hid p0 /\ Hid p1 /\ Hid p2 /\ Hid p3 /\ Hid p4 /\ Hid p5 /\ Hid p6 /\ Hid p7 := ⟨a0, a1, a2, a3, a4, a5, a6, a7⟩
theorem info174 : (Tryz.prog.info? 257).map (fun i => (i.zero, i.size, i.bytes)) = some (some (.agg #[.pointer none, .pointer none]), 2, 16) := by kernel_rfl
namespace V
theorem At.kept {m : Nat} {w w' : World} {v : Val} {b o : Nat} (h : At m w v b o) (hb : Below w.heap.size w w') : At m w' v b o := by
 obtain ⟨c0, c1, c2, c3, c4, hm, p0, p1, p2, p3, p4⟩ := h;exact ⟨c0, c1, c2, c3, c4, Mem.kept m hm hb, kept_cell hb p0, kept_cell hb p1, kept_cell hb p2, kept_cell hb p3, kept_cell hb p4⟩
abbrev PR := Val × Val × Nat × Nat × Nat × Nat
def prCells (q : PR) : List Value := [.pointer (some ⟨q.2.2.1, q.2.2.2.1, none⟩), .pointer (some ⟨q.2.2.2.2.1, q.2.2.2.2.2, none⟩)]
def prOk (m : Nat) (w : World) (q : PR) : Prop := At (m + 1) w q.1 q.2.2.1 q.2.2.2.1 /\ At (m + 1) w q.2.1 q.2.2.2.2.1 q.2.2.2.2.2 /\ bulk (m + 1) q.1 <= 2000000 /\ bulk (m + 1) q.2.1 <= 2000000
def wt (m : Nat) (L : List PR) : Nat := (L.map (fun q => parts (m + 1) q.1)).sum
def allEq (L : List PR) : Prop := ∀ q ∈ L, q.1 = q.2.1
theorem parts_pos (m : Nat) (v : Val) : 1 <= parts (m + 1) v := by rw [parts]; omega
theorem len_wt (m : Nat) (L : List PR) : L.length <= wt m L := by
 induction L with
 | nil => simp
 | cons q L ih => unfold wt at *; rw [List.map_cons, List.sum_cons, List.length_cons]; have := parts_pos m q.1; omega
theorem wt_append (m : Nat) (L R : List PR) : wt m (L ++ R) = wt m L + wt m R := by unfold wt; rw [List.map_append, List.sum_append]
theorem wt_one (m : Nat) (q : PR) : wt m [q] = parts (m + 1) q.1 := by simp [wt]
theorem prCells_len (L : List PR) : (L.flatMap prCells).length = L.length * 2 := by
 induction L with
 | nil => rfl
 | cons q L ih => rw [List.flatMap_cons, List.length_append, ih, List.length_cons]; simp [prCells]; omega
theorem parts_up : ∀ (m : Nat) {w : World} {v : Val} {cs : List Value}, Mem m w v cs -> parts (m + 1) v = parts m v
 | 0, _, _, _, h => h.elim
 | m + 1, w, v, cs, ⟨lv, fv, h1, h2, h3⟩ => by
  rw [parts, parts, sumL_congr (parts (m + 1)) (parts m) v.l (fun x hx => by
   obtain ⟨j, hj⟩ := List.getElem?_of_mem hx;obtain ⟨c, y, hy, hm⟩ := h2.all j (lt_of_get hj);rw [hj] at hy; cases hy; exact parts_up m hm), sumF_congr (fun x => parts (m + 1) x.2) (fun x => parts m x.2) v.f (fun x hx => by
   obtain ⟨j, hj⟩ := List.getElem?_of_mem hx;obtain ⟨c, y, c', hy, _, hm⟩ := h3.all j (lt_of_get hj);rw [hj] at hy; cases hy; exact parts_up m hm)]
theorem near_ne (a b : Val) (h : near a b = false) : a ≠ b := by
 rintro rfl;unfold near above at h;simp at h
theorem near_eq (a b : Val) (h : near a b = true) : above a b = true /\ names a.f = names b.f := by
 unfold near at h;simpa using h
theorem eq_kids (a b : Val) (h : near a b = true) : a = b ↔ (a.l = b.l /\ ∀ j : Nat, (a.f[j]?).map (·.2) = (b.f[j]?).map (·.2)) := by
 obtain ⟨h1, h2⟩ := near_eq a b h;obtain ⟨e1, e2, e3, e4, e5⟩ := above_true a b h1;constructor
 ·rintro rfl; exact ⟨rfl, fun _ => rfl⟩
 ·rintro ⟨hl, hf⟩;refine val_ext a b e1 e2 e3 hl ?_;apply List.ext_getElem?;intro j;have h3 : (names a.f)[j]? = (names b.f)[j]? := by rw [h2]
  have h4 := hf j;unfold names at h3;rw [List.getElem?_map, List.getElem?_map] at h3;cases ha : a.f[j]? with
  | none => rw [ha] at h3; cases hb : b.f[j]? with
   | none => rfl
   | some y => rw [hb] at h3; simp at h3
  | some x => rw [ha] at h3 h4; cases hb : b.f[j]? with
   | none => rw [hb] at h3; simp at h3
   | some y =>
    rw [hb] at h3 h4;simp only [Option.map_some, Option.some.injEq] at h3 h4;rw [Prod.ext h3 h4]
theorem eq_more {α : Type} {la lb : List α} {L R : List PR} {k : Nat} {pr : PR} {f : α -> Val} {u v : α} (h : allEq L ↔ allEq R /\ ∀ j : Nat, j < k -> (la[j]?).map f = (lb[j]?).map f) (hx : la[k]? = some u) (hy : lb[k]? = some v) (h1 : pr.1 = f u) (h2 : pr.2.1 = f v) :
  allEq (L ++ [pr]) ↔ allEq R /\ ∀ j : Nat, j < k + 1 -> (la[j]?).map f = (lb[j]?).map f := by
 constructor
 ·intro hh;have hL := h.1 (fun q hq => hh q (by simp [hq]));refine ⟨hL.1, fun j hj => ?_⟩;rcases Nat.lt_or_ge j k with hlt | hge
  ·exact hL.2 j hlt
  ·have e : j = k := by omega
   subst e;have := hh pr (by simp);rw [hx, hy, Option.map_some, Option.map_some, <- h1, <- h2, this]
 ·intro ⟨hR, hj⟩ q hq;rcases List.mem_append.1 hq with h3 | h3
  ·exact h.2 ⟨hR, fun j hjk => hj j (by omega)⟩ q h3
  ·rw [List.mem_singleton] at h3;subst h3;have := hj k (by omega);rw [hx, hy, Option.map_some, Option.map_some, <- h1, <- h2] at this;exact Option.some.inj this
end V
theorem news_alloc_drew (w : World) (cs : Array Value) (e : TypeId) (g : Nat) (h : w.heap.size = g) : ∀ j u, cs.toList[j]? = some u -> (w.alloc (.cells cs e)).drew.cell? ((⟨g, 0, none⟩ : Addr).add j) = some u := news_alloc w cs e g h
theorem alike_any (sm : Val -> Val -> Bool) (hsm : V.Says sm) (m : Nat) (w : World) (A B : Val) (c0 c1 c2 c3 c4 d0 d1 d2 d3 d4 : Value) (hA : V.Mem (m + 1) w A [c0, c1, c2, c3, c4]) (hB : V.Mem (m + 1) w B [d0, d1, d2, d3, d4]) (hka : V.bulk (m + 1) A <= 2000000) (hkb : V.bulk (m + 1) B <= 2000000) :
  Calls Tryz.prog 190 #[.agg #[c0, c1, c2, c3, c4], .agg #[d0, d1, d2, d3, d4]] w fun e w' => e = .returned (.bool (sm A B)) /\ Below w.heap.size w w' := by
 obtain ⟨i0, hi, hz0, hz1, hz2⟩ := info_parts info174;have hb1 : Below w.heap.size w ((w.alloc (.cells #[c0, c1, c2, c3, c4] 61)).alloc (.cells #[d0, d1, d2, d3, d4] 61)) := (ba).alloc (by simp) _;have hA0 : ((w.alloc (.cells #[c0, c1, c2, c3, c4] 61)).alloc (.cells #[d0, d1, d2, d3, d4] 61)).heap[w.heap.size]? = some (.cells #[c0, c1, c2, c3, c4] 61 (0, 0)) := by rw [heap_alloc_old _ _ (by simp)]; exact heap_alloc_new _ _
 have hB0 : ((w.alloc (.cells #[c0, c1, c2, c3, c4] 61)).alloc (.cells #[d0, d1, d2, d3, d4] 61)).heap[w.heap.size + 1]? = some (.cells #[d0, d1, d2, d3, d4] 61 (0, 0)) := by rw [show w.heap.size + 1 = (w.alloc (.cells #[c0, c1, c2, c3, c4] 61)).heap.size by simp]; exact heap_alloc_new _ _
 have hsz : ((w.alloc (.cells #[c0, c1, c2, c3, c4] 61)).alloc (.cells #[d0, d1, d2, d3, d4] 61)).heap.size = w.heap.size + 2 := by simp
 go_enter Tryz.func190, Tryz.ntmps190;go_wp2_with fail;generalize (w.alloc _).alloc _ = w1 at *;have hstart : ∃ (L : List V.PR), L.length = 1 /\ (w1.alloc (.cells #[.pointer (some ⟨w.heap.size, 0, none⟩), .pointer (some ⟨w.heap.size + 1, 0, none⟩)] 257)).ownsRow (w.heap.size + 2) 257 2 (.slice (some ⟨w.heap.size + 2, 0, none⟩) 1 1) 1 (L.flatMap V.prCells) /\ (∀ q ∈ L, V.prOk m w1 q) /\ (A = B ↔ V.allEq L) /\ V.wt m L = V.parts (m + 1) A := by
  refine ⟨[(A, B, w.heap.size, 0, w.heap.size + 1, 0)], rfl, ?_, ?_, ?_, ?_⟩
  ·refine ⟨rfl, .inr ⟨w.heap.size + 2, 1, #[.pointer (some ⟨w.heap.size, 0, none⟩), .pointer (some ⟨w.heap.size + 1, 0, none⟩)], rfl, Nat.le_refl _, ?_, Nat.le_refl _, by decide, rfl, rfl⟩⟩;rw [<- hsz]; exact heap_alloc_new _ _
  ·intro q hq;rw [List.mem_singleton] at hq;subst hq;exact ⟨⟨c0, c1, c2, c3, c4, V.Mem.kept _ hA hb1, cell_of_block hA0 0 _ rfl, cell_of_block hA0 1 _ rfl, cell_of_block hA0 2 _ rfl, cell_of_block hA0 3 _ rfl, cell_of_block hA0 4 _ rfl⟩, ⟨d0, d1, d2, d3, d4, V.Mem.kept _ hB hb1, cell_of_block hB0 0 _ rfl, cell_of_block hB0 1 _ rfl, cell_of_block hB0 2 _ rfl, cell_of_block hB0 3 _ rfl, cell_of_block hB0 4 _ rfl⟩, hka, hkb⟩
  ·constructor
   ·intro h q hq; rw [List.mem_singleton] at hq; subst hq; exact h
   ·intro h; exact h _ (List.mem_singleton.2 rfl)
  ·rw [V.wt_one]
 have hpa : V.parts (m + 1) A <= 2000000 := Nat.le_trans (V.parts_le (m + 1) A) hka;obtain ⟨L0, hL0, hown0, hok0, heq0, hwt0⟩ := hstart;have hbw0 : Below w1.heap.size w1 (w1.alloc (.cells #[.pointer (some ⟨w.heap.size, 0, none⟩), .pointer (some ⟨w.heap.size + 1, 0, none⟩)] 257)) := ba;have HB1 := hide hb1;clear hA hB hA0 hB0 hka hkb hb1;go_loopg [5, 6, 7, 8] (V.parts (m + 1) A) (fun gk vt _ _ _ wr => ∃ (L : List V.PR) (ao : Option Addr) (cap : Nat), vt = .slice ao L.length cap /\ wr.ownsRow (w.heap.size + 2) 257 2 (.slice ao L.length cap) L.length (L.flatMap V.prCells) /\ (∀ q ∈ L, V.prOk m w1 q) /\ (A = B ↔ V.allEq L) /\ gk = V.wt m L /\ gk <= 2000000 /\ Below w1.heap.size w1 wr)
 case atStart => exact ⟨L0, some ⟨w.heap.size + 2, 0, none⟩, 1, by rw [hL0], by rw [hL0]; exact hown0, hok0, heq0, hwt0.symm, by omega, hbw0⟩
 case round =>
  clear hbw0 hown0 hok0 heq0 hwt0;obtain ⟨L, ao, cap, rfl, hown, hok, heq, hgk, hgb, hBw⟩ := hrel;rcases List.eq_nil_or_concat L with rfl | ⟨R, q, rfl⟩
  ·have E : Hid (sm A B = true) := hsm.yes A B (heq.2 (fun q hq => absurd hq (by simp)));clear heq hok hown;go_wp2_with fail;go_ret;exact ⟨ret_bool E.out.symm, HB1.out.trans (hBw.mono (by omega))⟩
  ·rw [List.concat_eq_append] at *;have hqk := hok q (by simp);have hwq := V.wt_append m R [q];rw [V.wt_one] at hwq;have hlr := V.len_wt m (R ++ [q]);rw [List.length_append, List.length_singleton] at hlr hown ⊢;obtain ⟨g, cap', hv, hcap⟩ : ∃ g cap', (Value.slice ao (R.length + 1) cap) = .slice (some ⟨g, 0, none⟩) (R.length + 1) cap' /\ R.length + 1 <= cap' := by
    rcases hown.2 with ⟨h, h0⟩ | ⟨g, c, cur, h, _, _, hc, _⟩
    ·omega
    ·exact ⟨g, c, h, hc⟩
   obtain ⟨rfl, _, rfl⟩ := Value.slice.inj hv;have y0 := hown.cellAt (R.length * 2) (by omega);have y1 := hown.cellAt (R.length * 2 + 1) (by omega);rw [List.flatMap_append, List.getElem?_append_right (by rw [V.prCells_len]; omega), V.prCells_len, Nat.sub_self] at y0;rw [List.flatMap_append, List.getElem?_append_right (by rw [V.prCells_len]; omega), V.prCells_len, Nat.add_sub_cancel_left] at y1;obtain ⟨a, b, pa, oa, pb, ob⟩ := q
   replace y0 : wr.cell? ⟨g, R.length * 2, none⟩ = some (.pointer (some ⟨pa, oa, none⟩)) := y0
   replace y1 : wr.cell? ⟨g, R.length * 2 + 1, none⟩ = some (.pointer (some ⟨pb, ob, none⟩)) := y1
   have hRl : R.length <= 2000000 := by omega
   have hglt : g < wr.heap.size := (hown.lt g rfl).2;have HOWN := hide hown;have HOK := hide hok;have HEQ := hide heq;have HGK := hide hgk;have HQK := hide hqk;have HWQ := hide hwq;clear hown hok heq hgk hqk hwq hlr;go_wp2_with fail;have hbW : Below wr.heap.size wr (wr.alloc (.cells #[.pointer (some ⟨pa, oa, none⟩), .pointer (some ⟨pb, ob, none⟩)] 257)) := ba;have hP := heap_alloc_new wr (.cells #[.pointer (some ⟨pa, oa, none⟩), .pointer (some ⟨pb, ob, none⟩)] 257);generalize wr.alloc _ = W2 at *;have hownR : W2.ownsRow (w.heap.size + 2) 257 2 (.slice (some ⟨g, 0, none⟩) R.length cap) R.length (R.flatMap V.prCells) := by
    have h := owns_below HOWN.out hbW;rw [List.flatMap_append] at h;exact ownsRow_pop (V.prCells_len R) h
   have hgG : g ≠ wr.heap.size := by omega
   have hBw2 := hBw.trans (hbW.mono hBw.size);refine (alikeAbove_any m W2 a b pa oa pb ob (V.At.kept HQK.out.1 hBw2) (V.At.kept HQK.out.2.1 hBw2) HQK.out.2.2.1 HQK.out.2.2.2).mono ?_;rintro e w3 ⟨rfl, n3, hw3⟩;have hP3 : w3.heap[wr.heap.size]? = some (.cells #[.pointer (some ⟨pa, oa, none⟩), .pointer (some ⟨pb, ob, none⟩)] 257 (0, 0)) := by rw [hw3]; exact hP
   have hown3 : w3.ownsRow (w.heap.size + 2) 257 2 (.slice (some ⟨g, 0, none⟩) R.length cap) R.length (R.flatMap V.prCells) := by rw [hw3]; exact hownR
   have hBw3 : Below w1.heap.size w1 w3 := by rw [hw3]; exact below_drewN hBw2 _
   clear hw3 hBw2 hBw hownR hP hbW y0 y1;generalize wr.heap.size = G at *;generalize hnr : V.near a b = nr;have HNR := hide hnr;clear hnr;cases nr
   ·have E : Hid (sm A B = false) := hsm.no A B (fun h => V.near_ne a b HNR.out (HEQ.out.1 h (a, b, pa, oa, pb, ob) (by simp)));go_wp2_with fail;go_ret;exact ⟨ret_bool E.out.symm, HB1.out.trans (hBw3.mono (by omega))⟩
   obtain ⟨⟨x0, x1, x2, x3, x4, ⟨lv, fv, hcs, hl, hf⟩, r0, r1, r2, r3, r4⟩, ⟨z0, z1, z2, z3, z4, ⟨lv2, fv2, hcs2, hl2, hf2⟩, t0, t1, t2, t3, t4⟩, hba, hbb⟩ := HQK.out;simp only [List.cons.injEq, and_true] at hcs hcs2;obtain ⟨rfl, rfl, rfl, rfl, rfl⟩ := hcs;obtain ⟨rfl, rfl, rfl, rfl, rfl⟩ := hcs2;obtain ⟨al, cl, rfl⟩ := hl.shape;obtain ⟨af, cf, rfl⟩ := hf.shape;obtain ⟨al2, cl2, rfl⟩ := hl2.shape;obtain ⟨af2, cf2, rfl⟩ := hf2.shape;have hab := V.above_true a b (V.near_eq a b HNR.out).1;have E4 : Hid _ := hab.2.2.2.1;have E5 : Hid _ := hab.2.2.2.2;have hla : a.l.length <= 2000000 := (V.bulk_s m a _ hba).2.1;have hlf : a.f.length <= 2000000 := (V.bulk_s m a _ hba).2.2.1;have hpt : V.parts (m + 1) a = 1 + V.sumL (V.parts m) a.l + V.sumF (fun x => V.parts m x.2) a.f := by rw [V.parts]
   have hwR : V.wt m R + V.parts (m + 1) a <= 2000000 := by have := HWQ.out; have := HGK.out; omega
   have HL := hide hl;have HF := hide hf;have HL2 := hide hl2;have HF2 := hide hf2;have HR3 := hide r3;have HR4 := hide r4;have HT3 := hide t3;have HT4 := hide t4;have HBA := hide hba;have HBB := hide hbb;have k3 := kept_cell hBw3 r3;have G0 := cell_of_block hP3 0 _ rfl;clear hl hf hl2 hf2 r0 r1 r2 r3 r4 t0 t1 t2 t3 t4 hba hbb hab;go_wp2_with fail;go_loopw [5, 7, 37] (fun vt _ vi wx => ∃ (k : Nat) (ao : Option Addr) (cap : Nat) (L : List V.PR), k <= a.l.length /\ vi = .int .i64 k /\ vt = .slice ao L.length cap /\ wx.ownsRow (w.heap.size + 2) 257 2 (.slice ao L.length cap) L.length (L.flatMap V.prCells) /\ (∀ q ∈ L, V.prOk m w1 q) /\ (V.allEq L ↔ V.allEq R /\ ∀ j : Nat, j < k -> (a.l[j]?).map id = (b.l[j]?).map id) /\ V.wt m L = V.wt m R + V.sumL (V.parts m) (a.l.take k) /\ wx.heap[G]? = some (.cells #[.pointer (some ⟨pa, oa, none⟩), .pointer (some ⟨pb, ob, none⟩)] 257 (0, 0)) /\ (Value.slice ao L.length cap).ownBlock ≠ some G /\ Below w1.heap.size w1 wx) (fun _ _ vi _ => a.l.length - (intOf vi).toNat)
   case atStart => exact ⟨0, some ⟨g, 0, none⟩, cap, R, Nat.zero_le _, rfl, rfl, hown3, fun q hq => HOK.out q (by simp [hq]), ⟨fun h => ⟨h, fun j hj => absurd hj (by omega)⟩, fun h => h.1⟩, rfl, hP3, (fun h => hgG (by simpa [Value.ownBlock] using h)), hBw3⟩
   case round =>
    clear hown3 hP3 hBw3 k3 G0;obtain ⟨k, ao, cap, L, hk, rfl, rfl, hown, hok, heq, hwt, hP, hne, hBx⟩ := hrel;have G0 := cell_of_block hP 0 _ rfl;have G1 := cell_of_block hP 1 _ rfl;have k3 := kept_cell hBx HR3.out;have j3 := kept_cell hBx HT3.out;by_cases hlt : k < a.l.length
    ·obtain ⟨p, off, cap1, x, x0, x1, x2, x3, x4, e1, hx, hmx, u0, u1, u2, u3, u4⟩ := V.elemL HL.out k hlt;obtain ⟨rfl, _, rfl⟩ := Value.slice.inj e1;have hlt2 : k < b.l.length := by have := E4.out; omega
     obtain ⟨p2, off2, cap2, y, z0, z1, z2, z3, z4, e2, hy, hmy, v0, v1, v2, v3, v4⟩ := V.elemL HL2.out k hlt2;obtain ⟨rfl, _, rfl⟩ := Value.slice.inj e2;have hqn : V.prOk m w1 (x, y, p, off + k * 5, p2, off2 + k * 5) := by
      refine ⟨⟨x0, x1, x2, x3, x4, V.Mem.up m hmx, u0, u1, u2, u3, u4⟩, ⟨z0, z1, z2, z3, z4, V.Mem.up m hmy, v0, v1, v2, v3, v4⟩, ?_, ?_⟩
      ·show V.bulk (m + 1) x <= _;rw [V.bulk_up m hmx]; have h1 := V.sumL_le (V.bulk m) a.l k x hx; have h2 := HBA.out; rw [V.bulk] at h2; omega
      ·show V.bulk (m + 1) y <= _;rw [V.bulk_up m hmy]; have h1 := V.sumL_le (V.bulk m) b.l k y hy; have h2 := HBB.out; rw [V.bulk] at h2; omega
     have hwt2 : V.wt m (L ++ [(x, y, p, off + k * 5, p2, off2 + k * 5)]) = V.wt m R + V.sumL (V.parts m) (a.l.take (k + 1)) := by
      have q1 := V.parts_up m hmx;have q2 := V.sumL_take (V.parts m) a.l k x hx;rw [V.wt_append, V.wt_one];show _ + V.parts (m + 1) x = _;omega
     have hsl := V.sumL_le (V.parts m) a.l k x hx;have hll := V.len_wt m L;have hLl : L.length <= 2000000 := by omega
     have HQN := hide hqn;have HWT2 := hide hwt2;have HX := hide hx;have HY := hide hy;have HOK2 := hide hok;have HEQ2 := hide heq;have HOW := hide hown;have HBX := hide hBx;have HP2 := hide hP;have HNE := hide hne;have hs1 := hBx.size;have hpw : pa < w1.heap.size := World.block_lt_of_cell? w1 _ HR3.out;have hpw2 : pb < w1.heap.size := World.block_lt_of_cell? w1 _ HT3.out;have hGx := blt hP;have KG : Hid (∀ (o : Obj) (w4 : World), (wr.alloc o).drew.grownBy w4 (Value.slice ao L.length cap).ownBlock -> (w4.cell? ⟨G, 0, none⟩ = some (.pointer (some ⟨pa, oa, none⟩)) /\ w4.cell? ⟨G, 1, none⟩ = some (.pointer (some ⟨pb, ob, none⟩)) /\ w4.cell? ⟨pa, oa + 3, none⟩ = some (.slice (some ⟨p, off, none⟩) a.l.length cl) /\ w4.cell? ⟨pb, ob + 3, none⟩ = some (.slice (some ⟨p2, off2, none⟩) b.l.length cl2)) /\ w4.heap[G]? = some (.cells #[.pointer (some ⟨pa, oa, none⟩), .pointer (some ⟨pb, ob, none⟩)] 257 (0, 0))) := by
      intro o w4 hg;have hblk : ∀ c, c < wr.heap.size -> (Value.slice ao L.length cap).ownBlock ≠ some c -> w4.heap[c]? = wr.heap[c]? := fun c hc hn => by
       rw [hg.block c (by show c < (wr.alloc o).heap.size; simp; omega) (fun e => hn e.symm)];exact heap_alloc_old wr o hc
      have hcell : ∀ (c j : Nat) (u : Value), (Value.slice ao L.length cap).ownBlock ≠ some c -> wr.cell? ⟨c, j, none⟩ = some u -> w4.cell? ⟨c, j, none⟩ = some u := fun c j u hn hc => by
       have hlt := World.block_lt_of_cell? wr _ hc;have := hblk c hlt hn;unfold World.cell? at hc ⊢;simp only at hc ⊢;rw [this]; exact hc
      have hlow : ∀ c, c < w1.heap.size -> (Value.slice ao L.length cap).ownBlock ≠ some c := fun c hc e => by have := (hown.lt c e).1; omega
      exact ⟨⟨hcell G 0 _ hne G0, hcell G 1 _ hne G1, hcell pa _ _ (hlow pa hpw) k3, hcell pb _ _ (hlow pb hpw2) j3⟩, (hblk G hGx hne).trans hP⟩
     clear hqn hwt2 hx hy hmx hmy hok heq hown hBx hP hne u0 u1 u2 u3 u4 v0 v1 v2 v3 v4 hwt;go_wp2_with fail;go_region_held3 (fun W' => W'.cell? ⟨G, 0, none⟩ = some (.pointer (some ⟨pa, oa, none⟩)) /\ W'.cell? ⟨G, 1, none⟩ = some (.pointer (some ⟨pb, ob, none⟩)) /\ W'.cell? ⟨pa, oa + 3, none⟩ = some (.slice (some ⟨p, off, none⟩) a.l.length cl) /\ W'.cell? ⟨pb, ob + 3, none⟩ = some (.slice (some ⟨p2, off2, none⟩) b.l.length cl2)) (go_keep)
      (first
       | (refine step_append_lies _ ?_ (.tmp 40) (.tmp 56) 258 ?_ (w.heap.size + 2) 257 i0 (.agg #[.pointer none, .pointer none]) 2 16 Tryz.underlying258 hi hz0 hz1 hz2 rfl Nat.two_pos (.slice ao L.length cap) L.length (L.flatMap V.prCells) ?_ ?_ ⟨wr.heap.size, 0, none⟩ 1 1 [.pointer (some ⟨p, off + k * 5, none⟩), .pointer (some ⟨p2, off2 + k * 5, none⟩)] ?_ rfl ?_ ?_ Nat.one_pos ?_ ?_ ?_ _ rfl ?_; rfl; rfl; rfl; exact (HOW.out.alloc _).drew; rfl; exact news_alloc_drew wr #[.pointer (some ⟨p, off + k * 5, none⟩), .pointer (some ⟨p2, off2 + k * 5, none⟩)] 257 _ rfl; simp [Value.oneCell']; (unfold maxLen; omega); omega; (simp; omega); intro g4 cap4 w4 hown4 hgrow hat hlt4; obtain ⟨⟨r0, r1, r2, r3⟩, hP4⟩ := KG.out _ _ hgrow))
     all_goals
      go_wp2_with fail;go_roundw
      case rel =>
       refine ⟨k + 1, some ⟨g4, 0, none⟩, cap4, L ++ [(x, y, p, off + k * 5, p2, off2 + k * 5)], by omega, by go_num, by simp, ?_, ?_, ?_, HWT2.out, hP4, ?_, ?_⟩
       ·rw [List.flatMap_append, List.length_append]; exact hown4
       ·intro q hq;rcases List.mem_append.1 hq with h | h
        ·exact HOK2.out q h
        ·rw [List.mem_singleton] at h; subst h; exact HQN.out
       ·exact V.eq_more (f := id) HEQ2.out HX.out HY.out rfl rfl
       ·have hsz4 := hlt4;rcases hat with h | h
        ·intro hc;exact HNE.out (h.trans (by simpa [Value.ownBlock] using hc))
        ·simp only [Value.ownBlock]; intro hc;have := Option.some.inj hc;simp at h; omega
       ·exact ((below_drewN (HBX.out.alloc hs1 _) 1).grown hgrow (by show _ <= (wr.alloc _).heap.size; simp; omega) (fun c hc => by have := (HOW.out.lt c hc).1; omega))
      case measure => simp [intOf]; omega
    ·have hkk : k = a.l.length := by omega
     have hLL : V.allEq L ↔ V.allEq R /\ a.l = b.l := by
      rw [heq, hkk];constructor
      ·intro ⟨h1, h2⟩;refine ⟨h1, List.ext_getElem? fun j => ?_⟩;rcases Nat.lt_or_ge j a.l.length with h | h
       ·have := h2 j h;rw [Option.map_id, id, id] at this; exact this
       ·rw [List.getElem?_eq_none h, List.getElem?_eq_none (by have := E4.out; omega)]
      ·intro ⟨h1, h2⟩;exact ⟨h1, fun j _ => by rw [h2]⟩
     have HLL := hide hLL;have hwt1 : V.wt m L = V.wt m R + V.sumL (V.parts m) a.l := by rw [hwt, hkk, List.take_length]
     have k4 := kept_cell hBx HR4.out;clear hLL heq hwt hkk;go_wp2_with fail;generalize hL1 : L = L1 at *;clear hL1;go_loopw [5, 8, 65] (fun vt _ vi wx => ∃ (k : Nat) (ao : Option Addr) (cap : Nat) (L : List V.PR), k <= a.f.length /\ vi = .int .i64 k /\ vt = .slice ao L.length cap /\ wx.ownsRow (w.heap.size + 2) 257 2 (.slice ao L.length cap) L.length (L.flatMap V.prCells) /\ (∀ q ∈ L, V.prOk m w1 q) /\ (V.allEq L ↔ V.allEq L1 /\ ∀ j : Nat, j < k -> (a.f[j]?).map (fun x : ByteArray × Val => x.2) = (b.f[j]?).map (fun x : ByteArray × Val => x.2)) /\ V.wt m L = V.wt m R + V.sumL (V.parts m) a.l + V.sumF (fun x => V.parts m x.2) (a.f.take k) /\ wx.heap[G]? = some (.cells #[.pointer (some ⟨pa, oa, none⟩), .pointer (some ⟨pb, ob, none⟩)] 257 (0, 0)) /\ (Value.slice ao L.length cap).ownBlock ≠ some G /\ Below w1.heap.size w1 wx) (fun _ _ vi _ => a.f.length - (intOf vi).toNat)
     case atStart => exact ⟨0, ao, cap, L1, Nat.zero_le _, rfl, rfl, hown, hok, ⟨fun h => ⟨h, fun j hj => absurd hj (by omega)⟩, fun h => h.1⟩, by rw [hwt1]; rfl, hP, hne, hBx⟩
     case round =>
      clear hown hP hBx k3 j3 G0 G1;obtain ⟨k, ao, cap, L, hk, rfl, rfl, hown, hok, heq, hwt, hP, hne, hBx⟩ := hrel;have G0 := cell_of_block hP 0 _ rfl;have G1 := cell_of_block hP 1 _ rfl;have k3 := kept_cell hBx HR4.out;have j3 := kept_cell hBx HT4.out;by_cases hlt : k < a.f.length
      ·obtain ⟨p, off, cap1, x, x0, x1, x2, x3, x4, e1, hx, hmx, un, u0, u1, u2, u3, u4⟩ := V.elemF HF.out k hlt;obtain ⟨rfl, _, rfl⟩ := Value.slice.inj e1;have hlt2 : k < b.f.length := by have := E5.out; omega
       obtain ⟨p2, off2, cap2, y, z0, z1, z2, z3, z4, e2, hy, hmy, vn, v0, v1, v2, v3, v4⟩ := V.elemF HF2.out k hlt2;obtain ⟨rfl, _, rfl⟩ := Value.slice.inj e2;have hqn : V.prOk m w1 (x.2, y.2, p, off + k * 6 + 1, p2, off2 + k * 6 + 1) := by
        refine ⟨⟨x0, x1, x2, x3, x4, V.Mem.up m hmx, u0, u1, u2, u3, u4⟩, ⟨z0, z1, z2, z3, z4, V.Mem.up m hmy, v0, v1, v2, v3, v4⟩, ?_, ?_⟩
        ·show V.bulk (m + 1) x.2 <= _;rw [V.bulk_up m hmx]; have h1 := V.sumF_le (fun x => x.1.size + V.bulk m x.2) a.f k x hx; have h2 := HBA.out; rw [V.bulk] at h2; omega
        ·show V.bulk (m + 1) y.2 <= _;rw [V.bulk_up m hmy]; have h1 := V.sumF_le (fun x => x.1.size + V.bulk m x.2) b.f k y hy; have h2 := HBB.out; rw [V.bulk] at h2; omega
       have hwt2 : V.wt m (L ++ [(x.2, y.2, p, off + k * 6 + 1, p2, off2 + k * 6 + 1)]) = V.wt m R + V.sumL (V.parts m) a.l + V.sumF (fun x => V.parts m x.2) (a.f.take (k + 1)) := by
        have q1 := V.parts_up m hmx;have q2 := V.sumF_take (fun x => V.parts m x.2) a.f k x hx;rw [V.wt_append, V.wt_one];show _ + V.parts (m + 1) x.2 = _;omega
       have hsl := V.sumF_le (fun x => V.parts m x.2) a.f k x hx;have hll := V.len_wt m L;have hLl : L.length <= 2000000 := by omega
       have HQN := hide hqn;have HWT2 := hide hwt2;have HX := hide hx;have HY := hide hy;have HOK2 := hide hok;have HEQ2 := hide heq;have HOW := hide hown;have HBX := hide hBx;have HP2 := hide hP;have HNE := hide hne;have hs1 := hBx.size;have hpw : pa < w1.heap.size := World.block_lt_of_cell? w1 _ HR4.out;have hpw2 : pb < w1.heap.size := World.block_lt_of_cell? w1 _ HT4.out;have hGx := blt hP;have KG : Hid (∀ (o : Obj) (w4 : World), (wr.alloc o).drew.grownBy w4 (Value.slice ao L.length cap).ownBlock -> (w4.cell? ⟨G, 0, none⟩ = some (.pointer (some ⟨pa, oa, none⟩)) /\ w4.cell? ⟨G, 1, none⟩ = some (.pointer (some ⟨pb, ob, none⟩)) /\ w4.cell? ⟨pa, oa + 4, none⟩ = some (.slice (some ⟨p, off, none⟩) a.f.length cf) /\ w4.cell? ⟨pb, ob + 4, none⟩ = some (.slice (some ⟨p2, off2, none⟩) b.f.length cf2)) /\ w4.heap[G]? = some (.cells #[.pointer (some ⟨pa, oa, none⟩), .pointer (some ⟨pb, ob, none⟩)] 257 (0, 0))) := by
        intro o w4 hg;have hblk : ∀ c, c < wr.heap.size -> (Value.slice ao L.length cap).ownBlock ≠ some c -> w4.heap[c]? = wr.heap[c]? := fun c hc hn => by
         rw [hg.block c (by show c < (wr.alloc o).heap.size; simp; omega) (fun e => hn e.symm)];exact heap_alloc_old wr o hc
        have hcell : ∀ (c j : Nat) (u : Value), (Value.slice ao L.length cap).ownBlock ≠ some c -> wr.cell? ⟨c, j, none⟩ = some u -> w4.cell? ⟨c, j, none⟩ = some u := fun c j u hn hc => by
         have hlt := World.block_lt_of_cell? wr _ hc;have := hblk c hlt hn;unfold World.cell? at hc ⊢;simp only at hc ⊢;rw [this]; exact hc
        have hlow : ∀ c, c < w1.heap.size -> (Value.slice ao L.length cap).ownBlock ≠ some c := fun c hc e => by have := (hown.lt c e).1; omega
        exact ⟨⟨hcell G 0 _ hne G0, hcell G 1 _ hne G1, hcell pa _ _ (hlow pa hpw) k3, hcell pb _ _ (hlow pb hpw2) j3⟩, (hblk G hGx hne).trans hP⟩
       clear hqn hwt2 hx hy hmx hmy hok heq hown hBx hP hne un vn u0 u1 u2 u3 u4 v0 v1 v2 v3 v4 hwt;go_wp2_with fail;go_region_held3 (fun W' => W'.cell? ⟨G, 0, none⟩ = some (.pointer (some ⟨pa, oa, none⟩)) /\ W'.cell? ⟨G, 1, none⟩ = some (.pointer (some ⟨pb, ob, none⟩)) /\ W'.cell? ⟨pa, oa + 4, none⟩ = some (.slice (some ⟨p, off, none⟩) a.f.length cf) /\ W'.cell? ⟨pb, ob + 4, none⟩ = some (.slice (some ⟨p2, off2, none⟩) b.f.length cf2)) (go_keep)
        (first
         | (refine step_append_lies _ ?_ (.tmp 68) (.tmp 86) 258 ?_ (w.heap.size + 2) 257 i0 (.agg #[.pointer none, .pointer none]) 2 16 Tryz.underlying258 hi hz0 hz1 hz2 rfl Nat.two_pos (.slice ao L.length cap) L.length (L.flatMap V.prCells) ?_ ?_ ⟨wr.heap.size, 0, none⟩ 1 1 [.pointer (some ⟨p, off + k * 6 + 1, none⟩), .pointer (some ⟨p2, off2 + k * 6 + 1, none⟩)] ?_ rfl ?_ ?_ Nat.one_pos ?_ ?_ ?_ _ rfl ?_; rfl; rfl; rfl; exact (HOW.out.alloc _).drew; rfl; exact news_alloc_drew wr #[.pointer (some ⟨p, off + k * 6 + 1, none⟩), .pointer (some ⟨p2, off2 + k * 6 + 1, none⟩)] 257 _ rfl; simp [Value.oneCell']; (unfold maxLen; omega); omega; (simp; omega); intro g4 cap4 w4 hown4 hgrow hat hlt4; obtain ⟨⟨r0, r1, r2, r3⟩, hP4⟩ := KG.out _ _ hgrow))
       all_goals
        go_wp2_with fail;go_roundw
        case rel =>
         refine ⟨k + 1, some ⟨g4, 0, none⟩, cap4, L ++ [(x.2, y.2, p, off + k * 6 + 1, p2, off2 + k * 6 + 1)], by omega, by go_num, by simp, ?_, ?_, ?_, HWT2.out, hP4, ?_, ?_⟩
         ·rw [List.flatMap_append, List.length_append]; exact hown4
         ·intro q hq;rcases List.mem_append.1 hq with h | h
          ·exact HOK2.out q h
          ·rw [List.mem_singleton] at h; subst h; exact HQN.out
         ·exact V.eq_more (f := fun x : ByteArray × Val => x.2) HEQ2.out HX.out HY.out rfl rfl
         ·have hsz4 := hlt4;rcases hat with h | h
          ·intro hc;exact HNE.out (h.trans (by simpa [Value.ownBlock] using hc))
          ·simp only [Value.ownBlock]; intro hc;have := Option.some.inj hc;simp at h; omega
         ·exact ((below_drewN (HBX.out.alloc hs1 _) 1).grown hgrow (by show _ <= (wr.alloc _).heap.size; simp; omega) (fun c hc => by have := (HOW.out.lt c hc).1; omega))
        case measure => simp [intOf]; omega
      ·have hkk : k = a.f.length := by omega
       have hLL : A = B ↔ V.allEq L := by
        rw [HEQ.out, heq, hkk];have hk2 := V.eq_kids a b HNR.out;constructor
        ·intro h;have hab := h (a, b, pa, oa, pb, ob) (by simp);have h3 := hk2.1 hab;exact ⟨HLL.out.2 ⟨fun q hq => h q (by simp [hq]), h3.1⟩, fun j _ => h3.2 j⟩
        ·intro ⟨h1, h2⟩ q hq;have h4 := HLL.out.1 h1;rcases List.mem_append.1 hq with h | h
         ·exact h4.1 q h
         ·rw [List.mem_singleton] at h;subst h;refine hk2.2 ⟨h4.2, fun j => ?_⟩;rcases Nat.lt_or_ge j a.f.length with h5 | h5
          ·exact h2 j h5
          ·rw [List.getElem?_eq_none h5, List.getElem?_eq_none (by have := E5.out; omega)]
       have hwt2 : V.wt m L + 1 = V.wt m R + V.parts (m + 1) a := by rw [hwt, hkk, List.take_length, hpt]; omega
       have HFL := hide hLL;have hgk2 := HGK.out;have hwq2 : V.wt m (R ++ [(a, b, pa, oa, pb, ob)]) = V.wt m R + V.parts (m + 1) a := HWQ.out;have hlt9 : V.wt m L < gk := by omega
       clear hLL heq hwt hkk hgk2 hwq2;go_wp2_with fail
       go_roundg (V.wt m L)
       case measure => exact hlt9
       case rel => exact ⟨L, ao, cap, rfl, hown, hok, HFL.out, rfl, by omega, hBx⟩
namespace V
def hexd (n : Nat) : UInt8 := (if n < 10 then 48 + n else 87 + n).toUInt8
def quoteB (c : UInt8) : List UInt8 := if c.toNat = 34 \/ c.toNat = 92 then [92, c] else if 32 <= c.toNat /\ c.toNat <= 126 then [c] else [92, 120, hexd (c.toNat / 16), hexd (c.toNat % 16)]
def quote (l : List UInt8) : List UInt8 := 34 :: (l.flatMap quoteB ++ [34])
theorem str_append (a b : List UInt8) : str a ++ str b = str (a ++ b) := by
 apply ByteArray.ext; simp [str, ByteArray.data_append]
theorem take_flat (s : ByteArray) (k : Nat) (h : k < s.size) : ((bl s).take (k + 1)).flatMap quoteB = ((bl s).take k).flatMap quoteB ++ quoteB s[k] := by
 rw [List.take_add_one, bl_get s k h]; simp
theorem quoteB_len (c : UInt8) : (quoteB c).length <= 4 := by unfold quoteB; split; simp; split <;> simp
theorem flat_len (l : List UInt8) : (l.flatMap quoteB).length <= 4 * l.length := by
 induction l with
 | nil => simp
 | cons a l ih => rw [List.flatMap_cons, List.length_append, List.length_cons]; have := quoteB_len a; omega
end V
theorem strOfNums_bytes (acc : List UInt8) : strOfNums (acc.map fun b => (b.toNat : Int)) = V.str acc := by
 unfold strOfNums V.str;rw [List.map_map];have : ((fun n : Int => UInt8.ofNat n.toNat) ∘ fun b : UInt8 => (b.toNat : Int)) = id := by funext b; simp
 rw [this]; simp
theorem conv_at (w : World) (g : Nat) (l : List UInt8) (cs : Array Value) (n : Nat) (hn : n = l.length) (h : cs = (l.map (fun b => Value.int .u8 b.toNat)).toArray) (hb : w.heap[g]? = some (.cells cs 5 (0, 0))) :
  (convert 99 9 (.slice (some ⟨g, 0, none⟩) n n)).run Tryz.prog w = .ok (.string (V.str l)) w := by
 subst hn h;rw [run_convert_bytes_arg _ 99 5 Tryz.underlying99 Tryz.underlying5 g 0 l.length l.length (l.map fun b => (b.toNat : Int)) (by simp) ?_ 9 Tryz.underlying9, strOfNums_bytes];intro i hi;rw [Nat.zero_add, cell_of_row _ g i _ 5 (0, 0) hb];simp [List.getD, List.getElem?_eq_getElem hi]
theorem conv_new (w : World) (l : List UInt8) (cs : Array Value) (n : Nat) (hn : n = l.length) (h : cs = (l.map (fun b => Value.int .u8 b.toNat)).toArray) :
  (convert 99 9 (.slice (some ⟨w.heap.size, 0, none⟩) n n)).run Tryz.prog (w.alloc (.cells cs 5)) = .ok (.string (V.str l)) (w.alloc (.cells cs 5)) := conv_at _ _ l cs n hn h (heap_alloc_new _ _)
theorem conv_some (w : World) (l : List UInt8) (cs : Array Value) (n : Nat) (hn : n = l.length) (h : cs = (l.map (fun b => Value.int .u8 b.toNat)).toArray) :
  ∃ t : ByteArray, t = V.str l /\ t.size = n /\ (convert 99 9 (.slice (some ⟨w.heap.size, 0, none⟩) n n)).run Tryz.prog (w.alloc (.cells cs 5)) = .ok (.string t) (w.alloc (.cells cs 5)) :=
 ⟨_, rfl, by rw [hn]; simp [V.str, ByteArray.size], conv_new w l cs n hn h⟩
theorem hex_lit : ∀ n : Fin 16, ((⟨#[48, 49, 50, 51, 52, 53, 54, 55, 56, 57, 97, 98, 99, 100, 101, 102]⟩ : ByteArray)[n.val]'(n.isLt)) = V.hexd n.val := by decide
theorem wrap_u8 (i : Int) (h0 : 0 <= i) (h1 : i < 256) : IntKind.u8.wrap i = i := by
 rw [IntKind.wrap, show (2 : Int) ^ IntKind.u8.bits = 256 from rfl, show IntKind.u8.signed = false from rfl];simp;omega
theorem hex_at (i : Int) (n : Nat) (hi : i = n) (hn : n < 16) (h : i.toNat < (⟨#[48, 49, 50, 51, 52, 53, 54, 55, 56, 57, 97, 98, 99, 100, 101, 102]⟩ : ByteArray).size) : ((⟨#[48, 49, 50, 51, 52, 53, 54, 55, 56, 57, 97, 98, 99, 100, 101, 102]⟩ : ByteArray)[i.toNat]'h) = V.hexd n := by
 subst hi;exact hex_lit ⟨n, hn⟩
theorem hex_conv (c : UInt8) (h1 : (IntKind.u8.wrap ((c.toNat : Int) / 16)).toNat < (⟨#[48, 49, 50, 51, 52, 53, 54, 55, 56, 57, 97, 98, 99, 100, 101, 102]⟩ : ByteArray).size) (h2 : ((c.toNat : Int).tmod 16).toNat < (⟨#[48, 49, 50, 51, 52, 53, 54, 55, 56, 57, 97, 98, 99, 100, 101, 102]⟩ : ByteArray).size) :
  ∃ t : ByteArray, t = V.str [92, 120, V.hexd (c.toNat / 16), V.hexd (c.toNat % 16)] /\ t.size = 4 /\ ∀ W : World, (convert 99 9 (.slice (some ⟨W.heap.size, 0, none⟩) 4 4)).run Tryz.prog
   (W.alloc (.cells #[.int .u8 92, .int .u8 120, .int .u8 ((⟨#[48, 49, 50, 51, 52, 53, 54, 55, 56, 57, 97, 98, 99, 100, 101, 102]⟩ : ByteArray)[(IntKind.u8.wrap ((c.toNat : Int) / 16)).toNat]'h1).toNat, .int .u8 ((⟨#[48, 49, 50, 51, 52, 53, 54, 55, 56, 57, 97, 98, 99, 100, 101, 102]⟩ : ByteArray)[((c.toNat : Int).tmod 16).toNat]'h2).toNat] 5)).drew =
   .ok (.string t) (W.alloc (.cells #[.int .u8 92, .int .u8 120, .int .u8 ((⟨#[48, 49, 50, 51, 52, 53, 54, 55, 56, 57, 97, 98, 99, 100, 101, 102]⟩ : ByteArray)[(IntKind.u8.wrap ((c.toNat : Int) / 16)).toNat]'h1).toNat, .int .u8 ((⟨#[48, 49, 50, 51, 52, 53, 54, 55, 56, 57, 97, 98, 99, 100, 101, 102]⟩ : ByteArray)[((c.toNat : Int).tmod 16).toNat]'h2).toNat] 5)).drew := by
 have hc := c.toNat_lt;rw [hex_at _ (c.toNat / 16) (by rw [wrap_u8 _ (by omega) (by omega)]; omega) (by omega), hex_at _ (c.toNat % 16) (by rw [Int.tmod_eq_emod_of_nonneg (by omega)]; omega) (by omega)];exact ⟨_, rfl, rfl, fun W => conv_at _ _ _ _ 4 rfl rfl (heap_alloc_new _ _)⟩
theorem str_size (l : List UInt8) : (V.str l).size = l.length := by simp [V.str, ByteArray.size]
end Go.Proofs.YtcekcfjabhlheaaGreatDoor.Vx
