/- StateSays: UY2 UZ. -/
import Derived.Test.YtcekcfjabhlheaaGreatDoorUY1
import Derived.RangeFuncNested
import Derived.RangeFuncCalls
import Derived.Shelf.SlIter.Collect
import Derived.OwnWalkIn
import Derived.TacticsInMore
import Derived.RegionIn
import Derived.LoopNIn
import Derived.LoopIn
import Derived.Shelf.RegionOpen
set_option maxRecDepth 100000
set_option maxHeartbeats 4000000
namespace Go.Proofs.YtcekcfjabhlheaaGreatDoor.Vx
open Go.RowKit Go.Shelf
attribute [local go_sem] Oper.semAt_some
namespace P
def BS : Base St := fun w s cs => S.Mem 6 w s cs
def StR (w w' : World) (s : St) (cs : List Value) : Prop := (∃ a1 n1 q1 a2 n2 q2 a3 n3 q3, cs = [.int .i64 s.serial, .slice a1 n1 q1, .slice a2 n2 q2, .slice a3 n3 q3]) /\ KM BS (New w w') w' s cs
end P
theorem S.Rd.state {base B : Nat} {D : Nat -> Prop} {w : World} {s : St} {hv iv ov : Value} {LH : List (Hd × List Value)} {LI : List (It × List Value)} {LO : List ((ByteArray × Val) × List Value)} (h : S.Rd base B D w s hv iv ov LH LI LO) (h64 : S.in64 s.serial) : P.KM P.BS (fun c => base <= c /\ c < w.heap.size) w s [.int .i64 s.serial, hv, iv, ov] := by
 intro w2 hw;have sub : ∀ (v : Value), (∀ c, v.ownBlock = some c -> base <= c /\ c < w.heap.size) -> ∀ c, (D c \/ v.ownBlock = some c) -> w2.heap[c]? = w.heap[c]? := fun v hv c hc => hw c (hc.elim (h.dd c) (hv c))
 have kH := h.hH.row w2 (sub hv h.hH.own.lt);have kI := h.hI.row w2 (sub iv h.hI.own.lt);have kO := h.hO.row w2 (sub ov h.hO.own.lt);rw [h.mH] at kH;rw [h.mI] at kI;rw [h.mO] at kO;refine ⟨hv, iv, ov, rfl, kH, kI, ?_, h64⟩;obtain ⟨a, cap, e, k⟩ := kO;refine ⟨a, cap, e, k.imp id (fun ⟨b, off, e2, k2⟩ => ⟨b, off, e2, fun i hi => ?_⟩)⟩;obtain ⟨cs, h1, h2, x, hx, c', h3, h4⟩ := k2 i hi;exact ⟨cs, h1, h2, x, c', hx, h3, h4⟩
theorem lines73_any (t : ByteArray) (w : World) : Calls Tryz.prog 73 #[.string t] w fun e w' => e = .returned (.func (.func 88) #[] #[.pointer (some ⟨w.heap.size, 0, none⟩)]) /\ w' = w.alloc (.cells #[.string t] 9) := by
 go_enter Tryz.func73, Tryz.ntmps73;go_wp2_with fail;exact bodyPost_ret (v := .func (.func 88) #[] #[.pointer (some ⟨w.heap.size, 0, none⟩)]) (by simp [results, Tryz.results73, go_sem]) rfl ⟨rfl, rfl⟩
theorem readLines_any (s : St) (w : World) (hfit : ∀ x ∈ S.items s, S.Ln.Fit x) (hlen : (S.lines 6 s).length <= 4000) (hfew : (S.items s).length <= 1000) (h64 : S.in64 s.serial) :
  Calls Tryz.prog 44 #[.string (V.str (S.lines 6 s))] w fun e w' => (∃ cs, e = .returned (.tuple #[.agg cs.toArray, .nilIface]) /\ P.StR w w' s cs) /\ Below w.heap.size w w' := by
 refine (callsIn_wide (n := 4)).1 ?_;refine callsIn_of_wp_marks Tryz.func44 rfl trivial ?_ rfl;simp only [Tryz.ntmps44, List.size_toArray, List.length_cons, List.length_nil, Nat.reduceAdd, Nat.reduceSub, Array.replicate_succ, Array.replicate_zero, List.push_toArray, List.append_toArray, List.nil_append, List.cons_append];have HLI := hide (fun n fn tx W h => lines_in n w fn tx (S.items s) hfit (by rw [<- S.lines_items]; exact hlen) W h hfew);rw [<- S.lines_items, S.fold_items] at HLI;have HRS : Hid (∀ W, RlAt w 0 ⟨#[]⟩ [] s W -> True) := fun _ _ => trivial
 generalize htx : V.str (S.lines 6 s) = tx at *;obtain ⟨HTX, H64⟩ := hd2 htx h64;clear hfit hlen hfew htx h64 HRS
 gi_wp2
 refine ⟨trivial, (callsIn_wide.2 (lines73_any tx _)).mono ?_⟩;rintro e w1 ⟨rfl, hw1⟩;rw [hw1];clear hw1
 gi_wp2
 refine wpIn_rangeFunc ?_;intro fn _;have eb : ∀ args w, (callFunc 88 args).run Tryz.prog w = .ok (.enter 88 args) w := enters_of Tryz.func88 (by kernel_rfl) rfl
 obtain ⟨x, hx⟩ : ∃ x, x = (((w.alloc (.cells #[.int .i64 0, .slice none 0 0, .slice none 0 0, .slice none 0 0] 26)).alloc (.cells #[.nilIface] 30)).alloc (.cells #[.int .i64 0, .slice none 0 0, .slice none 0 0, .slice none 0 0] 26)).alloc (.cells #[.string tx] 9) := ⟨_, rfl⟩
 have xz : x.heap.size = w.heap.size + 4 := by rw [hx]; simp
 have xw : Below w.heap.size w x := by rw [hx]; exact ((((Below.refl _ w).alloc (Nat.le_refl _) _).alloc (by simp) _).alloc (by simp only [World.size_alloc]; omega) _).alloc (by simp only [World.size_alloc]; omega) _
 have x0 : x.heap[w.heap.size]? = some (.cells #[.int .i64 0, .slice none 0 0, .slice none 0 0, .slice none 0 0] 26 (0, 0)) := by
  rw [hx, heap_alloc_old _ _ (by simp; omega), heap_alloc_old _ _ (by simp; omega), heap_alloc_old _ _ (by simp)];exact heap_alloc_new _ _
 have x1 : x.heap[w.heap.size + 1]? = some (.cells #[.nilIface] 30 (0, 0)) := by
  rw [hx, heap_alloc_old _ _ (by simp only [World.size_alloc]; omega), heap_alloc_old _ _ (by simp only [World.size_alloc]; omega)];have := heap_alloc_new (w.alloc (.cells #[.int .i64 0, .slice none 0 0, .slice none 0 0, .slice none 0 0] 26)) (.cells #[.nilIface] 30);rwa [World.size_alloc] at this
 have x2 : x.heap[w.heap.size + 2]? = some (.cells #[.int .i64 0, .slice none 0 0, .slice none 0 0, .slice none 0 0] 26 (0, 0)) := by
  rw [hx, heap_alloc_old _ _ (by simp)];have := heap_alloc_new ((w.alloc (.cells #[.int .i64 0, .slice none 0 0, .slice none 0 0, .slice none 0 0] 26)).alloc (.cells #[.nilIface] 30)) (.cells #[.int .i64 0, .slice none 0 0, .slice none 0 0, .slice none 0 0] 26);rwa [World.size_alloc, World.size_alloc] at this
 have x3 : x.heap[w.heap.size + 3]? = some (.cells #[.string tx] 9 (0, 0)) := by
  rw [hx];have := heap_alloc_new (((w.alloc (.cells #[.int .i64 0, .slice none 0 0, .slice none 0 0, .slice none 0 0] 26)).alloc (.cells #[.nilIface] 30)).alloc (.cells #[.int .i64 0, .slice none 0 0, .slice none 0 0, .slice none 0 0] 26)) (.cells #[.string tx] 9);rwa [World.size_alloc, World.size_alloc, World.size_alloc] at this
 rw [<- hx];clear hx;obtain ⟨y, hy⟩ : ∃ y, y = (x.alloc (.deferred (some []))).alloc (.loop (rlRec fn tx w.heap.size .ready none)) := ⟨_, rfl⟩
 have yx : Fr x y (fun _ => False) := by rw [hy]; exact ((Fr.refl x _).alloc _).alloc _
 have yz : y.heap.size = w.heap.size + 6 := by rw [hy]; simp; omega
 have yd : y.heap[w.heap.size + 4]? = some (.deferred (some [])) := by
  rw [hy, <- xz];exact (heap_alloc_old _ _ (by simp)).trans (heap_alloc_new x _)
 have yl : y.heap[w.heap.size + 5]? = some (.loop (rlRec fn tx w.heap.size .ready none)) := by
  rw [hy];have := heap_alloc_new (x.alloc (.deferred (some []))) (.loop (rlRec fn tx w.heap.size .ready none));rwa [World.size_alloc, xz] at this
 have old : ∀ j, j < w.heap.size + 4 -> y.heap[j]? = x.heap[j]? := fun j hj => yx.block j (by omega) (fun e => e)
 have hAt : RlAt w fn tx (S.lines 6 s) ⟨0, [], [], []⟩ y :=
  ⟨(old _ (by omega)).trans x0, (old _ (by omega)).trans x1, (old _ (by omega)).trans (by rw [HTX.out]; exact x3), yd, yl, ⟨_, _, _, _, _, _, _, S.Rd.start ((old _ (by omega)).trans x2) (by omega) (by omega)⟩, xw.trans (yx.below xw.size (fun c e => e.elim))⟩
 have hV := HLI.out 3 fn tx y hAt;refine ⟨w.heap.size + 5, [{ target := .collected (w.heap.size + 4), args := #[] }], y, { target := .fn (.func 88) #[.pointer (some ⟨w.heap.size + 3, 0, none⟩)], args := #[.func (.yield (w.heap.size + 5)) #[] #[]] }, y, 88, #[.func (.yield (w.heap.size + 5)) #[] #[], .pointer (some ⟨w.heap.size + 3, 0, none⟩)], y, ?_, ?_, ?_, ?_, fun _ => by decide, ?_⟩
 ·have e := run_enterLoop_outer (P := Tryz.prog) (w := x) fn #[.string tx, undef, .pointer (some ⟨w.heap.size, 0, none⟩), .pointer (some ⟨w.heap.size + 1, 0, none⟩), .pointer (some ⟨w.heap.size + 2, 0, none⟩), undef, undef, .string tx, .func (.func 88) #[] #[.pointer (some ⟨w.heap.size + 3, 0, none⟩)], undef, undef, undef, undef, undef, undef, undef, undef, undef] #[9] rlAssign rlBody;rw [xz] at e;rw [hy];exact e
 ·simp [resolve, go_sem]
 ·intro f' hf'; trivial
 ·simp [invoke, go_sem, eb]
 ·clear hy yd yl yx yz old hAt x0 x1 x2 x3 eb HLI;refine hV.mono ?_;rintro e W2 ⟨⟨v0, rfl⟩, h2⟩;have hend := run_endLoop (P := Tryz.prog) h2.L (by simp [rlRec]);obtain ⟨W3, hW3⟩ : ∃ W3, W2.putObj (w.heap.size + 5) (.loop { rlRec fn tx w.heap.size .ready none with state := .exhausted }) = W3 := ⟨_, rfl⟩
  rw [hW3] at hend;have hF3 : Fr W2 W3 (fun c => c = w.heap.size + 5) := by rw [<- hW3]; exact fr_putObj _ _ _
  have hl5 := blt h2.L;have keep : ∀ j, j < w.heap.size + 5 -> W3.heap[j]? = W2.heap[j]? := fun j hj => hF3.block j (by omega) (by omega)
  have r3 := (keep _ (by omega)).trans h2.res;have e3 := (keep _ (by omega)).trans h2.err;have K3 := (keep _ (by omega)).trans h2.K;obtain ⟨D, hv, iv, ov, LH, LI, LO, hR⟩ := h2.rd.side hF3 (fun c e => by omega);have hst := hR.state H64.out;obtain ⟨a1, q1, rfl⟩ := own_shape hR.hH.own;obtain ⟨a2, q2, rfl⟩ := own_shape hR.hI.own;obtain ⟨a3, q3, rfl⟩ := own_shape hR.hO.own;have hb3 : Below w.heap.size w W3 := h2.below.trans (hF3.below h2.below.size (fun c e => by omega));obtain ⟨HST, HB3, HR3, HE3, HK3⟩ := hd5 hst hb3 r3 e3 K3;have hs3 : w.heap.size + 5 < W3.heap.size := by have := hF3.size; omega
  have HS3 := hide hs3;obtain ⟨s0, s1, s2, s3⟩ := cl4 hR.blk;obtain ⟨r0, r1, r2, r4⟩ := cl4 r3;obtain ⟨f0, f1, f2, f3⟩ := fl4 r3;have e0 := cell_of_block e3 0 _ rfl;have g0 := free_of_block e3 0;clear hW3 hF3 keep hR hst hb3 r3 e3 K3 h2 hl5 hV xz xw hs3;refine ⟨none, W3, hend, ?_⟩;clear hend
  gi_wp2
  have hB0 := block_set (i := 0) HR3.out (.int .i64 s.serial);have hB1 := block_set (i := 1) hB0 (.slice a1 LH.length q1);have hB2 := block_set (i := 2) hB1 (.slice a2 LI.length q2);have hB3 : ((((W3.setCell ⟨w.heap.size, 0, none⟩ (.int .i64 s.serial)).setCell ⟨w.heap.size, 1, none⟩ (.slice a1 LH.length q1)).setCell ⟨w.heap.size, 2, none⟩ (.slice a2 LI.length q2)).setCell ⟨w.heap.size, 3, none⟩ (.slice a3 LO.length q3)).heap[w.heap.size]? = some (.cells #[.int .i64 s.serial, .slice a1 LH.length q1, .slice a2 LI.length q2, .slice a3 LO.length q3] 26 (0, 0)) := block_set (i := 3) hB2 (.slice a3 LO.length q3);have hF4 : Fr W3 ((((W3.setCell ⟨w.heap.size, 0, none⟩ (.int .i64 s.serial)).setCell ⟨w.heap.size, 1, none⟩ (.slice a1 LH.length q1)).setCell ⟨w.heap.size, 2, none⟩ (.slice a2 LI.length q2)).setCell ⟨w.heap.size, 3, none⟩ (.slice a3 LO.length q3)) (fun c => c = w.heap.size) := ((((Fr.refl W3 (fun c => c = w.heap.size)).set ⟨w.heap.size, 0, none⟩ _ (fun _ => rfl)).set ⟨w.heap.size, 1, none⟩ _ (fun _ => rfl)).set ⟨w.heap.size, 2, none⟩ _ (fun _ => rfl)).set ⟨w.heap.size, 3, none⟩ _ (fun _ => rfl);generalize ((((W3.setCell _ _).setCell _ _).setCell _ _).setCell _ _) = W4 at *;have hs3 := HS3.out;have hs4 := hF4.size;have hE4 := (hF4.block (w.heap.size + 1) (by omega) (by omega)).trans HE3.out;have hE5 := block_set (i := 0) hE4 .nilIface;have hF5 : Fr W4 (W4.setCell ⟨w.heap.size + 1, 0, none⟩ .nilIface) (fun c => c = w.heap.size + 1) := Fr.set1 _ _ _ _;have hB5 := (hF5.block w.heap.size (by omega) (by omega)).trans hB3;have hK5 := (hF5.block (w.heap.size + 4) (by omega) (by omega)).trans ((hF4.block (w.heap.size + 4) (by omega) (by omega)).trans HK3.out);generalize W4.setCell _ _ = W5 at *;have hs5 := hF5.size;have hF6 := fr_putObj W5 (w.heap.size + 4) (.deferred none);have hB6 := (hF6.block w.heap.size (by omega) (by omega)).trans hB5;have hE6 := (hF6.block (w.heap.size + 1) (by omega) (by omega)).trans hE5;obtain ⟨t0, t1, t2, t3⟩ := cl4 hB6;have t4 := cell_of_block hE6 0 _ rfl;refine ⟨by simp, .inl ⟨_, _, rfl, run_takeDeferred hK5, ?_⟩⟩;refine ⟨.tuple #[.agg #[.int .i64 s.serial, .slice a1 LH.length q1, .slice a2 LI.length q2, .slice a3 LO.length q3], .nilIface], by simp [results, Tryz.results44, go_sem, t0, t1, t2, t3, t4], ⟨[.int .i64 s.serial, .slice a1 LH.length q1, .slice a2 LI.length q2, .slice a3 LO.length q3], rfl, ⟨_, _, _, _, _, _, _, _, _, rfl⟩, ?_⟩, ?_⟩
  ·have hs6 := hF6.size;refine HST.out.to (fun c hc => ?_) (fun c hc => ⟨by omega, by omega⟩);rw [hF6.block c (by omega) (by omega), hF5.block c (by omega) (by omega), hF4.block c (by omega) (by omega)]
  ·have hw3 := HB3.out.size;exact ((HB3.out.trans (hF4.below hw3 (fun c e => by omega))).trans (hF5.below (by omega) (fun c e => by omega))).trans (hF6.below (by omega) (fun c e => by omega))
end Go.Proofs.YtcekcfjabhlheaaGreatDoor.Vx
namespace Go.Proofs.YtcekcfjabhlheaaGreatDoor.Vx
open Go.RowKit
namespace P
theorem bulk_lay : ∀ (k m : Nat) (v : Val), Lay k v -> k <= m -> V.bulk m v = V.bulk k v
 | 0, _, _, h, _ => h.elim
 | k + 1, 0, _, _, h => absurd h (by omega)
 | k + 1, m + 1, v, h, hk => by
  have h1 : v.l.map (V.bulk m) = v.l.map (V.bulk k) := List.map_congr_left (fun x hx => bulk_lay k m x (h.1 x hx) (by omega));have h2 : v.f.map (fun x => x.1.size + V.bulk m x.2) = v.f.map (fun x => x.1.size + V.bulk k x.2) := List.map_congr_left (fun x hx => by rw [bulk_lay k m x.2 (h.2 x hx) (by omega)]);rw [V.bulk, V.bulk, V.sumL, V.sumL, V.sumF, V.sumF, h1, h2]
theorem six_bulk {m : Nat} {v : Val} (h : Lay m v) (hf : V.fault m v = 0) : V.bulk 6 v = V.bulk m v := by
 unfold V.fault at hf;split at hf
 ·cases hf
 ·have hd : V.deep m v <= 6 := by omega
  exact (bulk_lay _ 6 v h.deep hd).trans (bulk_lay _ m v h.deep (deep_lay m v)).symm
end P
namespace S
structure Six (s : St) : Prop where
 fault : S.fault 6 s = 0
 fit : ∀ x ∈ items s, Ln.Fit x
 bulk : S.bulk 6 s <= 2000000
 few : (items s).length <= 1000
 ser : in64 s.serial
theorem row_each {α : Type} {w : World} {v : Value} {l : List α} {sz : Nat} {Q : α -> List Value -> Prop} (h : V.Row w v l.length sz (fun i c => ∃ x, l[i]? = some x /\ Q x c)) : ∀ x ∈ l, ∃ c, Q x c := by
 intro x hx;obtain ⟨i, hi, rfl⟩ := List.getElem_of_mem hx;obtain ⟨ao, cap, _, h | ⟨b, off, _, h⟩⟩ := h
 ·omega
 ·obtain ⟨c, _, _, y, hy, hm⟩ := h i hi;rw [List.getElem?_eq_getElem hi] at hy;cases hy;exact ⟨c, hm⟩
theorem faultH_six {m : Nat} {h : Hd} (hl : P.Lay m h.v) (k : faultH m h = 0) : faultH 6 h = 0 := by
 obtain ⟨h1, h2, h3, h4, h5⟩ := faultH_zero k;unfold faultH;rw [if_pos ⟨h1, h2, h3, h4⟩];exact (P.six_of hl h5).2.1
theorem first_none {f : Nat -> Nat} {n : Nat} (h : ∀ k, k < n -> f k = 0) : X.firstErr ((List.range n).map f) = 0 := by
 refine X.firstErr_none (fun j hj => ?_);rw [List.length_map, List.length_range] at hj;rw [List.getElem?_map, List.getElem?_range hj];simp [h j hj]
theorem held_six {m : Nat} {l : List Hd} (hl : ∀ x ∈ l, P.Lay m x.v) (k : heldFault m l = 0) : heldFault 6 l = 0 := by
 refine first_none (fun i hi => ?_);have h := firstErr_zero k i hi;have hx : l[i]? = some l[i] := List.getElem?_eq_getElem hi;unfold heldF at h ⊢;rw [hx] at h ⊢;simp only at h ⊢;split at h
 ·rename_i h1;exact absurd h h1
 ·rename_i h1;have h2 := faultH_six (hl _ (List.getElem_mem hi)) (Classical.byContradiction h1);rw [if_neg (fun e => e h2)];exact h
theorem it_six {m : Nat} {l : List It} (hl : ∀ x ∈ l, P.Lay m x.h.v) (k : itFault m l = 0) : itFault 6 l = 0 := by
 refine first_none (fun i hi => ?_);have h := firstErr_zero k i hi;have hx : l[i]? = some l[i] := List.getElem?_eq_getElem hi;unfold itF at h ⊢;rw [hx] at h ⊢;simp only at h ⊢;split at h
 ·rename_i h1;exact absurd h h1
 ·rename_i h1;have h2 := faultH_six (hl _ (List.getElem_mem hi)) (Classical.byContradiction h1);rw [if_neg (fun e => e h2)];exact h
theorem out_six {m : Nat} {l : List (ByteArray × Val)} (hl : ∀ x ∈ l, P.Lay m x.2) (k : outFault m l = 0) : outFault 6 l = 0 := by
 refine first_none (fun i hi => ?_);have h := firstErr_zero k i hi;have hx : l[i]? = some l[i] := List.getElem?_eq_getElem hi;unfold outF at h ⊢;rw [hx] at h ⊢;simp only at h ⊢;split at h
 ·cases h
 ·rename_i h1;rw [if_neg h1];exact (P.six_of (hl _ (List.getElem_mem hi)) h).2.1
theorem fault_six {m : Nat} {s : St} (h1 : ∀ x ∈ s.held, P.Lay m x.v) (h2 : ∀ x ∈ s.its, P.Lay m x.h.v) (h3 : ∀ x ∈ s.outs, P.Lay m x.2) (k : fault m s = 0) : fault 6 s = 0 := by
 unfold fault at k ⊢;split at k
 ·cases k
 ·rename_i c1;split at k
  ·cases k
  ·rename_i c2;rw [if_neg c1, if_neg c2];split at k
   ·rename_i c3;exact absurd k c3
   ·rename_i c3;rw [if_neg (fun e => e (held_six h1 (Classical.byContradiction c3)))];split at k
    ·rename_i c4;exact absurd k c4
    ·rename_i c4;rw [if_neg (fun e => e (it_six h2 (Classical.byContradiction c4)))];exact out_six h3 k
theorem sum_same {α : Type} {f g : α -> Nat} : ∀ {l : List α}, (∀ x ∈ l, f x = g x) -> (l.map f).sum = (l.map g).sum
 | l, h => by rw [List.map_congr_left h]
theorem Six.of {m : Nat} {w : World} {s : St} {cs : List Value} (h : Mem m w s cs) (hf : S.fault m s = 0) (hb : S.bulk m s <= 2000000) : Six s /\ text m s = text 6 s := by
 obtain ⟨hv, iv, ov, _, hh, hi, ho, h64⟩ := h;have lH : ∀ x ∈ s.held, P.Lay m x.v /\ in64 x.id := fun x hx => by
  obtain ⟨c, a0, a1, a2, a3, a4, _, k, k2⟩ := row_each hh x hx;exact ⟨P.Lay.of_mem k, k2⟩
 have lI : ∀ x ∈ s.its, P.Lay m x.h.v /\ in64 x.h.id := fun x hx => by
  obtain ⟨c, a0, a1, a2, a3, a4, _, k, k2, _⟩ := row_each hi x hx;exact ⟨P.Lay.of_mem k, k2⟩
 have lO : ∀ x ∈ s.outs, P.Lay m x.2 := fun x hx => by
  obtain ⟨i, hi, rfl⟩ := List.getElem_of_mem hx;obtain ⟨ao, cap, _, h | ⟨b, off, _, h⟩⟩ := ho
  ·omega
  ·obtain ⟨c, _, _, y, c', hy, _, hm⟩ := h i hi;rw [List.getElem?_eq_getElem hi] at hy;cases hy;exact P.Lay.of_mem hm
 have ok := Ok.of hf;have few := Few.of hb;have sH : ∀ x ∈ s.held, P.Lay 6 x.v /\ V.fault 6 x.v = 0 /\ V.text m x.v = V.text 6 x.v /\ V.bulk 6 x.v = V.bulk m x.v := fun x hx => by
  have k := P.six_of (lH x hx).1 (ok.held x hx).2.2.2.2;exact ⟨k.1, k.2.1, k.2.2, P.six_bulk (lH x hx).1 (ok.held x hx).2.2.2.2⟩
 have sI : ∀ x ∈ s.its, P.Lay 6 x.h.v /\ V.fault 6 x.h.v = 0 /\ V.text m x.h.v = V.text 6 x.h.v /\ V.bulk 6 x.h.v = V.bulk m x.h.v := fun x hx => by
  have k := P.six_of (lI x hx).1 (ok.its x hx).2.2.2.2.1;exact ⟨k.1, k.2.1, k.2.2, P.six_bulk (lI x hx).1 (ok.its x hx).2.2.2.2.1⟩
 have sO : ∀ x ∈ s.outs, P.Lay 6 x.2 /\ V.fault 6 x.2 = 0 /\ V.text m x.2 = V.text 6 x.2 /\ V.bulk 6 x.2 = V.bulk m x.2 := fun x hx => by
  have k := P.six_of (lO x hx) (ok.outs x hx).2;exact ⟨k.1, k.2.1, k.2.2, P.six_bulk (lO x hx) (ok.outs x hx).2⟩
 have eb : S.bulk 6 s = S.bulk m s := by
  unfold S.bulk;rw [sum_same (g := bulkH m) (l := s.held) (fun x hx => by unfold bulkH; rw [(sH x hx).2.2.2]), sum_same (g := bulkI m) (l := s.its) (fun x hx => by unfold bulkI bulkH; rw [(sI x hx).2.2.2]), sum_same (g := bulkO m) (l := s.outs) (fun x hx => by unfold bulkO; rw [(sO x hx).2.2.2])]
 have flat_same : ∀ {α : Type} {f g : α -> List UInt8} {l : List α}, (∀ x ∈ l, f x = g x) -> l.flatMap f = l.flatMap g := fun {α f g l} h => by
  rw [List.flatMap_def, List.flatMap_def, List.map_congr_left h]
 have el : lines m s = lines 6 s := by
  unfold lines;rw [flat_same (g := heldLine 6) (l := s.held) (fun x hx => by unfold heldLine heldText; rw [(sH x hx).2.2.1]), flat_same (g := itLine 6) (l := s.its) (fun x hx => by unfold itLine heldText; rw [(sI x hx).2.2.1]), flat_same (g := outLine 6) (l := s.outs) (fun x hx => by unfold outLine; rw [(sO x hx).2.2.1])]
 refine ⟨⟨fault_six (fun x hx => (lH x hx).1) (fun x hx => (lI x hx).1) lO hf, fun x hx => ?_, by rw [eb]; exact hb, ?_, h64⟩, by unfold text; rw [el]⟩
 ·unfold items at hx;rcases List.mem_append.1 hx with hx | hx
  ·rcases List.mem_append.1 hx with hx | hx
   ·rcases List.mem_cons.1 hx with rfl | hx
    ·exact ok.serial
    ·obtain ⟨y, hy, rfl⟩ := List.mem_map.1 hx;have k := ok.held y hy;have := few.held y hy;exact ⟨k.1, k.2.1, k.2.2.1, (lH y hy).2, (sH y hy).2.1, (sH y hy).1, by rw [(sH y hy).2.2.2]; exact this.2.2⟩
   ·obtain ⟨y, hy, rfl⟩ := List.mem_map.1 hx;have k := ok.its y hy;have h0 : V.bulk m y.h.v <= 2000000 := by
     have := X.sum_le (bulkI m) s.its y hy;unfold S.bulk at hb;unfold bulkI bulkH at this hb;omega
    exact ⟨k.1, k.2.1, k.2.2.1, (lI y hy).2, (sI y hy).2.1, (sI y hy).1, by rw [(sI y hy).2.2.2]; exact h0, k.2.2.2.2.2.1, k.2.2.2.2.2.2.1, k.2.2.2.2.2.2.2⟩
  ·obtain ⟨y, hy, rfl⟩ := List.mem_map.1 hx;have k := ok.outs y hy;have h0 : V.bulk m y.2 <= 2000000 := by
    have := X.sum_le (bulkO m) s.outs y hy;unfold S.bulk at hb;unfold bulkO at this hb;omega
   exact ⟨k.1, (sO y hy).2.1, (sO y hy).1, by rw [(sO y hy).2.2.2]; exact h0⟩
 ·unfold items;simp only [List.length_append, List.length_cons, List.length_map];have := ok.nHeld;have := ok.nIts;have := ok.nOuts;omega
end S
end Go.Proofs.YtcekcfjabhlheaaGreatDoor.Vx
