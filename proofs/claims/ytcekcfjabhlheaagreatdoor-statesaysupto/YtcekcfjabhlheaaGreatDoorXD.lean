/- StateSays: XA XB XC XD. -/
import Derived.Test.YtcekcfjabhlheaaGreatDoorVJ
set_option maxRecDepth 100000
set_option maxHeartbeats 3200000
namespace Go.Proofs.YtcekcfjabhlheaaGreatDoor.Vx
open Go.RowKit
structure Ex where
 kind : Int
 v : Val
 s : ByteArray
 t : ByteArray
 a : List Ex
 n : List ByteArray
namespace X
def RowA (w : World) (v : Value) (n : Nat) (P : Nat -> List Value -> Prop) : Prop := V.Row w v n 10 P /\ ∀ b off k cap, v = .slice (some ⟨b, off, none⟩) k cap -> n ≠ 0 -> ∃ cs, w.heap[b]? = some (.cells cs 170 (0, 0))
theorem RowA.shape {w : World} {v : Value} {n : Nat} {P : Nat -> List Value -> Prop} (h : RowA w v n P) : ∃ ao cap, v = .slice ao n cap := V.Row.shape h.1
theorem RowA.kept {w w' : World} {v : Value} {n : Nat} {P Q : Nat -> List Value -> Prop} (h : RowA w v n P) (hb : Below w.heap.size w w') (hPQ : ∀ i c, P i c -> Q i c) : RowA w' v n Q :=
 ⟨h.1.kept hb hPQ, fun b off k cap e hn => by
  obtain ⟨cs, hc⟩ := h.2 b off k cap e hn;exact ⟨cs, (hb.block b (blt hc)).trans hc⟩⟩
theorem RowA.zero (w : World) (P : Nat -> List Value -> Prop) : RowA w (.slice none 0 0) 0 P := ⟨⟨none, 0, rfl, .inl rfl⟩, fun _ _ _ _ _ h => absurd rfl h⟩
def Mem : Nat -> World -> Ex -> List Value -> Prop
 | 0, _, _, _ => False
 | m + 1, w, e, cs => ∃ c0 c1 c2 c3 c4 av nv, cs = [.int .i64 e.kind, c0, c1, c2, c3, c4, .string e.s, .string e.t, av, nv] /\ V.Mem (m + 1) w e.v [c0, c1, c2, c3, c4] /\
   RowA w av e.a.length (fun i c => ∃ x, e.a[i]? = some x /\ Mem m w x c) /\ V.Row w nv e.n.length 1 (fun i c => ∃ x, e.n[i]? = some x /\ c = [.string x])
theorem Mem.kept : ∀ (m : Nat) {w w' : World} {e : Ex} {cs : List Value}, Mem m w e cs -> Below w.heap.size w w' -> Mem m w' e cs
 | 0, _, _, _, _, h, _ => h.elim
 | m + 1, _, _, _, _, ⟨c0, c1, c2, c3, c4, av, nv, h1, h2, h3, h4⟩, hb =>
  ⟨c0, c1, c2, c3, c4, av, nv, h1, V.Mem.kept _ h2 hb, h3.kept hb (fun _ _ ⟨x, hx, hm⟩ => ⟨x, hx, Mem.kept m hm hb⟩), h4.kept hb (fun _ _ h => h)⟩
def sumA (g : Ex -> Nat) (l : List Ex) : Nat := (l.map g).sum
def sumN (l : List ByteArray) : Nat := (l.map ByteArray.size).sum
def bulk : Nat -> Ex -> Nat
 | 0, _ => 0
 | m + 1, e => 1 + e.s.size + e.t.size + V.bulk (m + 1) e.v + e.a.length + e.n.length + sumN e.n + sumA (bulk m) e.a
theorem sum_le {α : Type} (g : α -> Nat) (l : List α) (x : α) (h : x ∈ l) : g x <= (l.map g).sum := by
 induction l with
 | nil => simp at h
 | cons a t ih =>
  simp only [List.map_cons, List.sum_cons];rcases List.mem_cons.1 h with rfl | h
  ·omega
  ·have := ih h; omega
theorem bulk_a (m : Nat) (e : Ex) (x : Ex) (h : x ∈ e.a) (B : Nat) (hB : bulk (m + 1) e <= B) : bulk m x <= B := by
 have := sum_le (bulk m) e.a x h;rw [bulk] at hB;unfold sumA at hB;omega
theorem bulk_n (m : Nat) (e : Ex) (x : ByteArray) (h : x ∈ e.n) (B : Nat) (hB : bulk (m + 1) e <= B) : x.size <= B := by
 have := sum_le ByteArray.size e.n x h;rw [bulk] at hB;unfold sumN at hB;omega
theorem elemA {w : World} {v : Value} {n m : Nat} {l : List Ex} (h : RowA w v n (fun i c => ∃ x, l[i]? = some x /\ Mem m w x c)) (i : Nat) (hi : i < n) :
  ∃ b off cap x d0 d1 d2 d3 d4 d5 d6 d7 d8 d9, v = .slice (some ⟨b, off, none⟩) n cap /\ l[i]? = some x /\ Mem m w x [d0, d1, d2, d3, d4, d5, d6, d7, d8, d9] /\
   w.cell? ⟨b, off + i * 10, none⟩ = some d0 /\ w.cell? ⟨b, off + i * 10 + 1, none⟩ = some d1 /\ w.cell? ⟨b, off + i * 10 + 2, none⟩ = some d2 /\ w.cell? ⟨b, off + i * 10 + 3, none⟩ = some d3 /\ w.cell? ⟨b, off + i * 10 + 4, none⟩ = some d4 /\
   w.cell? ⟨b, off + i * 10 + 5, none⟩ = some d5 /\ w.cell? ⟨b, off + i * 10 + 6, none⟩ = some d6 /\ w.cell? ⟨b, off + i * 10 + 7, none⟩ = some d7 /\ w.cell? ⟨b, off + i * 10 + 8, none⟩ = some d8 /\ w.cell? ⟨b, off + i * 10 + 9, none⟩ = some d9 := by
 obtain ⟨ao, cap, rfl, hr | ⟨b, off, rfl, hr⟩⟩ := h.1
 ·omega
 ·obtain ⟨cs, h1, h2, x, hx, hm⟩ := hr i hi
  match cs, h1 with
  | [d0, d1, d2, d3, d4, d5, d6, d7, d8, d9], _ => exact ⟨b, off, cap, x, d0, d1, d2, d3, d4, d5, d6, d7, d8, d9, rfl, hx, hm, h2 0 (by omega), h2 1 (by omega), h2 2 (by omega), h2 3 (by omega), h2 4 (by omega), h2 5 (by omega), h2 6 (by omega), h2 7 (by omega), h2 8 (by omega), h2 9 (by omega)⟩
def room : Nat -> Ex -> Int -> Int -> Int
 | 0, _, _, r => r
 | m + 1, e, d, r => if 6 < d then -1 else e.a.foldl (fun r x => if 0 <= r then room m x (d + 1) r else r) (r - 1)
def roomTo (m : Nat) (e : Ex) (d r : Int) (k : Nat) : Int := (e.a.take k).foldl (fun r x => if 0 <= r then room m x (d + 1) r else r) (r - 1)
theorem roomTo_next {m : Nat} {e : Ex} {d r : Int} {k : Nat} {x : Ex} (h : e.a[k]? = some x) (h0 : 0 <= roomTo m e d r k) : roomTo m e d r (k + 1) = room m x (d + 1) (roomTo m e d r k) := by
 have h1 : e.a.take (k + 1) = e.a.take k ++ [x] := by rw [List.take_add_one, h]; rfl
 unfold roomTo at h0 ⊢;rw [h1, List.foldl_append, List.foldl_cons, List.foldl_nil, if_pos h0]
theorem fold_stop {m : Nat} {d : Int} : ∀ (l : List Ex) (r : Int), r < 0 -> l.foldl (fun r x => if 0 <= r then room m x (d + 1) r else r) r = r
 | [], _, _ => rfl
 | a :: t, r, h => by rw [List.foldl_cons, if_neg (by omega)]; exact fold_stop t r h
theorem roomTo_all {m : Nat} {e : Ex} {d r : Int} {k : Nat} (h : e.a.length <= k \/ roomTo m e d r k < 0) (hd : ¬ 6 < d) : room (m + 1) e d r = roomTo m e d r k := by
 rw [room, if_neg hd];rcases h with h | h
 ·unfold roomTo; rw [List.take_of_length_le h]
 ·have : e.a = e.a.take k ++ e.a.drop k := (List.take_append_drop k e.a).symm;unfold roomTo at h ⊢
  conv => lhs; rw [this]
  rw [List.foldl_append, fold_stop _ _ h]
theorem room_in : ∀ (m : Nat) (e : Ex) (d r : Int), 0 <= r -> -1 <= room m e d r /\ room m e d r <= r
 | 0, _, _, r, h => ⟨by unfold room; omega, Int.le_refl _⟩
 | m + 1, e, d, r, h => by
  rw [room];split
  ·omega
  ·have key : ∀ (l : List Ex) (q : Int), -1 <= q -> q <= r -> -1 <= l.foldl (fun r x => if 0 <= r then room m x (d + 1) r else r) q /\ l.foldl (fun r x => if 0 <= r then room m x (d + 1) r else r) q <= r := by
    intro l;induction l with
    | nil => intro q h1 h2; exact ⟨h1, h2⟩
    | cons a t ih =>
     intro q h1 h2;rw [List.foldl_cons];by_cases hq : 0 <= q
     ·rw [if_pos hq];have := room_in m a (d + 1) q hq;exact ih _ (by omega) (by omega)
     ·rw [if_neg hq]; exact ih _ h1 h2
   exact key e.a (r - 1) (by omega) (by omega)
theorem roomTo_in (m : Nat) (e : Ex) (d r : Int) (k : Nat) (h : 0 <= r) : -1 <= roomTo m e d r k /\ roomTo m e d r k <= r := by
 have h1 := room_in (m + 1) ⟨e.kind, e.v, e.s, e.t, e.a.take k, e.n⟩ 0 r h;have key : ∀ (l : List Ex) (q : Int), -1 <= q -> q <= r -> -1 <= l.foldl (fun r x => if 0 <= r then room m x (d + 1) r else r) q /\ l.foldl (fun r x => if 0 <= r then room m x (d + 1) r else r) q <= r := by
  intro l;induction l with
  | nil => intro q h1 h2; exact ⟨h1, h2⟩
  | cons a t ih =>
   intro q h1 h2;rw [List.foldl_cons];by_cases hq : 0 <= q
   ·rw [if_pos hq];have := room_in m a (d + 1) q hq;exact ih _ (by omega) (by omega)
   ·rw [if_neg hq]; exact ih _ h1 h2
 exact key _ (r - 1) (by omega) (by omega)
end X
theorem xroom_any (m : Nat) : ∀ (w : World) (e : Ex) (d r : Int) (d0 d1 d2 d3 d4 d5 d6 d7 d8 d9 : Value), X.Mem m w e [d0, d1, d2, d3, d4, d5, d6, d7, d8, d9] -> X.bulk m e <= 2000000 -> 0 <= d -> d <= 10 -> 0 <= r -> r <= 100 ->
  Calls Tryz.prog 182 #[.agg #[d0, d1, d2, d3, d4, d5, d6, d7, d8, d9], .int .i64 d, .int .i64 r] w fun o w' => o = .returned (.int .i64 (X.room m e d r)) /\ Below w.heap.size w w' := by
 induction m with
 | zero => intro w e d r d0 d1 d2 d3 d4 d5 d6 d7 d8 d9 h; exact h.elim
 | succ m ih =>
  intro w e d r d0 d1 d2 d3 d4 d5 d6 d7 d8 d9 ⟨c0, c1, c2, c3, c4, av, nv, hcs, hv, ha, hn⟩ hbk hd1 hd2 hr1 hr2;simp only [List.cons.injEq, and_true] at hcs;obtain ⟨rfl, rfl, rfl, rfl, rfl, rfl, rfl, rfl, rfl, rfl⟩ := hcs;obtain ⟨aa, ca, rfl⟩ := ha.shape;obtain ⟨an, cn, rfl⟩ := hn.shape;have IH : Hid _ := ih;have hal : e.a.length <= 2000000 := by rw [X.bulk] at hbk; omega
  have hbL : Below w.heap.size w (w.alloc (.cells #[.int .i64 e.kind, d1, d2, d3, d4, d5, .string e.s, .string e.t, .slice aa e.a.length ca, .slice an e.n.length cn] 170)) := ba;have hblk0 := heap_alloc_new w (.cells #[.int .i64 e.kind, d1, d2, d3, d4, d5, .string e.s, .string e.t, .slice aa e.a.length ca, .slice an e.n.length cn] 170);obtain ⟨HBL, HBK0, HBK, HA⟩ := hd4 hbL hblk0 hbk ha;clear ih hbL hblk0 hbk ha hn hv;by_cases hd : 6 < d
  ·have E : Hid (X.room (m + 1) e d r = -1) := by show _ = _; rw [X.room, if_pos hd]
   go_enter Tryz.func182, Tryz.ntmps182;go_wp2_with fail;go_ret;exact ⟨ret_int E.out.symm, HBL.out⟩
  ·go_enter Tryz.func182, Tryz.ntmps182;go_wp2_with fail;go_loopw [7, 2] (fun vi vr wr => ∃ k : Nat, k <= e.a.length /\ vi = .int .i64 k /\ vr = .int .i64 (X.roomTo m e d r k) /\
     wr.heap[w.heap.size]? = some (.cells #[.int .i64 e.kind, d1, d2, d3, d4, d5, .string e.s, .string e.t, .slice aa e.a.length ca, .slice an e.n.length cn] 170 (0, 0)) /\ Below w.heap.size w wr)
    (fun vi _ _ => e.a.length - (intOf vi).toNat)
   case atStart => exact ⟨0, Nat.zero_le _, rfl, by unfold X.roomTo; simp, HBK0.out, HBL.out⟩
   case round =>
    clear HBK0 HBL;obtain ⟨k, hk, rfl, rfl, hblk, hB⟩ := hrel;have b8 := cell_of_block hblk 8 _ rfl;have hri := X.roomTo_in m e d r k hr1;by_cases hgo : k < e.a.length /\ 0 <= X.roomTo m e d r k
    ·obtain ⟨hlt, hge⟩ := hgo;obtain ⟨b, off, cap, x, f0, f1, f2, f3, f4, f5, f6, f7, f8, f9, e1, hx, hm, y0, y1, y2, y3, y4, y5, y6, y7, y8, y9⟩ := X.elemA (HA.out.kept hB (fun _ _ ⟨x, hx, hm⟩ => ⟨x, hx, X.Mem.kept m hm hB⟩)) k hlt;obtain ⟨rfl, _, rfl⟩ := Value.slice.inj e1;have hnx := X.roomTo_next (r := r) (d := d) hx hge;have hI := IH.out wr x (d + 1) (X.roomTo m e d r k) f0 f1 f2 f3 f4 f5 f6 f7 f8 f9 hm (X.bulk_a m e x (List.mem_of_getElem? hx) _ HBK.out) (by omega) (by omega) hge (by omega);rw [<- hnx] at hI;obtain ⟨HI, HBB, HBLK⟩ := hd3 hI hB hblk;have hlt2 := blt hblk;clear hI hnx hm hx hB hblk;generalize X.roomTo m e d r k = R0 at *;go_wp2_with (go_at_call 182; refine Calls.mono HI.out ?_; rintro o w3 ⟨rfl, hb3⟩);go_roundw
     case rel => exact ⟨k + 1, by omega, by go_num, rfl, (hb3.block w.heap.size hlt2).trans HBLK.out, HBB.out.trans (hb3.mono HBB.out.size)⟩
     case measure => simp [intOf]; omega
    ·have E := hide (X.roomTo_all (m := m) (e := e) (d := d) (r := r) (k := k) (by omega) (by omega));have HB := hide hB;clear hB hblk;have hcase : ¬ k < e.a.length \/ (k < e.a.length /\ X.roomTo m e d r k < 0) := by omega
     generalize X.roomTo m e d r k = R0 at *;clear hgo;rcases hcase with h1 | ⟨h1, h2⟩
     ·go_wp2_with fail;go_ret;exact ⟨ret_int E.out.symm, HB.out⟩
     ·go_wp2_with fail;go_ret;exact ⟨ret_int E.out.symm, HB.out⟩
namespace X
def pairs (l : List ByteArray) : List (ByteArray × Val) := l.map (fun s => (s, V.zero))
theorem pairs_length (l : List ByteArray) : (pairs l).length = l.length := by simp [pairs]
theorem pairs_get {l : List ByteArray} {i : Nat} {s : ByteArray} (h : l[i]? = some s) : (pairs l)[i]? = some (s, V.zero) := by rw [pairs, List.getElem?_map, h]; rfl
theorem elemN {w : World} {v : Value} {n : Nat} {l : List ByteArray} (h : V.Row w v n 1 (fun i c => ∃ x, l[i]? = some x /\ c = [.string x])) (i : Nat) (hi : i < n) :
  ∃ b off cap x, v = .slice (some ⟨b, off, none⟩) n cap /\ l[i]? = some x /\ w.cell? ⟨b, off + i, none⟩ = some (.string x) := by
 obtain ⟨ao, cap, rfl, h | ⟨b, off, rfl, h⟩⟩ := h
 ·omega
 ·obtain ⟨cs, h1, h2, x, hx, rfl⟩ := h i hi;have := h2 0 (by omega);rw [Nat.mul_one, Nat.add_zero] at this;exact ⟨b, off, cap, x, rfl, hx, this⟩
end X
theorem xnamesRise_any (w : World) (nv : Value) (l : List ByteArray) (hf : V.Row w nv l.length 1 (fun i c => ∃ x, l[i]? = some x /\ c = [.string x]))
  (hn : ∀ x ∈ l, x.size <= 2000000) (hlen : l.length <= 2000000) :
  Calls Tryz.prog 221 #[nv] w fun e w' => e = .returned (.bool (V.rise (X.pairs l))) /\ ∃ n, w' = w.drewN n := by
 obtain ⟨af, cf, rfl⟩ := hf.shape;have HF : Hid _ := hf;have HN : Hid _ := hn;clear hf hn;go_enter Tryz.func221, Tryz.ntmps221;go_wp2_with fail;go_loopw [6, 3] (fun i _ wr => ∃ k : Nat, k <= l.length /\ i = .int .i64 k /\ (∀ j, j < k -> V.okAt (X.pairs l) j = true) /\ ∃ n, wr = w.drewN n) (fun i _ _ => l.length - (intOf i).toNat)
 case atStart => exact ⟨0, Nat.zero_le _, rfl, fun j hj => absurd hj (by omega), 0, rfl⟩
 case round =>
  obtain ⟨k, hk, rfl, hok, n0, hW⟩ := hrel;have HW : Hid _ := hW;have hcw : ∀ p, wr.cell? p = w.cell? p := fun p => by rw [hW]; rfl
  have HCW : Hid _ := hcw;clear hW hcw;have HOK : Hid _ := hok;clear hok;by_cases hlt : k < l.length
  ·obtain ⟨b, off, cap, x, e1, hx, yn⟩ := X.elemN HF.out k hlt;obtain ⟨rfl, _, rfl⟩ := Value.slice.inj e1;have hxs := HN.out x (List.mem_of_getElem? hx);have hlt' : k < (X.pairs l).length := by rw [X.pairs_length]; exact hlt
   have hxp := X.pairs_get hx;rw [<- HCW.out] at yn;have hn1 : x.size <= maxLen := by unfold maxLen; omega
   have HNC : Hid _ := fun w => name_any x w hn1
   cases hnm : V.name (V.bl x) <;> rw [hnm] at HNC
   ·have E : Hid (V.rise (X.pairs l) = false) := V.rise_false _ k hlt' (by rw [V.okAt, hxp]; simp [hnm]);clear hx hxp hlt';go_wp2_with fail;go_quiet ((go_at_call 21; exact Calls.quiet_of_same (HNC.out _)));go_wp2_with fail;go_ret;exact ⟨ret_bool E.out.symm, by rw [HW.out]; exact drewN_some _ _ _⟩
   ·by_cases hk0 : k = 0
    ·have hok : V.okAt (X.pairs l) k = true := by subst hk0; rw [V.okAt_zero _ _ hxp]; exact hnm
     have HOK2 : Hid _ := hok;clear hx hok hxp hlt';subst hk0;simp only [Nat.add_zero] at yn;go_wp2_with fail;go_quiet ((go_at_call 21; exact Calls.quiet_of_same (HNC.out _)));go_wp2_with fail;go_roundw
     case rel => exact ⟨1, by omega, by go_num, fun j hj => by rw [show j = 0 by omega]; exact HOK2.out, by rw [HW.out]; exact drewN_some _ _ _⟩
     case measure => simp [intOf]; omega
    ·obtain ⟨k', rfl⟩ : ∃ k', k = k' + 1 := ⟨k - 1, by omega⟩
     obtain ⟨b', off', cap', y, e1, hy, zn⟩ := X.elemN HF.out k' (by omega);simp only [Value.slice.injEq, Option.some.injEq, Addr.mk.injEq] at e1;obtain ⟨⟨rfl, rfl, _⟩, _, rfl⟩ := e1;rw [<- HCW.out] at zn;have hoe := V.okAt_succ (X.pairs l) k' (x, V.zero) (y, V.zero) hxp (X.pairs_get hy);have gk : decide (0 < ((k' + 1 : Nat) : Int)) = true := decide_eq_true (by omega);rw [hnm, Bool.true_and] at hoe;have hfl := less_flip (V.bl x) (V.bl y);clear hk0 hx hy hxp;cases hls : Op.bytesLess (V.bl y) (V.bl x)
     ·have E : Hid (V.rise (X.pairs l) = false) := V.rise_false _ (k' + 1) hlt' (by rw [hoe, hls]);rw [hls, <- V.toList_bl, <- V.toList_bl] at hfl;clear hls hoe hlt';go_wp2_with fail;go_quiet ((go_at_call 21; exact Calls.quiet_of_same (HNC.out _)));go_wp2_with fail;go_ret;exact ⟨ret_bool E.out.symm, by rw [HW.out]; exact drewN_some _ _ _⟩
     ·rw [hls] at hoe;have HOK2 : Hid _ := hoe;rw [hls, <- V.toList_bl, <- V.toList_bl] at hfl;clear hls hoe hlt';go_wp2_with fail;go_quiet ((go_at_call 21; exact Calls.quiet_of_same (HNC.out _)));go_wp2_with fail;go_roundw
      case rel => exact ⟨k' + 1 + 1, by omega, by go_num, fun j hj => by rcases Nat.lt_or_ge j (k' + 1) with h | h; exact HOK.out j h; rw [show j = k' + 1 by omega]; exact HOK2.out, by rw [HW.out]; exact drewN_some _ _ _⟩
      case measure => simp [intOf]; omega
  ·have E : Hid (V.rise (X.pairs l) = true) := V.rise_true _ (fun j hj => HOK.out j (by rw [X.pairs_length] at hj; omega));go_wp2_with fail;go_ret;exact ⟨ret_bool E.out.symm, _, HW.out⟩
namespace X
def plain (m : Nat) (v : Val) : Bool := decide (v.kind ≠ 4 /\ v.kind ≠ 5 /\ V.fault m v = 0)
end X
theorem plain_any (m : Nat) (w : World) (v : Val) (c0 c1 c2 c3 c4 : Value) (h : V.Mem (m + 1) w v [c0, c1, c2, c3, c4]) (hbk : V.bulk (m + 1) v <= 2000000) :
  Calls Tryz.prog 220 #[.agg #[c0, c1, c2, c3, c4]] w fun e w' => e = .returned (.bool (X.plain (m + 1) v)) /\ Below w.heap.size w w' := by
 obtain ⟨lv, fv, hcs, hl, hf⟩ := id h;obtain ⟨rfl, rfl, rfl, rfl, rfl⟩ := ij5 hcs;have hbL : Below w.heap.size w (w.alloc (.cells #[.int .i64 v.kind, .int .i64 v.n, .string v.s, c3, c4] 61)) := ba;have hc := check_any (m + 1) _ v _ _ _ _ _ (V.Mem.kept _ h hbL) hbk;obtain ⟨HC, HBL⟩ := hd2 hc hbL;clear hc hbL h hl hf hbk;by_cases h4 : v.kind = 4
 ·have E : Hid (X.plain (m + 1) v = false) := by show _ = _; unfold X.plain; rw [decide_eq_false (by omega)]
  go_enter Tryz.func220, Tryz.ntmps220;go_wp2_with fail;go_ret;exact ⟨ret_bool E.out.symm, ba⟩
 by_cases h5 : v.kind = 5
 ·have E : Hid (X.plain (m + 1) v = false) := by show _ = _; unfold X.plain; rw [decide_eq_false (by omega)]
  go_enter Tryz.func220, Tryz.ntmps220;go_wp2_with fail;go_ret;exact ⟨ret_bool E.out.symm, ba⟩
 by_cases hF : V.fault (m + 1) v = 0
 ·have E : Hid (X.plain (m + 1) v = true) := by show _ = _; unfold X.plain; rw [decide_eq_true ⟨h4, h5, hF⟩]
  rw [hF] at HC;go_enter Tryz.func220, Tryz.ntmps220;go_wp2_with (go_at_call 69; refine HC.out.mono ?_; rintro e w1 ⟨rfl, hb1⟩; rw [V.errOf, if_pos rfl]);go_ret;exact ⟨ret_bool (by rw [E.out]; simp [h4, h5]), HBL.out.trans (hb1.mono HBL.out.size)⟩
 ·have E : Hid (X.plain (m + 1) v = false) := by show _ = _; unfold X.plain; rw [decide_eq_false (fun h => hF h.2.2)]
  go_enter Tryz.func220, Tryz.ntmps220;go_wp2_with (go_at_call 69; refine HC.out.mono ?_; rintro e w1 ⟨rfl, hb1⟩; rw [V.errOf, if_neg hF]);go_ret;exact ⟨ret_bool E.out.symm, HBL.out.trans (hb1.mono HBL.out.size)⟩
theorem lt_alloc (w : World) (o : Obj) : w.heap.size < (w.alloc o).heap.size := by simp
namespace X
theorem bulk_zero (m : Nat) : V.bulk (m + 1) V.zero = 1 := by rw [V.bulk]; rfl
def spare (sm : Val -> Val -> Bool) (e : Ex) : Bool :=
 decide ((e.kind = 1 \/ sm e.v V.zero = true) /\ (e.s.toList = [] \/ e.kind = 3 \/ e.kind = 4 \/ e.kind = 2 \/ e.kind = 10) /\ (e.t.toList = [] \/ e.kind = 3 \/ e.kind = 4) /\ (e.n.length = 0 \/ e.kind = 9))
end X
theorem xspare_any (sm : Val -> Val -> Bool) (hsm : V.Says sm) (m : Nat) (w : World) (e : Ex) (c0 c1 c2 c3 c4 : Value) (aa an : Option Addr) (ca cn : Nat) (hv : V.Mem (m + 1) w e.v [c0, c1, c2, c3, c4]) (hbk : V.bulk (m + 1) e.v <= 2000000) :
  Calls Tryz.prog 206 #[.agg #[.int .i64 e.kind, c0, c1, c2, c3, c4, .string e.s, .string e.t, .slice aa e.a.length ca, .slice an e.n.length cn]] w fun o w' => o = .returned (.bool (X.spare sm e)) /\ Below w.heap.size w w' := by
 have hal := fun (k : Int) => alike_any sm hsm m (w.alloc (.cells #[.int .i64 k, c0, c1, c2, c3, c4, .string e.s, .string e.t, .slice aa e.a.length ca, .slice an e.n.length cn] 170)) e.v V.zero c0 c1 c2 c3 c4 _ _ _ _ _ (V.Mem.kept _ hv (ba)) (V.Mem.zero m _) hbk (by rw [X.bulk_zero]; decide)
 obtain ⟨lv, fv, hcs, hl, hf⟩ := id hv;obtain ⟨rfl, rfl, rfl, rfl, rfl⟩ := ij5 hcs;have hE : X.spare sm e = decide ((e.kind = 1 \/ sm e.v V.zero = true) /\ (e.s.toList = [] \/ e.kind = 3 \/ e.kind = 4 \/ e.kind = 2 \/ e.kind = 10) /\ (e.t.toList = [] \/ e.kind = 3 \/ e.kind = 4) /\ (e.n.length = 0 \/ e.kind = 9)) := rfl;generalize X.spare sm e = R at *;generalize sm e.v V.zero = A at *;have HAL := hide hal;clear hal hv hl hf hbk hsm;generalize e.kind = k at *;generalize e.n.length = nl at *;generalize e.a.length = nA at *;have HE := hide hE;clear hE;have hk : k = 1 \/ k = 2 \/ k = 3 \/ k = 4 \/ k = 9 \/ k = 10 \/ (k ≠ 1 /\ k ≠ 2 /\ k ≠ 3 /\ k ≠ 4 /\ k ≠ 9 /\ k ≠ 10) := by omega
 rcases hk with rfl | rfl | rfl | rfl | rfl | rfl | ⟨k1, k2, k3, k4, k9, k10⟩
 all_goals
  cases A
  all_goals
   go_enter Tryz.func206, Tryz.ntmps206;go_wp2_with (go_at_call 190; refine (HAL.out _).mono ?_; rintro o w1 ⟨rfl, hb1⟩; have hblk1 := (hb1.block w.heap.size (lt_alloc w _)).trans (heap_alloc_new w _); have g0 := cell_of_block hblk1 0 _ rfl; have g6 := cell_of_block hblk1 6 _ rfl; have g7 := cell_of_block hblk1 7 _ rfl; have g9 := cell_of_block hblk1 9 _ rfl; clear hblk1)
   all_goals go_ret
   all_goals refine ⟨ret_bool ?_, by first | exact ba | exact ((Below.refl _ w).alloc (Nat.le_refl _) _).trans (hb1.mono (by simp))⟩
   all_goals rw [HE.out]
   all_goals clear HE HAL
   all_goals try clear hb1 g0 g6 g7 g9
   all_goals rw [Bool.eq_iff_iff]
   all_goals simp_all
namespace X
def fits (m : Nat) (e : Ex) : Bool :=
 decide ((e.kind = 1 /\ plain (m + 1) e.v = true /\ e.a.length = 0) \/ (e.kind = 2 /\ V.name (V.bl e.s) = true /\ e.a.length = 0) \/ ((e.kind = 3 \/ e.kind = 4) /\ V.name (V.bl e.s) = true /\ V.name (V.bl e.t) = true /\ e.a.length = 0) \/
  ((e.kind = 5 \/ e.kind = 6) /\ e.a.length = 2) \/ (e.kind = 7 /\ e.a.length = 3) \/ e.kind = 8 \/ (e.kind = 9 /\ e.a.length = e.n.length /\ V.rise (pairs e.n) = true) \/ (e.kind = 10 /\ V.name (V.bl e.s) = true /\ e.a.length = 1))
end X
theorem xfits_any (m : Nat) (w : World) (e : Ex) (c0 c1 c2 c3 c4 : Value) (aa an : Option Addr) (ca cn : Nat) (hv : V.Mem (m + 1) w e.v [c0, c1, c2, c3, c4]) (hbk : V.bulk (m + 1) e.v <= 2000000)
  (hn : V.Row w (.slice an e.n.length cn) e.n.length 1 (fun i c => ∃ x, e.n[i]? = some x /\ c = [.string x])) (hns : ∀ x ∈ e.n, x.size <= 2000000) (hnl : e.n.length <= 2000000) (hss : e.s.size <= 2000000) (hts : e.t.size <= 2000000) :
  Calls Tryz.prog 207 #[.agg #[.int .i64 e.kind, c0, c1, c2, c3, c4, .string e.s, .string e.t, .slice aa e.a.length ca, .slice an e.n.length cn]] w fun o w' => o = .returned (.bool (X.fits m e)) /\ Below w.heap.size w w' := by
 have hb0 := fun (k : Int) => (Below.refl w.heap.size w).alloc (Nat.le_refl _) (.cells #[.int .i64 k, c0, c1, c2, c3, c4, .string e.s, .string e.t, .slice aa e.a.length ca, .slice an e.n.length cn] 170)
 have hpl := fun (k : Int) => plain_any m (w.alloc (.cells #[.int .i64 k, c0, c1, c2, c3, c4, .string e.s, .string e.t, .slice aa e.a.length ca, .slice an e.n.length cn] 170)) e.v c0 c1 c2 c3 c4 (V.Mem.kept _ hv (hb0 k)) hbk
 have hnr := fun (k : Int) => xnamesRise_any (w.alloc (.cells #[.int .i64 k, c0, c1, c2, c3, c4, .string e.s, .string e.t, .slice aa e.a.length ca, .slice an e.n.length cn] 170)) (.slice an e.n.length cn) e.n (hn.kept (hb0 k) (fun _ _ h => h)) hns hnl
 have hm1 : e.s.size <= maxLen := by unfold maxLen; omega
 have hm2 : e.t.size <= maxLen := by unfold maxLen; omega
 have hN1 := fun w => name_any e.s w hm1
 have hN2 := fun w => name_any e.t w hm2
 obtain ⟨lv, fv, hcs, hl, hf⟩ := id hv;obtain ⟨rfl, rfl, rfl, rfl, rfl⟩ := ij5 hcs;have hE : X.fits m e = decide ((e.kind = 1 /\ X.plain (m + 1) e.v = true /\ e.a.length = 0) \/ (e.kind = 2 /\ V.name (V.bl e.s) = true /\ e.a.length = 0) \/ ((e.kind = 3 \/ e.kind = 4) /\ V.name (V.bl e.s) = true /\ V.name (V.bl e.t) = true /\ e.a.length = 0) \/
  ((e.kind = 5 \/ e.kind = 6) /\ e.a.length = 2) \/ (e.kind = 7 /\ e.a.length = 3) \/ e.kind = 8 \/ (e.kind = 9 /\ e.a.length = e.n.length /\ V.rise (X.pairs e.n) = true) \/ (e.kind = 10 /\ V.name (V.bl e.s) = true /\ e.a.length = 1)) := rfl
 generalize X.fits m e = R at *;generalize X.plain (m + 1) e.v = PL at *;generalize V.rise (X.pairs e.n) = RI at *;generalize V.name (V.bl e.s) = NS at *;generalize V.name (V.bl e.t) = NT at *;obtain ⟨HPL, HNR, HN1, HN2, HE⟩ := hd5 hpl hnr hN1 hN2 hE;clear hpl hnr hN1 hN2 hE hv hl hf hbk hn hns hb0 hm1 hm2 hss hts;generalize e.kind = k at *;generalize e.n.length = nl at *;generalize e.a.length = nA at *;have hk : k = 1 \/ k = 2 \/ k = 3 \/ k = 4 \/ k = 5 \/ k = 6 \/ k = 7 \/ k = 8 \/ k = 9 \/ k = 10 \/ (k ≠ 1 /\ k ≠ 2 /\ k ≠ 3 /\ k ≠ 4 /\ k ≠ 5 /\ k ≠ 6 /\ k ≠ 7 /\ k ≠ 8 /\ k ≠ 9 /\ k ≠ 10) := by omega
 rcases hk with rfl | rfl | rfl | rfl | rfl | rfl | rfl | rfl | rfl | rfl | ⟨k1, k2, k3, k4, k5, k6, k7, k8, k9, k10⟩
 ·cases PL
  all_goals
   go_enter Tryz.func207, Tryz.ntmps207;go_wp2_with (go_at_call 220; refine (HPL.out _).mono ?_; rintro o w1 ⟨rfl, hb1⟩; have hblk1 := (hb1.block w.heap.size (lt_alloc w _)).trans (heap_alloc_new w _); have g8 := cell_of_block hblk1 8 _ rfl; clear hblk1)
   all_goals go_ret
   all_goals refine ⟨ret_bool ?_, ((Below.refl _ w).alloc (Nat.le_refl _) _).trans (hb1.mono (by simp))⟩
   all_goals rw [HE.out]
   all_goals simp
   all_goals try (rw [Bool.eq_iff_iff, beq_iff_eq, decide_eq_true_eq]; omega)
 ·cases NS
  all_goals
   go_enter Tryz.func207, Tryz.ntmps207;go_wp2_with (go_at_call 21; refine (HN1.out _).mono ?_; rintro o w1 ⟨rfl, hw⟩; rw [hw]; clear hw w1)
   all_goals go_ret
   all_goals refine ⟨ret_bool ?_, ba⟩
   all_goals rw [HE.out]
   all_goals simp
   all_goals try (rw [Bool.eq_iff_iff, beq_iff_eq, decide_eq_true_eq]; omega)
 ·cases NS
  all_goals cases NT
  all_goals
   go_enter Tryz.func207, Tryz.ntmps207;go_wp2_with (first | (go_at_call 21; with_reducible refine (HN1.out _).mono ?_; rintro o w1 ⟨rfl, hw⟩; rw [hw]; clear hw w1) | (go_at_call 21; with_reducible refine (HN2.out _).mono ?_; rintro o w1 ⟨rfl, hw⟩; rw [hw]; clear hw w1))
   all_goals go_ret
   all_goals refine ⟨ret_bool ?_, ba⟩
   all_goals rw [HE.out]
   all_goals simp
   all_goals try (rw [Bool.eq_iff_iff, beq_iff_eq, decide_eq_true_eq]; omega)
 ·cases NS
  all_goals cases NT
  all_goals
   go_enter Tryz.func207, Tryz.ntmps207;go_wp2_with (first | (go_at_call 21; with_reducible refine (HN1.out _).mono ?_; rintro o w1 ⟨rfl, hw⟩; rw [hw]; clear hw w1) | (go_at_call 21; with_reducible refine (HN2.out _).mono ?_; rintro o w1 ⟨rfl, hw⟩; rw [hw]; clear hw w1))
   all_goals go_ret
   all_goals refine ⟨ret_bool ?_, ba⟩
   all_goals rw [HE.out]
   all_goals simp
   all_goals try (rw [Bool.eq_iff_iff, beq_iff_eq, decide_eq_true_eq]; omega)
 ·go_enter Tryz.func207, Tryz.ntmps207;go_wp2_with fail
  all_goals go_ret
  all_goals refine ⟨ret_bool ?_, ba⟩
  all_goals rw [HE.out]
  all_goals simp
  all_goals try (rw [Bool.eq_iff_iff, beq_iff_eq, decide_eq_true_eq]; omega)
 ·go_enter Tryz.func207, Tryz.ntmps207;go_wp2_with fail
  all_goals go_ret
  all_goals refine ⟨ret_bool ?_, ba⟩
  all_goals rw [HE.out]
  all_goals simp
  all_goals try (rw [Bool.eq_iff_iff, beq_iff_eq, decide_eq_true_eq]; omega)
 ·go_enter Tryz.func207, Tryz.ntmps207;go_wp2_with fail
  all_goals go_ret
  all_goals refine ⟨ret_bool ?_, ba⟩
  all_goals rw [HE.out]
  all_goals simp
  all_goals try (rw [Bool.eq_iff_iff, beq_iff_eq, decide_eq_true_eq]; omega)
 ·go_enter Tryz.func207, Tryz.ntmps207;go_wp2_with fail
  all_goals go_ret
  all_goals refine ⟨ret_bool ?_, ba⟩
  all_goals rw [HE.out]
  all_goals simp
 ·cases RI
  all_goals
   go_enter Tryz.func207, Tryz.ntmps207;go_wp2_with (go_at_call 221; refine (HNR.out _).mono ?_; rintro o w1 ⟨rfl, n1, rfl⟩)
   all_goals go_ret
   all_goals refine ⟨ret_bool ?_, by first | exact ba | exact below_drewN (ba) _⟩
   all_goals rw [HE.out]
   all_goals simp
   all_goals try (first | omega | (rw [Bool.eq_iff_iff, beq_iff_eq, decide_eq_true_eq]; omega))
 ·cases NS
  all_goals
   go_enter Tryz.func207, Tryz.ntmps207;go_wp2_with (go_at_call 21; refine (HN1.out _).mono ?_; rintro o w1 ⟨rfl, hw⟩; rw [hw]; clear hw w1)
   all_goals go_ret
   all_goals refine ⟨ret_bool ?_, ba⟩
   all_goals rw [HE.out]
   all_goals simp
   all_goals try (rw [Bool.eq_iff_iff, beq_iff_eq, decide_eq_true_eq]; omega)
 ·go_enter Tryz.func207, Tryz.ntmps207;go_wp2_with fail
  all_goals go_ret
  all_goals refine ⟨ret_bool ?_, ba⟩
  all_goals rw [HE.out]
  all_goals simp [k1, k2, k3, k4, k5, k6, k7, k8, k9, k10]
namespace X
def shaped (sm : Val -> Val -> Bool) : Nat -> Ex -> Bool
 | 0, _ => true
 | m + 1, e => spare sm e && fits m e && e.a.all (shaped sm m)
def fault (sm : Val -> Val -> Bool) (m : Nat) (e : Ex) : Nat := if room m e 1 60 < 0 then 2 else if shaped sm m e then 0 else 3
theorem errOf_zero : V.errOf 0 = .nilIface := rfl
end X
theorem xshaped_any (sm : Val -> Val -> Bool) (hsm : V.Says sm) (m : Nat) : ∀ (w : World) (e : Ex) (d0 d1 d2 d3 d4 d5 d6 d7 d8 d9 : Value), X.Mem m w e [d0, d1, d2, d3, d4, d5, d6, d7, d8, d9] -> X.bulk m e <= 2000000 ->
  Calls Tryz.prog 183 #[.agg #[d0, d1, d2, d3, d4, d5, d6, d7, d8, d9]] w fun o w' => o = .returned (.bool (X.shaped sm m e)) /\ Below w.heap.size w w' := by
 induction m with
 | zero => intro w e d0 d1 d2 d3 d4 d5 d6 d7 d8 d9 h; exact h.elim
 | succ m ih =>
  intro w e d0 d1 d2 d3 d4 d5 d6 d7 d8 d9 ⟨c0, c1, c2, c3, c4, av, nv, hcs, hv, ha, hn⟩ hbk;simp only [List.cons.injEq, and_true] at hcs;obtain ⟨rfl, rfl, rfl, rfl, rfl, rfl, rfl, rfl, rfl, rfl⟩ := hcs;obtain ⟨aa, ca, rfl⟩ := ha.shape;obtain ⟨an, cn, rfl⟩ := hn.shape;have IH : Hid _ := ih;have hbe := hbk;rw [X.bulk] at hbe;have hbL : Below w.heap.size w (w.alloc (.cells #[.int .i64 e.kind, d1, d2, d3, d4, d5, .string e.s, .string e.t, .slice aa e.a.length ca, .slice an e.n.length cn] 170)) := ba;have hblk0 := heap_alloc_new w (.cells #[.int .i64 e.kind, d1, d2, d3, d4, d5, .string e.s, .string e.t, .slice aa e.a.length ca, .slice an e.n.length cn] 170);have HSP := hide (xspare_any sm hsm m _ e d1 d2 d3 d4 d5 aa an ca cn (V.Mem.kept _ hv hbL) (by omega));have HFI := hide (fun w' (hB : Below w.heap.size w w') => xfits_any m w' e d1 d2 d3 d4 d5 aa an ca cn (V.Mem.kept _ hv hB) (by omega) (hn.kept hB (fun _ _ h => h)) (fun x hx => X.bulk_n m e x hx _ hbk) (by omega) (by omega) (by omega));have hE : X.shaped sm (m + 1) e = (X.spare sm e && X.fits m e && e.a.all (X.shaped sm m)) := by rw [X.shaped]
  generalize X.spare sm e = sp at *;generalize X.fits m e = ft at *;have hal : e.a.length <= 2000000 := by omega
  obtain ⟨HBK, HA⟩ := hd2 hbk ha;clear ih hbk hbe ha hn hv;go_enter Tryz.func183, Tryz.ntmps183;go_wp2_with fail;refine HSP.out.mono ?_;rintro o w1 ⟨rfl, hb1⟩;have hlt1 := blt hblk0;have hblk1 := (hb1.block w.heap.size hlt1).trans hblk0;have hB1 := hbL.trans (hb1.mono hbL.size);clear hb1 hbL hblk0 hlt1 HSP;obtain ⟨b0, b1, b2, b3, b4, b5, b6, b7, b8, b9⟩ := cl10 hblk1;cases sp
  ·have E : Hid (X.shaped sm (m + 1) e = false) := by show _ = _; rw [hE]; rfl
   clear hE;go_wp2_with fail;go_ret;exact ⟨ret_bool E.out.symm, hB1⟩
  go_wp2_with fail;refine (HFI.out _ hB1).mono ?_;rintro o w2 ⟨rfl, hb2⟩;have hblk2 := (hb2.block w.heap.size (blt hblk1)).trans hblk1;have hB2 := hB1.trans (hb2.mono hB1.size);clear hb2 hB1 hblk1 b0 b1 b2 b3 b4 b5 b6 b7 b8 b9 HFI;have b8 := cell_of_block hblk2 8 _ rfl;cases ft
  ·have E : Hid (X.shaped sm (m + 1) e = false) := by show _ = _; rw [hE]; rfl
   clear hE;go_wp2_with fail;go_ret;exact ⟨ret_bool E.out.symm, hB2⟩
  have HE : Hid (X.shaped sm (m + 1) e = e.a.all (X.shaped sm m)) := by show _ = _; rw [hE]; rfl
  clear hE;go_wp2_with fail;go_loopw [15, 3] (fun vi _ wr => ∃ k : Nat, k <= e.a.length /\ vi = .int .i64 k /\ (∀ j x, j < k -> e.a[j]? = some x -> X.shaped sm m x = true) /\
    wr.heap[w.heap.size]? = some (.cells #[.int .i64 e.kind, d1, d2, d3, d4, d5, .string e.s, .string e.t, .slice aa e.a.length ca, .slice an e.n.length cn] 170 (0, 0)) /\ Below w.heap.size w wr)
   (fun vi _ _ => e.a.length - (intOf vi).toNat)
  case atStart => exact ⟨0, Nat.zero_le _, rfl, fun j _ hj => absurd hj (by omega), hblk2, hB2⟩
  case round =>
   clear hblk2 hB2 b8;obtain ⟨k, hk, rfl, hok, hblk, hB⟩ := hrel;have HOK : Hid _ := hok;clear hok;have b8 := cell_of_block hblk 8 _ rfl;by_cases hlt : k < e.a.length
   ·obtain ⟨b, off, cap, x, f0, f1, f2, f3, f4, f5, f6, f7, f8, f9, e1, hx, hm, y0, y1, y2, y3, y4, y5, y6, y7, y8, y9⟩ := X.elemA (HA.out.kept hB (fun _ _ ⟨x, hx, hm⟩ => ⟨x, hx, X.Mem.kept m hm hB⟩)) k hlt;obtain ⟨rfl, _, rfl⟩ := Value.slice.inj e1;have hlt2 := blt hblk;have HI := hide (IH.out wr x f0 f1 f2 f3 f4 f5 f6 f7 f8 f9 hm (X.bulk_a m e x (List.mem_of_getElem? hx) _ HBK.out));have HX : Hid _ := hx;clear hm hx;go_wp2_with fail;refine Calls.mono HI.out ?_;rintro o w3 ⟨rfl, hb3⟩;have hblk3 := (hb3.block w.heap.size hlt2).trans hblk;have hB3 := hB.trans (hb3.mono hB.size);clear hb3 hB hblk y0 y1 y2 y3 y4 y5 y6 y7 y8 y9 b8 HI;generalize hq : X.shaped sm m x = q;have HQ : Hid _ := hq;clear hq;cases q
    ·have E : Hid (X.shaped sm (m + 1) e = false) := by show _ = _; rw [HE.out, V.all_false _ _ k x HX.out HQ.out]
     go_wp2_with fail;go_ret;exact ⟨ret_bool E.out.symm, hB3⟩
    ·have HB3 := hide hB3;have HBLK3 := hide hblk3;clear hB3 hblk3;go_wp2_with fail;go_roundw
     case rel => exact ⟨k + 1, by omega, by go_num, V.so_far HOK.out HX.out HQ.out, HBLK3.out, HB3.out⟩
     case measure => simp [intOf]; omega
   ·have E : Hid (X.shaped sm (m + 1) e = true) := by
     show _ = _;rw [HE.out];exact V.all_true _ _ (fun j x hx => HOK.out j x (by have := V.lt_of_get hx; omega) hx)
    clear hblk b8;go_wp2_with fail;go_ret;exact ⟨ret_bool E.out.symm, hB⟩
theorem xcheck_any (sm : Val -> Val -> Bool) (hsm : V.Says sm) (m : Nat) (w : World) (e : Ex) (d0 d1 d2 d3 d4 d5 d6 d7 d8 d9 : Value) (h : X.Mem m w e [d0, d1, d2, d3, d4, d5, d6, d7, d8, d9]) (hbk : X.bulk m e <= 2000000) :
  Calls Tryz.prog 165 #[.agg #[d0, d1, d2, d3, d4, d5, d6, d7, d8, d9]] w fun o w' => o = .returned (V.errOf (X.fault sm m e)) /\ Below w.heap.size w w' := by
 have hbL : Below w.heap.size w (w.alloc (.cells #[d0, d1, d2, d3, d4, d5, d6, d7, d8, d9] 170)) := ba;have hblk0 := heap_alloc_new w (.cells #[d0, d1, d2, d3, d4, d5, d6, d7, d8, d9] 170);have hroom := xroom_any m _ e 1 60 d0 d1 d2 d3 d4 d5 d6 d7 d8 d9 (X.Mem.kept m h hbL) hbk (by omega) (by omega) (by omega) (by omega);have HSH := hide (fun w' (hB : Below w.heap.size w w') => xshaped_any sm hsm m w' e d0 d1 d2 d3 d4 d5 d6 d7 d8 d9 (X.Mem.kept m h hB) hbk);have hE : X.fault sm m e = if X.room m e 1 60 < 0 then 2 else if X.shaped sm m e then 0 else 3 := rfl;generalize X.fault sm m e = F at *;generalize X.room m e 1 60 = R at *;generalize X.shaped sm m e = S at *;have HR := hide hroom;clear hroom h hbk;go_enter Tryz.func165, Tryz.ntmps165;go_wp2_with fail;refine HR.out.mono ?_;rintro o w1 ⟨rfl, hb1⟩;have hblk1 := (hb1.block w.heap.size (blt hblk0)).trans hblk0;have hB1 := hbL.trans (hb1.mono hbL.size);clear hb1 hbL hblk0 HR;obtain ⟨b0, b1, b2, b3, b4, b5, b6, b7, b8, b9⟩ := cl10 hblk1;by_cases hR : R < 0
 ·rw [if_pos hR] at hE;have HE := hide hE;clear hE;go_wp2_with fail;go_ret;exact ⟨by rw [HE.out]; rfl, hB1⟩
 rw [if_neg hR] at hE;obtain ⟨HB1, HE⟩ := hd2 hB1 hE;clear hB1 hE;go_wp2_with fail;refine (HSH.out _ HB1.out).mono ?_;rintro o w2 ⟨rfl, hb2⟩;have HB2 := bt HB1 hb2;clear hb2 hblk1 b0 b1 b2 b3 b4 b5 b6 b7 b8 b9;cases S
 ·go_wp2_with fail;go_ret;exact ⟨by rw [HE.out]; rfl, HB2.out⟩
 ·go_wp2_with fail;go_ret;exact ⟨by rw [HE.out]; rfl, HB2.out⟩
namespace X
end X
structure Rs where
 kind : ByteArray
 name : ByteArray
 parts : List (ByteArray × Ex)
structure Sk where
 name : ByteArray
 ins : List (ByteArray × Val)
 res : List Rs
 outs : List (ByteArray × Ex)
namespace X
def firstErr (l : List Nat) : Nat := (l.find? (fun n => n ≠ 0)).getD 0
theorem firstErr_at {l : List Nat} {k n : Nat} (h : ∀ j, j < k -> l[j]? = some 0) (hk : l[k]? = some n) (hn : n ≠ 0) : firstErr l = n := by
 unfold firstErr;induction l generalizing k with
 | nil => simp at hk
 | cons a t ih =>
  cases k with
  | zero => cases hk; rw [List.find?_cons_of_pos (by simpa using hn)]; rfl
  | succ k =>
   have h0 : a = 0 := by simpa using h 0 (by omega)
   rw [List.find?_cons_of_neg (by simp [h0])];exact ih (k := k) (fun j hj => by simpa using h (j + 1) (by omega)) (by simpa using hk)
theorem firstErr_none {l : List Nat} (h : ∀ j, j < l.length -> l[j]? = some 0) : firstErr l = 0 := by
 unfold firstErr;have : l.find? (fun n => n ≠ 0) = none := by
  rw [List.find?_eq_none];intro x hx;obtain ⟨j, hj, e⟩ := List.getElem_of_mem hx;have := h j hj;rw [List.getElem?_eq_getElem hj, e] at this;cases this;simp
 rw [this]; rfl
theorem faults_get {f : Nat -> Nat} {n j : Nat} (h : j < n) : ((List.range n).map f)[j]? = some (f j) := by rw [List.getElem?_map, List.getElem?_range h]; rfl
end X
theorem err_ne (n : Nat) (h : n ≠ 0) : V.errOf n = .iface 54 (.int .i64 n) := by rw [V.errOf, if_neg h]
end Go.Proofs.YtcekcfjabhlheaaGreatDoor.Vx
