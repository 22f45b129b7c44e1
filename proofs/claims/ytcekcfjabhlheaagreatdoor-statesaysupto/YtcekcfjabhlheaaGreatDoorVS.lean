/- StateSays: VE VF VG VH VI VR VS. -/
import Derived.Test.YtcekcfjabhlheaaGreatDoorVD
set_option maxRecDepth 100000
set_option maxHeartbeats 1600000
namespace Go.Proofs.YtcekcfjabhlheaaGreatDoor.Vx
open Go.RowKit
theorem less_flip : ∀ (x y : List UInt8), (Op.bytesLess x y || x == y) = !Op.bytesLess y x
 | [], [] => rfl
 | [], _ :: _ => rfl
 | _ :: _, [] => rfl
 | a :: x, b :: y => by
  have ih := less_flip x y;have h1 : (a :: x == b :: y) = (a == b && x == y) := rfl;rw [h1, Op.bytesLess, Op.bytesLess];by_cases hab : a = b
  ·subst hab;have : ¬ a < a := UInt8.lt_irrefl a;simp only [decide_eq_false this, Bool.false_or, beq_self_eq_true, Bool.true_and]; exact ih
  ·have e1 : (a == b) = false := beq_eq_false_iff_ne.2 hab;have e2 : (b == a) = false := beq_eq_false_iff_ne.2 (fun h => hab h.symm);rw [e1, e2];simp only [Bool.false_and, Bool.or_false];have : a.toNat ≠ b.toNat := fun h => hab (UInt8.toNat_inj.1 h)
   rw [Bool.eq_iff_iff];simp only [decide_eq_true_eq, Bool.not_eq_true', decide_eq_false_iff_not, UInt8.lt_iff_toNat_lt];omega
theorem below_drewN {B : Nat} {a w : World} (h : Below B a w) (n : Nat) : Below B a (w.drewN n) := ⟨h.os, h.tape, h.output, h.size, h.block⟩
theorem drewN_some (w : World) (a b : Nat) : ∃ n, (w.drewN a).drewN b = w.drewN n := ⟨_, World.drewN_drewN _ _ _⟩
namespace V
def okAt (l : List (ByteArray × Val)) (k : Nat) : Bool :=
 match l[k]? with
 | none => true
 | some x => name (bl x.1) && (k == 0 || match l[k - 1]? with | none => true | some y => Op.bytesLess (bl y.1) (bl x.1))
def rise (l : List (ByteArray × Val)) : Bool := (List.range l.length).all (okAt l)
theorem rise_true (l : List (ByteArray × Val)) (h : ∀ k, k < l.length -> okAt l k = true) : rise l = true := by
 rw [rise, List.all_eq_true]; intro k hk; exact h k (List.mem_range.1 hk)
theorem rise_false (l : List (ByteArray × Val)) (k : Nat) (hk : k < l.length) (h : okAt l k = false) : rise l = false := by
 rw [rise, List.all_eq_false]; exact ⟨k, List.mem_range.2 hk, by simp [h]⟩
theorem okAt_zero (l : List (ByteArray × Val)) (x : ByteArray × Val) (hx : l[0]? = some x) : okAt l 0 = name (bl x.1) := by
 rw [okAt, hx]; simp
theorem okAt_succ (l : List (ByteArray × Val)) (k : Nat) (x y : ByteArray × Val) (hx : l[k + 1]? = some x) (hy : l[k]? = some y) : okAt l (k + 1) = (name (bl x.1) && Op.bytesLess (bl y.1) (bl x.1)) := by
 rw [okAt, hx]; simp [hy]
end V
theorem namesRise_any (m : Nat) (w : World) (fv : Value) (l : List (ByteArray × Val)) (hf : V.Row w fv l.length 6 (fun i c => ∃ x c', l[i]? = some x /\ c = .string x.1 :: c' /\ V.Mem m w x.2 c'))
  (hn : ∀ x ∈ l, x.1.size <= 2000000) (hlen : l.length <= 2000000) :
  Calls Tryz.prog 123 #[fv] w fun e w' => e = .returned (.bool (V.rise l)) /\ ∃ n, w' = w.drewN n := by
 obtain ⟨af, cf, rfl⟩ := hf.shape;have HF : Hid _ := hf;have HN : Hid _ := hn;clear hf hn;go_enter Tryz.func123, Tryz.ntmps123;go_wp2_with fail;go_loopw [6, 3] (fun i _ wr => ∃ k : Nat, k <= l.length /\ i = .int .i64 k /\ (∀ j, j < k -> V.okAt l j = true) /\ ∃ n, wr = w.drewN n) (fun i _ _ => l.length - (intOf i).toNat)
 case atStart => exact ⟨0, Nat.zero_le _, rfl, fun j hj => absurd hj (by omega), 0, rfl⟩
 case round =>
  obtain ⟨k, hk, rfl, hok, n0, hW⟩ := hrel;have HW : Hid _ := hW;have hcw : ∀ p, wr.cell? p = w.cell? p := fun p => by rw [hW]; rfl
  have HCW : Hid _ := hcw;clear hW hcw;have HOK : Hid _ := hok;clear hok;by_cases hlt : k < l.length
  ·obtain ⟨b, off, cap, x, d0, d1, d2, d3, d4, e1, hx, hm, yn, y0, y1, y2, y3, y4⟩ := V.elemF HF.out k hlt;obtain ⟨rfl, _, rfl⟩ := Value.slice.inj e1;have hxs := HN.out x (List.mem_of_getElem? hx);clear hm y0 y1 y2 y3 y4;rw [<- HCW.out] at yn;have hn1 : x.1.size <= maxLen := by unfold maxLen; omega
   have HNC : Hid _ := fun w => name_any x.1 w hn1
   cases hnm : V.name (V.bl x.1) <;> rw [hnm] at HNC
   ·have E : Hid (V.rise l = false) := V.rise_false l k hlt (by rw [V.okAt, hx]; simp [hnm]);clear hx;go_wp2_with fail;go_quiet ((go_at_call 21; exact Calls.quiet_of_same (HNC.out _)));go_wp2_with fail;go_ret;exact ⟨ret_bool E.out.symm, by rw [HW.out]; exact drewN_some _ _ _⟩
   ·by_cases hk0 : k = 0
    ·have gk : decide (0 < (k : Int)) = false := by simp; omega
     have hok : V.okAt l k = true := by subst hk0; rw [V.okAt_zero l x hx]; exact hnm
     have HOK2 : Hid _ := hok;clear hx hok gk;subst hk0;simp only [Nat.zero_mul, Nat.add_zero] at yn;go_wp2_with fail;go_quiet ((go_at_call 21; exact Calls.quiet_of_same (HNC.out _)));go_wp2_with fail;go_roundw
     case rel => exact ⟨1, by omega, by go_num, fun j hj => by rw [show j = 0 by omega]; exact HOK2.out, by rw [HW.out]; exact drewN_some _ _ _⟩
     case measure => simp [intOf]; omega
    ·obtain ⟨k', rfl⟩ : ∃ k', k = k' + 1 := ⟨k - 1, by omega⟩
     obtain ⟨b', off', cap', y, _, _, _, _, _, e1, hy, _, zn, _⟩ := V.elemF HF.out k' (by omega);simp only [Value.slice.injEq, Option.some.injEq, Addr.mk.injEq] at e1;obtain ⟨⟨rfl, rfl, _⟩, _, rfl⟩ := e1;rw [<- HCW.out] at zn;have hoe := V.okAt_succ l k' x y hx hy;have gk : decide (0 < ((k' + 1 : Nat) : Int)) = true := decide_eq_true (by omega);rw [hnm, Bool.true_and] at hoe;have hfl := less_flip (V.bl x.1) (V.bl y.1);clear hk0 hx hy;cases hls : Op.bytesLess (V.bl y.1) (V.bl x.1)
     ·have E : Hid (V.rise l = false) := V.rise_false l (k' + 1) hlt (by rw [hoe, hls]);rw [hls, <- V.toList_bl, <- V.toList_bl] at hfl;clear hls hoe;go_wp2_with fail;go_quiet ((go_at_call 21; exact Calls.quiet_of_same (HNC.out _)));go_wp2_with fail;go_ret;exact ⟨ret_bool E.out.symm, by rw [HW.out]; exact drewN_some _ _ _⟩
     ·rw [hls] at hoe;have HOK2 : Hid _ := hoe;rw [hls, <- V.toList_bl, <- V.toList_bl] at hfl;clear hls hoe;go_wp2_with fail;go_quiet ((go_at_call 21; exact Calls.quiet_of_same (HNC.out _)));go_wp2_with fail;go_roundw
      case rel => exact ⟨k' + 1 + 1, by omega, by go_num, fun j hj => by rcases Nat.lt_or_ge j (k' + 1) with h | h; exact HOK.out j h; rw [show j = k' + 1 by omega]; exact HOK2.out, by rw [HW.out]; exact drewN_some _ _ _⟩
      case measure => simp [intOf]; omega
  ·have E : Hid (V.rise l = true) := V.rise_true l (fun j hj => HOK.out j (by omega));go_wp2_with fail;go_ret;exact ⟨ret_bool E.out.symm, _, HW.out⟩
namespace V
def spare (k n : Int) (s : ByteArray) (a b : Nat) : Bool :=
 decide ((n = 0 \/ k = 1 \/ k = 3) /\ (s.toList = [] \/ k = 2) /\ (a = 0 \/ k = 4) /\ (b = 0 \/ k = 5))
def fits (k n : Int) (s : ByteArray) (r : Bool) : Bool :=
 decide (k = 0 \/ k = 4 \/ (k = 1 /\ -1000000000 <= n /\ n <= 1000000000) \/ (k = 2 /\ s.size <= 40) \/ (k = 3 /\ (n = 0 \/ n = 1)) \/ (k = 5 /\ r = true))
end V
theorem spareZero_any (w : World) (k n : Int) (s : ByteArray) (al af : Option Addr) (a b cl cf : Nat) :
  Calls Tryz.prog 104 #[.agg #[.int .i64 k, .int .i64 n, .string s, .slice al a cl, .slice af b cf]] w fun e w' => e = .returned (.bool (V.spare k n s a b)) /\ Below w.heap.size w w' := by
 have hbL : Below w.heap.size w (w.alloc (.cells #[.int .i64 k, .int .i64 n, .string s, .slice al a cl, .slice af b cf] 61)) := ba;go_enter Tryz.func104, Tryz.ntmps104;go_wp2_with fail
 all_goals clear hbL
 all_goals go_ret
 all_goals refine ⟨ret_bool ?_, ba⟩
 all_goals unfold V.spare
 all_goals rw [Bool.eq_iff_iff]
 all_goals simp_all
theorem contentFits_any (m : Nat) (w : World) (k n : Int) (s : ByteArray) (lv fv : Value) (l : List (ByteArray × Val)) (hf : V.Row w fv l.length 6 (fun i c => ∃ x c', l[i]? = some x /\ c = .string x.1 :: c' /\ V.Mem m w x.2 c'))
  (hn : ∀ x ∈ l, x.1.size <= 2000000) (hlen : l.length <= 2000000) (hs : s.size <= 2000000) :
  Calls Tryz.prog 105 #[.agg #[.int .i64 k, .int .i64 n, .string s, lv, fv]] w fun e w' => e = .returned (.bool (V.fits k n s (V.rise l))) /\ Below w.heap.size w w' := by
 have hbL : Below w.heap.size w (w.alloc (.cells #[.int .i64 k, .int .i64 n, .string s, lv, fv] 61)) := ba;have hR := fun k n : Int => namesRise_any m (w.alloc (.cells #[.int .i64 k, .int .i64 n, .string s, lv, fv] 61)) fv l (hf.kept (ba) (fun _ _ ⟨x, c', hx, hc, hm⟩ => ⟨x, c', hx, hc, V.Mem.kept m hm (ba)⟩)) hn hlen
 generalize hrr : V.rise l = r at *;have HR : Hid _ := hR;clear hR hf hn hrr hbL;go_enter Tryz.func105, Tryz.ntmps105;go_wp2_with (first | (go_at_call 123; refine (HR.out _ _).mono ?_; rintro e w2 ⟨rfl, n2, rfl⟩))
 all_goals go_ret
 all_goals refine ⟨ret_bool ?_, by first | exact ba | exact below_drewN (ba) _⟩
 all_goals unfold V.fits
 all_goals rw [Bool.eq_iff_iff]
 all_goals simp_all
 all_goals omega
namespace V
def shaped : Nat -> Val -> Bool
 | 0, _ => true
 | m + 1, v => spare v.kind v.n v.s v.l.length v.f.length && fits v.kind v.n v.s (rise v.f) && (v.l.all (shaped m) && v.f.all (fun x => shaped m x.2))
theorem all_false {α : Type} (g : α -> Bool) (l : List α) (k : Nat) (x : α) (hx : l[k]? = some x) (h : g x = false) : l.all g = false := by
 rw [List.all_eq_false]; exact ⟨x, List.mem_of_getElem? hx, by simp [h]⟩
theorem all_true {α : Type} (g : α -> Bool) (l : List α) (h : ∀ (j : Nat) (x : α), l[j]? = some x -> g x = true) : l.all g = true := by
 rw [List.all_eq_true]; intro x hx; obtain ⟨j, hj⟩ := List.getElem?_of_mem hx; exact h j x hj
theorem so_far {α : Type} {g : α -> Bool} {l : List α} {k : Nat} {x : α} (hs : ∀ (j : Nat) (y : α), j < k -> l[j]? = some y -> g y = true) (hx : l[k]? = some x) (h : g x = true) : ∀ (j : Nat) (y : α), j < k + 1 -> l[j]? = some y -> g y = true := by
 intro j y hj hy;rcases Nat.lt_or_ge j k with h1 | h1
 ·exact hs j y h1 hy
 ·have e : j = k := by omega
  subst e; rw [hx] at hy; cases hy; exact h
theorem lt_of_get {α : Type} {l : List α} {j : Nat} {x : α} (h : l[j]? = some x) : j < l.length := (List.getElem?_eq_some_iff.1 h).1
theorem bulk_s (m : Nat) (v : Val) (B : Nat) (h : bulk (m + 1) v <= B) : v.s.size <= B /\ v.l.length <= B /\ v.f.length <= B /\ (∀ x ∈ v.f, x.1.size <= B) := by
 rw [bulk] at h;refine ⟨by omega, by omega, by omega, fun x hx => ?_⟩;have := sumF_mem (fun x => x.1.size + bulk m x.2) v.f x hx;omega
end V
theorem shaped_any (m : Nat) : ∀ (w : World) (v : Val) (c0 c1 c2 c3 c4 : Value), V.Mem m w v [c0, c1, c2, c3, c4] -> V.bulk m v <= 2000000 ->
  Calls Tryz.prog 86 #[.agg #[c0, c1, c2, c3, c4]] w fun e w' => e = .returned (.bool (V.shaped m v)) /\ Below w.heap.size w w' := by
 induction m with
 | zero => intro w v c0 c1 c2 c3 c4 h; exact h.elim
 | succ m ih =>
  intro w v c0 c1 c2 c3 c4 ⟨lv, fv, hcs, hl, hf⟩ hbk;obtain ⟨rfl, rfl, rfl, rfl, rfl⟩ := ij5 hcs;have IH : Hid _ := ih;clear ih;obtain ⟨al, cl, rfl⟩ := hl.shape;obtain ⟨af, cf, rfl⟩ := hf.shape;obtain ⟨bs, bl, bf, bn⟩ := V.bulk_s m v _ hbk;rw [V.bulk] at hbk;have hbL : Below w.heap.size w (w.alloc (.cells #[.int .i64 v.kind, .int .i64 v.n, .string v.s, .slice al v.l.length cl, .slice af v.f.length cf] 61)) := ba;have hblk0 := heap_alloc_new w (.cells #[.int .i64 v.kind, .int .i64 v.n, .string v.s, .slice al v.l.length cl, .slice af v.f.length cf] 61);have hSP := fun w => spareZero_any w v.kind v.n v.s al af v.l.length v.f.length cl cf
  have hFI := fun w' (hB : Below w.heap.size w w') => contentFits_any m w' v.kind v.n v.s (.slice al v.l.length cl) (.slice af v.f.length cf) v.f (hf.kept hB (fun _ _ ⟨x, c', hx, hc, hm⟩ => ⟨x, c', hx, hc, V.Mem.kept m hm hB⟩)) bn bf bs
  have hE : V.shaped (m + 1) v = (V.spare v.kind v.n v.s v.l.length v.f.length && V.fits v.kind v.n v.s (V.rise v.f) && (v.l.all (V.shaped m) && v.f.all (fun x => V.shaped m x.2))) := by rw [V.shaped]
  generalize V.spare v.kind v.n v.s v.l.length v.f.length = sp at *;generalize V.fits v.kind v.n v.s (V.rise v.f) = ft at *;have HSP : Hid _ := hSP;have HFI : Hid _ := hFI;clear hSP hFI bn;go_enter Tryz.func86, Tryz.ntmps86;go_wp2_with fail;refine (HSP.out _).mono ?_;rintro e w1 ⟨rfl, hb1⟩;have hlt1 := blt hblk0;have hblk1 := (hb1.block w.heap.size hlt1).trans hblk0;have hB1 := hbL.trans (hb1.mono hbL.size);clear hb1 hbL hblk0 hlt1;obtain ⟨b0, b1, b2, b3, b4⟩ := cl5 hblk1;cases sp
  ·have E : Hid (V.shaped (m + 1) v = false) := by show _ = _; rw [hE]; rfl
   clear hE;go_wp2_with fail;go_ret;exact ⟨ret_bool E.out.symm, hB1⟩
  go_wp2_with fail;refine (HFI.out _ hB1).mono ?_;rintro e w2 ⟨rfl, hb2⟩;have hblk2 := (hb2.block w.heap.size (blt hblk1)).trans hblk1;have hB2 := hB1.trans (hb2.mono hB1.size);clear hb2 hB1 hblk1 b0 b1 b2 b3 b4;have b3 := cell_of_block hblk2 3 _ rfl;cases ft
  ·have E : Hid (V.shaped (m + 1) v = false) := by show _ = _; rw [hE]; rfl
   clear hE;go_wp2_with fail;go_ret;exact ⟨ret_bool E.out.symm, hB2⟩
  have HE : Hid (V.shaped (m + 1) v = (v.l.all (V.shaped m) && v.f.all (fun x => V.shaped m x.2))) := by show _ = _; rw [hE]; rfl
  clear hE;go_wp2_with fail;go_loopw [16, 3] (fun vi _ wr => ∃ k : Nat, k <= v.l.length /\ vi = .int .i64 k /\ (∀ j x, j < k -> v.l[j]? = some x -> V.shaped m x = true) /\
    wr.heap[w.heap.size]? = some (.cells #[.int .i64 v.kind, .int .i64 v.n, .string v.s, .slice al v.l.length cl, .slice af v.f.length cf] 61 (0, 0)) /\ Below w.heap.size w wr)
   (fun vi _ _ => v.l.length - (intOf vi).toNat)
  case atStart => exact ⟨0, Nat.zero_le _, rfl, fun j _ hj => absurd hj (by omega), hblk2, hB2⟩
  case round =>
   clear hblk2 hB2 b3;obtain ⟨k, hk, rfl, hok, hblk, hB⟩ := hrel;have HOK : Hid _ := hok;clear hok;have b3 := cell_of_block hblk 3 _ rfl;have b4 := cell_of_block hblk 4 _ rfl;by_cases hlt : k < v.l.length
   ·obtain ⟨b, off, cap, x, d0, d1, d2, d3, d4, e1, hx, hm, y0, y1, y2, y3, y4⟩ := V.elemL (hl.kept hB (fun _ _ ⟨x, hx, hm⟩ => ⟨x, hx, V.Mem.kept m hm hB⟩)) k hlt;obtain ⟨rfl, _, rfl⟩ := Value.slice.inj e1;have s1 := V.sumL_le (V.bulk m) v.l k x hx;have hlt2 := blt hblk;have hI := IH.out wr x d0 d1 d2 d3 d4 hm (by omega);have HI : Hid _ := hI;have HX : Hid _ := hx;clear hI hm hx s1;go_wp2_with fail;refine Calls.mono HI.out ?_;rintro e w3 ⟨rfl, hb3⟩;have hblk3 := (hb3.block w.heap.size hlt2).trans hblk;have hB3 := hB.trans (hb3.mono hB.size);clear hb3 hB hblk y0 y1 y2 y3 y4 b3 b4 HI;generalize hq : V.shaped m x = q;have HQ : Hid _ := hq;clear hq;cases q
    ·have E : Hid (V.shaped (m + 1) v = false) := by show _ = _; rw [HE.out, V.all_false _ _ k x HX.out HQ.out]; rfl
     go_wp2_with fail;go_ret;exact ⟨ret_bool E.out.symm, hB3⟩
    ·go_wp2_with fail;go_roundw
     case rel => exact ⟨k + 1, by omega, by go_num, V.so_far HOK.out HX.out HQ.out, hblk3, hB3⟩
     case measure => simp [intOf]; omega
   ·have HE2 : Hid (V.shaped (m + 1) v = v.f.all (fun x => V.shaped m x.2)) := by
     show _ = _;rw [HE.out, V.all_true (V.shaped m) v.l (fun j x hj => HOK.out j x (by have := V.lt_of_get hj; omega) hj), Bool.true_and]
    clear HE HOK;go_wp2_with fail;go_loopw [30, 4] (fun vi _ wr => ∃ k : Nat, k <= v.f.length /\ vi = .int .i64 k /\ (∀ j x, j < k -> v.f[j]? = some x -> (fun x : ByteArray × Val => V.shaped m x.2) x = true) /\
      wr.heap[w.heap.size]? = some (.cells #[.int .i64 v.kind, .int .i64 v.n, .string v.s, .slice al v.l.length cl, .slice af v.f.length cf] 61 (0, 0)) /\ Below w.heap.size w wr)
     (fun vi _ _ => v.f.length - (intOf vi).toNat)
    case atStart => exact ⟨0, Nat.zero_le _, rfl, fun j _ hj => absurd hj (by omega), hblk, hB⟩
    case round =>
     clear hblk hB b3 b4;obtain ⟨k, hk, rfl, hok, hblk, hB⟩ := hrel;have HOK : Hid _ := hok;clear hok;have b4 := cell_of_block hblk 4 _ rfl;by_cases hlf : k < v.f.length
     ·obtain ⟨b, off, cap, x, d0, d1, d2, d3, d4, e1, hx, hm, yn, y0, y1, y2, y3, y4⟩ := V.elemF (hf.kept hB (fun _ _ ⟨x, c', hx, hc, hm⟩ => ⟨x, c', hx, hc, V.Mem.kept m hm hB⟩)) k hlf;obtain ⟨rfl, _, rfl⟩ := Value.slice.inj e1;have s1 := V.sumF_le (fun x => x.1.size + V.bulk m x.2) v.f k x hx;have hlt2 := blt hblk;have hI := IH.out wr x.2 d0 d1 d2 d3 d4 hm (by omega);have HI : Hid _ := hI;have HX : Hid _ := hx;clear hI hm hx s1;go_wp2_with fail;refine Calls.mono HI.out ?_;rintro e w3 ⟨rfl, hb3⟩;have hblk3 := (hb3.block w.heap.size hlt2).trans hblk;have hB3 := hB.trans (hb3.mono hB.size);clear hb3 hB hblk yn y0 y1 y2 y3 y4 b4 HI;generalize hq : V.shaped m x.2 = q;have HQ : Hid _ := hq;clear hq;cases q
      ·have E : Hid (V.shaped (m + 1) v = false) := by show _ = _; rw [HE2.out]; exact V.all_false (fun x : ByteArray × Val => V.shaped m x.2) _ k x HX.out HQ.out
       go_wp2_with fail;go_ret;exact ⟨ret_bool E.out.symm, hB3⟩
      ·go_wp2_with fail;go_roundw
       case rel => exact ⟨k + 1, by omega, by go_num, V.so_far HOK.out HX.out HQ.out, hblk3, hB3⟩
       case measure => simp [intOf]; omega
     ·have E : Hid (V.shaped (m + 1) v = true) := by
       show _ = _;rw [HE2.out]; exact V.all_true (fun x : ByteArray × Val => V.shaped m x.2) v.f (fun j x hj => HOK.out j x (by have := V.lt_of_get hj; omega) hj)
      go_wp2_with fail;go_ret;exact ⟨ret_bool E.out.symm, hB⟩
namespace V
def fault (m : Nat) (v : Val) : Nat := if 60 < parts m v \/ 6 < deep m v then 2 else if shaped m v then 0 else 3
def errOf (n : Nat) : Value := if n = 0 then .nilIface else .iface 54 (.int .i64 n)
theorem rise_nil : rise [] = true := rfl
theorem shaped_ref (m : Nat) (v : Val) : shaped (m + 1) v = (v.l.all (shaped m) && (v.f.all (fun x => shaped m x.2) && rise v.f) && (spare v.kind v.n v.s v.l.length v.f.length && fits v.kind v.n v.s true)) := by
 rw [shaped];cases hr : rise v.f
 ·have hne : v.f.length ≠ 0 := by
   intro h0;rw [List.length_eq_zero_iff.1 h0, rise_nil] at hr;exact absurd hr (by decide)
  have : (spare v.kind v.n v.s v.l.length v.f.length && fits v.kind v.n v.s false) = false := by
   unfold spare fits;rw [<- Bool.not_eq_true];simp only [Bool.and_eq_true, decide_eq_true_eq, Bool.false_eq_true, and_false, or_false];rintro ⟨⟨_, _, _, h4⟩, h5⟩;omega
  rw [this]; simp
 ·simp only [Bool.and_true];rw [Bool.and_comm]
end V
theorem ret_val {a b : Value} (h : a = b) : Ending.returned a = .returned b := by rw [h]
theorem check_any (m : Nat) (w : World) (v : Val) (c0 c1 c2 c3 c4 : Value) (h : V.Mem m w v [c0, c1, c2, c3, c4]) (hbk : V.bulk m v <= 2000000) :
  Calls Tryz.prog 69 #[.agg #[c0, c1, c2, c3, c4]] w fun e w' => e = .returned (V.errOf (V.fault m v)) /\ Below w.heap.size w w' := by
 have hbL : Below w.heap.size w (w.alloc (.cells #[c0, c1, c2, c3, c4] 61)) := ba;have hblk0 := heap_alloc_new w (.cells #[c0, c1, c2, c3, c4] 61);have HM : Hid _ := h;clear h;have hleft := V.room_left m v 1 60 (by decide);go_enter Tryz.func69, Tryz.ntmps69;go_wp2_with fail;refine (roomLeft_any m _ v c0 c1 c2 c3 c4 1 60 (V.Mem.kept m HM.out hbL) hbk (by decide) (by decide) (by decide) (by decide)).mono ?_;rintro e w1 ⟨rfl, hb1⟩;have hlt1 := blt hblk0;have hblk1 := (hb1.block w.heap.size hlt1).trans hblk0;have hB1 := hbL.trans (hb1.mono hbL.size);clear hb1 hbL hblk0 hlt1;generalize V.room m v 1 60 = rr at *;by_cases hr : rr < 0
 ·have E : Hid (V.fault m v = 2) := by
   show _ = _;rw [V.fault, if_pos];by_cases hc : (V.deep m v : Int) + 1 <= 7 /\ (V.parts m v : Int) <= 60
   ·have := hleft.1 hc; omega
   ·omega
  clear hleft;go_wp2_with fail;go_ret;exact ⟨ret_val (by rw [E.out]; rfl), hB1⟩
 ·have hF : V.fault m v = if V.shaped m v then 0 else 3 := by
   rw [V.fault, if_neg];by_cases hc : (V.deep m v : Int) + 1 <= 7 /\ (V.parts m v : Int) <= 60
   ·omega
   ·have := hleft.2 hc; omega
  have HF : Hid _ := hF;clear hF hleft;obtain ⟨b0, b1, b2, b3, b4⟩ := cl5 hblk1;go_wp2_with fail;refine (shaped_any m _ v c0 c1 c2 c3 c4 (V.Mem.kept m HM.out hB1) hbk).mono ?_;rintro e w2 ⟨rfl, hb2⟩;have hB2 := hB1.trans (hb2.mono hB1.size);generalize V.shaped m v = sh at *;cases sh
  ·go_wp2_with fail;go_ret;exact ⟨ret_val (by rw [HF.out]; rfl), hB2⟩
  ·go_wp2_with fail;go_ret;exact ⟨ret_val (by rw [HF.out]; rfl), hB2⟩
theorem kept_cell {w w' : World} {p : Addr} {u : Value} (hb : Below w.heap.size w w') (h : w.cell? p = some u) : w'.cell? p = some u := (hb.cell (World.block_lt_of_cell? w _ h)).trans h
theorem weight_any (most : Int) (m : Nat) : ∀ (w : World) (v : Val) (c0 c1 c2 c3 c4 : Value), V.Mem m w v [c0, c1, c2, c3, c4] -> V.bulk m v <= 2000000 ->
  Calls Tryz.prog 24 #[.agg #[c0, c1, c2, c3, c4], .int .i64 most] w fun e w' => (∃ n : Int, e = .returned (.int .i64 n)) /\ Below w.heap.size w w' := by
 induction m with
 | zero => intro w v c0 c1 c2 c3 c4 h; exact h.elim
 | succ m ih =>
  intro w v c0 c1 c2 c3 c4 ⟨lv, fv, hcs, hl, hf⟩ hbk;obtain ⟨rfl, rfl, rfl, rfl, rfl⟩ := ij5 hcs;have IH : Hid _ := ih;clear ih;obtain ⟨al, cl, rfl⟩ := hl.shape;obtain ⟨af, cf, rfl⟩ := hf.shape;obtain ⟨bs, bl, bf, bn⟩ := V.bulk_s m v _ hbk;rw [V.bulk] at hbk;have hbL : Below w.heap.size w (w.alloc (.cells #[.int .i64 v.kind, .int .i64 v.n, .string v.s, .slice al v.l.length cl, .slice af v.f.length cf] 61)) := ba;have BN : Hid _ := bn;clear bn;go_enter Tryz.func24, Tryz.ntmps24;go_wp2_with fail;go_loopw [5, 6] (fun vn vi wr => ∃ k : Nat, k <= v.l.length /\ vi = .int .i64 k /\ (∃ n : Int, vn = .int .i64 n) /\
    wr.heap[w.heap.size]? = some (.cells #[.int .i64 v.kind, .int .i64 v.n, .string v.s, .slice al v.l.length cl, .slice af v.f.length cf] 61 (0, 0)) /\ Below w.heap.size w wr)
   (fun _ vi _ => v.l.length - (intOf vi).toNat)
  case atStart => exact ⟨0, Nat.zero_le _, rfl, ⟨_, rfl⟩, heap_alloc_new _ _, hbL⟩
  case round =>
   clear hbL;obtain ⟨k, hk, rfl, ⟨n, rfl⟩, hblk, hB⟩ := hrel;have b3 := cell_of_block hblk 3 _ rfl;have b4 := cell_of_block hblk 4 _ rfl;have hgo : (k < v.l.length /\ n <= most) \/ ¬ k < v.l.length \/ (k < v.l.length /\ most < n) := by omega
   rcases hgo with ⟨hlt, hn⟩ | hno
   ·obtain ⟨b, off, cap, x, d0, d1, d2, d3, d4, e1, hx, hm, y0, y1, y2, y3, y4⟩ := V.elemL (hl.kept hB (fun _ _ ⟨x, hx, hm⟩ => ⟨x, hx, V.Mem.kept m hm hB⟩)) k hlt;obtain ⟨rfl, _, rfl⟩ := Value.slice.inj e1;have s1 := V.sumL_le (V.bulk m) v.l k x hx;have hlt2 := blt hblk;have hI := IH.out wr x d0 d1 d2 d3 d4 hm (by omega);have HI : Hid _ := hI;clear hI hm hx s1;go_wp2_with fail;refine Calls.mono HI.out ?_;rintro e w3 ⟨⟨n2, rfl⟩, hb3⟩;have hblk3 := (hb3.block w.heap.size hlt2).trans hblk;have hB3 := hB.trans (hb3.mono hB.size);clear hb3 hB hblk y0 y1 y2 y3 y4 b3 b4 HI;go_wp2_with fail;go_roundw
    case rel => exact ⟨k + 1, by omega, by go_num, ⟨_, rfl⟩, hblk3, hB3⟩
    case measure => simp [intOf]; omega
   ·rcases hno with hno | ⟨hno, hn⟩
    all_goals
     go_wp2_with fail;go_loopw [5, 7] (fun vn vi wr => ∃ k : Nat, k <= v.f.length /\ vi = .int .i64 k /\ (∃ n : Int, vn = .int .i64 n) /\
       wr.heap[w.heap.size]? = some (.cells #[.int .i64 v.kind, .int .i64 v.n, .string v.s, .slice al v.l.length cl, .slice af v.f.length cf] 61 (0, 0)) /\ Below w.heap.size w wr)
      (fun _ vi _ => v.f.length - (intOf vi).toNat)
     case atStart => exact ⟨0, Nat.zero_le _, rfl, ⟨_, rfl⟩, hblk, hB⟩
     case round =>
      clear hblk hB b3 b4;obtain ⟨k, hk, rfl, ⟨n, rfl⟩, hblk, hB⟩ := hrel;have b4 := cell_of_block hblk 4 _ rfl;have hgo : (k < v.f.length /\ n <= most) \/ ¬ k < v.f.length \/ (k < v.f.length /\ most < n) := by omega
      rcases hgo with ⟨hlt, hn⟩ | hno
      ·obtain ⟨b, off, cap, x, d0, d1, d2, d3, d4, e1, hx, hm, yn, y0, y1, y2, y3, y4⟩ := V.elemF (hf.kept hB (fun _ _ ⟨x, c', hx, hc, hm⟩ => ⟨x, c', hx, hc, V.Mem.kept m hm hB⟩)) k hlt;obtain ⟨rfl, _, rfl⟩ := Value.slice.inj e1;have s1 := V.sumF_le (fun x => x.1.size + V.bulk m x.2) v.f k x hx;have hlt2 := blt hblk;have hI : ∀ w', (w'.cell? ⟨w.heap.size, 4, none⟩ = some (.slice (some ⟨b, off, none⟩) v.f.length cf) /\ w'.cell? ⟨b, off + k * 6, none⟩ = some (.string x.1) /\ w'.cell? ⟨b, off + k * 6 + 1, none⟩ = some d0 /\ w'.cell? ⟨b, off + k * 6 + 2, none⟩ = some d1 /\ w'.cell? ⟨b, off + k * 6 + 3, none⟩ = some d2 /\ w'.cell? ⟨b, off + k * 6 + 4, none⟩ = some d3 /\ w'.cell? ⟨b, off + k * 6 + 5, none⟩ = some d4 /\ Below wr.heap.size wr w') -> Calls Tryz.prog 24 #[.agg #[d0, d1, d2, d3, d4], .int .i64 most] w' fun e w'' => (∃ n : Int, e = .returned (.int .i64 n)) /\ w''.cell? ⟨w.heap.size, 4, none⟩ = some (.slice (some ⟨b, off, none⟩) v.f.length cf) /\ w''.cell? ⟨b, off + k * 6, none⟩ = some (.string x.1) /\ w''.cell? ⟨b, off + k * 6 + 1, none⟩ = some d0 /\ w''.cell? ⟨b, off + k * 6 + 2, none⟩ = some d1 /\ w''.cell? ⟨b, off + k * 6 + 3, none⟩ = some d2 /\ w''.cell? ⟨b, off + k * 6 + 4, none⟩ = some d3 /\ w''.cell? ⟨b, off + k * 6 + 5, none⟩ = some d4 /\ Below wr.heap.size wr w'' := by
        intro w' ⟨t1, t2, t3, t4, t5, t6, t7, t8⟩;refine (IH.out w' x.2 d0 d1 d2 d3 d4 (V.Mem.kept m hm t8) (by omega)).mono ?_;rintro e w'' ⟨he, hb⟩;exact ⟨he, kept_cell hb t1, kept_cell hb t2, kept_cell hb t3, kept_cell hb t4, kept_cell hb t5, kept_cell hb t6, kept_cell hb t7, t8.trans (hb.mono t8.size)⟩
       have HI : Hid _ := hI;have HBLK : Hid _ := hblk;have hB0 : Below wr.heap.size wr wr.drew := below_drewN (Below.refl _ _) 1;clear hI hm hx s1;go_wp2_with fail;go_region_held3 (fun w' => w'.cell? ⟨w.heap.size, 4, none⟩ = some (.slice (some ⟨b, off, none⟩) v.f.length cf) /\ w'.cell? ⟨b, off + k * 6, none⟩ = some (.string x.1) /\ w'.cell? ⟨b, off + k * 6 + 1, none⟩ = some d0 /\ w'.cell? ⟨b, off + k * 6 + 2, none⟩ = some d1 /\ w'.cell? ⟨b, off + k * 6 + 3, none⟩ = some d2 /\ w'.cell? ⟨b, off + k * 6 + 4, none⟩ = some d3 /\ w'.cell? ⟨b, off + k * 6 + 5, none⟩ = some d4 /\ Below wr.heap.size wr w') (go_keep)
        (first | (go_at_call 24; refine (HI.out _ ?_).mono ?_; exact ⟨‹_›, ‹_›, ‹_›, ‹_›, ‹_›, ‹_›, ‹_›, ‹_›⟩; rintro e w3 ⟨⟨n2, rfl⟩, t1, t2, t3, t4, t5, t6, t7, t8⟩))
       all_goals
        go_wp2_with fail;go_roundw
        case rel => exact ⟨k + 1, by omega, by go_num, ⟨_, rfl⟩, (t8.block w.heap.size hlt2).trans HBLK.out, hB.trans (t8.mono hB.size)⟩
        case measure => simp [intOf]; omega
      ·rcases hno with hno | ⟨hno, hn⟩
       all_goals
        go_wp2_with fail;go_ret;exact ⟨⟨_, rfl⟩, hB⟩
namespace V
def Says (sm : Val -> Val -> Bool) : Prop := ∀ a b, sm a b = true ↔ a = b
theorem Says.yes {sm : Val -> Val -> Bool} (h : Says sm) (a b : Val) (e : a = b) : sm a b = true := (h a b).2 e
theorem Says.no {sm : Val -> Val -> Bool} (h : Says sm) (a b : Val) (e : a ≠ b) : sm a b = false := by
 cases hs : sm a b
 ·rfl
 ·exact absurd ((h a b).1 hs) e
theorem says_some : ∃ sm : Val -> Val -> Bool, Says sm := ⟨fun a b => @decide (a = b) (Classical.propDecidable _), fun a b => by simp⟩
theorem val_ext (a b : Val) (h1 : a.kind = b.kind) (h2 : a.n = b.n) (h3 : a.s = b.s) (h4 : a.l = b.l) (h5 : a.f = b.f) : a = b := by
 cases a; cases b; simp_all
def above (a b : Val) : Bool := a.kind == b.kind && (a.n == b.n && (a.s.toList == b.s.toList && (a.l.length == b.l.length && a.f.length == b.f.length)))
theorem toList_inj {a b : ByteArray} (h : a.toList = b.toList) : a = b := by
 rw [toList_bl, toList_bl] at h;rw [<- str_bl a, <- str_bl b, h]
theorem above_true (a b : Val) (h : above a b = true) : a.kind = b.kind /\ a.n = b.n /\ a.s = b.s /\ a.l.length = b.l.length /\ a.f.length = b.f.length := by
 unfold above at h;simp only [Bool.and_eq_true, beq_iff_eq] at h;exact ⟨h.1, h.2.1, toList_inj h.2.2.1, h.2.2.2.1, h.2.2.2.2⟩
end V
namespace V
def zero : Val := ⟨0, 0, ⟨#[]⟩, [], []⟩
def find (l : List (ByteArray × Val)) (s : ByteArray) : Option Val := (l.find? (fun x => x.1.toList == s.toList)).map (·.2)
theorem Row.zero (w : World) (sz : Nat) (P : Nat -> List Value -> Prop) : Row w (.slice none 0 0) 0 sz P := ⟨none, 0, rfl, .inl rfl⟩
theorem Mem.zero (m : Nat) (w : World) : Mem (m + 1) w zero [.int .i64 0, .int .i64 0, .string ⟨#[]⟩, .slice none 0 0, .slice none 0 0] := ⟨_, _, rfl, Row.zero _ _ _, Row.zero _ _ _⟩
theorem Row.imp {w : World} {v : Value} {n sz : Nat} {P Q : Nat -> List Value -> Prop} (h : Row w v n sz P) (hPQ : ∀ i c, P i c -> Q i c) : Row w v n sz Q := by
 obtain ⟨ao, cap, rfl, h⟩ := h;refine ⟨ao, cap, rfl, ?_⟩;rcases h with h | ⟨b, off, rfl, h⟩
 ·exact .inl h
 ·refine .inr ⟨b, off, rfl, fun i hi => ?_⟩;obtain ⟨cs, h1, h2, h3⟩ := h i hi;exact ⟨cs, h1, h2, hPQ i cs h3⟩
theorem Mem.up : ∀ (m : Nat) {w : World} {v : Val} {cs : List Value}, Mem m w v cs -> Mem (m + 1) w v cs
 | 0, _, _, _, h => h.elim
 | m + 1, _, _, _, ⟨lv, fv, h1, h2, h3⟩ => ⟨lv, fv, h1, h2.imp (fun _ _ ⟨x, hx, hm⟩ => ⟨x, hx, Mem.up m hm⟩), h3.imp (fun _ _ ⟨x, c', hx, hc, hm⟩ => ⟨x, c', hx, hc, Mem.up m hm⟩)⟩
theorem Row.all {w : World} {v : Value} {n sz : Nat} {P : Nat -> List Value -> Prop} (h : Row w v n sz P) (i : Nat) (hi : i < n) : ∃ c, P i c := by
 obtain ⟨ao, cap, rfl, h⟩ := h;rcases h with h | ⟨b, off, rfl, h⟩
 ·omega
 ·obtain ⟨cs, _, _, h3⟩ := h i hi; exact ⟨cs, h3⟩
theorem sumL_congr (g h : Val -> Nat) (l : List Val) (hh : ∀ x ∈ l, g x = h x) : sumL g l = sumL h l := by
 unfold sumL; rw [List.map_congr_left hh]
theorem sumF_congr (g h : ByteArray × Val -> Nat) (l : List (ByteArray × Val)) (hh : ∀ x ∈ l, g x = h x) : sumF g l = sumF h l := by
 unfold sumF; rw [List.map_congr_left hh]
theorem bulk_up : ∀ (m : Nat) {w : World} {v : Val} {cs : List Value}, Mem m w v cs -> bulk (m + 1) v = bulk m v
 | 0, _, _, _, h => h.elim
 | m + 1, w, v, cs, ⟨lv, fv, h1, h2, h3⟩ => by
  rw [bulk, bulk, sumL_congr (bulk (m + 1)) (bulk m) v.l (fun x hx => by
   obtain ⟨j, hj⟩ := List.getElem?_of_mem hx;obtain ⟨c, y, hy, hm⟩ := h2.all j (lt_of_get hj);rw [hj] at hy; cases hy; exact bulk_up m hm), sumF_congr (fun x => x.1.size + bulk (m + 1) x.2) (fun x => x.1.size + bulk m x.2) v.f (fun x hx => by
   obtain ⟨j, hj⟩ := List.getElem?_of_mem hx;obtain ⟨c, y, c', hy, _, hm⟩ := h3.all j (lt_of_get hj);rw [hj] at hy; cases hy;show _ + _ = _ + _;rw [bulk_up m hm])]
end V
theorem block_set {w : World} {g i : Nat} {cs : Array Value} {t : TypeId} {fr : Nat × Nat} (h : w.heap[g]? = some (.cells cs t fr)) (v : Value) : (w.setCell ⟨g, i, none⟩ v).heap[g]? = some (.cells (cs.setIfInBounds i v) t fr) := by
 rw [setCell_eq_setRow w g i cs t fr v h];exact setRow_heap w g _ _ t _ h
theorem set5 {w : World} {g : Nat} {t : TypeId} {z0 z1 z2 z3 z4 : Value} (h : w.heap[g]? = some (.cells #[z0, z1, z2, z3, z4] t (0, 0))) (y0 y1 y2 y3 y4 : Value) :
  (((((w.setCell ⟨g, 0, none⟩ y0).setCell ⟨g, 1, none⟩ y1).setCell ⟨g, 2, none⟩ y2).setCell ⟨g, 3, none⟩ y3).setCell ⟨g, 4, none⟩ y4).heap[g]? = some (.cells #[y0, y1, y2, y3, y4] t (0, 0)) := by
 have h0 := block_set (i := 0) h y0;have h1 := block_set (i := 1) h0 y1;have h2 := block_set (i := 2) h1 y2;have h3 := block_set (i := 3) h2 y3;exact block_set (i := 4) h3 y4
theorem below5 {w0 w : World} {B g : Nat} (hb : Below B w0 w) (hg : B <= g) (y0 y1 y2 y3 y4 : Value) :
  Below B w0 (((((w.setCell ⟨g, 0, none⟩ y0).setCell ⟨g, 1, none⟩ y1).setCell ⟨g, 2, none⟩ y2).setCell ⟨g, 3, none⟩ y3).setCell ⟨g, 4, none⟩ y4) :=
 ((((hb.setCell (p := ⟨g, 0, none⟩) hg _).setCell (p := ⟨g, 1, none⟩) hg _).setCell (p := ⟨g, 2, none⟩) hg _).setCell (p := ⟨g, 3, none⟩) hg _).setCell (p := ⟨g, 4, none⟩) hg _
end Go.Proofs.YtcekcfjabhlheaaGreatDoor.Vx
