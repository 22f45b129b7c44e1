/- StateSays: RC RD. -/
import Derived.Test.YtcekcfjabhlheaaGreatDoorMS
set_option maxRecDepth 100000
set_option maxHeartbeats 3200000
namespace Go.Proofs.YtcekcfjabhlheaaGreatDoor.Vx
open Go.RowKit
theorem key_no {l k : List UInt8} (h : l ≠ k) : (Lx.str l == Lx.str k) = false := C.bno (fun e => h (by rw [<- Lx.bl_str l, e, Lx.bl_str]))
theorem look_get {t e : TypeId} (hu : Tryz.prog.underlying t = some (.map 9 e)) {w : World} {b : Nat} {F : List (ByteArray × Value)} (h : S.Is w b F) (n : ByteArray) {z : Value} (hz : ∀ w, (zeroValue e).run Tryz.prog w = .ok z w) :
  (Instr.lookup t (.map (some b)) (.string n) false).run Tryz.prog w = .ok ((S.get F n).getD z) w := by
 rw [S.look hu h n false hz];unfold S.get;cases S.at_ n F 0 with
 | none => rfl
 | some p => rfl
def P.Bg (o : Option Int) (r : Ending) : Prop :=
 match o with
 | some k => r = .returned (.tuple #[.int .i64 k, .nilIface])
 | none => ∃ n f : Int, r = .returned (.tuple #[.int .i64 n, .iface 54 (.int .i64 f)])
theorem beg_word (l : List UInt8) (at_ : Int) (w : World) :
  Calls Tryz.prog 172 #[.agg #[.int .i64 1, .int .i64 at_, .string (Lx.str l)]] w fun r w' => Below w.heap.size w w' /\ P.Bg (P.begins [(1, l)]) r := by
 have hb0 : Below w.heap.size w ((w.alloc (.cells #[.int .i64 1, .int .i64 at_, .string (Lx.str l)] 218)).alloc (.map #[] 0)) := (ba).alloc (by simp) _;have hA0 : ((w.alloc (.cells #[.int .i64 1, .int .i64 at_, .string (Lx.str l)] 218)).alloc (.map #[] 0)).heap[w.heap.size]? = some (.cells #[.int .i64 1, .int .i64 at_, .string (Lx.str l)] 218 (0, 0)) := by rw [heap_alloc_old _ _ (by simp)]; exact heap_alloc_new _ _
 have hsz : (w.alloc (.cells #[.int .i64 1, .int .i64 at_, .string (Lx.str l)] 218)).heap.size = w.heap.size + 1 := by simp
 have hmm := fun w => run_makeMap (P := Tryz.prog) 246 w
 have i0' := S.Is.made (w.alloc (.cells #[.int .i64 1, .int .i64 at_, .string (Lx.str l)] 218));rw [hsz] at i0';obtain ⟨w0, e0, i0, g0⟩ := S.update (t := 246) (e := 3) Tryz.underlying246 i0' ⟨#[110, 117, 108, 108]⟩ (.int .i64 1);obtain ⟨w1, e1, i1, g1⟩ := S.update (t := 246) (e := 3) Tryz.underlying246 i0 ⟨#[116, 114, 117, 101]⟩ (.int .i64 1);obtain ⟨w2, e2, i2, g2⟩ := S.update (t := 246) (e := 3) Tryz.underlying246 i1 ⟨#[102, 97, 108, 115, 101]⟩ (.int .i64 1);obtain ⟨w3, e3, i3, g3⟩ := S.update (t := 246) (e := 3) Tryz.underlying246 i2 ⟨#[105, 110]⟩ (.int .i64 2);obtain ⟨w4, e4, i4, g4⟩ := S.update (t := 246) (e := 3) Tryz.underlying246 i3 ⟨#[114, 101, 115]⟩ (.int .i64 3);obtain ⟨w5, e5, i5, g5⟩ := S.update (t := 246) (e := 3) Tryz.underlying246 i4 ⟨#[115, 116, 97, 99, 107]⟩ (.int .i64 4);obtain ⟨w6, e6, i6, g6⟩ := S.update (t := 246) (e := 3) Tryz.underlying246 i5 ⟨#[103, 101, 116]⟩ (.int .i64 10);have hF : Fr w w6 (fun c => w.heap.size + 1 = c) := (((((((((P.fr_below hb0).weak (fun _ _ e => e.elim)).grown g0 (fun c e _ => by simpa using e)).grown g1 (fun c e _ => by simpa using e)).grown g2 (fun c e _ => by simpa using e)).grown g3 (fun c e _ => by simpa using e)).grown g4 (fun c e _ => by simpa using e)).grown g5 (fun c e _ => by simpa using e)).grown g6 (fun c e _ => by simpa using e))
 have hbw : Below w.heap.size w w6 := hF.below (Nat.le_refl _) (fun c e => by omega);have a0 := (g0.block w.heap.size (blt hA0) (by simp)).trans hA0;have a1 := (g1.block w.heap.size (blt a0) (by simp)).trans a0;have a2 := (g2.block w.heap.size (blt a1) (by simp)).trans a1;have a3 := (g3.block w.heap.size (blt a2) (by simp)).trans a2;have a4 := (g4.block w.heap.size (blt a3) (by simp)).trans a3;have a5 := (g5.block w.heap.size (blt a4) (by simp)).trans a4;have a6 := (g6.block w.heap.size (blt a5) (by simp)).trans a5;have hl := look_get (t := 246) (e := 3) Tryz.underlying246 i6 (Lx.str l) (z := .int .i64 0) (fun w => by kernel_rfl);have q2 := cell_of_block a6 2 _ rfl;have hput : (S.put (S.put (S.put (S.put (S.put (S.put (S.put [] ⟨#[110, 117, 108, 108]⟩ (.int .i64 1)) ⟨#[116, 114, 117, 101]⟩ (.int .i64 1)) ⟨#[102, 97, 108, 115, 101]⟩ (.int .i64 1)) ⟨#[105, 110]⟩ (.int .i64 2)) ⟨#[114, 101, 115]⟩ (.int .i64 3)) ⟨#[115, 116, 97, 99, 107]⟩ (.int .i64 4)) ⟨#[103, 101, 116]⟩ (.int .i64 10)) = [(⟨#[110, 117, 108, 108]⟩, .int .i64 1), (⟨#[116, 114, 117, 101]⟩, .int .i64 1), (⟨#[102, 97, 108, 115, 101]⟩, .int .i64 1), (⟨#[105, 110]⟩, .int .i64 2), (⟨#[114, 101, 115]⟩, .int .i64 3), (⟨#[115, 116, 97, 99, 107]⟩, .int .i64 4), (⟨#[103, 101, 116]⟩, .int .i64 10)] := rfl;rw [hput] at hl;obtain ⟨v, hv, hE⟩ : ∃ v : Int, (S.get [(⟨#[110, 117, 108, 108]⟩, .int .i64 1), (⟨#[116, 114, 117, 101]⟩, .int .i64 1), (⟨#[102, 97, 108, 115, 101]⟩, .int .i64 1), (⟨#[105, 110]⟩, .int .i64 2), (⟨#[114, 101, 115]⟩, .int .i64 3), (⟨#[115, 116, 97, 99, 107]⟩, .int .i64 4), (⟨#[103, 101, 116]⟩, .int .i64 10)] (Lx.str l)).getD (.int .i64 0) = .int .i64 v /\ (P.begins [(1, l)] = if v = 0 then none else some v) := by
  simp only [S.get_cons];by_cases h0 : l = [110, 117, 108, 108]
  ·subst h0;exact ⟨1, rfl, rfl⟩
  rw [show (Lx.str l == (⟨#[110, 117, 108, 108]⟩ : ByteArray)) = false from key_no h0, if_neg (by simp)];by_cases h1 : l = [116, 114, 117, 101]
  ·subst h1;exact ⟨1, rfl, rfl⟩
  rw [show (Lx.str l == (⟨#[116, 114, 117, 101]⟩ : ByteArray)) = false from key_no h1, if_neg (by simp)];by_cases h2 : l = [102, 97, 108, 115, 101]
  ·subst h2;exact ⟨1, rfl, rfl⟩
  rw [show (Lx.str l == (⟨#[102, 97, 108, 115, 101]⟩ : ByteArray)) = false from key_no h2, if_neg (by simp)];by_cases h3 : l = [105, 110]
  ·subst h3;exact ⟨2, rfl, rfl⟩
  rw [show (Lx.str l == (⟨#[105, 110]⟩ : ByteArray)) = false from key_no h3, if_neg (by simp)];by_cases h4 : l = [114, 101, 115]
  ·subst h4;exact ⟨3, rfl, rfl⟩
  rw [show (Lx.str l == (⟨#[114, 101, 115]⟩ : ByteArray)) = false from key_no h4, if_neg (by simp)];by_cases h5 : l = [115, 116, 97, 99, 107]
  ·subst h5;exact ⟨4, rfl, rfl⟩
  rw [show (Lx.str l == (⟨#[115, 116, 97, 99, 107]⟩ : ByteArray)) = false from key_no h5, if_neg (by simp)];by_cases h6 : l = [103, 101, 116]
  ·subst h6;exact ⟨10, rfl, rfl⟩
  rw [show (Lx.str l == (⟨#[103, 101, 116]⟩ : ByteArray)) = false from key_no h6, if_neg (by simp)];refine ⟨0, rfl, ?_⟩;simp [P.begins, P.kNull, P.kTrue, P.kFalse, P.kIn, P.kRes, P.kStack, P.kGet, h0, h1, h2, h3, h4, h5, h6]
 rw [hv] at hl;obtain ⟨HE, HB⟩ := hd2 hE hbw;clear hb0 hA0 i0' i0 i1 i2 i3 i4 i5 i6 g0 g1 g2 g3 g4 g5 g6 a0 a1 a2 a3 a4 a5 a6 hF hbw hput hv hE;by_cases h0 : v = 0
 ·subst h0;go_enter Tryz.func172, Tryz.ntmps172;go_wp2_with fail;go_ret2;refine ⟨HB.out, ?_⟩;rw [HE.out];exact ⟨_, _, rfl⟩
 ·go_enter Tryz.func172, Tryz.ntmps172;go_wp2_with fail;go_ret2;refine ⟨HB.out, ?_⟩;rw [HE.out, if_neg h0];rfl
theorem beg_sign (l : List UInt8) (at_ : Int) (w : World) :
  Calls Tryz.prog 172 #[.agg #[.int .i64 4, .int .i64 at_, .string (Lx.str l)]] w fun r w' => Below w.heap.size w w' /\ P.Bg (P.begins [(4, l)]) r := by
 have hb0 : Below w.heap.size w ((w.alloc (.cells #[.int .i64 4, .int .i64 at_, .string (Lx.str l)] 218)).alloc (.map #[] 0)) := (ba).alloc (by simp) _;have hA0 : ((w.alloc (.cells #[.int .i64 4, .int .i64 at_, .string (Lx.str l)] 218)).alloc (.map #[] 0)).heap[w.heap.size]? = some (.cells #[.int .i64 4, .int .i64 at_, .string (Lx.str l)] 218 (0, 0)) := by rw [heap_alloc_old _ _ (by simp)]; exact heap_alloc_new _ _
 have hsz : (w.alloc (.cells #[.int .i64 4, .int .i64 at_, .string (Lx.str l)] 218)).heap.size = w.heap.size + 1 := by simp
 have hmm := fun w => run_makeMap (P := Tryz.prog) 246 w
 have i0' := S.Is.made (w.alloc (.cells #[.int .i64 4, .int .i64 at_, .string (Lx.str l)] 218));rw [hsz] at i0';obtain ⟨w0, e0, i0, g0⟩ := S.update (t := 246) (e := 3) Tryz.underlying246 i0' ⟨#[45]⟩ (.int .i64 1);obtain ⟨w1, e1, i1, g1⟩ := S.update (t := 246) (e := 3) Tryz.underlying246 i0 ⟨#[91]⟩ (.int .i64 8);obtain ⟨w2, e2, i2, g2⟩ := S.update (t := 246) (e := 3) Tryz.underlying246 i1 ⟨#[123]⟩ (.int .i64 9);obtain ⟨w3, e3, i3, g3⟩ := S.update (t := 246) (e := 3) Tryz.underlying246 i2 ⟨#[40]⟩ (.int .i64 (-1));have hF : Fr w w3 (fun c => w.heap.size + 1 = c) := ((((((P.fr_below hb0).weak (fun _ _ e => e.elim)).grown g0 (fun c e _ => by simpa using e)).grown g1 (fun c e _ => by simpa using e)).grown g2 (fun c e _ => by simpa using e)).grown g3 (fun c e _ => by simpa using e))
 have hbw : Below w.heap.size w w3 := hF.below (Nat.le_refl _) (fun c e => by omega);have a0 := (g0.block w.heap.size (blt hA0) (by simp)).trans hA0;have a1 := (g1.block w.heap.size (blt a0) (by simp)).trans a0;have a2 := (g2.block w.heap.size (blt a1) (by simp)).trans a1;have a3 := (g3.block w.heap.size (blt a2) (by simp)).trans a2;have hl := look_get (t := 246) (e := 3) Tryz.underlying246 i3 (Lx.str l) (z := .int .i64 0) (fun w => by kernel_rfl);have q2 := cell_of_block a3 2 _ rfl;have hput : (S.put (S.put (S.put (S.put [] ⟨#[45]⟩ (.int .i64 1)) ⟨#[91]⟩ (.int .i64 8)) ⟨#[123]⟩ (.int .i64 9)) ⟨#[40]⟩ (.int .i64 (-1))) = [(⟨#[45]⟩, .int .i64 1), (⟨#[91]⟩, .int .i64 8), (⟨#[123]⟩, .int .i64 9), (⟨#[40]⟩, .int .i64 (-1))] := rfl;rw [hput] at hl;obtain ⟨v, hv, hE⟩ : ∃ v : Int, (S.get [(⟨#[45]⟩, .int .i64 1), (⟨#[91]⟩, .int .i64 8), (⟨#[123]⟩, .int .i64 9), (⟨#[40]⟩, .int .i64 (-1))] (Lx.str l)).getD (.int .i64 0) = .int .i64 v /\ (P.begins [(4, l)] = if v = 0 then none else some v) := by
  simp only [S.get_cons];by_cases h0 : l = [45]
  ·subst h0;exact ⟨1, rfl, rfl⟩
  rw [show (Lx.str l == (⟨#[45]⟩ : ByteArray)) = false from key_no h0, if_neg (by simp)];by_cases h1 : l = [91]
  ·subst h1;exact ⟨8, rfl, rfl⟩
  rw [show (Lx.str l == (⟨#[91]⟩ : ByteArray)) = false from key_no h1, if_neg (by simp)];by_cases h2 : l = [123]
  ·subst h2;exact ⟨9, rfl, rfl⟩
  rw [show (Lx.str l == (⟨#[123]⟩ : ByteArray)) = false from key_no h2, if_neg (by simp)];by_cases h3 : l = [40]
  ·subst h3;exact ⟨-1, rfl, rfl⟩
  rw [show (Lx.str l == (⟨#[40]⟩ : ByteArray)) = false from key_no h3, if_neg (by simp)];refine ⟨0, rfl, ?_⟩;simp [P.begins, h0, h1, h2, h3]
 rw [hv] at hl;obtain ⟨HE, HB⟩ := hd2 hE hbw;clear hb0 hA0 i0' i0 i1 i2 i3 g0 g1 g2 g3 a0 a1 a2 a3 hF hbw hput hv hE;by_cases h0 : v = 0
 ·subst h0;go_enter Tryz.func172, Tryz.ntmps172;go_wp2_with fail;go_ret2;refine ⟨HB.out, ?_⟩;rw [HE.out];exact ⟨_, _, rfl⟩
 ·go_enter Tryz.func172, Tryz.ntmps172;go_wp2_with fail;go_ret2;refine ⟨HB.out, ?_⟩;rw [HE.out, if_neg h0];rfl
theorem beg_digits (l : List UInt8) (at_ : Int) (w : World) (h0 : l ≠ []) (hl : l.length <= 10) (h : ∀ b ∈ l, Lx.digit b = true) :
  Calls Tryz.prog 172 #[.agg #[.int .i64 2, .int .i64 at_, .string (Lx.str l)]] w fun r w' => Below w.heap.size w w' /\ P.Bg (P.begins [(2, l)]) r := by
 have hbA : Below w.heap.size w (w.alloc (.cells #[.int .i64 2, .int .i64 at_, .string (Lx.str l)] 218)) := ba;have HL := hide (lnumber_any l 0 (w.alloc (.cells #[.int .i64 2, .int .i64 at_, .string (Lx.str l)] 218)) h0 hl h);have HB := hide hbA;have hE : P.begins [(2, l)] = if P.num l <= 1000000000 then some 1 else none := rfl;have HE := hide hE;clear h0 hl h hbA hE;go_enter Tryz.func172, Tryz.ntmps172;go_wp2_with fail;refine HL.out.mono ?_;rintro r w1 ⟨hb1, ⟨hc, rfl⟩ | ⟨hc, rfl⟩⟩
 ·have HB1 := bt HB hb1;have HC := hide hc;clear hb1 hc HL;go_wp2_with fail;go_ret2;refine ⟨HB1.out, ?_⟩;have := HC.out;rw [HE.out, if_neg (by omega)];exact ⟨_, _, rfl⟩
 ·have HB1 := bt HB hb1;have HC := hide hc;clear hb1 hc HL;go_wp2_with fail;go_ret2;refine ⟨HB1.out, ?_⟩;have := HC.out;rw [HE.out, if_pos (by omega)];rfl
theorem beg_quoted (l : List UInt8) (at_ : Int) (w : World) :
  Calls Tryz.prog 172 #[.agg #[.int .i64 3, .int .i64 at_, .string (Lx.str l)]] w fun r w' => Below w.heap.size w w' /\ P.Bg (P.begins [(3, l)]) r := by
 go_enter Tryz.func172, Tryz.ntmps172;go_wp2_with fail;go_ret2;exact ⟨ba, rfl⟩
theorem beg_other (k : Nat) (l : List UInt8) (at_ : Int) (w : World) (h1 : k ≠ 1) (h2 : k ≠ 2) (h3 : k ≠ 3) (h4 : k ≠ 4) :
  Calls Tryz.prog 172 #[.agg #[.int .i64 k, .int .i64 at_, .string (Lx.str l)]] w fun r w' => Below w.heap.size w w' /\ P.Bg (P.begins [(k, l)]) r := by
 have hE : P.begins [(k, l)] = none := by simp [P.begins, h1, h2, h3, h4]
 have HE := hide hE;have g1 : ((k : Int) == 1) = false := by simp; omega
 have g2 : ((k : Int) == 2) = false := by simp; omega
 have g3 : ((k : Int) == 3) = false := by simp; omega
 have g4 : ((k : Int) == 4) = false := by simp; omega
 clear hE h1 h2 h3 h4;go_enter Tryz.func172, Tryz.ntmps172;go_wp2_with fail;go_ret2;refine ⟨ba, ?_⟩;rw [HE.out];exact ⟨_, _, rfl⟩
theorem beginning_any (ts : List P.K) (at_ : Int) (w : World) (ht : ∀ t ∈ ts, P.Tv t) :
  Calls Tryz.prog 172 #[.agg #[.int .i64 (P.headT ts).1, .int .i64 at_, .string (Lx.str (P.headT ts).2)]] w fun r w' => Below w.heap.size w w' /\ P.Bg (P.begins (P.fc ts)) r := by
 cases ts with
 | nil => exact beg_other 0 [] at_ w (by decide) (by decide) (by decide) (by decide)
 | cons t ts =>
  have hv := ht t (by simp);have e : P.begins (P.fc (t :: ts)) = P.begins [(t.1, t.2.2)] := rfl;rw [e];show Calls Tryz.prog 172 #[.agg #[.int .i64 t.1, .int .i64 at_, .string (Lx.str t.2.2)]] w _;by_cases h1 : t.1 = 1
  ·rw [h1]; exact beg_word _ _ _
  by_cases h2 : t.1 = 2
  ·have := hv.2 h2;rw [h2];exact beg_digits _ _ _ this.1 this.2.1 this.2.2
  by_cases h3 : t.1 = 3
  ·rw [h3]; exact beg_quoted _ _ _
  by_cases h4 : t.1 = 4
  ·rw [h4]; exact beg_sign _ _ _
  exact beg_other _ _ _ _ h1 h2 h3 h4
theorem fr5 (w : World) (g : Nat) (y0 y1 y2 y3 y4 : Value) : Fr w (((((w.setCell ⟨g, 0, none⟩ y0).setCell ⟨g, 1, none⟩ y1).setCell ⟨g, 2, none⟩ y2).setCell ⟨g, 3, none⟩ y3).setCell ⟨g, 4, none⟩ y4) (fun c => c = g) :=
 (((((Fr.refl w (fun c => c = g)).set ⟨g, 0, none⟩ y0 (fun _ => rfl)).set ⟨g, 1, none⟩ y1 (fun _ => rfl)).set ⟨g, 2, none⟩ y2 (fun _ => rfl)).set ⟨g, 3, none⟩ y3 (fun _ => rfl)).set ⟨g, 4, none⟩ y4 (fun _ => rfl)
theorem str_isL (a l : List UInt8) : ((Lx.str a).toList == l) = decide (a = l) := by
 rw [toList_bl (Lx.str a), Lx.bl_str];by_cases h : a = l
 ·simp [h]
 ·simp [h]
def P.vc (v : Val) : Array Value := #[.int .i64 v.kind, .int .i64 v.n, .string v.s, .slice none 0 0, .slice none 0 0]
theorem plainValue_any (R : Nat) (w : World) (t : P.K) (ts : List P.K) (h : P.Rdr R w (t :: ts)) :
  Calls Tryz.prog 197 #[.pointer (some ⟨R, 0, none⟩)] w fun r w' => Fr w w' (fun c => c = R) /\
   ((∃ v n, P.lit (P.fc (t :: ts)) = some (v, P.fc ((t :: ts).drop (n + 1))) /\ r = .returned (.tuple #[.agg (P.vc v), .nilIface]) /\ P.Rdr R w' ((t :: ts).drop (n + 1))) \/
    (P.lit (P.fc (t :: ts)) = none /\ (∃ v f, r = .returned (.tuple #[.agg (P.vc v), .iface 54 (.int .i64 f)])) /\ ∃ ts', P.Rdr R w' ts')) := by
 have hR := h.lt;have hb0 : Below w.heap.size w (w.alloc (.cells #[.int .i64 0, .int .i64 0, .string ⟨#[]⟩, .slice none 0 0, .slice none 0 0] 61)) := ba;have hA0 := heap_alloc_new w (.cells #[.int .i64 0, .int .i64 0, .string ⟨#[]⟩, .slice none 0 0, .slice none 0 0] 61);have HN := hide (next_any R _ (t :: ts) (h.kept hb0));obtain ⟨H, HB0, HA0⟩ := hd3 h hb0 hA0;clear h hb0 hA0;go_enter Tryz.func197, Tryz.ntmps197;go_wp2_with fail;refine HN.out.mono ?_;rintro r w1 ⟨⟨at_, rfl⟩, hb1⟩;have hA1 := (hb1.block w.heap.size (by simp)).trans HA0.out;have hsz1 : w.heap.size + 1 <= w1.heap.size := by have := hb1.size; simpa using this
 have hb2 : Below w.heap.size w (w1.alloc (.cells #[.int .i64 t.1, .int .i64 at_, .string (Lx.str t.2.2)] 218)) := (HB0.out.trans (hb1.mono HB0.out.size)).alloc (by omega) _;have hA2 : (w1.alloc (.cells #[.int .i64 t.1, .int .i64 at_, .string (Lx.str t.2.2)] 218)).heap[w.heap.size]? = some (.cells #[.int .i64 0, .int .i64 0, .string ⟨#[]⟩, .slice none 0 0, .slice none 0 0] 61 (0, 0)) := by rw [heap_alloc_old _ _ (by omega)]; exact hA1
 have hT2 := heap_alloc_new w1 (.cells #[.int .i64 t.1, .int .i64 at_, .string (Lx.str t.2.2)] 218);have HR2 := hide (H.out.kept hb2);obtain ⟨HB2, HSZ⟩ := hd2 hb2 hsz1;clear hA1 hb1 hb2 HN;obtain ⟨HA2, HT2⟩ := hd2 hA2 hT2;have e1 : (P.headT (t :: ts)).1 = t.1 := rfl;have e2 : (P.headT (t :: ts)).2 = t.2.2 := rfl;have hT2c := hT2;have hF2 : Fr w _ (fun c => c = R) := (P.fr_below HB2.out).weak (fun _ _ e => e.elim);have HF2 := hide hF2;clear HB2 hF2;by_cases k2 : t.1 = 2
 ·have g2 : ((t.1 : Int) == 2) = true := by simp [k2]
  have HL := hide (show Calls Tryz.prog 219 #[.pointer (some ⟨R, 0, none⟩), .int .i64 0] (w1.alloc (.cells #[.int .i64 t.1, .int .i64 at_, .string (Lx.str t.2.2)] 218)) _ from rnumber_any R (w1.alloc (.cells #[.int .i64 t.1, .int .i64 at_, .string (Lx.str t.2.2)] 218)) (t :: ts) 0 HR2.out);have hE : P.lit (P.fc (t :: ts)) = (P.number 0 (P.fc (t :: ts))).map (fun p => (⟨1, p.1, ⟨#[]⟩, [], []⟩, p.2)) := by
   rw [P.fc_cons, P.lit, if_pos k2]
  have HE := hide hE;have q0 := cell_of_block hT2c 0 _ rfl;clear k2 hE hT2c hT2 hA2;go_wp2_with fail;refine HL.out.mono ?_;rintro r w3 ⟨hf3, ⟨t', ts', n, e, hn, rfl, hr3⟩ | ⟨hn, ⟨f, rfl⟩, hr3⟩⟩
  ·cases e;have hA3 := (hf3.block w.heap.size (blt HA2.out) (by omega)).trans HA2.out;have HF3 := hide (HF2.out.trans hf3 (fun _ _ e => e));have HR3 := hide hr3;have E : Hid (P.lit (P.fc (t :: ts)) = some (⟨1, (n : Int), ⟨#[]⟩, [], []⟩, P.fc ts)) := by
    show _ = _;rw [HE.out, hn];rfl
   clear hf3 hr3 hn HL q0;obtain ⟨z0, z1, z2, z3, z4⟩ := cl5 hA3;obtain ⟨f0, f1, f2, f3, f4⟩ := fl5 hA3;have HAx := hide hA3;clear hA3;go_wp2_with fail;have hBz := set5 HAx.out (.int .i64 1) (.int .i64 n) (.string ⟨#[]⟩) (.slice none 0 0) (.slice none 0 0);have hFz := fr5 w3 w.heap.size (.int .i64 1) (.int .i64 n) (.string ⟨#[]⟩) (.slice none 0 0) (.slice none 0 0);generalize (((((w3.setCell _ _).setCell _ _).setCell _ _).setCell _ _).setCell _ _) = wz at *;obtain ⟨r0, r1, r2, r3, r4⟩ := cl5 hBz;refine bodyPost_ret (v := .tuple #[.agg #[.int .i64 1, .int .i64 n, .string ⟨#[]⟩, .slice none 0 0, .slice none 0 0], .nilIface]) (by simp [results, Tryz.results197, go_sem, r0, r1, r2, r3, r4]) rfl ⟨HF3.out.trans hFz (fun c hc e => by omega), .inl ⟨_, 0, E.out, rfl, HR3.out.fr hFz (fun c e => by omega)⟩⟩
  ·have hA3 := (hf3.block w.heap.size (blt HA2.out) (by omega)).trans HA2.out;have HF3 := hide (HF2.out.trans hf3 (fun _ _ e => e));have HR3 := hide hr3;have E : Hid (P.lit (P.fc (t :: ts)) = none) := by
    show _ = _;rw [HE.out, hn];rfl
   clear hf3 hr3 hn HL q0;obtain ⟨z0, z1, z2, z3, z4⟩ := cl5 hA3;obtain ⟨f0, f1, f2, f3, f4⟩ := fl5 hA3;have HAx := hide hA3;clear hA3;go_wp2_with fail;have hBz := set5 HAx.out (.int .i64 1) (.int .i64 0) (.string ⟨#[]⟩) (.slice none 0 0) (.slice none 0 0);have hFz := fr5 w3 w.heap.size (.int .i64 1) (.int .i64 0) (.string ⟨#[]⟩) (.slice none 0 0) (.slice none 0 0);generalize (((((w3.setCell _ _).setCell _ _).setCell _ _).setCell _ _).setCell _ _) = wz at *;obtain ⟨r0, r1, r2, r3, r4⟩ := cl5 hBz;refine bodyPost_ret (v := .tuple #[.agg #[.int .i64 1, .int .i64 0, .string ⟨#[]⟩, .slice none 0 0, .slice none 0 0], .iface 54 (.int .i64 f)]) (by simp [results, Tryz.results197, go_sem, r0, r1, r2, r3, r4]) rfl ⟨HF3.out.trans hFz (fun c hc e => by omega), .inr ⟨E.out, ⟨⟨1, 0, ⟨#[]⟩, [], []⟩, f, rfl⟩, _, HR3.out.fr hFz (fun c e => by omega)⟩⟩
 have g2 : ((t.1 : Int) == 2) = false := by simp; omega
 have HP := hide (pass_any R (w1.alloc (.cells #[.int .i64 t.1, .int .i64 at_, .string (Lx.str t.2.2)] 218)) t ts HR2.out);have q0 := cell_of_block hT2c 0 _ rfl;have HT2c := hide hT2c;clear hT2c hT2 hA2;go_wp2_with fail;refine HP.out.mono ?_;rintro r w3 ⟨rfl, hr3, hf3⟩;have hA3 := (hf3.block w.heap.size (blt HA2.out) (by omega)).trans HA2.out;have hT3 := (hf3.block w1.heap.size (blt HT2c.out) (by omega)).trans HT2c.out;have HF3 := hide (HF2.out.trans hf3 (fun _ _ e => e));obtain ⟨HR3, HA3⟩ := hd2 hr3 hA3;clear hf3 hr3 HP q0 HA2 HT2c HT2 g2 HR2 HF2;have q0 := cell_of_block hT3 0 _ rfl;have q2 := cell_of_block hT3 2 _ rfl;clear hT3;by_cases k3 : t.1 = 3
 ·have g3 : ((t.1 : Int) == 3) = true := by simp [k3]
  have E : Hid (P.lit (P.fc (t :: ts)) = some (⟨2, 0, V.str t.2.2, [], []⟩, P.fc ts)) := by
   show _ = _;rw [P.fc_cons, P.lit];simp [k3]
  clear k2 k3;obtain ⟨z0, z1, z2, z3, z4⟩ := cl5 hA3;obtain ⟨f0, f1, f2, f3, f4⟩ := fl5 hA3;have HAx := hide hA3;clear hA3;go_wp2_with fail;have hBz := set5 HAx.out (.int .i64 2) (.int .i64 0) (.string (Lx.str t.2.2)) (.slice none 0 0) (.slice none 0 0);have hFz := fr5 w3 w.heap.size (.int .i64 2) (.int .i64 0) (.string (Lx.str t.2.2)) (.slice none 0 0) (.slice none 0 0);generalize (((((w3.setCell _ _).setCell _ _).setCell _ _).setCell _ _).setCell _ _) = wz at *;obtain ⟨r0, r1, r2, r3, r4⟩ := cl5 hBz;refine bodyPost_ret (v := .tuple #[.agg #[.int .i64 2, .int .i64 0, .string (Lx.str t.2.2), .slice none 0 0, .slice none 0 0], .nilIface]) (by simp [results, Tryz.results197, go_sem, r0, r1, r2, r3, r4]) rfl ⟨HF3.out.trans hFz (fun c hc e => by omega), .inl ⟨_, 0, E.out, rfl, HR3.out.fr hFz (fun c e => by omega)⟩⟩
 have g3 : ((t.1 : Int) == 3) = false := by simp; omega
 by_cases kt : t.2.2 = P.kTrue
 ·have gt : ((Lx.str t.2.2).toList == [116, 114, 117, 101]) = true := by rw [str_isL, kt]; rfl
  have E : Hid (P.lit (P.fc (t :: ts)) = some (⟨3, 1, ⟨#[]⟩, [], []⟩, P.fc ts)) := by
   show _ = _;rw [P.fc_cons, P.lit];simp [k2, k3, kt]
  clear k2 k3 kt;obtain ⟨z0, z1, z2, z3, z4⟩ := cl5 hA3;obtain ⟨f0, f1, f2, f3, f4⟩ := fl5 hA3;have HAx := hide hA3;clear hA3;go_wp2_with fail;have hBz := set5 HAx.out (.int .i64 3) (.int .i64 1) (.string ⟨#[]⟩) (.slice none 0 0) (.slice none 0 0);have hFz := fr5 w3 w.heap.size (.int .i64 3) (.int .i64 1) (.string ⟨#[]⟩) (.slice none 0 0) (.slice none 0 0);generalize (((((w3.setCell _ _).setCell _ _).setCell _ _).setCell _ _).setCell _ _) = wz at *;obtain ⟨r0, r1, r2, r3, r4⟩ := cl5 hBz;refine bodyPost_ret (v := .tuple #[.agg #[.int .i64 3, .int .i64 1, .string ⟨#[]⟩, .slice none 0 0, .slice none 0 0], .nilIface]) (by simp [results, Tryz.results197, go_sem, r0, r1, r2, r3, r4]) rfl ⟨HF3.out.trans hFz (fun c hc e => by omega), .inl ⟨_, 0, E.out, rfl, HR3.out.fr hFz (fun c e => by omega)⟩⟩
 have gt : ((Lx.str t.2.2).toList == [116, 114, 117, 101]) = false := by rw [str_isL]; exact decide_eq_false kt
 by_cases kf : t.2.2 = P.kFalse
 ·have gf : ((Lx.str t.2.2).toList == [102, 97, 108, 115, 101]) = true := by rw [str_isL, kf]; rfl
  have E : Hid (P.lit (P.fc (t :: ts)) = some (⟨3, 0, ⟨#[]⟩, [], []⟩, P.fc ts)) := by
   show _ = _;rw [P.fc_cons, P.lit];simp only [k2, k3, if_false];rw [if_neg kt, if_pos kf]
  clear k2 k3 kt kf;obtain ⟨z0, z1, z2, z3, z4⟩ := cl5 hA3;obtain ⟨f0, f1, f2, f3, f4⟩ := fl5 hA3;have HAx := hide hA3;clear hA3;go_wp2_with fail;have hBz := set5 HAx.out (.int .i64 3) (.int .i64 0) (.string ⟨#[]⟩) (.slice none 0 0) (.slice none 0 0);have hFz := fr5 w3 w.heap.size (.int .i64 3) (.int .i64 0) (.string ⟨#[]⟩) (.slice none 0 0) (.slice none 0 0);generalize (((((w3.setCell _ _).setCell _ _).setCell _ _).setCell _ _).setCell _ _) = wz at *;obtain ⟨r0, r1, r2, r3, r4⟩ := cl5 hBz;refine bodyPost_ret (v := .tuple #[.agg #[.int .i64 3, .int .i64 0, .string ⟨#[]⟩, .slice none 0 0, .slice none 0 0], .nilIface]) (by simp [results, Tryz.results197, go_sem, r0, r1, r2, r3, r4]) rfl ⟨HF3.out.trans hFz (fun c hc e => by omega), .inl ⟨_, 0, E.out, rfl, HR3.out.fr hFz (fun c e => by omega)⟩⟩
 have gf : ((Lx.str t.2.2).toList == [102, 97, 108, 115, 101]) = false := by rw [str_isL]; exact decide_eq_false kf
 by_cases km : t.2.2 = [45]
 ·have gm : ((Lx.str t.2.2).toList == [45]) = true := by rw [str_isL, km]; rfl
  have hE : P.lit (P.fc (t :: ts)) = (P.number 1 (P.fc ts)).map (fun p => (⟨1, -(p.1 : Int), ⟨#[]⟩, [], []⟩, p.2)) := by
   rw [P.fc_cons, P.lit];simp only [k2, k3, if_false];rw [if_neg kt, if_neg kf, if_pos km]
  have HE := hide hE;have HL := hide (show Calls Tryz.prog 219 #[.pointer (some ⟨R, 0, none⟩), .int .i64 1] w3 _ from rnumber_any R w3 ts 1 HR3.out);clear k2 k3 kt kf km hE hA3;go_wp2_with fail;refine HL.out.mono ?_;rintro r w4 ⟨hf4, ⟨t', ts', n, rfl, hn, rfl, hr4⟩ | ⟨hn, ⟨f, rfl⟩, hr4⟩⟩
  ·have hA4 := (hf4.block w.heap.size (blt HA3.out) (by omega)).trans HA3.out;have HF4 := hide (HF3.out.trans hf4 (fun _ _ e => e));have HR4 := hide hr4;have hnn : wrap64 (-(n : Int)) = -(n : Int) := by
    have : n <= 1000000000 := by
     rw [P.fc_cons, P.number] at hn;split at hn
     ·split at hn
      ·cases hn
      ·rename_i hc;simp only [Option.some.injEq, Prod.mk.injEq] at hn hc;have := hn.1;omega
     ·cases hn
    unfold wrap64;omega
   have E : Hid (P.lit (P.fc (t :: t' :: ts')) = some (⟨1, -(n : Int), ⟨#[]⟩, [], []⟩, P.fc ts')) := by
    show _ = _;rw [HE.out, hn];rfl
   clear hf4 hr4 hn HL q0 q2;obtain ⟨z0, z1, z2, z3, z4⟩ := cl5 hA4;obtain ⟨f0, f1, f2, f3, f4⟩ := fl5 hA4;have HAx := hide hA4;clear hA4;go_wp2_with fail;have hBz := set5 HAx.out (.int .i64 1) (.int .i64 (-(n : Int))) (.string ⟨#[]⟩) (.slice none 0 0) (.slice none 0 0);have hFz := fr5 w4 w.heap.size (.int .i64 1) (.int .i64 (-(n : Int))) (.string ⟨#[]⟩) (.slice none 0 0) (.slice none 0 0);generalize (((((w4.setCell _ _).setCell _ _).setCell _ _).setCell _ _).setCell _ _) = wz at *;obtain ⟨r0, r1, r2, r3, r4⟩ := cl5 hBz;refine bodyPost_ret (v := .tuple #[.agg #[.int .i64 1, .int .i64 (-(n : Int)), .string ⟨#[]⟩, .slice none 0 0, .slice none 0 0], .nilIface]) (by simp [results, Tryz.results197, go_sem, r0, r1, r2, r3, r4]) rfl ⟨HF4.out.trans hFz (fun c hc e => by omega), .inl ⟨_, 1, E.out, rfl, HR4.out.fr hFz (fun c e => by omega)⟩⟩
  ·have hA4 := (hf4.block w.heap.size (blt HA3.out) (by omega)).trans HA3.out;have HF4 := hide (HF3.out.trans hf4 (fun _ _ e => e));have HR4 := hide hr4;have E : Hid (P.lit (P.fc (t :: ts)) = none) := by
    show _ = _;rw [HE.out, hn];rfl
   clear hf4 hr4 hn HL q0 q2;obtain ⟨z0, z1, z2, z3, z4⟩ := cl5 hA4;obtain ⟨f0, f1, f2, f3, f4⟩ := fl5 hA4;have HAx := hide hA4;clear hA4;go_wp2_with fail;have hBz := set5 HAx.out (.int .i64 1) (.int .i64 0) (.string ⟨#[]⟩) (.slice none 0 0) (.slice none 0 0);have hFz := fr5 w4 w.heap.size (.int .i64 1) (.int .i64 0) (.string ⟨#[]⟩) (.slice none 0 0) (.slice none 0 0);generalize (((((w4.setCell _ _).setCell _ _).setCell _ _).setCell _ _).setCell _ _) = wz at *;obtain ⟨r0, r1, r2, r3, r4⟩ := cl5 hBz;refine bodyPost_ret (v := .tuple #[.agg #[.int .i64 1, .int .i64 0, .string ⟨#[]⟩, .slice none 0 0, .slice none 0 0], .iface 54 (.int .i64 f)]) (by simp [results, Tryz.results197, go_sem, r0, r1, r2, r3, r4]) rfl ⟨HF4.out.trans hFz (fun c hc e => by omega), .inr ⟨E.out, ⟨⟨1, 0, ⟨#[]⟩, [], []⟩, f, rfl⟩, _, HR4.out.fr hFz (fun c e => by omega)⟩⟩
 have gm : ((Lx.str t.2.2).toList == [45]) = false := by rw [str_isL]; exact decide_eq_false km
 have E : Hid (P.lit (P.fc (t :: ts)) = some (V.zero, P.fc ts)) := by
  show _ = _;rw [P.fc_cons, P.lit];simp only [k2, k3, kt, kf, km, if_false]
 clear k2 k3 kt kf km;obtain ⟨z0, z1, z2, z3, z4⟩ := cl5 hA3;obtain ⟨f0, f1, f2, f3, f4⟩ := fl5 hA3;have HAx := hide hA3;clear hA3;go_wp2_with fail;have hBz := set5 HAx.out (.int .i64 0) (.int .i64 0) (.string ⟨#[]⟩) (.slice none 0 0) (.slice none 0 0);have hFz := fr5 w3 w.heap.size (.int .i64 0) (.int .i64 0) (.string ⟨#[]⟩) (.slice none 0 0) (.slice none 0 0);generalize (((((w3.setCell _ _).setCell _ _).setCell _ _).setCell _ _).setCell _ _) = wz at *;obtain ⟨r0, r1, r2, r3, r4⟩ := cl5 hBz;refine bodyPost_ret (v := .tuple #[.agg #[.int .i64 0, .int .i64 0, .string ⟨#[]⟩, .slice none 0 0, .slice none 0 0], .nilIface]) (by simp [results, Tryz.results197, go_sem, r0, r1, r2, r3, r4]) rfl ⟨HF3.out.trans hFz (fun c hc e => by omega), .inl ⟨_, 0, E.out, rfl, HR3.out.fr hFz (fun c e => by omega)⟩⟩
end Go.Proofs.YtcekcfjabhlheaaGreatDoor.Vx
