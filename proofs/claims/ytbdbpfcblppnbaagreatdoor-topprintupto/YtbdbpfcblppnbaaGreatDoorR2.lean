/- For TopPrint: the closure inner; pick, signOfTwo. -/
import Derived.Test.YtbdbpfcblppnbaaGreatDoorR1
import Derived.Test.YtbdbpfcblppnbaaGreatDoorMS
namespace Go.Proofs.YtbdbpfcblppnbaaGreatDoor.Vx
open Go.RowKit
theorem key_no {l k : List UInt8} (h : l ≠ k) : (Lx.str l == Lx.str k) = false := C.bno (fun e => h (by rw [← Lx.bl_str l, e, Lx.bl_str]))
theorem look_get {t e : TypeId} (hu : Tryz.prog.underlying t = some (.map 9 e)) {w : World} {b : Nat} {F : List (ByteArray × Value)} (h : S.Is w b F) (n : ByteArray) {z : Value} (hz : ∀ w, (zeroValue e).run Tryz.prog w = .ok z w) :
  (Instr.lookup t (.map (some b)) (.string n) false).run Tryz.prog w = .ok ((S.get F n).getD z) w := by
 rw [S.look hu h n false hz]
 unfold S.get
 cases S.at_ n F 0 with
 | none => rfl
 | some p => rfl
/-- What beginning answers. -/
def P.Bg (o : Option Int) (r : Ending) : Prop :=
 match o with
 | some k => r = .returned (.tuple #[.int .i64 k, .nilIface])
 | none => ∃ n f : Int, r = .returned (.tuple #[.int .i64 n, .iface 62 (.int .i64 f)])
set_option maxRecDepth 100000 in
set_option maxHeartbeats 3200000 in
theorem beg_word (l : List UInt8) (at_ : Int) (w : World) :
  Calls Tryz.prog 78 #[.agg #[.int .i64 1, .int .i64 at_, .string (Lx.str l)]] w fun r w' => Below w.heap.size w w' ∧ P.Bg (P.begins [(1, l)]) r := by
 have hb0 : Below w.heap.size w ((w.alloc (.cells #[.int .i64 1, .int .i64 at_, .string (Lx.str l)] 80)).alloc (.map #[] 0)) := ((Below.refl _ _).alloc (Nat.le_refl _) _).alloc (by simp) _
 have hA0 : ((w.alloc (.cells #[.int .i64 1, .int .i64 at_, .string (Lx.str l)] 80)).alloc (.map #[] 0)).heap[w.heap.size]? = some (.cells #[.int .i64 1, .int .i64 at_, .string (Lx.str l)] 80 (0, 0)) := by rw [heap_alloc_old _ _ (by simp)]; exact heap_alloc_new _ _
 have hsz : (w.alloc (.cells #[.int .i64 1, .int .i64 at_, .string (Lx.str l)] 80)).heap.size = w.heap.size + 1 := by simp
 have hmm := fun w => run_makeMap (P := Tryz.prog) 153 w
 have i0' := S.Is.made (w.alloc (.cells #[.int .i64 1, .int .i64 at_, .string (Lx.str l)] 80))
 rw [hsz] at i0'
 obtain ⟨w0, e0, i0, g0⟩ := S.update (t := 153) (e := 3) Tryz.underlying153 i0' ⟨#[110, 117, 108, 108]⟩ (.int .i64 1)
 obtain ⟨w1, e1, i1, g1⟩ := S.update (t := 153) (e := 3) Tryz.underlying153 i0 ⟨#[116, 114, 117, 101]⟩ (.int .i64 1)
 obtain ⟨w2, e2, i2, g2⟩ := S.update (t := 153) (e := 3) Tryz.underlying153 i1 ⟨#[102, 97, 108, 115, 101]⟩ (.int .i64 1)
 obtain ⟨w3, e3, i3, g3⟩ := S.update (t := 153) (e := 3) Tryz.underlying153 i2 ⟨#[105, 110]⟩ (.int .i64 2)
 obtain ⟨w4, e4, i4, g4⟩ := S.update (t := 153) (e := 3) Tryz.underlying153 i3 ⟨#[114, 101, 115]⟩ (.int .i64 3)
 obtain ⟨w5, e5, i5, g5⟩ := S.update (t := 153) (e := 3) Tryz.underlying153 i4 ⟨#[115, 116, 97, 99, 107]⟩ (.int .i64 4)
 obtain ⟨w6, e6, i6, g6⟩ := S.update (t := 153) (e := 3) Tryz.underlying153 i5 ⟨#[103, 101, 116]⟩ (.int .i64 10)
 have hF : Fr w w6 (fun c => w.heap.size + 1 = c) := (((((((((P.fr_below hb0).weak (fun _ _ e => e.elim)).grown g0 (fun c e _ => by simpa using e)).grown g1 (fun c e _ => by simpa using e)).grown g2 (fun c e _ => by simpa using e)).grown g3 (fun c e _ => by simpa using e)).grown g4 (fun c e _ => by simpa using e)).grown g5 (fun c e _ => by simpa using e)).grown g6 (fun c e _ => by simpa using e))
 have hbw : Below w.heap.size w w6 := hF.below (Nat.le_refl _) (fun c e => by omega)
 have a0 := (g0.block w.heap.size (blt hA0) (by simp)).trans hA0
 have a1 := (g1.block w.heap.size (blt a0) (by simp)).trans a0
 have a2 := (g2.block w.heap.size (blt a1) (by simp)).trans a1
 have a3 := (g3.block w.heap.size (blt a2) (by simp)).trans a2
 have a4 := (g4.block w.heap.size (blt a3) (by simp)).trans a3
 have a5 := (g5.block w.heap.size (blt a4) (by simp)).trans a4
 have a6 := (g6.block w.heap.size (blt a5) (by simp)).trans a5
 have hl := look_get (t := 153) (e := 3) Tryz.underlying153 i6 (Lx.str l) (z := .int .i64 0) (fun w => by kernel_rfl)
 have q2 := cell_of_block a6 2 _ rfl
 have hput : (S.put (S.put (S.put (S.put (S.put (S.put (S.put [] ⟨#[110, 117, 108, 108]⟩ (.int .i64 1)) ⟨#[116, 114, 117, 101]⟩ (.int .i64 1)) ⟨#[102, 97, 108, 115, 101]⟩ (.int .i64 1)) ⟨#[105, 110]⟩ (.int .i64 2)) ⟨#[114, 101, 115]⟩ (.int .i64 3)) ⟨#[115, 116, 97, 99, 107]⟩ (.int .i64 4)) ⟨#[103, 101, 116]⟩ (.int .i64 10)) = [(⟨#[110, 117, 108, 108]⟩, .int .i64 1), (⟨#[116, 114, 117, 101]⟩, .int .i64 1), (⟨#[102, 97, 108, 115, 101]⟩, .int .i64 1), (⟨#[105, 110]⟩, .int .i64 2), (⟨#[114, 101, 115]⟩, .int .i64 3), (⟨#[115, 116, 97, 99, 107]⟩, .int .i64 4), (⟨#[103, 101, 116]⟩, .int .i64 10)] := rfl
 rw [hput] at hl
 obtain ⟨v, hv, hE⟩ : ∃ v : Int, (S.get [(⟨#[110, 117, 108, 108]⟩, .int .i64 1), (⟨#[116, 114, 117, 101]⟩, .int .i64 1), (⟨#[102, 97, 108, 115, 101]⟩, .int .i64 1), (⟨#[105, 110]⟩, .int .i64 2), (⟨#[114, 101, 115]⟩, .int .i64 3), (⟨#[115, 116, 97, 99, 107]⟩, .int .i64 4), (⟨#[103, 101, 116]⟩, .int .i64 10)] (Lx.str l)).getD (.int .i64 0) = .int .i64 v ∧ (P.begins [(1, l)] = if v = 0 then none else some v) := by
  simp only [S.get_cons]
  by_cases h0 : l = [110, 117, 108, 108]
  ·subst h0
   exact ⟨1, rfl, rfl⟩
  rw [show (Lx.str l == (⟨#[110, 117, 108, 108]⟩ : ByteArray)) = false from key_no h0, if_neg (by simp)]
  by_cases h1 : l = [116, 114, 117, 101]
  ·subst h1
   exact ⟨1, rfl, rfl⟩
  rw [show (Lx.str l == (⟨#[116, 114, 117, 101]⟩ : ByteArray)) = false from key_no h1, if_neg (by simp)]
  by_cases h2 : l = [102, 97, 108, 115, 101]
  ·subst h2
   exact ⟨1, rfl, rfl⟩
  rw [show (Lx.str l == (⟨#[102, 97, 108, 115, 101]⟩ : ByteArray)) = false from key_no h2, if_neg (by simp)]
  by_cases h3 : l = [105, 110]
  ·subst h3
   exact ⟨2, rfl, rfl⟩
  rw [show (Lx.str l == (⟨#[105, 110]⟩ : ByteArray)) = false from key_no h3, if_neg (by simp)]
  by_cases h4 : l = [114, 101, 115]
  ·subst h4
   exact ⟨3, rfl, rfl⟩
  rw [show (Lx.str l == (⟨#[114, 101, 115]⟩ : ByteArray)) = false from key_no h4, if_neg (by simp)]
  by_cases h5 : l = [115, 116, 97, 99, 107]
  ·subst h5
   exact ⟨4, rfl, rfl⟩
  rw [show (Lx.str l == (⟨#[115, 116, 97, 99, 107]⟩ : ByteArray)) = false from key_no h5, if_neg (by simp)]
  by_cases h6 : l = [103, 101, 116]
  ·subst h6
   exact ⟨10, rfl, rfl⟩
  rw [show (Lx.str l == (⟨#[103, 101, 116]⟩ : ByteArray)) = false from key_no h6, if_neg (by simp)]
  refine ⟨0, rfl, ?_⟩
  simp [P.begins, P.kNull, P.kTrue, P.kFalse, P.kIn, P.kRes, P.kStack, P.kGet, h0, h1, h2, h3, h4, h5, h6]
 rw [hv] at hl
 have HE := hide hE
 have HB := hide hbw
 clear hb0 hA0 i0' i0 i1 i2 i3 i4 i5 i6 g0 g1 g2 g3 g4 g5 g6 a0 a1 a2 a3 a4 a5 a6 hF hbw hput hv hE
 by_cases h0 : v = 0
 ·subst h0
  go_enter Tryz.func78, Tryz.ntmps78
  go_wp2_with fail
  go_ret2
  refine ⟨HB.out, ?_⟩
  rw [HE.out]
  exact ⟨_, _, rfl⟩
 ·go_enter Tryz.func78, Tryz.ntmps78
  go_wp2_with fail
  go_ret2
  refine ⟨HB.out, ?_⟩
  rw [HE.out, if_neg h0]
  rfl
set_option maxRecDepth 100000 in
set_option maxHeartbeats 3200000 in
theorem beg_sign (l : List UInt8) (at_ : Int) (w : World) :
  Calls Tryz.prog 78 #[.agg #[.int .i64 4, .int .i64 at_, .string (Lx.str l)]] w fun r w' => Below w.heap.size w w' ∧ P.Bg (P.begins [(4, l)]) r := by
 have hb0 : Below w.heap.size w ((w.alloc (.cells #[.int .i64 4, .int .i64 at_, .string (Lx.str l)] 80)).alloc (.map #[] 0)) := ((Below.refl _ _).alloc (Nat.le_refl _) _).alloc (by simp) _
 have hA0 : ((w.alloc (.cells #[.int .i64 4, .int .i64 at_, .string (Lx.str l)] 80)).alloc (.map #[] 0)).heap[w.heap.size]? = some (.cells #[.int .i64 4, .int .i64 at_, .string (Lx.str l)] 80 (0, 0)) := by rw [heap_alloc_old _ _ (by simp)]; exact heap_alloc_new _ _
 have hsz : (w.alloc (.cells #[.int .i64 4, .int .i64 at_, .string (Lx.str l)] 80)).heap.size = w.heap.size + 1 := by simp
 have hmm := fun w => run_makeMap (P := Tryz.prog) 153 w
 have i0' := S.Is.made (w.alloc (.cells #[.int .i64 4, .int .i64 at_, .string (Lx.str l)] 80))
 rw [hsz] at i0'
 obtain ⟨w0, e0, i0, g0⟩ := S.update (t := 153) (e := 3) Tryz.underlying153 i0' ⟨#[45]⟩ (.int .i64 1)
 obtain ⟨w1, e1, i1, g1⟩ := S.update (t := 153) (e := 3) Tryz.underlying153 i0 ⟨#[91]⟩ (.int .i64 8)
 obtain ⟨w2, e2, i2, g2⟩ := S.update (t := 153) (e := 3) Tryz.underlying153 i1 ⟨#[123]⟩ (.int .i64 9)
 obtain ⟨w3, e3, i3, g3⟩ := S.update (t := 153) (e := 3) Tryz.underlying153 i2 ⟨#[40]⟩ (.int .i64 (-1))
 have hF : Fr w w3 (fun c => w.heap.size + 1 = c) := ((((((P.fr_below hb0).weak (fun _ _ e => e.elim)).grown g0 (fun c e _ => by simpa using e)).grown g1 (fun c e _ => by simpa using e)).grown g2 (fun c e _ => by simpa using e)).grown g3 (fun c e _ => by simpa using e))
 have hbw : Below w.heap.size w w3 := hF.below (Nat.le_refl _) (fun c e => by omega)
 have a0 := (g0.block w.heap.size (blt hA0) (by simp)).trans hA0
 have a1 := (g1.block w.heap.size (blt a0) (by simp)).trans a0
 have a2 := (g2.block w.heap.size (blt a1) (by simp)).trans a1
 have a3 := (g3.block w.heap.size (blt a2) (by simp)).trans a2
 have hl := look_get (t := 153) (e := 3) Tryz.underlying153 i3 (Lx.str l) (z := .int .i64 0) (fun w => by kernel_rfl)
 have q2 := cell_of_block a3 2 _ rfl
 have hput : (S.put (S.put (S.put (S.put [] ⟨#[45]⟩ (.int .i64 1)) ⟨#[91]⟩ (.int .i64 8)) ⟨#[123]⟩ (.int .i64 9)) ⟨#[40]⟩ (.int .i64 (-1))) = [(⟨#[45]⟩, .int .i64 1), (⟨#[91]⟩, .int .i64 8), (⟨#[123]⟩, .int .i64 9), (⟨#[40]⟩, .int .i64 (-1))] := rfl
 rw [hput] at hl
 obtain ⟨v, hv, hE⟩ : ∃ v : Int, (S.get [(⟨#[45]⟩, .int .i64 1), (⟨#[91]⟩, .int .i64 8), (⟨#[123]⟩, .int .i64 9), (⟨#[40]⟩, .int .i64 (-1))] (Lx.str l)).getD (.int .i64 0) = .int .i64 v ∧ (P.begins [(4, l)] = if v = 0 then none else some v) := by
  simp only [S.get_cons]
  by_cases h0 : l = [45]
  ·subst h0
   exact ⟨1, rfl, rfl⟩
  rw [show (Lx.str l == (⟨#[45]⟩ : ByteArray)) = false from key_no h0, if_neg (by simp)]
  by_cases h1 : l = [91]
  ·subst h1
   exact ⟨8, rfl, rfl⟩
  rw [show (Lx.str l == (⟨#[91]⟩ : ByteArray)) = false from key_no h1, if_neg (by simp)]
  by_cases h2 : l = [123]
  ·subst h2
   exact ⟨9, rfl, rfl⟩
  rw [show (Lx.str l == (⟨#[123]⟩ : ByteArray)) = false from key_no h2, if_neg (by simp)]
  by_cases h3 : l = [40]
  ·subst h3
   exact ⟨-1, rfl, rfl⟩
  rw [show (Lx.str l == (⟨#[40]⟩ : ByteArray)) = false from key_no h3, if_neg (by simp)]
  refine ⟨0, rfl, ?_⟩
  simp [P.begins, h0, h1, h2, h3]
 rw [hv] at hl
 have HE := hide hE
 have HB := hide hbw
 clear hb0 hA0 i0' i0 i1 i2 i3 g0 g1 g2 g3 a0 a1 a2 a3 hF hbw hput hv hE
 by_cases h0 : v = 0
 ·subst h0
  go_enter Tryz.func78, Tryz.ntmps78
  go_wp2_with fail
  go_ret2
  refine ⟨HB.out, ?_⟩
  rw [HE.out]
  exact ⟨_, _, rfl⟩
 ·go_enter Tryz.func78, Tryz.ntmps78
  go_wp2_with fail
  go_ret2
  refine ⟨HB.out, ?_⟩
  rw [HE.out, if_neg h0]
  rfl
set_option maxRecDepth 100000 in
set_option maxHeartbeats 1600000 in
theorem beg_digits (l : List UInt8) (at_ : Int) (w : World) (h0 : l ≠ []) (hl : l.length ≤ 10) (h : ∀ b ∈ l, Lx.digit b = true) :
  Calls Tryz.prog 78 #[.agg #[.int .i64 2, .int .i64 at_, .string (Lx.str l)]] w fun r w' => Below w.heap.size w w' ∧ P.Bg (P.begins [(2, l)]) r := by
 have hbA : Below w.heap.size w (w.alloc (.cells #[.int .i64 2, .int .i64 at_, .string (Lx.str l)] 80)) := (Below.refl _ _).alloc (Nat.le_refl _) _
 have HL := hide (lnumber_any l 0 (w.alloc (.cells #[.int .i64 2, .int .i64 at_, .string (Lx.str l)] 80)) h0 hl h)
 have HB := hide hbA
 have hE : P.begins [(2, l)] = if P.num l ≤ 1000000000 then some 1 else none := rfl
 have HE := hide hE
 clear h0 hl h hbA hE
 go_enter Tryz.func78, Tryz.ntmps78
 go_wp2_with fail
 refine HL.out.mono ?_
 rintro r w1 ⟨hb1, ⟨hc, rfl⟩ | ⟨hc, rfl⟩⟩
 ·have HB1 := hide (HB.out.trans (hb1.mono HB.out.size))
  have HC := hide hc
  clear hb1 hc HL
  go_wp2_with fail
  go_ret2
  refine ⟨HB1.out, ?_⟩
  have := HC.out
  rw [HE.out, if_neg (by omega)]
  exact ⟨_, _, rfl⟩
 ·have HB1 := hide (HB.out.trans (hb1.mono HB.out.size))
  have HC := hide hc
  clear hb1 hc HL
  go_wp2_with fail
  go_ret2
  refine ⟨HB1.out, ?_⟩
  have := HC.out
  rw [HE.out, if_pos (by omega)]
  rfl
set_option maxRecDepth 100000 in
set_option maxHeartbeats 1600000 in
theorem beg_quoted (l : List UInt8) (at_ : Int) (w : World) :
  Calls Tryz.prog 78 #[.agg #[.int .i64 3, .int .i64 at_, .string (Lx.str l)]] w fun r w' => Below w.heap.size w w' ∧ P.Bg (P.begins [(3, l)]) r := by
 go_enter Tryz.func78, Tryz.ntmps78
 go_wp2_with fail
 go_ret2
 exact ⟨(Below.refl _ _).alloc (Nat.le_refl _) _, rfl⟩
set_option maxRecDepth 100000 in
set_option maxHeartbeats 1600000 in
theorem beg_other (k : Nat) (l : List UInt8) (at_ : Int) (w : World) (h1 : k ≠ 1) (h2 : k ≠ 2) (h3 : k ≠ 3) (h4 : k ≠ 4) :
  Calls Tryz.prog 78 #[.agg #[.int .i64 k, .int .i64 at_, .string (Lx.str l)]] w fun r w' => Below w.heap.size w w' ∧ P.Bg (P.begins [(k, l)]) r := by
 have hE : P.begins [(k, l)] = none := by simp [P.begins, h1, h2, h3, h4]
 have HE := hide hE
 have g1 : ((k : Int) == 1) = false := by simp; omega
 have g2 : ((k : Int) == 2) = false := by simp; omega
 have g3 : ((k : Int) == 3) = false := by simp; omega
 have g4 : ((k : Int) == 4) = false := by simp; omega
 clear hE h1 h2 h3 h4
 go_enter Tryz.func78, Tryz.ntmps78
 go_wp2_with fail
 go_ret2
 refine ⟨(Below.refl _ _).alloc (Nat.le_refl _) _, ?_⟩
 rw [HE.out]
 exact ⟨_, _, rfl⟩
theorem beginning_any (ts : List P.K) (at_ : Int) (w : World) (ht : ∀ t ∈ ts, P.Tv t) :
  Calls Tryz.prog 78 #[.agg #[.int .i64 (P.headT ts).1, .int .i64 at_, .string (Lx.str (P.headT ts).2)]] w fun r w' => Below w.heap.size w w' ∧ P.Bg (P.begins (P.fc ts)) r := by
 cases ts with
 | nil => exact beg_other 0 [] at_ w (by decide) (by decide) (by decide) (by decide)
 | cons t ts =>
  have hv := ht t (by simp)
  have e : P.begins (P.fc (t :: ts)) = P.begins [(t.1, t.2.2)] := rfl
  rw [e]
  show Calls Tryz.prog 78 #[.agg #[.int .i64 t.1, .int .i64 at_, .string (Lx.str t.2.2)]] w _
  by_cases h1 : t.1 = 1
  ·rw [h1]; exact beg_word _ _ _
  by_cases h2 : t.1 = 2
  ·have := hv.2 h2
   rw [h2]
   exact beg_digits _ _ _ this.1 this.2.1 this.2.2
  by_cases h3 : t.1 = 3
  ·rw [h3]; exact beg_quoted _ _ _
  by_cases h4 : t.1 = 4
  ·rw [h4]; exact beg_sign _ _ _
  exact beg_other _ _ _ _ h1 h2 h3 h4
end Go.Proofs.YtbdbpfcblppnbaaGreatDoor.Vx
namespace Go.Proofs.YtbdbpfcblppnbaaGreatDoor.Vx
open Go.RowKit
theorem fr5 (w : World) (g : Nat) (y0 y1 y2 y3 y4 : Value) : Fr w (((((w.setCell ⟨g, 0, none⟩ y0).setCell ⟨g, 1, none⟩ y1).setCell ⟨g, 2, none⟩ y2).setCell ⟨g, 3, none⟩ y3).setCell ⟨g, 4, none⟩ y4) (fun c => c = g) :=
 (((((Fr.refl w (fun c => c = g)).set ⟨g, 0, none⟩ y0 (fun _ => rfl)).set ⟨g, 1, none⟩ y1 (fun _ => rfl)).set ⟨g, 2, none⟩ y2 (fun _ => rfl)).set ⟨g, 3, none⟩ y3 (fun _ => rfl)).set ⟨g, 4, none⟩ y4 (fun _ => rfl)
theorem sf5 {w : World} {g : Nat} {t : TypeId} {z0 z1 z2 z3 z4 : Value} (h : w.heap[g]? = some (.cells #[z0, z1, z2, z3, z4] t (0, 0))) (y0 y1 y2 y3 y4 : Value) : ∃ wz, wz = (((((w.setCell ⟨g, 0, none⟩ y0).setCell ⟨g, 1, none⟩ y1).setCell ⟨g, 2, none⟩ y2).setCell ⟨g, 3, none⟩ y3).setCell ⟨g, 4, none⟩ y4) ∧ wz.heap[g]? = some (.cells #[y0, y1, y2, y3, y4] t (0, 0)) ∧ Fr w wz (fun c => c = g) := ⟨_, rfl, set5 h y0 y1 y2 y3 y4, fr5 w g y0 y1 y2 y3 y4⟩
theorem str_isL (a l : List UInt8) : ((Lx.str a).toList == l) = decide (a = l) := by
 rw [toList_bl (Lx.str a), Lx.bl_str]
 by_cases h : a = l
 ·simp [h]
 ·simp [h]
/-- The cells of a plain value. -/
def P.vc (v : Val) : Array Value := #[.int .i64 v.kind, .int .i64 v.n, .string v.s, .slice none 0 0, .slice none 0 0]
set_option maxRecDepth 100000 in
set_option maxHeartbeats 3200000 in
theorem plainValue_any (R : Nat) (w : World) (t : P.K) (ts : List P.K) (h : P.Rdr R w (t :: ts)) :
  Calls Tryz.prog 101 #[.pointer (some ⟨R, 0, none⟩)] w fun r w' => Fr w w' (fun c => c = R) ∧
   ((∃ v n, P.lit (P.fc (t :: ts)) = some (v, P.fc ((t :: ts).drop (n + 1))) ∧ r = .returned (.tuple #[.agg (P.vc v), .nilIface]) ∧ P.Rdr R w' ((t :: ts).drop (n + 1))) ∨
    (P.lit (P.fc (t :: ts)) = none ∧ (∃ v f, r = .returned (.tuple #[.agg (P.vc v), .iface 62 (.int .i64 f)])) ∧ ∃ ts', P.Rdr R w' ts')) := by
 have hR := h.lt
 have hb0 : Below w.heap.size w (w.alloc (.cells #[.int .i64 0, .int .i64 0, .string ⟨#[]⟩, .slice none 0 0, .slice none 0 0] 47)) := (Below.refl _ _).alloc (Nat.le_refl _) _
 have hA0 : (w.alloc (.cells #[.int .i64 0, .int .i64 0, .string ⟨#[]⟩, .slice none 0 0, .slice none 0 0] 47)).heap[w.heap.size]? = some (.cells #[.int .i64 0, .int .i64 0, .string ⟨#[]⟩, .slice none 0 0, .slice none 0 0] 47 (0, 0)) := heap_alloc_new _ _
 have HN := hide (next_any R _ (t :: ts) (h.kept hb0))
 have H := hide h
 have HB0 := hide hb0
 have HA0 := hide hA0
 clear h hb0 hA0
 go_enter Tryz.func101, Tryz.ntmps101
 go_wp2_with fail
 refine HN.out.mono ?_
 rintro r w1 ⟨⟨at_, rfl⟩, hb1⟩
 have hA1 := (hb1.block w.heap.size (by simp)).trans HA0.out
 have hsz1 : w.heap.size + 1 ≤ w1.heap.size := by have := hb1.size; simpa using this
 have hb2 : Below w.heap.size w (w1.alloc (.cells #[.int .i64 t.1, .int .i64 at_, .string (Lx.str t.2.2)] 80)) := (HB0.out.trans (hb1.mono HB0.out.size)).alloc (by omega) _
 have hA2 : (w1.alloc (.cells #[.int .i64 t.1, .int .i64 at_, .string (Lx.str t.2.2)] 80)).heap[w.heap.size]? = some (.cells #[.int .i64 0, .int .i64 0, .string ⟨#[]⟩, .slice none 0 0, .slice none 0 0] 47 (0, 0)) := by rw [heap_alloc_old _ _ (by omega)]; exact hA1
 have hT2 : (w1.alloc (.cells #[.int .i64 t.1, .int .i64 at_, .string (Lx.str t.2.2)] 80)).heap[w1.heap.size]? = some (.cells #[.int .i64 t.1, .int .i64 at_, .string (Lx.str t.2.2)] 80 (0, 0)) := heap_alloc_new _ _
 have HR2 := hide (H.out.kept hb2)
 have HB2 := hide hb2
 have HSZ := hide hsz1
 clear hA1 hb1 hb2 HN
 have HA2 := hide hA2
 have HT2 := hide hT2
 have e1 : (P.headT (t :: ts)).1 = t.1 := rfl
 have e2 : (P.headT (t :: ts)).2 = t.2.2 := rfl
 have hT2c := hT2
 have hF2 : Fr w (w1.alloc (.cells #[.int .i64 t.1, .int .i64 at_, .string (Lx.str t.2.2)] 80)) (fun c => c = R) := (P.fr_below HB2.out).weak (fun _ _ e => e.elim)
 have HF2 := hide hF2
 clear HB2 hF2
 by_cases k2 : t.1 = 2
 ·have g2 : ((t.1 : Int) == 2) = true := by simp [k2]
  have HL := hide (show Calls Tryz.prog 115 #[.pointer (some ⟨R, 0, none⟩), .int .i64 0] (w1.alloc (.cells #[.int .i64 t.1, .int .i64 at_, .string (Lx.str t.2.2)] 80)) _ from rnumber_any R (w1.alloc (.cells #[.int .i64 t.1, .int .i64 at_, .string (Lx.str t.2.2)] 80)) (t :: ts) 0 HR2.out)
  have hE : P.lit (P.fc (t :: ts)) = (P.number 0 (P.fc (t :: ts))).map (fun p => (⟨1, p.1, ⟨#[]⟩, [], []⟩, p.2)) := by
   rw [P.fc_cons, P.lit, if_pos k2]
  have HE := hide hE
  have q0 := cell_of_block hT2c 0 _ rfl
  clear k2 hE hT2c hT2 hA2
  go_wp2_with fail
  refine HL.out.mono ?_
  rintro r w3 ⟨hf3, ⟨t', ts', n, e, hn, rfl, hr3⟩ | ⟨hn, ⟨f, rfl⟩, hr3⟩⟩
  ·cases e
   have hA3 := (hf3.block w.heap.size (blt HA2.out) (by omega)).trans HA2.out
   have HF3 := hide (HF2.out.trans hf3 (fun _ _ e => e))
   have HR3 := hide hr3
   have E : Hid (P.lit (P.fc (t :: ts)) = some (⟨1, (n : Int), ⟨#[]⟩, [], []⟩, P.fc ts)) := by
    show _ = _
    rw [HE.out, hn]
    rfl
   clear hf3 hr3 hn HL q0
   obtain ⟨z0, z1, z2, z3, z4⟩ := cl5 hA3
   obtain ⟨f0, f1, f2, f3, f4⟩ := fl5 hA3
   have HAx := hide hA3
   clear hA3
   go_wp2_with fail
   obtain ⟨wz, hwz, hBz, hFz⟩ := sf5 HAx.out (.int .i64 1) (.int .i64 n) (.string ⟨#[]⟩) (.slice none 0 0) (.slice none 0 0)
   rw [← hwz]
   clear hwz
   obtain ⟨r0, r1, r2, r3, r4⟩ := cl5 hBz
   refine bodyPost_ret (v := .tuple #[.agg #[.int .i64 1, .int .i64 n, .string ⟨#[]⟩, .slice none 0 0, .slice none 0 0], .nilIface]) (by simp [results, Tryz.results101, go_sem, r0, r1, r2, r3, r4]) rfl ⟨HF3.out.trans hFz (fun c hc e => by omega), .inl ⟨_, 0, E.out, rfl, HR3.out.fr hFz (fun c e => by omega)⟩⟩
  ·have hA3 := (hf3.block w.heap.size (blt HA2.out) (by omega)).trans HA2.out
   have HF3 := hide (HF2.out.trans hf3 (fun _ _ e => e))
   have HR3 := hide hr3
   have E : Hid (P.lit (P.fc (t :: ts)) = none) := by
    show _ = _
    rw [HE.out, hn]
    rfl
   clear hf3 hr3 hn HL q0
   obtain ⟨z0, z1, z2, z3, z4⟩ := cl5 hA3
   obtain ⟨f0, f1, f2, f3, f4⟩ := fl5 hA3
   have HAx := hide hA3
   clear hA3
   go_wp2_with fail
   obtain ⟨wz, hwz, hBz, hFz⟩ := sf5 HAx.out (.int .i64 1) (.int .i64 0) (.string ⟨#[]⟩) (.slice none 0 0) (.slice none 0 0)
   rw [← hwz]
   clear hwz
   obtain ⟨r0, r1, r2, r3, r4⟩ := cl5 hBz
   refine bodyPost_ret (v := .tuple #[.agg #[.int .i64 1, .int .i64 0, .string ⟨#[]⟩, .slice none 0 0, .slice none 0 0], .iface 62 (.int .i64 f)]) (by simp [results, Tryz.results101, go_sem, r0, r1, r2, r3, r4]) rfl ⟨HF3.out.trans hFz (fun c hc e => by omega), .inr ⟨E.out, ⟨⟨1, 0, ⟨#[]⟩, [], []⟩, f, rfl⟩, _, HR3.out.fr hFz (fun c e => by omega)⟩⟩
 have g2 : ((t.1 : Int) == 2) = false := by simp; omega
 have HP := hide (pass_any R (w1.alloc (.cells #[.int .i64 t.1, .int .i64 at_, .string (Lx.str t.2.2)] 80)) t ts HR2.out)
 have q0 := cell_of_block hT2c 0 _ rfl
 have HT2c := hide hT2c
 clear hT2c hT2 hA2
 go_wp2_with fail
 refine HP.out.mono ?_
 rintro r w3 ⟨rfl, hr3, hf3⟩
 have hA3 := (hf3.block w.heap.size (blt HA2.out) (by omega)).trans HA2.out
 have hT3 := (hf3.block w1.heap.size (blt HT2c.out) (by omega)).trans HT2c.out
 have HF3 := hide (HF2.out.trans hf3 (fun _ _ e => e))
 have HR3 := hide hr3
 have HA3 := hide hA3
 clear hf3 hr3 HP q0 HA2 HT2c HT2 g2 HR2 HF2
 have q0 := cell_of_block hT3 0 _ rfl
 have q2 := cell_of_block hT3 2 _ rfl
 clear hT3
 by_cases k3 : t.1 = 3
 ·have g3 : ((t.1 : Int) == 3) = true := by simp [k3]
  have E : Hid (P.lit (P.fc (t :: ts)) = some (⟨2, 0, V.str t.2.2, [], []⟩, P.fc ts)) := by
   show _ = _
   rw [P.fc_cons, P.lit]
   simp [k3]
  clear k2 k3
  obtain ⟨z0, z1, z2, z3, z4⟩ := cl5 hA3
  obtain ⟨f0, f1, f2, f3, f4⟩ := fl5 hA3
  have HAx := hide hA3
  clear hA3
  go_wp2_with fail
  obtain ⟨wz, hwz, hBz, hFz⟩ := sf5 HAx.out (.int .i64 2) (.int .i64 0) (.string (Lx.str t.2.2)) (.slice none 0 0) (.slice none 0 0)
  rw [← hwz]
  clear hwz
  obtain ⟨r0, r1, r2, r3, r4⟩ := cl5 hBz
  refine bodyPost_ret (v := .tuple #[.agg #[.int .i64 2, .int .i64 0, .string (Lx.str t.2.2), .slice none 0 0, .slice none 0 0], .nilIface]) (by simp [results, Tryz.results101, go_sem, r0, r1, r2, r3, r4]) rfl ⟨HF3.out.trans hFz (fun c hc e => by omega), .inl ⟨_, 0, E.out, rfl, HR3.out.fr hFz (fun c e => by omega)⟩⟩
 have g3 : ((t.1 : Int) == 3) = false := by simp; omega
 by_cases kt : t.2.2 = P.kTrue
 ·have gt : ((Lx.str t.2.2).toList == [116, 114, 117, 101]) = true := by rw [str_isL, kt]; rfl
  have E : Hid (P.lit (P.fc (t :: ts)) = some (⟨3, 1, ⟨#[]⟩, [], []⟩, P.fc ts)) := by
   show _ = _
   rw [P.fc_cons, P.lit]
   simp [k2, k3, kt]
  clear k2 k3 kt
  obtain ⟨z0, z1, z2, z3, z4⟩ := cl5 hA3
  obtain ⟨f0, f1, f2, f3, f4⟩ := fl5 hA3
  have HAx := hide hA3
  clear hA3
  go_wp2_with fail
  obtain ⟨wz, hwz, hBz, hFz⟩ := sf5 HAx.out (.int .i64 3) (.int .i64 1) (.string ⟨#[]⟩) (.slice none 0 0) (.slice none 0 0)
  rw [← hwz]
  clear hwz
  obtain ⟨r0, r1, r2, r3, r4⟩ := cl5 hBz
  refine bodyPost_ret (v := .tuple #[.agg #[.int .i64 3, .int .i64 1, .string ⟨#[]⟩, .slice none 0 0, .slice none 0 0], .nilIface]) (by simp [results, Tryz.results101, go_sem, r0, r1, r2, r3, r4]) rfl ⟨HF3.out.trans hFz (fun c hc e => by omega), .inl ⟨_, 0, E.out, rfl, HR3.out.fr hFz (fun c e => by omega)⟩⟩
 have gt : ((Lx.str t.2.2).toList == [116, 114, 117, 101]) = false := by rw [str_isL]; exact decide_eq_false kt
 by_cases kf : t.2.2 = P.kFalse
 ·have gf : ((Lx.str t.2.2).toList == [102, 97, 108, 115, 101]) = true := by rw [str_isL, kf]; rfl
  have E : Hid (P.lit (P.fc (t :: ts)) = some (⟨3, 0, ⟨#[]⟩, [], []⟩, P.fc ts)) := by
   show _ = _
   rw [P.fc_cons, P.lit]
   simp only [k2, k3, if_false]
   rw [if_neg kt, if_pos kf]
  clear k2 k3 kt kf
  obtain ⟨z0, z1, z2, z3, z4⟩ := cl5 hA3
  obtain ⟨f0, f1, f2, f3, f4⟩ := fl5 hA3
  have HAx := hide hA3
  clear hA3
  go_wp2_with fail
  obtain ⟨wz, hwz, hBz, hFz⟩ := sf5 HAx.out (.int .i64 3) (.int .i64 0) (.string ⟨#[]⟩) (.slice none 0 0) (.slice none 0 0)
  rw [← hwz]
  clear hwz
  obtain ⟨r0, r1, r2, r3, r4⟩ := cl5 hBz
  refine bodyPost_ret (v := .tuple #[.agg #[.int .i64 3, .int .i64 0, .string ⟨#[]⟩, .slice none 0 0, .slice none 0 0], .nilIface]) (by simp [results, Tryz.results101, go_sem, r0, r1, r2, r3, r4]) rfl ⟨HF3.out.trans hFz (fun c hc e => by omega), .inl ⟨_, 0, E.out, rfl, HR3.out.fr hFz (fun c e => by omega)⟩⟩
 have gf : ((Lx.str t.2.2).toList == [102, 97, 108, 115, 101]) = false := by rw [str_isL]; exact decide_eq_false kf
 by_cases km : t.2.2 = [45]
 ·have gm : ((Lx.str t.2.2).toList == [45]) = true := by rw [str_isL, km]; rfl
  have hE : P.lit (P.fc (t :: ts)) = (P.number 1 (P.fc ts)).map (fun p => (⟨1, -(p.1 : Int), ⟨#[]⟩, [], []⟩, p.2)) := by
   rw [P.fc_cons, P.lit]
   simp only [k2, k3, if_false]
   rw [if_neg kt, if_neg kf, if_pos km]
  have HE := hide hE
  have HL := hide (show Calls Tryz.prog 115 #[.pointer (some ⟨R, 0, none⟩), .int .i64 1] w3 _ from rnumber_any R w3 ts 1 HR3.out)
  clear k2 k3 kt kf km hE hA3
  go_wp2_with fail
  refine HL.out.mono ?_
  rintro r w4 ⟨hf4, ⟨t', ts', n, rfl, hn, rfl, hr4⟩ | ⟨hn, ⟨f, rfl⟩, hr4⟩⟩
  ·have hA4 := (hf4.block w.heap.size (blt HA3.out) (by omega)).trans HA3.out
   have HF4 := hide (HF3.out.trans hf4 (fun _ _ e => e))
   have HR4 := hide hr4
   have hnn : wrap64 (-(n : Int)) = -(n : Int) := by
    have : n ≤ 1000000000 := by
     rw [P.fc_cons, P.number] at hn
     split at hn
     ·split at hn
      ·cases hn
      ·rename_i hc
       simp only [Option.some.injEq, Prod.mk.injEq] at hn hc
       have := hn.1
       omega
     ·cases hn
    unfold wrap64
    omega
   have E : Hid (P.lit (P.fc (t :: t' :: ts')) = some (⟨1, -(n : Int), ⟨#[]⟩, [], []⟩, P.fc ts')) := by
    show _ = _
    rw [HE.out, hn]
    rfl
   clear hf4 hr4 hn HL q0 q2
   obtain ⟨z0, z1, z2, z3, z4⟩ := cl5 hA4
   obtain ⟨f0, f1, f2, f3, f4⟩ := fl5 hA4
   have HAx := hide hA4
   clear hA4
   go_wp2_with fail
   obtain ⟨wz, hwz, hBz, hFz⟩ := sf5 HAx.out (.int .i64 1) (.int .i64 (-(n : Int))) (.string ⟨#[]⟩) (.slice none 0 0) (.slice none 0 0)
   rw [← hwz]
   clear hwz
   obtain ⟨r0, r1, r2, r3, r4⟩ := cl5 hBz
   refine bodyPost_ret (v := .tuple #[.agg #[.int .i64 1, .int .i64 (-(n : Int)), .string ⟨#[]⟩, .slice none 0 0, .slice none 0 0], .nilIface]) (by simp [results, Tryz.results101, go_sem, r0, r1, r2, r3, r4]) rfl ⟨HF4.out.trans hFz (fun c hc e => by omega), .inl ⟨_, 1, E.out, rfl, HR4.out.fr hFz (fun c e => by omega)⟩⟩
  ·have hA4 := (hf4.block w.heap.size (blt HA3.out) (by omega)).trans HA3.out
   have HF4 := hide (HF3.out.trans hf4 (fun _ _ e => e))
   have HR4 := hide hr4
   have E : Hid (P.lit (P.fc (t :: ts)) = none) := by
    show _ = _
    rw [HE.out, hn]
    rfl
   clear hf4 hr4 hn HL q0 q2
   obtain ⟨z0, z1, z2, z3, z4⟩ := cl5 hA4
   obtain ⟨f0, f1, f2, f3, f4⟩ := fl5 hA4
   have HAx := hide hA4
   clear hA4
   go_wp2_with fail
   obtain ⟨wz, hwz, hBz, hFz⟩ := sf5 HAx.out (.int .i64 1) (.int .i64 0) (.string ⟨#[]⟩) (.slice none 0 0) (.slice none 0 0)
   rw [← hwz]
   clear hwz
   obtain ⟨r0, r1, r2, r3, r4⟩ := cl5 hBz
   refine bodyPost_ret (v := .tuple #[.agg #[.int .i64 1, .int .i64 0, .string ⟨#[]⟩, .slice none 0 0, .slice none 0 0], .iface 62 (.int .i64 f)]) (by simp [results, Tryz.results101, go_sem, r0, r1, r2, r3, r4]) rfl ⟨HF4.out.trans hFz (fun c hc e => by omega), .inr ⟨E.out, ⟨⟨1, 0, ⟨#[]⟩, [], []⟩, f, rfl⟩, _, HR4.out.fr hFz (fun c e => by omega)⟩⟩
 have gm : ((Lx.str t.2.2).toList == [45]) = false := by rw [str_isL]; exact decide_eq_false km
 have E : Hid (P.lit (P.fc (t :: ts)) = some (V.zero, P.fc ts)) := by
  show _ = _
  rw [P.fc_cons, P.lit]
  simp only [k2, k3, kt, kf, km, if_false]
 clear k2 k3 kt kf km
 obtain ⟨z0, z1, z2, z3, z4⟩ := cl5 hA3
 obtain ⟨f0, f1, f2, f3, f4⟩ := fl5 hA3
 have HAx := hide hA3
 clear hA3
 go_wp2_with fail
 obtain ⟨wz, hwz, hBz, hFz⟩ := sf5 HAx.out (.int .i64 0) (.int .i64 0) (.string ⟨#[]⟩) (.slice none 0 0) (.slice none 0 0)
 rw [← hwz]
 clear hwz
 obtain ⟨r0, r1, r2, r3, r4⟩ := cl5 hBz
 refine bodyPost_ret (v := .tuple #[.agg #[.int .i64 0, .int .i64 0, .string ⟨#[]⟩, .slice none 0 0, .slice none 0 0], .nilIface]) (by simp [results, Tryz.results101, go_sem, r0, r1, r2, r3, r4]) rfl ⟨HF3.out.trans hFz (fun c hc e => by omega), .inl ⟨_, 0, E.out, rfl, HR3.out.fr hFz (fun c e => by omega)⟩⟩
end Go.Proofs.YtbdbpfcblppnbaaGreatDoor.Vx
namespace Go.Proofs.YtbdbpfcblppnbaaGreatDoor.Vx
open Go.RowKit
/-- These cells hold that expression, whatever becomes of the blocks that are none of D. -/
def X.MemD (D : Nat → Prop) (m : Nat) (w : World) (e : Ex) (cs : List Value) : Prop := ∀ w2 : World, (∀ c, D c → w2.heap[c]? = w.heap[c]?) → X.Mem m w2 e cs
theorem X.MemD.to {D D2 : Nat → Prop} {m : Nat} {w w2 : World} {e : Ex} {cs : List Value} (h : X.MemD D m w e cs) (hw : ∀ c, D c → w2.heap[c]? = w.heap[c]?) (hD : ∀ c, D c → D2 c) : X.MemD D2 m w2 e cs := fun w3 h3 => h w3 (fun c hc => (h3 c (hD c hc)).trans (hw c hc))
theorem X.MemD.mem {D : Nat → Prop} {m : Nat} {w : World} {e : Ex} {cs : List Value} (h : X.MemD D m w e cs) : X.Mem m w e cs := h w (fun _ _ => rfl)
namespace P
/-- The cells of an expression as the parser makes them. -/
def xc (k : Int) (v : Val) (s t : ByteArray) (a : Option Addr) (n c : Nat) (a' : Option Addr) (n' c' : Nat) : List Value :=
 [.int .i64 k, .int .i64 v.kind, .int .i64 v.n, .string v.s, .slice none 0 0, .slice none 0 0, .string s, .string t, .slice a n c, .slice a' n' c']
/-- The blocks that were made since. -/
def New (w w' : World) : Nat → Prop := fun c => w.heap.size ≤ c ∧ c < w'.heap.size
/-- An expression was read (as the plain parser has it), or an error is told. -/
def ExOut (p : Option (Ex × List T)) (d R : Nat) (w w' : World) (ts : List K) (r : Ending) : Prop :=
 (∃ e n k v s t a i c a' i' c', p = some (e, fc (ts.drop (n + 1))) ∧ r = .returned (.tuple #[.agg (xc k v s t a i c a' i' c').toArray, .nilIface]) ∧ X.MemD (New w w') d w' e (xc k v s t a i c a' i' c') ∧
   X.bulk d e + 60 * (ts.drop (n + 1)).length ≤ 60 * ts.length ∧ Rdr R w' (ts.drop (n + 1))) ∨
  (p = none ∧ (∃ k v s t a i c a' i' c' f, r = .returned (.tuple #[.agg (xc k v s t a i c a' i' c').toArray, .iface 62 (.int .i64 f)])) ∧ ∃ ts', Rdr R w' ts')
theorem set10 {w : World} {g : Nat} {t : TypeId} {z0 z1 z2 z3 z4 z5 z6 z7 z8 z9 : Value} (h : w.heap[g]? = some (.cells #[z0, z1, z2, z3, z4, z5, z6, z7, z8, z9] t (0, 0))) (y0 y1 y2 y3 y4 y5 y6 y7 y8 y9 : Value) :
  ((((((((((w.setCell ⟨g, 0, none⟩ y0).setCell ⟨g, 1, none⟩ y1).setCell ⟨g, 2, none⟩ y2).setCell ⟨g, 3, none⟩ y3).setCell ⟨g, 4, none⟩ y4).setCell ⟨g, 5, none⟩ y5).setCell ⟨g, 6, none⟩ y6).setCell ⟨g, 7, none⟩ y7).setCell ⟨g, 8, none⟩ y8).setCell ⟨g, 9, none⟩ y9).heap[g]? = some (.cells #[y0, y1, y2, y3, y4, y5, y6, y7, y8, y9] t (0, 0)) := by
 have h0 : (w.setCell ⟨g, 0, none⟩ y0).heap[g]? = some (.cells #[y0, z1, z2, z3, z4, z5, z6, z7, z8, z9] t (0, 0)) := block_set (i := 0) h y0
 have h1 : ((w.setCell ⟨g, 0, none⟩ y0).setCell ⟨g, 1, none⟩ y1).heap[g]? = some (.cells #[y0, y1, z2, z3, z4, z5, z6, z7, z8, z9] t (0, 0)) := block_set (i := 1) h0 y1
 have h2 : (((w.setCell ⟨g, 0, none⟩ y0).setCell ⟨g, 1, none⟩ y1).setCell ⟨g, 2, none⟩ y2).heap[g]? = some (.cells #[y0, y1, y2, z3, z4, z5, z6, z7, z8, z9] t (0, 0)) := block_set (i := 2) h1 y2
 have h3 : ((((w.setCell ⟨g, 0, none⟩ y0).setCell ⟨g, 1, none⟩ y1).setCell ⟨g, 2, none⟩ y2).setCell ⟨g, 3, none⟩ y3).heap[g]? = some (.cells #[y0, y1, y2, y3, z4, z5, z6, z7, z8, z9] t (0, 0)) := block_set (i := 3) h2 y3
 have h4 : (((((w.setCell ⟨g, 0, none⟩ y0).setCell ⟨g, 1, none⟩ y1).setCell ⟨g, 2, none⟩ y2).setCell ⟨g, 3, none⟩ y3).setCell ⟨g, 4, none⟩ y4).heap[g]? = some (.cells #[y0, y1, y2, y3, y4, z5, z6, z7, z8, z9] t (0, 0)) := block_set (i := 4) h3 y4
 have h5 : ((((((w.setCell ⟨g, 0, none⟩ y0).setCell ⟨g, 1, none⟩ y1).setCell ⟨g, 2, none⟩ y2).setCell ⟨g, 3, none⟩ y3).setCell ⟨g, 4, none⟩ y4).setCell ⟨g, 5, none⟩ y5).heap[g]? = some (.cells #[y0, y1, y2, y3, y4, y5, z6, z7, z8, z9] t (0, 0)) := block_set (i := 5) h4 y5
 have h6 : (((((((w.setCell ⟨g, 0, none⟩ y0).setCell ⟨g, 1, none⟩ y1).setCell ⟨g, 2, none⟩ y2).setCell ⟨g, 3, none⟩ y3).setCell ⟨g, 4, none⟩ y4).setCell ⟨g, 5, none⟩ y5).setCell ⟨g, 6, none⟩ y6).heap[g]? = some (.cells #[y0, y1, y2, y3, y4, y5, y6, z7, z8, z9] t (0, 0)) := block_set (i := 6) h5 y6
 have h7 : ((((((((w.setCell ⟨g, 0, none⟩ y0).setCell ⟨g, 1, none⟩ y1).setCell ⟨g, 2, none⟩ y2).setCell ⟨g, 3, none⟩ y3).setCell ⟨g, 4, none⟩ y4).setCell ⟨g, 5, none⟩ y5).setCell ⟨g, 6, none⟩ y6).setCell ⟨g, 7, none⟩ y7).heap[g]? = some (.cells #[y0, y1, y2, y3, y4, y5, y6, y7, z8, z9] t (0, 0)) := block_set (i := 7) h6 y7
 have h8 : (((((((((w.setCell ⟨g, 0, none⟩ y0).setCell ⟨g, 1, none⟩ y1).setCell ⟨g, 2, none⟩ y2).setCell ⟨g, 3, none⟩ y3).setCell ⟨g, 4, none⟩ y4).setCell ⟨g, 5, none⟩ y5).setCell ⟨g, 6, none⟩ y6).setCell ⟨g, 7, none⟩ y7).setCell ⟨g, 8, none⟩ y8).heap[g]? = some (.cells #[y0, y1, y2, y3, y4, y5, y6, y7, y8, z9] t (0, 0)) := block_set (i := 8) h7 y8
 exact block_set (i := 9) h8 y9
theorem fr10 (w : World) (g : Nat) (y0 y1 y2 y3 y4 y5 y6 y7 y8 y9 : Value) : Fr w ((((((((((w.setCell ⟨g, 0, none⟩ y0).setCell ⟨g, 1, none⟩ y1).setCell ⟨g, 2, none⟩ y2).setCell ⟨g, 3, none⟩ y3).setCell ⟨g, 4, none⟩ y4).setCell ⟨g, 5, none⟩ y5).setCell ⟨g, 6, none⟩ y6).setCell ⟨g, 7, none⟩ y7).setCell ⟨g, 8, none⟩ y8).setCell ⟨g, 9, none⟩ y9) (fun c => c = g) :=
 ((((((((((Fr.refl w (fun c => c = g)).set ⟨g, 0, none⟩ y0 (fun _ => rfl)).set ⟨g, 1, none⟩ y1 (fun _ => rfl)).set ⟨g, 2, none⟩ y2 (fun _ => rfl)).set ⟨g, 3, none⟩ y3 (fun _ => rfl)).set ⟨g, 4, none⟩ y4 (fun _ => rfl)).set ⟨g, 5, none⟩ y5 (fun _ => rfl)).set ⟨g, 6, none⟩ y6 (fun _ => rfl)).set ⟨g, 7, none⟩ y7 (fun _ => rfl)).set ⟨g, 8, none⟩ y8 (fun _ => rfl)).set ⟨g, 9, none⟩ y9 (fun _ => rfl)
theorem sf10 {w : World} {g : Nat} {t : TypeId} {z0 z1 z2 z3 z4 z5 z6 z7 z8 z9 : Value} (h : w.heap[g]? = some (.cells #[z0, z1, z2, z3, z4, z5, z6, z7, z8, z9] t (0, 0))) (y0 y1 y2 y3 y4 y5 y6 y7 y8 y9 : Value) : ∃ wz, wz = ((((((((((w.setCell ⟨g, 0, none⟩ y0).setCell ⟨g, 1, none⟩ y1).setCell ⟨g, 2, none⟩ y2).setCell ⟨g, 3, none⟩ y3).setCell ⟨g, 4, none⟩ y4).setCell ⟨g, 5, none⟩ y5).setCell ⟨g, 6, none⟩ y6).setCell ⟨g, 7, none⟩ y7).setCell ⟨g, 8, none⟩ y8).setCell ⟨g, 9, none⟩ y9) ∧ wz.heap[g]? = some (.cells #[y0, y1, y2, y3, y4, y5, y6, y7, y8, y9] t (0, 0)) ∧ Fr w wz (fun c => c = g) := ⟨_, rfl, set10 h y0 y1 y2 y3 y4 y5 y6 y7 y8 y9, fr10 w g y0 y1 y2 y3 y4 y5 y6 y7 y8 y9⟩
/-- A plain value needs no memory. -/
theorem vmem (m : Nat) (w : World) (k n : Int) (s : ByteArray) : V.Mem (m + 1) w ⟨k, n, s, [], []⟩ [.int .i64 k, .int .i64 n, .string s, .slice none 0 0, .slice none 0 0] := ⟨_, _, rfl, V.Row.zero _ _ _, V.Row.zero _ _ _⟩
/-- An expression without parts needs none either. -/
theorem xleaf (D : Nat → Prop) (m : Nat) (w : World) (k vk vn : Int) (vs s t : ByteArray) : X.MemD D (m + 1) w ⟨k, ⟨vk, vn, vs, [], []⟩, s, t, [], []⟩ (xc k ⟨vk, vn, vs, [], []⟩ s t none 0 0 none 0 0) :=
 fun w2 _ => ⟨_, _, _, _, _, _, _, rfl, vmem m w2 vk vn vs, V.Row.zero _ _ _, V.Row.zero _ _ _⟩
theorem lit_form {ts : List T} {v : Val} {r : List T} (h : lit ts = some (v, r)) (hl : ∀ t ∈ ts, t.2.length ≤ 40) : v = ⟨v.kind, v.n, v.s, [], []⟩ ∧ v.s.size ≤ 40 := by
 cases ts with
 | nil => cases h
 | cons t ts =>
  rw [lit] at h
  split at h
  ·cases hn : number 0 (t :: ts) with
   | none => rw [hn] at h; cases h
   | some p => rw [hn] at h; cases h; exact ⟨rfl, by show (⟨#[]⟩ : ByteArray).size ≤ 40; decide⟩
  ·split at h
   ·cases h
    refine ⟨rfl, ?_⟩
    have := hl t (by simp)
    rw [← V.length_bl, V.bl_str]
    exact this
   ·split at h
    ·cases h; exact ⟨rfl, by show (⟨#[]⟩ : ByteArray).size ≤ 40; decide⟩
    ·split at h
     ·cases h; exact ⟨rfl, by show (⟨#[]⟩ : ByteArray).size ≤ 40; decide⟩
     ·split at h
      ·cases hn : number 1 ts with
       | none => rw [hn] at h; cases h
       | some p => rw [hn] at h; cases h; exact ⟨rfl, by show (⟨#[]⟩ : ByteArray).size ≤ 40; decide⟩
      ·cases h; exact ⟨rfl, by show (⟨#[]⟩ : ByteArray).size ≤ 40; decide⟩
theorem fc_len {ts : List K} (h : ∀ t ∈ ts, Tv t) : ∀ t ∈ fc ts, t.2.length ≤ 40 := by
 intro t ht
 obtain ⟨x, hx, rfl⟩ := List.mem_map.1 ht
 exact (h x hx).1
end P
set_option maxRecDepth 100000 in
set_option maxHeartbeats 3200000 in
theorem literal_any (d R : Nat) (w : World) (t : P.K) (ts : List P.K) (h : P.Rdr R w (t :: ts)) :
  Calls Tryz.prog 79 #[.pointer (some ⟨R, 0, none⟩)] w fun r w' => Fr w w' (fun c => c = R) ∧ P.ExOut ((P.lit (P.fc (t :: ts))).map (fun p => (⟨1, p.1, ⟨#[]⟩, ⟨#[]⟩, [], []⟩, p.2))) (d + 1) R w w' (t :: ts) r := by
 have hR := h.lt
 have hb0 : Below w.heap.size w (w.alloc (.cells #[.int .i64 0, .int .i64 0, .int .i64 0, .string ⟨#[]⟩, .slice none 0 0, .slice none 0 0, .string ⟨#[]⟩, .string ⟨#[]⟩, .slice none 0 0, .slice none 0 0] 57)) := (Below.refl _ _).alloc (Nat.le_refl _) _
 have hA0 : (w.alloc (.cells #[.int .i64 0, .int .i64 0, .int .i64 0, .string ⟨#[]⟩, .slice none 0 0, .slice none 0 0, .string ⟨#[]⟩, .string ⟨#[]⟩, .slice none 0 0, .slice none 0 0] 57)).heap[w.heap.size]? = some (.cells #[.int .i64 0, .int .i64 0, .int .i64 0, .string ⟨#[]⟩, .slice none 0 0, .slice none 0 0, .string ⟨#[]⟩, .string ⟨#[]⟩, .slice none 0 0, .slice none 0 0] 57 (0, 0)) := heap_alloc_new _ _
 have HN := hide (plainValue_any R _ t ts (h.kept hb0))
 have HF0 : Hid (Fr w (w.alloc (.cells #[.int .i64 0, .int .i64 0, .int .i64 0, .string ⟨#[]⟩, .slice none 0 0, .slice none 0 0, .string ⟨#[]⟩, .string ⟨#[]⟩, .slice none 0 0, .slice none 0 0] 57)) (fun c => c = R)) := (P.fr_below hb0).weak (fun _ _ e => e.elim)
 have HV := hide (P.fc_len h.2)
 have HA0 := hide hA0
 clear h hb0 hA0
 go_enter Tryz.func79, Tryz.ntmps79
 go_wp2_with fail
 refine HN.out.mono ?_
 rintro r w1 ⟨hf1, ⟨v, n, hE, rfl, hr1⟩ | ⟨hE, ⟨v, f, rfl⟩, ts', hr1⟩⟩
 ·have hs1 := hf1.size
  have hA1 := (hf1.block w.heap.size (by simp) (by omega)).trans HA0.out
  have hA2 : (w1.alloc (.cells #[.int .i64 v.kind, .int .i64 v.n, .string v.s, .slice none 0 0, .slice none 0 0] 47)).heap[w.heap.size]? = some (.cells #[.int .i64 0, .int .i64 0, .int .i64 0, .string ⟨#[]⟩, .slice none 0 0, .slice none 0 0, .string ⟨#[]⟩, .string ⟨#[]⟩, .slice none 0 0, .slice none 0 0] 57 (0, 0)) := by rw [heap_alloc_old _ _ (by simp at hs1; omega)]; exact hA1
  have HF3 : Hid (Fr w (w1.alloc (.cells #[.int .i64 v.kind, .int .i64 v.n, .string v.s, .slice none 0 0, .slice none 0 0] 47)) (fun c => c = R)) := (HF0.out.trans hf1 (fun _ _ e => e)).alloc _
  have HR3 : Hid (P.Rdr R (w1.alloc (.cells #[.int .i64 v.kind, .int .i64 v.n, .string v.s, .slice none 0 0, .slice none 0 0] 47)) ((t :: ts).drop (n + 1))) := hr1.kept ((Below.refl _ _).alloc (Nat.le_refl _) _)
  have HE := hide hE
  have HS : Hid (w.heap.size < w1.heap.size) := by show _ < _; simp at hs1; omega
  unfold P.vc
  clear hf1 hr1 hA1 hs1 HN hE
  obtain ⟨hv, hvs⟩ := P.lit_form HE.out HV.out
  have HBK : Hid (X.bulk (d + 1) ⟨1, v, ⟨#[]⟩, ⟨#[]⟩, [], []⟩ + 60 * ((t :: ts).drop (n + 1)).length ≤ 60 * (t :: ts).length) := by
   show _ ≤ _
   have e0 : (⟨#[]⟩ : ByteArray).size = 0 := rfl
   have hl2 : ((t :: ts).drop (n + 1)).length ≤ ts.length := by simp
   rw [hv, X.bulk, V.bulk]
   simp only [X.sumA, X.sumN, V.sumL, V.sumF, e0, List.map_nil, List.sum_nil, List.length_nil, List.length_cons]
   omega
  have HM : Hid (∀ w2, X.MemD (P.New w w2) (d + 1) w2 ⟨1, v, ⟨#[]⟩, ⟨#[]⟩, [], []⟩ (P.xc 1 v ⟨#[]⟩ ⟨#[]⟩ none 0 0 none 0 0)) := fun w2 => by
   show X.MemD _ _ _ _ _
   rw [hv]
   exact P.xleaf _ _ _ _ _ _ _ _ _
  clear hv hvs
  obtain ⟨z0, z1, z2, z3, z4, z5, z6, z7, z8, z9⟩ := cl10 hA2
  obtain ⟨f0, f1, f2, f3, f4, f5, f6, f7, f8, f9⟩ := fl10 hA2
  have HAx := hide hA2
  clear hA2
  go_wp2_with fail
  obtain ⟨wz, hwz, hBz, hFz⟩ := P.sf10 HAx.out (.int .i64 1) (.int .i64 v.kind) (.int .i64 v.n) (.string v.s) (.slice none 0 0) (.slice none 0 0) (.string ⟨#[]⟩) (.string ⟨#[]⟩) (.slice none 0 0) (.slice none 0 0)
  rw [← hwz]
  clear hwz
  obtain ⟨r0, r1, r2, r3, r4, r5, r6, r7, r8, r9⟩ := cl10 hBz
  refine bodyPost_ret (v := .tuple #[.agg #[.int .i64 1, .int .i64 v.kind, .int .i64 v.n, .string v.s, .slice none 0 0, .slice none 0 0, .string ⟨#[]⟩, .string ⟨#[]⟩, .slice none 0 0, .slice none 0 0], .nilIface]) (by simp [results, Tryz.results79, go_sem, r0, r1, r2, r3, r4, r5, r6, r7, r8, r9]) rfl ⟨HF3.out.trans hFz (fun c hc e => by omega), .inl ⟨_, n, 1, v, ⟨#[]⟩, ⟨#[]⟩, none, 0, 0, none, 0, 0, by rw [HE.out]; rfl, rfl, HM.out _, HBK.out, HR3.out.fr hFz (fun c e => by omega)⟩⟩
 ·have hs1 := hf1.size
  have hA1 := (hf1.block w.heap.size (by simp) (by omega)).trans HA0.out
  have hA2 : (w1.alloc (.cells #[.int .i64 v.kind, .int .i64 v.n, .string v.s, .slice none 0 0, .slice none 0 0] 47)).heap[w.heap.size]? = some (.cells #[.int .i64 0, .int .i64 0, .int .i64 0, .string ⟨#[]⟩, .slice none 0 0, .slice none 0 0, .string ⟨#[]⟩, .string ⟨#[]⟩, .slice none 0 0, .slice none 0 0] 57 (0, 0)) := by rw [heap_alloc_old _ _ (by simp at hs1; omega)]; exact hA1
  have HF3 : Hid (Fr w (w1.alloc (.cells #[.int .i64 v.kind, .int .i64 v.n, .string v.s, .slice none 0 0, .slice none 0 0] 47)) (fun c => c = R)) := (HF0.out.trans hf1 (fun _ _ e => e)).alloc _
  have HR3 : Hid (P.Rdr R (w1.alloc (.cells #[.int .i64 v.kind, .int .i64 v.n, .string v.s, .slice none 0 0, .slice none 0 0] 47)) ts') := hr1.kept ((Below.refl _ _).alloc (Nat.le_refl _) _)
  have HE := hide hE
  have HS : Hid (w.heap.size < w1.heap.size) := by show _ < _; simp at hs1; omega
  unfold P.vc
  clear hf1 hr1 hA1 hs1 HN hE
  obtain ⟨z0, z1, z2, z3, z4, z5, z6, z7, z8, z9⟩ := cl10 hA2
  obtain ⟨f0, f1, f2, f3, f4, f5, f6, f7, f8, f9⟩ := fl10 hA2
  have HAx := hide hA2
  clear hA2
  go_wp2_with fail
  obtain ⟨wz, hwz, hBz, hFz⟩ := P.sf10 HAx.out (.int .i64 1) (.int .i64 v.kind) (.int .i64 v.n) (.string v.s) (.slice none 0 0) (.slice none 0 0) (.string ⟨#[]⟩) (.string ⟨#[]⟩) (.slice none 0 0) (.slice none 0 0)
  rw [← hwz]
  clear hwz
  obtain ⟨r0, r1, r2, r3, r4, r5, r6, r7, r8, r9⟩ := cl10 hBz
  refine bodyPost_ret (v := .tuple #[.agg #[.int .i64 1, .int .i64 v.kind, .int .i64 v.n, .string v.s, .slice none 0 0, .slice none 0 0, .string ⟨#[]⟩, .string ⟨#[]⟩, .slice none 0 0, .slice none 0 0], .iface 62 (.int .i64 f)]) (by simp [results, Tryz.results79, go_sem, r0, r1, r2, r3, r4, r5, r6, r7, r8, r9]) rfl ⟨HF3.out.trans hFz (fun c hc e => by omega), .inr ⟨by rw [HE.out]; rfl, ⟨1, v, ⟨#[]⟩, ⟨#[]⟩, none, 0, 0, none, 0, 0, f, rfl⟩, _, HR3.out.fr hFz (fun c e => by omega)⟩⟩
set_option maxRecDepth 100000 in
set_option maxHeartbeats 3200000 in
theorem dot_any (R : Nat) (w : World) (ts : List P.K) (h : P.Rdr R w ts) :
  Calls Tryz.prog 81 #[.pointer (some ⟨R, 0, none⟩)] w fun r w' => Fr w w' (fun c => c = R) ∧
   ((∃ t1 t2 ts', ts = t1 :: t2 :: ts' ∧ P.dot (P.fc ts) = some (V.str t2.2.2, P.fc ts') ∧ V.name t2.2.2 = true ∧ r = .returned (.tuple #[.string (V.str t2.2.2), .nilIface]) ∧ P.Rdr R w' ts') ∨
    (P.dot (P.fc ts) = none ∧ (∃ s f, r = .returned (.tuple #[.string s, .iface 62 (.int .i64 f)])) ∧ ∃ ts', P.Rdr R w' ts')) := by
 have HN := hide (sign_any' R w ts ⟨#[46]⟩ h)
 clear h
 go_enter Tryz.func81, Tryz.ntmps81
 go_wp2_with fail
 refine HN.out.mono ?_
 rintro r w1 ⟨hf1, ⟨t1, ts1, rfl, hE, rfl, hr1⟩ | ⟨hE, rfl, hr1⟩⟩
 ·have HF1 := hide hf1
  have HE : Hid (P.dot (P.fc (t1 :: ts1)) = P.name (P.fc ts1)) := by
   show _ = _
   unfold P.dot
   have hE' : P.found 4 [46] (P.fc (t1 :: ts1)) = some (P.fc ts1) := hE
   rw [hE']
  have HM := hide (rname_any R w1 ts1 hr1)
  clear hf1 hE hr1 HN
  go_wp2_with fail
  refine HM.out.mono ?_
  rintro r w2 ⟨hf2, ⟨t2, ts2, rfl, hE2, hn2, rfl, hr2⟩ | ⟨hE2, rfl, hr2⟩⟩
  ·have HF2 := hide (HF1.out.trans hf2 (fun _ _ e => e))
   have HR2 := hide hr2
   have HE2 := hide hE2
   have HN2 := hide hn2
   clear hf2 hE2 hr2 hn2 HM
   go_wp2_with fail
   go_ret2
   exact ⟨HF2.out, .inl ⟨t1, t2, ts2, rfl, HE.out.trans HE2.out, HN2.out, rfl, HR2.out⟩⟩
  ·have HF2 := hide (HF1.out.trans hf2 (fun _ _ e => e))
   have HR2 := hide hr2
   have HE2 := hide hE2
   clear hf2 hE2 hr2 HM
   go_wp2_with fail
   go_ret2
   exact ⟨HF2.out, .inr ⟨HE.out.trans HE2.out, ⟨_, _, rfl⟩, _, HR2.out⟩⟩
 ·have HF1 := hide hf1
  have HR1 := hide hr1
  have HE : Hid (P.dot (P.fc ts) = none) := by
   show _ = _
   unfold P.dot
   have hE' : P.found 4 [46] (P.fc ts) = none := hE
   rw [hE']
  clear hf1 hE hr1 HN
  go_wp2_with fail
  go_ret2
  exact ⟨HF1.out, .inr ⟨HE.out, ⟨_, _, rfl⟩, _, HR1.out⟩⟩
set_option maxRecDepth 100000 in
set_option maxHeartbeats 3200000 in
theorem twoNames_any (d R : Nat) (w : World) (ts : List P.K) (k : Int) (h : P.Rdr R w ts) :
  Calls Tryz.prog 82 #[.pointer (some ⟨R, 0, none⟩), .int .i64 k] w fun r w' => Fr w w' (fun c => c = R) ∧ P.ExOut (P.names2 k (P.fc ts)) (d + 1) R w w' ts r := by
 have hR := h.lt
 have hb0 : Below w.heap.size w (w.alloc (.cells #[.int .i64 0, .int .i64 0, .int .i64 0, .string ⟨#[]⟩, .slice none 0 0, .slice none 0 0, .string ⟨#[]⟩, .string ⟨#[]⟩, .slice none 0 0, .slice none 0 0] 57)) := (Below.refl _ _).alloc (Nat.le_refl _) _
 have hA0 : (w.alloc (.cells #[.int .i64 0, .int .i64 0, .int .i64 0, .string ⟨#[]⟩, .slice none 0 0, .slice none 0 0, .string ⟨#[]⟩, .string ⟨#[]⟩, .slice none 0 0, .slice none 0 0] 57)).heap[w.heap.size]? = some (.cells #[.int .i64 0, .int .i64 0, .int .i64 0, .string ⟨#[]⟩, .slice none 0 0, .slice none 0 0, .string ⟨#[]⟩, .string ⟨#[]⟩, .slice none 0 0, .slice none 0 0] 57 (0, 0)) := heap_alloc_new _ _
 have HN := hide (dot_any R _ ts (h.kept hb0))
 have HF0 : Hid (Fr w (w.alloc (.cells #[.int .i64 0, .int .i64 0, .int .i64 0, .string ⟨#[]⟩, .slice none 0 0, .slice none 0 0, .string ⟨#[]⟩, .string ⟨#[]⟩, .slice none 0 0, .slice none 0 0] 57)) (fun c => c = R)) := (P.fr_below hb0).weak (fun _ _ e => e.elim)
 have HV := hide h.2
 have HA0 := hide hA0
 clear h hb0 hA0
 go_enter Tryz.func82, Tryz.ntmps82
 go_wp2_with fail
 refine HN.out.mono ?_
 rintro r w1 ⟨hf1, ⟨t1, t2, ts1, rfl, hE, hn1, rfl, hr1⟩ | ⟨hE, ⟨s, f, rfl⟩, ts', hr1⟩⟩
 ·have hA1 := (hf1.block w.heap.size (by simp) (by omega)).trans HA0.out
  have HF1 := hide (HF0.out.trans hf1 (fun _ _ e => e))
  have HA1 := hide hA1
  have HE : Hid (P.names2 k (P.fc (t1 :: t2 :: ts1)) = (P.dot (P.fc ts1)).map (fun q => (⟨k, V.zero, V.str t2.2.2, q.1, [], []⟩, q.2))) := by
   show _ = _
   unfold P.names2
   rw [hE]
  have HM := hide (dot_any R w1 ts1 hr1)
  clear hf1 hE hr1 HN hA1 hn1
  go_wp2_with fail
  refine HM.out.mono ?_
  rintro r w2 ⟨hf2, ⟨t3, t4, ts2, rfl, hE2, hn2, rfl, hr2⟩ | ⟨hE2, ⟨s, f, rfl⟩, ts', hr2⟩⟩
  ·have hA2 := (hf2.block w.heap.size (blt HA1.out) (by omega)).trans HA1.out
   have HF3 := hide (HF1.out.trans hf2 (fun _ _ e => e))
   have HR3 := hide hr2
   have HE2 := hide hE2
   have HBK : Hid (X.bulk (d + 1) ⟨k, V.zero, V.str t2.2.2, V.str t4.2.2, [], []⟩ + 60 * ts2.length ≤ 60 * (t1 :: t2 :: t3 :: t4 :: ts2).length) := by
    show _ ≤ _
    have e0 : (⟨#[]⟩ : ByteArray).size = 0 := rfl
    have l2 : (V.str t2.2.2).size ≤ 40 := by rw [← V.length_bl, V.bl_str]; exact (HV.out t2 (by simp)).1
    have l4 : (V.str t4.2.2).size ≤ 40 := by rw [← V.length_bl, V.bl_str]; exact (HV.out t4 (by simp)).1
    rw [X.bulk, V.bulk]
    simp only [V.zero, X.sumA, X.sumN, V.sumL, V.sumF, e0, List.map_nil, List.sum_nil, List.length_nil, List.length_cons]
    omega
   clear hf2 hE2 hr2 hn2 HM
   obtain ⟨z0, z1, z2, z3, z4, z5, z6, z7, z8, z9⟩ := cl10 hA2
   obtain ⟨f0, f1, f2, f3, f4, f5, f6, f7, f8, f9⟩ := fl10 hA2
   have HAx := hide hA2
   clear hA2
   go_wp2_with fail
   obtain ⟨wz, hwz, hBz, hFz⟩ := P.sf10 HAx.out (.int .i64 k) (.int .i64 0) (.int .i64 0) (.string ⟨#[]⟩) (.slice none 0 0) (.slice none 0 0) (.string (V.str t2.2.2)) (.string (V.str t4.2.2)) (.slice none 0 0) (.slice none 0 0)
   rw [← hwz]
   clear hwz
   obtain ⟨r0, r1, r2, r3, r4, r5, r6, r7, r8, r9⟩ := cl10 hBz
   refine bodyPost_ret (v := .tuple #[.agg #[.int .i64 k, .int .i64 0, .int .i64 0, .string ⟨#[]⟩, .slice none 0 0, .slice none 0 0, .string (V.str t2.2.2), .string (V.str t4.2.2), .slice none 0 0, .slice none 0 0], .nilIface]) (by simp [results, Tryz.results82, go_sem, r0, r1, r2, r3, r4, r5, r6, r7, r8, r9]) rfl ⟨HF3.out.trans hFz (fun c hc e => by omega), .inl ⟨_, 3, k, V.zero, V.str t2.2.2, V.str t4.2.2, none, 0, 0, none, 0, 0, by rw [HE.out, HE2.out]; rfl, rfl, P.xleaf _ _ _ _ _ _ _ _ _, HBK.out, HR3.out.fr hFz (fun c e => by omega)⟩⟩
  ·have hA2 := (hf2.block w.heap.size (blt HA1.out) (by omega)).trans HA1.out
   have HF3 := hide (HF1.out.trans hf2 (fun _ _ e => e))
   have HR3 := hide hr2
   have HE2 := hide hE2
   clear hf2 hE2 hr2 HM
   obtain ⟨z0, z1, z2, z3, z4, z5, z6, z7, z8, z9⟩ := cl10 hA2
   obtain ⟨f0, f1, f2, f3, f4, f5, f6, f7, f8, f9⟩ := fl10 hA2
   have HAx := hide hA2
   clear hA2
   go_wp2_with fail
   obtain ⟨wz, hwz, hBz, hFz⟩ := P.sf10 HAx.out (.int .i64 k) (.int .i64 0) (.int .i64 0) (.string ⟨#[]⟩) (.slice none 0 0) (.slice none 0 0) (.string (V.str t2.2.2)) (.string s) (.slice none 0 0) (.slice none 0 0)
   rw [← hwz]
   clear hwz
   obtain ⟨r0, r1, r2, r3, r4, r5, r6, r7, r8, r9⟩ := cl10 hBz
   refine bodyPost_ret (v := .tuple #[.agg #[.int .i64 k, .int .i64 0, .int .i64 0, .string ⟨#[]⟩, .slice none 0 0, .slice none 0 0, .string (V.str t2.2.2), .string s, .slice none 0 0, .slice none 0 0], .iface 62 (.int .i64 f)]) (by simp [results, Tryz.results82, go_sem, r0, r1, r2, r3, r4, r5, r6, r7, r8, r9]) rfl ⟨HF3.out.trans hFz (fun c hc e => by omega), .inr ⟨by rw [HE.out, HE2.out]; rfl, ⟨k, V.zero, _, _, none, 0, 0, none, 0, 0, f, rfl⟩, _, HR3.out.fr hFz (fun c e => by omega)⟩⟩
 ·have hA2 := (hf1.block w.heap.size (by simp) (by omega)).trans HA0.out
  have HF3 := hide (HF0.out.trans hf1 (fun _ _ e => e))
  have HR3 := hide hr1
  have HE : Hid (P.names2 k (P.fc ts) = none) := by
   show _ = _
   unfold P.names2
   rw [hE]
  clear hf1 hE hr1 HN
  obtain ⟨z0, z1, z2, z3, z4, z5, z6, z7, z8, z9⟩ := cl10 hA2
  obtain ⟨f0, f1, f2, f3, f4, f5, f6, f7, f8, f9⟩ := fl10 hA2
  have HAx := hide hA2
  clear hA2
  go_wp2_with fail
  obtain ⟨wz, hwz, hBz, hFz⟩ := P.sf10 HAx.out (.int .i64 0) (.int .i64 0) (.int .i64 0) (.string ⟨#[]⟩) (.slice none 0 0) (.slice none 0 0) (.string ⟨#[]⟩) (.string ⟨#[]⟩) (.slice none 0 0) (.slice none 0 0)
  rw [← hwz]
  clear hwz
  obtain ⟨r0, r1, r2, r3, r4, r5, r6, r7, r8, r9⟩ := cl10 hBz
  refine bodyPost_ret (v := .tuple #[.agg #[.int .i64 0, .int .i64 0, .int .i64 0, .string ⟨#[]⟩, .slice none 0 0, .slice none 0 0, .string ⟨#[]⟩, .string ⟨#[]⟩, .slice none 0 0, .slice none 0 0], .iface 62 (.int .i64 f)]) (by simp [results, Tryz.results82, go_sem, r0, r1, r2, r3, r4, r5, r6, r7, r8, r9]) rfl ⟨HF3.out.trans hFz (fun c hc e => by omega), .inr ⟨HE.out, ⟨0, V.zero, ⟨#[]⟩, ⟨#[]⟩, none, 0, 0, none, 0, 0, f, rfl⟩, _, HR3.out.fr hFz (fun c e => by omega)⟩⟩
end Go.Proofs.YtbdbpfcblppnbaaGreatDoor.Vx
namespace Go.Proofs.YtbdbpfcblppnbaaGreatDoor.Vx
open Go.RowKit
/-- Expressions in a row. -/
theorem X.rowD {D : Nat → Prop} {m : Nat} {w w2 : World} {g cap : Nat} {l : List (Ex × List Value)} {arr : Array Value} {ty : TypeId} {fr : Nat × Nat} (hg : w.heap[g]? = some (.cells arr ty fr)) (ha : ∀ (i : Nat) (x : Ex × List Value), l[i]? = some x → x.2.length = 10 ∧ ∀ j, j < 10 → arr[i * 10 + j]? = x.2[j]?)
  (hm : ∀ x ∈ l, X.MemD D m w x.1 x.2) (hD : D g) (hw : ∀ c, D c → w2.heap[c]? = w.heap[c]?) : V.Row w2 (.slice (some ⟨g, 0, none⟩) l.length cap) (l.map (·.1)).length 10 (fun i c => ∃ x, (l.map (·.1))[i]? = some x ∧ X.Mem m w2 x c) := by
 rw [List.length_map]
 refine ⟨_, _, rfl, .inr ⟨g, 0, rfl, fun i hi => ?_⟩⟩
 obtain ⟨h1, h2⟩ := ha i _ (List.getElem?_eq_getElem hi)
 refine ⟨l[i].2, h1, fun j hj => ?_, l[i].1, by rw [List.getElem?_map, List.getElem?_eq_getElem hi]; rfl, hm _ (List.getElem_mem hi) w2 hw⟩
 have hg2 : w2.heap[g]? = some (.cells arr ty fr) := (hw g hD).trans hg
 rw [Nat.zero_add, cell_of_row w2 g _ arr ty fr hg2]
 exact h2 j hj
theorem P.xnode {D : Nat → Prop} {m : Nat} {w : World} {g cap : Nat} {l : List (Ex × List Value)} {arr : Array Value} {ty : TypeId} {fr : Nat × Nat} (k : Int) (s t : ByteArray) (hg : w.heap[g]? = some (.cells arr ty fr)) (ha : ∀ (i : Nat) (x : Ex × List Value), l[i]? = some x → x.2.length = 10 ∧ ∀ j, j < 10 → arr[i * 10 + j]? = x.2[j]?)
  (hm : ∀ x ∈ l, X.MemD D m w x.1 x.2) (hD : D g) : X.MemD D (m + 1) w ⟨k, V.zero, s, t, l.map (·.1), []⟩ (P.xc k V.zero s t (some ⟨g, 0, none⟩) l.length cap none 0 0) :=
 fun w2 hw => ⟨_, _, _, _, _, _, _, rfl, P.vmem m w2 0 0 ⟨#[]⟩, X.rowD hg ha hm hD hw, V.Row.zero _ _ _⟩
namespace P
/-- The two boxes that the closure has. -/
structure Inn (R Br Bd d : Nat) (w : World) : Prop where
 c1 : w.cell? ⟨Br, 0, none⟩ = some (.pointer (some ⟨R, 0, none⟩))
 c2 : w.cell? ⟨Bd, 0, none⟩ = some (.int .i64 (6 - (d : Int)))
 b1 : R < Br
 b2 : R < Bd
theorem Inn.fr {R Br Bd d : Nat} {w w' : World} (h : Inn R Br Bd d w) (hf : Fr w w' (fun c => c = R)) : Inn R Br Bd d w' := by
 have hk : ∀ {b : Nat} {u : Value}, R < b → w.cell? ⟨b, 0, none⟩ = some u → w'.cell? ⟨b, 0, none⟩ = some u := fun {b u} hb hu => by
  have hlt := World.block_lt_of_cell? w _ hu
  have := hf.block b hlt (by omega)
  unfold World.cell? at hu ⊢
  rw [this]
  exact hu
 exact ⟨hk h.b1 h.c1, hk h.b2 h.c2, h.b1, h.b2⟩
theorem Inn.kept {R Br Bd d : Nat} {w w' : World} (h : Inn R Br Bd d w) (hb : Below w.heap.size w w') : Inn R Br Bd d w' := h.fr ((fr_below hb).weak (fun _ _ e => e.elim))
/-- What is known of the expressions further in. -/
def IH (d : Nat) : Prop := ∀ (R : Nat) (w : World) (ts : List K), Rdr R w ts → Calls Tryz.prog 62 #[.pointer (some ⟨R, 0, none⟩), .int .i64 (7 - (d : Int))] w fun r w' => Fr w w' (fun c => c = R) ∧ ExOut (ex d (fc ts)) d R w w' ts r
end P
set_option maxRecDepth 100000 in
set_option maxHeartbeats 3200000 in
theorem inner_any (d R Br Bd : Nat) (w : World) (ts : List P.K) (hd : d ≤ 6) (ih : P.IH d) (h : P.Rdr R w ts) (hi : P.Inn R Br Bd d w) :
  Calls Tryz.prog 80 #[.pointer (some ⟨Br, 0, none⟩), .pointer (some ⟨Bd, 0, none⟩)] w fun r w' => Fr w w' (fun c => c = R) ∧ P.ExOut (P.ex d (P.fc ts)) d R w w' ts r := by
 have hR := h.lt
 have hb0 : Below w.heap.size w (w.alloc (.cells #[.int .i64 0, .int .i64 0, .int .i64 0, .string ⟨#[]⟩, .slice none 0 0, .slice none 0 0, .string ⟨#[]⟩, .string ⟨#[]⟩, .slice none 0 0, .slice none 0 0] 57)) := (Below.refl _ _).alloc (Nat.le_refl _) _
 have hA0 : (w.alloc (.cells #[.int .i64 0, .int .i64 0, .int .i64 0, .string ⟨#[]⟩, .slice none 0 0, .slice none 0 0, .string ⟨#[]⟩, .string ⟨#[]⟩, .slice none 0 0, .slice none 0 0] 57)).heap[w.heap.size]? = some (.cells #[.int .i64 0, .int .i64 0, .int .i64 0, .string ⟨#[]⟩, .slice none 0 0, .slice none 0 0, .string ⟨#[]⟩, .string ⟨#[]⟩, .slice none 0 0, .slice none 0 0] 57 (0, 0)) := heap_alloc_new _ _
 have hi0 := hi.kept hb0
 have k1 := hi0.c1
 have k2 := hi0.c2
 have hdp : wrap64 (6 - (d : Int) + 1) = 7 - (d : Int) := by unfold wrap64; omega
 have HN := hide (ih R _ ts (h.kept hb0))
 generalize hq : (6 - (d : Int)) = dp at *
 generalize hq2 : (7 - (d : Int)) = dq at *
 have HF0 : Hid (Fr w (w.alloc (.cells #[.int .i64 0, .int .i64 0, .int .i64 0, .string ⟨#[]⟩, .slice none 0 0, .slice none 0 0, .string ⟨#[]⟩, .string ⟨#[]⟩, .slice none 0 0, .slice none 0 0] 57)) (fun c => c = R)) := (P.fr_below hb0).weak (fun _ _ e => e.elim)
 have HA0 := hide hA0
 clear h hb0 hA0 hi hi0 ih hq hq2 hd
 go_enter Tryz.func80, Tryz.ntmps80
 go_wp2_with fail
 refine HN.out.mono ?_
 rintro r w1 ⟨hf1, ⟨e, n, k, v, s, t, a, i, c, a', i', c', hE, rfl, hM, hbk, hr1⟩ | ⟨hE, ⟨k, v, s, t, a, i, c, a', i', c', f, rfl⟩, ts', hr1⟩⟩
 ·have hA1 := (hf1.block w.heap.size (by simp) (by omega)).trans HA0.out
  have HF3 := hide (HF0.out.trans hf1 (fun _ _ e => e))
  have HR3 := hide hr1
  have HE := hide hE
  have HM := hide hM
  have HBK := hide hbk
  have HS1 := hide hf1.size
  unfold P.xc
  clear hf1 hE hr1 hM hbk HN
  obtain ⟨z0, z1, z2, z3, z4, z5, z6, z7, z8, z9⟩ := cl10 hA1
  obtain ⟨f0, f1, f2, f3, f4, f5, f6, f7, f8, f9⟩ := fl10 hA1
  have HAx := hide hA1
  clear hA1
  go_wp2_with fail
  obtain ⟨wz, hwz, hBz, hFz⟩ := P.sf10 HAx.out (.int .i64 k) (.int .i64 v.kind) (.int .i64 v.n) (.string v.s) (.slice none 0 0) (.slice none 0 0) (.string s) (.string t) (.slice a i c) (.slice a' i' c')
  rw [← hwz]
  clear hwz
  obtain ⟨r0, r1, r2, r3, r4, r5, r6, r7, r8, r9⟩ := cl10 hBz
  refine bodyPost_ret (v := .tuple #[.agg #[.int .i64 k, .int .i64 v.kind, .int .i64 v.n, .string v.s, .slice none 0 0, .slice none 0 0, .string s, .string t, .slice a i c, .slice a' i' c'], .nilIface]) (by simp [results, Tryz.results80, go_sem, r0, r1, r2, r3, r4, r5, r6, r7, r8, r9]) rfl ⟨HF3.out.trans hFz (fun c hc e => by omega), .inl ⟨e, n, k, v, s, t, a, i, c, a', i', c', HE.out, rfl, HM.out.to (fun c hc => hFz.block c hc.2 (fun e => by have := hc.1; simp at this; omega)) (fun c hc => ⟨by have := hc.1; simp at this; omega, Nat.lt_of_lt_of_le hc.2 hFz.size⟩), HBK.out, HR3.out.fr hFz (fun c e => by omega)⟩⟩
 ·have hA1 := (hf1.block w.heap.size (by simp) (by omega)).trans HA0.out
  have HF3 := hide (HF0.out.trans hf1 (fun _ _ e => e))
  have HR3 := hide hr1
  have HE := hide hE
  unfold P.xc
  clear hf1 hE hr1 HN
  obtain ⟨z0, z1, z2, z3, z4, z5, z6, z7, z8, z9⟩ := cl10 hA1
  obtain ⟨f0, f1, f2, f3, f4, f5, f6, f7, f8, f9⟩ := fl10 hA1
  have HAx := hide hA1
  clear hA1
  go_wp2_with fail
  obtain ⟨wz, hwz, hBz, hFz⟩ := P.sf10 HAx.out (.int .i64 k) (.int .i64 v.kind) (.int .i64 v.n) (.string v.s) (.slice none 0 0) (.slice none 0 0) (.string s) (.string t) (.slice a i c) (.slice a' i' c')
  rw [← hwz]
  clear hwz
  obtain ⟨r0, r1, r2, r3, r4, r5, r6, r7, r8, r9⟩ := cl10 hBz
  refine bodyPost_ret (v := .tuple #[.agg #[.int .i64 k, .int .i64 v.kind, .int .i64 v.n, .string v.s, .slice none 0 0, .slice none 0 0, .string s, .string t, .slice a i c, .slice a' i' c'], .iface 62 (.int .i64 f)]) (by simp [results, Tryz.results80, go_sem, r0, r1, r2, r3, r4, r5, r6, r7, r8, r9]) rfl ⟨HF3.out.trans hFz (fun c hc e => by omega), .inr ⟨HE.out, ⟨k, v, s, t, a, i, c, a', i', c', f, rfl⟩, _, HR3.out.fr hFz (fun c e => by omega)⟩⟩
end Go.Proofs.YtbdbpfcblppnbaaGreatDoor.Vx
