/- StateSays: RA RB MS. -/
import Derived.Test.YtcekcfjabhlheaaGreatDoorPD
import Derived.Test.YtcekcfjabhlheaaGreatDoorTopC
import Derived.Carry
import Derived.Test.YtcekcfjabhlheaaGreatDoorUL
import Derived.Lib.AtoiErrMem
import Derived.Maps.Own
import Derived.Maps.OwnOps
set_option maxRecDepth 100000
set_option maxHeartbeats 1600000
namespace Go.Proofs.YtcekcfjabhlheaaGreatDoor.Vx
open Go.RowKit
structure Fr (w w' : World) (ex : Nat -> Prop) : Prop where
 os : w'.os = w.os
 tape : w'.tape = w.tape
 output : w'.output = w.output
 size : w.heap.size <= w'.heap.size
 block : ∀ c, c < w.heap.size -> ¬ ex c -> w'.heap[c]? = w.heap[c]?
theorem Fr.refl (w : World) (ex : Nat -> Prop) : Fr w w ex := ⟨rfl, rfl, rfl, Nat.le_refl _, fun _ _ _ => rfl⟩
theorem Fr.trans {w w1 w2 : World} {ex ex1 : Nat -> Prop} (h : Fr w w1 ex) (k : Fr w1 w2 ex1) (hx : ∀ c, c < w.heap.size -> ex1 c -> ex c) : Fr w w2 ex :=
 ⟨k.os.trans h.os, k.tape.trans h.tape, k.output.trans h.output, Nat.le_trans h.size k.size, fun c hc he => (k.block c (Nat.lt_of_lt_of_le hc h.size) (fun e => he (hx c hc e))).trans (h.block c hc he)⟩
theorem Fr.weak {w w1 : World} {ex ex1 : Nat -> Prop} (h : Fr w w1 ex) (hx : ∀ c, c < w.heap.size -> ex c -> ex1 c) : Fr w w1 ex1 := ⟨h.os, h.tape, h.output, h.size, fun c hc he => h.block c hc (fun e => he (hx c hc e))⟩
theorem Fr.drew {w w1 : World} {ex : Nat -> Prop} (h : Fr w w1 ex) : Fr w w1.drew ex := ⟨h.os, h.tape, h.output, h.size, h.block⟩
theorem Fr.set {w w1 : World} {ex : Nat -> Prop} (h : Fr w w1 ex) (a : Addr) (u : Value) (ha : a.block < w.heap.size -> ex a.block) : Fr w (w1.setCell a u) ex :=
 h.trans (ex1 := fun c => c = a.block) ⟨rfl, rfl, rfl, by simp, fun c _ he => Below.heap_setCell _ a _ c (fun e => he e)⟩ (fun c hc e => by subst e; exact ha hc)
theorem Fr.set1 (w : World) (g o : Nat) (u : Value) : Fr w (w.setCell ⟨g, o, none⟩ u) (fun c => c = g) := (Fr.refl w _).set ⟨g, o, none⟩ u (fun _ => rfl)
theorem Fr.grown {w w1 w2 : World} {ex : Nat -> Prop} {row : Option Nat} (h : Fr w w1 ex) (hg : w1.grownBy w2 row) (hx : ∀ c, row = some c -> c < w.heap.size -> ex c) : Fr w w2 ex :=
 h.trans (ex1 := fun c => row = some c) ⟨hg.os, hg.tape, hg.output, hg.size, fun c hc he => hg.block c hc (fun e => he e.symm)⟩ (fun c hc e => hx c e hc)
theorem Fr.alloc {w w1 : World} {ex : Nat -> Prop} (h : Fr w w1 ex) (o : Obj) : Fr w (w1.alloc o) ex := h.grown (World.grownBy_alloc w1 o none) (fun c e => by cases e)
theorem Fr.below {w w1 : World} {ex : Nat -> Prop} {B : Nat} (h : Fr w w1 ex) (hB : B <= w.heap.size) (hx : ∀ c, ex c -> B <= c) : Below B w w1 := ⟨h.os, h.tape, h.output, h.size, fun c hc => h.block c (by omega) (fun e => by have := hx c e; omega)⟩
namespace P
abbrev K := Nat × Nat × List UInt8
def Tv (t : K) : Prop := t.2.2.length <= 40 /\ (t.1 = 2 -> t.2.2 ≠ [] /\ t.2.2.length <= 10 /\ ∀ b ∈ t.2.2, Lx.digit b = true)
def RowT (R : Nat) (w : World) (lv : Value) (ts : List K) : Prop := ∃ ao cap, lv = .slice ao ts.length cap /\ (ts.length <= cap /\ ts.length <= 4100) /\ (ts.length = 0 \/ ∃ b off, ao = some ⟨b, off, none⟩ /\ b < R /\ ∀ (j : Nat) (t : K), ts[j]? = some t ->
 w.cell? ⟨b, off + j * 3, none⟩ = some (.int .i64 t.1) /\ w.cell? ⟨b, off + j * 3 + 1, none⟩ = some (.int .i64 t.2.1) /\ w.cell? ⟨b, off + j * 3 + 2, none⟩ = some (.string (Lx.str t.2.2)))
def rblk (lv : Value) (ed wr : Int) : Obj := .cells #[lv, .int .i64 ed, .int .i64 wr] 215 (0, 0)
def Rdr (R : Nat) (w : World) (ts : List K) : Prop := (∃ lv ed wr, w.heap[R]? = some (rblk lv ed wr) /\ RowT R w lv ts) /\ ∀ t ∈ ts, Tv t
theorem RowT.fr {R : Nat} {w w' : World} {lv : Value} {ts : List K} {ex : Nat -> Prop} (h : RowT R w lv ts) (hf : Fr w w' ex) (hx : ∀ c, ex c -> R <= c) : RowT R w' lv ts := by
 obtain ⟨ao, cap, e, hc, h⟩ := h;refine ⟨ao, cap, e, hc, ?_⟩;rcases h with h | ⟨b, off, e2, hb, h⟩
 ·exact .inl h
 ·refine .inr ⟨b, off, e2, hb, fun j t ht => ?_⟩;obtain ⟨h0, h1, h2⟩ := h j t ht;have hk : ∀ {o : Nat} {u : Value}, w.cell? ⟨b, o, none⟩ = some u -> w'.cell? ⟨b, o, none⟩ = some u := fun {o u} hu => by
   have hlt := World.block_lt_of_cell? w _ hu;have := hf.block b hlt (fun e => by have := hx b e; omega);unfold World.cell? at hu ⊢;rw [this];exact hu
  exact ⟨hk h0, hk h1, hk h2⟩
theorem Rdr.fr {R : Nat} {w w' : World} {ts : List K} {ex : Nat -> Prop} (h : Rdr R w ts) (hf : Fr w w' ex) (hx : ∀ c, ex c -> R < c) : Rdr R w' ts := by
 obtain ⟨⟨lv, ed, wr, hb, hr⟩, ht⟩ := h;exact ⟨⟨lv, ed, wr, (hf.block R (Array.getElem?_eq_some_iff.1 hb).1 (fun e => by have := hx R e; omega)).trans hb, hr.fr hf (fun c e => by have := hx c e; omega)⟩, ht⟩
theorem fr_below {w w' : World} (h : Below w.heap.size w w') : Fr w w' (fun _ => False) := ⟨h.os, h.tape, h.output, h.size, fun c hc _ => h.block c hc⟩
theorem Rdr.kept {R : Nat} {w w' : World} {ts : List K} (h : Rdr R w ts) (hb : Below w.heap.size w w') : Rdr R w' ts := h.fr (fr_below hb) (fun _ e => e.elim)
theorem Rdr.lt {R : Nat} {w : World} {ts : List K} (h : Rdr R w ts) : R < w.heap.size := by
 obtain ⟨⟨lv, ed, wr, hb, _⟩, _⟩ := h;exact (Array.getElem?_eq_some_iff.1 hb).1
theorem Rdr.len {R : Nat} {w : World} {ts : List K} (h : Rdr R w ts) : ts.length <= 4100 := by
 obtain ⟨⟨lv, ed, wr, hb, ao, cap, e, hc, _⟩, _⟩ := h;exact hc.2
theorem RowT.tail {R : Nat} {w : World} {lv : Value} {t : K} {ts : List K} (h : RowT R w lv (t :: ts)) : ∃ b off cap, lv = .slice (some ⟨b, off, none⟩) (ts.length + 1) cap /\ ts.length + 1 <= cap /\ b < R /\ w.cell? ⟨b, off, none⟩ = some (.int .i64 t.1) /\ w.cell? ⟨b, off + 1, none⟩ = some (.int .i64 t.2.1) /\ w.cell? ⟨b, off + 2, none⟩ = some (.string (Lx.str t.2.2)) /\
  RowT R w (.slice (some ⟨b, off + 3, none⟩) ts.length (cap - 1)) ts := by
 obtain ⟨ao, cap, e, hc, h⟩ := h;rcases h with h | ⟨b, off, rfl, hb, h⟩
 ·simp at h
 ·have h0 := h 0 t rfl;rw [Nat.zero_mul, Nat.add_zero] at h0;refine ⟨b, off, cap, e, by simpa using hc.1, hb, h0.1, h0.2.1, h0.2.2, _, _, rfl, by simp at hc; omega, .inr ⟨b, off + 3, rfl, hb, fun j u hu => ?_⟩⟩;have := h (j + 1) u (by simpa using hu);rw [show off + (j + 1) * 3 = off + 3 + j * 3 by omega] at this;exact this
def headT (ts : List K) : T := (ts.map Lx.face).headD (0, [])
end P
theorem next_any (R : Nat) (w : World) (ts : List P.K) (h : P.Rdr R w ts) :
  Calls Tryz.prog 163 #[.pointer (some ⟨R, 0, none⟩)] w fun r w' => (∃ at_ : Int, r = .returned (.agg #[.int .i64 (P.headT ts).1, .int .i64 at_, .string (Lx.str (P.headT ts).2)])) /\ Below w.heap.size w w' := by
 obtain ⟨⟨lv, ed, wr, hb, hr⟩, ht⟩ := h;have hlt : R < w.heap.size := (Array.getElem?_eq_some_iff.1 hb).1;have hbL : Below w.heap.size w (w.alloc (.cells #[.int .i64 0, .int .i64 0, .string ⟨#[]⟩] 218)) := ba;have hA := heap_alloc_new w (.cells #[.int .i64 0, .int .i64 0, .string ⟨#[]⟩] 218);have hb1 := (hbL.block R hlt).trans hb;unfold P.rblk at hb1;have r0 := cell_of_block hb1 0 _ rfl;have r1 := cell_of_block hb1 1 _ rfl;have z0 := cell_of_block hA 0 _ rfl;have z1 := cell_of_block hA 1 _ rfl;have z2 := cell_of_block hA 2 _ rfl;have f0 := free_of_block hA 0;have f1 := free_of_block hA 1;have f2 := free_of_block hA 2;have HBL := hide hbL;clear hb hb1 hbL hA ht;cases ts with
 | nil =>
  obtain ⟨ao, cap, rfl, _, _⟩ := hr;have r0' : (w.alloc (.cells #[.int .i64 0, .int .i64 0, .string ⟨#[]⟩] 218)).cell? ⟨R, 0, none⟩ = some (.slice ao 0 cap) := r0;clear r0;go_enter Tryz.func163, Tryz.ntmps163;go_wp2_with fail;refine bodyPost_ret (v := .agg #[.int .i64 0, .int .i64 ed, .string ⟨#[]⟩]) (by simp [results, Tryz.results163, go_sem]) rfl ⟨⟨_, rfl⟩, ba⟩
 | cons t ts =>
  obtain ⟨b, off, cap, rfl, hc, hne, k0, k1, k2, _⟩ := hr.tail
  replace k0 := kept_cell HBL.out k0
  replace k1 := kept_cell HBL.out k1
  replace k2 := kept_cell HBL.out k2
  clear hr;go_enter Tryz.func163, Tryz.ntmps163;go_wp2_with fail;refine bodyPost_ret (v := .agg #[.int .i64 t.1, .int .i64 t.2.1, .string (Lx.str t.2.2)]) (by simp [results, Tryz.results163, go_sem]) rfl ⟨⟨_, rfl⟩, ba⟩
theorem pass_any (R : Nat) (w : World) (t : P.K) (ts : List P.K) (h : P.Rdr R w (t :: ts)) :
  Calls Tryz.prog 174 #[.pointer (some ⟨R, 0, none⟩)] w fun r w' => r = .returned (.tuple #[]) /\ P.Rdr R w' ts /\ Fr w w' (fun c => c = R) := by
 obtain ⟨⟨lv, ed, wr, hb, hr⟩, ht⟩ := h;obtain ⟨b, off, cap, rfl, hc, hne, k0, k1, k2, hr2⟩ := hr.tail;unfold P.rblk at hb;have r0 := cell_of_block hb 0 _ rfl;have f0 := free_of_block hb 0;have HR : Hid (∀ lv, P.RowT R w lv ts -> P.Rdr R (w.setCell ⟨R, 0, none⟩ lv) ts) := fun lv hl => ⟨⟨_, ed, wr, block_set (i := 0) hb _, hl.fr (Fr.set1 w R 0 _) (fun c e => by omega)⟩, fun x hx => ht x (by simp [hx])⟩
 have HR2 := hide hr2;clear hb hr hr2 ht k0 k1 k2 hne;go_enter Tryz.func174, Tryz.ntmps174;go_wp2_with fail
 ·skip
  go_end0;exact ⟨rfl, HR.out _ ⟨_, _, rfl, by omega, .inl (by omega)⟩, Fr.set1 w R 0 _⟩
 ·go_end0;exact ⟨rfl, HR.out _ HR2.out, Fr.set1 w R 0 _⟩
theorem failAt_any (R : Nat) (w : World) (ts : List P.K) (at_ : Int) (ev : Value) (h : P.Rdr R w ts) :
  Calls Tryz.prog 166 #[.pointer (some ⟨R, 0, none⟩), .int .i64 at_, ev] w fun r w' => r = .returned ev /\ P.Rdr R w' ts /\ Fr w w' (fun c => c = R) := by
 obtain ⟨⟨lv, ed, wr, hb, hr⟩, ht⟩ := h;unfold P.rblk at hb;have r2 := cell_of_block hb 2 _ rfl;have f2 := free_of_block hb 2;have HF : Hid (Fr w (w.setCell ⟨R, 2, none⟩ (.int .i64 at_)) (fun c => c = R)) := Fr.set1 w R 2 _;have HR : Hid (P.Rdr R (w.setCell ⟨R, 2, none⟩ (.int .i64 at_)) ts) := ⟨⟨lv, ed, at_, block_set (i := 2) hb _, hr.fr HF.out (fun c e => by omega)⟩, ht⟩
 clear hb hr ht;go_enter Tryz.func166, Tryz.ntmps166;go_wp2_with fail;go_ret;exact ⟨rfl, HR.out, HF.out⟩
theorem field_at (a b c : Value) (w : World) : (Instr.field 218 (.agg #[a, b, c]) 1).run Tryz.prog w = .ok b w := by kernel_rfl
theorem fail_any (R : Nat) (w : World) (ts : List P.K) (ev : Value) (h : P.Rdr R w ts) :
  Calls Tryz.prog 162 #[.pointer (some ⟨R, 0, none⟩), ev] w fun r w' => r = .returned ev /\ P.Rdr R w' ts /\ Fr w w' (fun c => c = R) := by
 have HN := hide (next_any R w ts h);have H := hide h;clear h;go_enter Tryz.func162, Tryz.ntmps162;go_wp2_with fail;refine HN.out.mono ?_;rintro r w1 ⟨⟨at_, rfl⟩, hb1⟩;have HB := hide hb1;have HA := hide (failAt_any R w1 ts at_ ev (H.out.kept hb1));have hfd := field_at (.int .i64 (P.headT ts).1) (.int .i64 at_) (.string (Lx.str (P.headT ts).2)) w1;clear hb1 HN;go_wp2_with fail;refine HA.out.mono ?_;rintro r w2 ⟨rfl, hr2, hf2⟩;have HR2 := hide hr2;have HF2 := hide ((P.fr_below HB.out).weak (fun _ _ e => e.elim) |>.trans hf2 (fun _ _ e => e));clear hr2 hf2 HA;go_wp2_with fail;go_ret;exact ⟨rfl, HR2.out, HF2.out⟩
namespace P
def fc (ts : List K) : List T := ts.map Lx.face
theorem fc_cons (t : K) (ts : List K) : fc (t :: ts) = (t.1, t.2.2) :: fc ts := rfl
end P
theorem str_is (a : List UInt8) (s : ByteArray) : ((Lx.str a).toList == s.toList) = decide (a = V.bl s) := by
 rw [toList_bl (Lx.str a), Lx.bl_str, toList_bl s];by_cases h : a = Lx.bl s
 ·subst h;simp;rfl
 ·have h2 : a ≠ V.bl s := h;simp [h2];exact h
theorem found_any (R : Nat) (w : World) (ts : List P.K) (k : Nat) (s : ByteArray) (hk : k ≠ 0) (h : P.Rdr R w ts) :
  Calls Tryz.prog 203 #[.pointer (some ⟨R, 0, none⟩), .int .i64 k, .string s] w fun r w' => Fr w w' (fun c => c = R) /\
   ((∃ t ts', ts = t :: ts' /\ P.found k (V.bl s) (P.fc ts) = some (P.fc ts') /\ r = .returned (.bool true) /\ P.Rdr R w' ts') \/ (P.found k (V.bl s) (P.fc ts) = none /\ r = .returned (.bool false) /\ P.Rdr R w' ts)) := by
 have HN := hide (next_any R w ts h);have H := hide h;clear h;go_enter Tryz.func203, Tryz.ntmps203;go_wp2_with fail;refine HN.out.mono ?_;rintro r w1 ⟨⟨at_, rfl⟩, hb1⟩;have HB := hide hb1;have hR1 := H.out.kept hb1;have HR1 := hide hR1;have hbA : Below w.heap.size w (w1.alloc (.cells #[.int .i64 (P.headT ts).1, .int .i64 at_, .string (Lx.str (P.headT ts).2)] 218)) := hb1.alloc hb1.size _;have HRA : Hid (P.Rdr R (w1.alloc (.cells #[.int .i64 (P.headT ts).1, .int .i64 at_, .string (Lx.str (P.headT ts).2)] 218)) ts) := H.out.kept hbA;have HFA : Hid (Fr w _ (fun c => c = R)) := (P.fr_below hbA).weak (fun _ _ e => e.elim);clear hb1 hR1 hbA HN;by_cases ha : (P.headT ts).1 = k
 ·have g1 : (((P.headT ts).1 : Int) != (k : Int)) = false := by simp [ha]
  by_cases hb : (P.headT ts).2 = V.bl s
  ·have g2 : ((Lx.str (P.headT ts).2).toList == s.toList) = true := by rw [str_is]; simp [hb]
   cases ts with
   | nil => exact absurd ha (fun e => hk e.symm)
   | cons t ts' =>
    have E : Hid (P.found k (V.bl s) (P.fc (t :: ts')) = some (P.fc ts')) := by
     show _ = _;have ha' : t.1 = k := ha;have hb' : t.2.2 = V.bl s := hb;rw [P.fc_cons, ha', hb'];simp [P.found]
    have HP := hide (pass_any R _ t ts' HRA.out);clear ha hb;go_wp2_with fail;refine HP.out.mono ?_;rintro r w2 ⟨rfl, hr2, hf2⟩;have HR2 := hide hr2;have HF2 := hide (HFA.out.trans hf2 (fun _ _ e => e));clear hr2 hf2 HP;go_wp2_with fail;go_ret;exact ⟨HF2.out, .inl ⟨t, ts', rfl, E.out, rfl, HR2.out⟩⟩
  ·have g2 : ((Lx.str (P.headT ts).2).toList == s.toList) = false := by rw [str_is]; simp [hb]
   have E : Hid (P.found k (V.bl s) (P.fc ts) = none) := by
    show _ = _;cases ts with
    | nil => rfl
    | cons t ts' => rw [P.fc_cons, P.found, if_neg]; rintro ⟨_, h2⟩; exact hb h2
   clear ha hb;go_wp2_with fail;go_ret;exact ⟨HFA.out, .inr ⟨E.out, rfl, HRA.out⟩⟩
 ·have g1 : (((P.headT ts).1 : Int) != (k : Int)) = true := by simp; omega
  have E : Hid (P.found k (V.bl s) (P.fc ts) = none) := by
   show _ = _;cases ts with
   | nil => rfl
   | cons t ts' => rw [P.fc_cons, P.found, if_neg]; rintro ⟨h2, _⟩; exact ha h2
  clear ha;go_wp2_with fail;go_ret;exact ⟨HFA.out, .inr ⟨E.out, rfl, HRA.out⟩⟩
theorem sign_any' (R : Nat) (w : World) (ts : List P.K) (s : ByteArray) (h : P.Rdr R w ts) :
  Calls Tryz.prog 198 #[.pointer (some ⟨R, 0, none⟩), .string s] w fun r w' => Fr w w' (fun c => c = R) /\
   ((∃ t ts', ts = t :: ts' /\ P.found 4 (V.bl s) (P.fc ts) = some (P.fc ts') /\ r = .returned .nilIface /\ P.Rdr R w' ts') \/ (P.found 4 (V.bl s) (P.fc ts) = none /\ r = .returned (.iface 54 (.int .i64 5)) /\ P.Rdr R w' ts)) := by
 have HN := hide (found_any R w ts 4 s (by decide) h);clear h;go_enter Tryz.func198, Tryz.ntmps198;go_wp2_with fail;refine HN.out.mono ?_;rintro r w1 ⟨hf, ⟨t, ts', rfl, hE, rfl, hr⟩ | ⟨hE, rfl, hr⟩⟩
 ·have HF := hide hf;obtain ⟨HE, HR⟩ := hd2 hE hr;clear hf hE hr HN;go_wp2_with fail;go_ret;exact ⟨HF.out, .inl ⟨t, ts', rfl, HE.out, rfl, HR.out⟩⟩
 ·have HF := hide hf;have HE := hide hE;have HA := hide (fail_any R w1 ts (.iface 54 (.int .i64 5)) hr);clear hf hE hr HN;go_wp2_with fail;refine HA.out.mono ?_;rintro r w2 ⟨rfl, hr2, hf2⟩;have HR2 := hide hr2;have HF2 := hide (HF.out.trans hf2 (fun _ _ e => e));clear hr2 hf2 HA;go_wp2_with fail;go_ret;exact ⟨HF2.out, .inr ⟨HE.out, rfl, HR2.out⟩⟩
theorem rname_any (R : Nat) (w : World) (ts : List P.K) (h : P.Rdr R w ts) :
  Calls Tryz.prog 199 #[.pointer (some ⟨R, 0, none⟩)] w fun r w' => Fr w w' (fun c => c = R) /\
   ((∃ t ts', ts = t :: ts' /\ P.name (P.fc ts) = some (V.str t.2.2, P.fc ts') /\ V.name t.2.2 = true /\ r = .returned (.tuple #[.string (V.str t.2.2), .nilIface]) /\ P.Rdr R w' ts') \/ (P.name (P.fc ts) = none /\ r = .returned (.tuple #[.string ⟨#[]⟩, .iface 54 (.int .i64 5)]) /\ P.Rdr R w' ts)) := by
 have HN := hide (next_any R w ts h);have H := hide h;have hsz : (Lx.str (P.headT ts).2).size <= maxLen := by
  have : (P.headT ts).2.length <= 40 := by
   cases ts with
   | nil => simp [P.headT]
   | cons t ts' => exact (h.2 t (by simp)).1
  rw [<- Lx.length_bl, Lx.bl_str];have hm : (40 : Nat) <= maxLen := by decide
  omega
 have HNM := hide (fun w' => name_any (Lx.str (P.headT ts).2) w' hsz);clear h hsz;go_enter Tryz.func199, Tryz.ntmps199;go_wp2_with fail;refine HN.out.mono ?_;rintro r w1 ⟨⟨at_, rfl⟩, hb1⟩;have hbA : Below w.heap.size w (w1.alloc (.cells #[.int .i64 (P.headT ts).1, .int .i64 at_, .string (Lx.str (P.headT ts).2)] 218)) := hb1.alloc hb1.size _;have HRA : Hid (P.Rdr R (w1.alloc (.cells #[.int .i64 (P.headT ts).1, .int .i64 at_, .string (Lx.str (P.headT ts).2)] 218)) ts) := H.out.kept hbA;have HFA : Hid (Fr w _ (fun c => c = R)) := (P.fr_below hbA).weak (fun _ _ e => e.elim);have HSZ := hide hb1.size;clear hb1 hbA HN;go_wp2_with fail;refine (HNM.out _).mono ?_;rintro r w2 ⟨rfl, hw⟩;rw [hw];clear hw HNM;have e : V.bl (Lx.str (P.headT ts).2) = (P.headT ts).2 := Lx.bl_str _;rw [e];clear e;cases hn : V.name (P.headT ts).2
 ·have E : Hid (P.name (P.fc ts) = none) := by
   show _ = _;cases ts with
   | nil => rfl
   | cons t ts' =>
    have hn' : V.name t.2.2 = false := hn;rw [P.fc_cons, P.name];simp [hn']
  have HA := hide (fail_any R _ ts (.iface 54 (.int .i64 5)) HRA.out);clear hn;go_wp2_with fail;refine HA.out.mono ?_;rintro r w3 ⟨rfl, hr2, hf2⟩;have HR2 := hide hr2;have HF2 := hide (HFA.out.trans hf2 (fun _ _ e => e));clear hr2 hf2 HA;go_wp2_with fail;go_ret2;exact ⟨HF2.out, .inr ⟨E.out, rfl, HR2.out⟩⟩
 ·cases ts with
  | nil => cases hn
  | cons t ts' =>
   have hn' : V.name t.2.2 = true := hn;have E : Hid (P.name (P.fc (t :: ts')) = some (V.str t.2.2, P.fc ts')) := by
    show _ = _;rw [P.fc_cons, P.name];simp [hn']
   have HNM := hide hn';have HP := hide (pass_any R _ t ts' HRA.out);have hA := heap_alloc_new w1 (.cells #[.int .i64 (P.headT (t :: ts')).1, .int .i64 at_, .string (Lx.str (P.headT (t :: ts')).2)] 218);have HA := hide hA;have hRw : R < w1.heap.size := by
    have h1 := H.out.lt;have h2 := HFA.out.size;have h3 : w.heap.size <= w1.heap.size := HSZ.out;omega
   clear hn hn' hA;go_wp2_with fail;refine HP.out.mono ?_;rintro r w3 ⟨rfl, hr2, hf2⟩;have hA3 := (hf2.block w1.heap.size (by simp) (by omega)).trans HA.out;have q2 := cell_of_block hA3 2 _ rfl;have HR2 := hide hr2;have HF2 := hide (HFA.out.trans hf2 (fun _ _ e => e));clear hr2 hf2 HP hA3;go_wp2_with fail;go_ret2;exact ⟨HF2.out, .inl ⟨t, ts', rfl, E.out, HNM.out, rfl, HR2.out⟩⟩
theorem bytes_below (w : World) (e : TypeId) (s : ByteArray) : Below w.heap.size w (Lib.bytesWorld w e s) := Lib.bytesWorld_below w e s
theorem dec_from (l : List UInt8) : ∀ (n : Nat), (∀ b ∈ l, Lx.digit b = true) -> Lib.decFrom n l = some (l.foldl (fun n c => 10 * n + (c.toNat - 48)) n) := by
 induction l with
 | nil => intro n _; rfl
 | cons c r ih =>
  intro n h;have hc := Lx.is_digit' c (h c (by simp));rw [Lib.decFrom, Lib.digitVal, if_pos hc];simp only;rw [ih _ (fun b hb => h b (by simp [hb])), List.foldl_cons, Nat.mul_comm]
theorem atoi_digits {l : List UInt8} (h0 : l ≠ []) (h : ∀ b ∈ l, Lx.digit b = true) : Lib.atoi l = some (P.num l : Int) := by
 cases l with
 | nil => exact absurd rfl h0
 | cons c r =>
  have hc := Lx.is_digit' c (h c (by simp));have h45 : (c == 45) = false := by
   rw [beq_eq_false_iff_ne];rintro rfl;exact absurd hc.1 (by decide)
  have h43 : (c == 43) = false := by
   rw [beq_eq_false_iff_ne];rintro rfl;exact absurd hc.1 (by decide)
  rw [Lib.atoi, h45, h43];simp only [Bool.false_eq_true, if_false];rw [Lib.decNat, if_neg (by simp), dec_from _ _ h];rfl
theorem num_lt {l : List UInt8} (h : ∀ b ∈ l, Lx.digit b = true) (hl : l.length <= 10) : P.num l < 10000000000 := by
 have : ∀ (l : List UInt8) (n : Nat), (∀ b ∈ l, Lx.digit b = true) -> l.foldl (fun n c => 10 * n + (c.toNat - 48)) n < (n + 1) * 10 ^ l.length := by
  intro l;induction l with
  | nil => intro n _; simp
  | cons c r ih =>
   intro n h;have hc := Lx.is_digit' c (h c (by simp));have := ih (10 * n + (c.toNat - 48)) (fun b hb => h b (by simp [hb]));rw [List.foldl_cons, List.length_cons, Nat.pow_succ];refine Nat.lt_of_lt_of_le this ?_;rw [show (n + 1) * (10 ^ r.length * 10) = ((n + 1) * 10) * 10 ^ r.length by rw [Nat.mul_comm (10 ^ r.length) 10, Nat.mul_assoc]];exact Nat.mul_le_mul_right _ (by omega)
 have h1 := this l 0 h;have h2 : 10 ^ l.length <= 10 ^ 10 := Nat.pow_le_pow_right (by decide) hl;unfold P.num;omega
theorem lnumber_any (l : List UInt8) (least : Nat) (w : World) (h0 : l ≠ []) (hl : l.length <= 10) (h : ∀ b ∈ l, Lx.digit b = true) :
  Calls Tryz.prog 196 #[.string (Lx.str l), .int .i64 least] w fun r w' => Below w.heap.size w w' /\
   ((P.num l < least \/ 1000000000 < P.num l) /\ r = .returned (.tuple #[.int .i64 0, .iface 54 (.int .i64 1)]) \/ (¬ (P.num l < least \/ 1000000000 < P.num l)) /\ r = .returned (.tuple #[.int .i64 (P.num l), .nilIface])) := by
 have hsz : (Lx.str l).size <= 18 := by rw [<- Lx.length_bl, Lx.bl_str]; omega
 have ha : Lib.atoi (Lx.str l).data.toList = some (P.num l : Int) := by
  have : (Lx.str l).data.toList = l := Lx.bl_str l;rw [this];exact atoi_digits h0 h
 have HA := hide (sh_strconv_Atoi (Lx.str l) _ hsz ha w);have hn := num_lt h hl;clear ha hsz h0 hl h;generalize P.num l = n at *;go_enter Tryz.func196, Tryz.ntmps196;go_wp2_with fail;refine HA.out.mono ?_;rintro r w1 ⟨rfl, t, hw⟩;have HB : Hid (Below w.heap.size w w1) := by
  show Below _ _ _;rw [hw];exact bytes_below _ _ _
 clear hw HA;by_cases h1 : (n : Int) < least
 ·go_wp2_with fail;go_ret2;exact ⟨HB.out, .inl ⟨.inl (by omega), rfl⟩⟩
 ·by_cases h2 : 1000000000 < (n : Int)
  ·go_wp2_with fail;go_ret2;exact ⟨HB.out, .inl ⟨.inr (by omega), rfl⟩⟩
  ·go_wp2_with fail;go_ret2;exact ⟨HB.out, .inr ⟨by omega, rfl⟩⟩
theorem rnumber_any (R : Nat) (w : World) (ts : List P.K) (least : Nat) (h : P.Rdr R w ts) :
  Calls Tryz.prog 219 #[.pointer (some ⟨R, 0, none⟩), .int .i64 least] w fun r w' => Fr w w' (fun c => c = R) /\
   ((∃ t ts' n, ts = t :: ts' /\ P.number least (P.fc ts) = some (n, P.fc ts') /\ r = .returned (.tuple #[.int .i64 (n : Nat), .nilIface]) /\ P.Rdr R w' ts') \/ (P.number least (P.fc ts) = none /\ (∃ f : Int, r = .returned (.tuple #[.int .i64 0, .iface 54 (.int .i64 f)])) /\ P.Rdr R w' ts)) := by
 have HN := hide (next_any R w ts h);have H := hide h;clear h;go_enter Tryz.func219, Tryz.ntmps219;go_wp2_with fail;refine HN.out.mono ?_;rintro r w1 ⟨⟨at_, rfl⟩, hb1⟩;have hbA : Below w.heap.size w (w1.alloc (.cells #[.int .i64 (P.headT ts).1, .int .i64 at_, .string (Lx.str (P.headT ts).2)] 218)) := hb1.alloc hb1.size _;have HRA : Hid (P.Rdr R (w1.alloc (.cells #[.int .i64 (P.headT ts).1, .int .i64 at_, .string (Lx.str (P.headT ts).2)] 218)) ts) := H.out.kept hbA;have HFA : Hid (Fr w _ (fun c => c = R)) := (P.fr_below hbA).weak (fun _ _ e => e.elim);clear hb1 hbA HN;by_cases h2 : (P.headT ts).1 = 2
 ·have g2 : (((P.headT ts).1 : Int) != 2) = false := by simp [h2]
  cases ts with
  | nil => cases h2
  | cons t ts' =>
   have hk : t.1 = 2 := h2;obtain ⟨_, hv⟩ := H.out.2 t (by simp);obtain ⟨v1, v2, v3⟩ := hv hk;have HL := hide (lnumber_any t.2.2 least (w1.alloc (.cells #[.int .i64 (P.headT (t :: ts')).1, .int .i64 at_, .string (Lx.str (P.headT (t :: ts')).2)] 218)) v1 v2 v3);have hE : P.number least (P.fc (t :: ts')) = if P.num t.2.2 < least \/ 1000000000 < P.num t.2.2 then none else some (P.num t.2.2, P.fc ts') := by
    rw [P.fc_cons, P.number, if_pos hk]
   have HE := hide hE;clear h2 hk hv v1 v2 v3 hE;go_wp2_with fail;refine HL.out.mono ?_;rintro r w2 ⟨hb2, ⟨hc, rfl⟩ | ⟨hc, rfl⟩⟩
   ·have E : Hid (P.number least (P.fc (t :: ts')) = none) := by
     show _ = _;rw [HE.out, if_pos hc]
    have HB2 := hide hb2;have HA := hide (fail_any R w2 (t :: ts') (.iface 54 (.int .i64 1)) (HRA.out.kept hb2));clear hc hb2 HL;go_wp2_with fail;refine HA.out.mono ?_;rintro r w3 ⟨rfl, hr2, hf2⟩;have HR2 := hide hr2;have HF2 := hide ((HFA.out.trans (P.fr_below HB2.out) (fun _ _ e => e.elim)).trans hf2 (fun _ _ e => e));clear hr2 hf2 HA;go_wp2_with fail;go_ret2;exact ⟨HF2.out, .inr ⟨E.out, ⟨_, rfl⟩, HR2.out⟩⟩
   ·have E : Hid (P.number least (P.fc (t :: ts')) = some (P.num t.2.2, P.fc ts')) := by
     show _ = _;rw [HE.out, if_neg hc]
    have HB2 := hide hb2;have HA := hide (pass_any R w2 t ts' (HRA.out.kept hb2));clear hc hb2 HL;go_wp2_with fail;refine HA.out.mono ?_;rintro r w3 ⟨rfl, hr2, hf2⟩;have HR2 := hide hr2;have HF2 := hide ((HFA.out.trans (P.fr_below HB2.out) (fun _ _ e => e.elim)).trans hf2 (fun _ _ e => e));clear hr2 hf2 HA;go_wp2_with fail;go_ret2;exact ⟨HF2.out, .inl ⟨t, ts', _, rfl, E.out, rfl, HR2.out⟩⟩
 ·have g2 : (((P.headT ts).1 : Int) != 2) = true := by simp; omega
  have E : Hid (P.number least (P.fc ts) = none) := by
   show _ = _;cases ts with
   | nil => rfl
   | cons t ts' => rw [P.fc_cons, P.number, if_neg]; exact h2
  have HA := hide (fail_any R _ ts (.iface 54 (.int .i64 5)) HRA.out);clear h2;go_wp2_with fail;refine HA.out.mono ?_;rintro r w3 ⟨rfl, hr2, hf2⟩;have HR2 := hide hr2;have HF2 := hide (HFA.out.trans hf2 (fun _ _ e => e));clear hr2 hf2 HA;go_wp2_with fail;go_ret2;exact ⟨HF2.out, .inr ⟨E.out, ⟨_, rfl⟩, HR2.out⟩⟩
end Go.Proofs.YtcekcfjabhlheaaGreatDoor.Vx
namespace Go.Proofs.YtcekcfjabhlheaaGreatDoor.Vx
open Go.RowKit
open Go.ChangeMaps Go.MapKept
namespace M
def Stamps (es : Array MapEntry) (c : Nat) : Prop := (∀ e ∈ es.toList, e.born < c) /\ (es.toList.map (·.born)).Nodup
theorem Stamps.push {es : Array MapEntry} {c : Nat} (h : Stamps es c) (k v : Value) : Stamps (es.push ⟨k, v, c⟩) (c + 1) := by
 refine ⟨fun e he => ?_, ?_⟩
 ·simp only [Array.toList_push, List.mem_append, List.mem_singleton] at he;rcases he with he | rfl
  ·have := h.1 e he; omega
  ·exact Nat.lt_succ_self _
 ·simp only [Array.toList_push, List.map_append, List.map_cons, List.map_nil];rw [List.nodup_append];refine ⟨h.2, by simp, fun a ha b hb e => ?_⟩;simp at hb;obtain ⟨x, hx, rfl⟩ := List.mem_map.1 ha;have := h.1 x hx;omega
theorem Stamps.turn {es : Array MapEntry} {c : Nat} (h : Stamps es c) (j : Nat) (k v : Value) : Stamps (es.modify j fun e => { e with key := k, val := v }) c := by
 have e1 : (es.modify j fun e => { e with key := k, val := v }).toList.map (·.born) = es.toList.map (·.born) := by
  rw [Array.toList_modify];apply List.ext_getElem?;intro i;rw [List.getElem?_map, List.getElem?_map, List.getElem?_modify];by_cases hij : j = i
  ·subst hij;cases es.toList[j]? <;> simp
  ·simp [hij]
 refine ⟨fun e he => ?_, by rw [e1]; exact h.2⟩;have h2 : e.born ∈ es.toList.map (·.born) := by rw [<- e1]; exact List.mem_map_of_mem he
 obtain ⟨x, hx, hxe⟩ := List.mem_map.1 h2;rw [<- hxe]; exact h.1 x hx
end M
namespace C
theorem bno {n m : ByteArray} (h : n ≠ m) : (n == m) = false := by
 cases q : (n == m) with
 | false => rfl
 | true => exact absurd ((bytes_beq _ _).1 q) h
end C
namespace S
def at_ (n : ByteArray) : List (ByteArray × Value) -> Nat -> Option (Nat × Value)
 | [], _ => none
 | x :: F, i => if n == x.1 then some (i, x.2) else at_ n F (i + 1)
def ent (x : ByteArray × Value) : Value × Value := (.string x.1, x.2)
def Is (w : World) (b : Nat) (F : List (ByteArray × Value)) : Prop := ∃ es c, w.heap[b]? = some (.map es c) /\ es.toList.map (fun e => (e.key, e.val)) = F.map ent /\ M.Stamps es c
theorem find_str (n : ByteArray) : ∀ (es : List MapEntry) (F : List (ByteArray × Value)) (i : Nat), es.map (fun e => (e.key, e.val)) = F.map ent -> Instr.findNow .string (.string n) es i = some ((at_ n F i).map (fun p => (p.1, p.2)))
 | [], F, i, h => by
  have : F = [] := by cases F with | nil => rfl | cons a t => simp at h
  subst this; rfl
 | e :: es, F, i, h => by
  cases F with
  | nil => simp at h
  | cons x F =>
   simp only [List.map_cons, List.cons.injEq] at h;obtain ⟨h1, h2⟩ := h;have hk : e.key = .string x.1 := congrArg Prod.fst h1;have hv : e.val = x.2 := congrArg Prod.snd h1;rw [Instr.findNow, hk, Instr.sameNow, at_];cases hb : n == x.1 with
   | true => simp [hv]
   | false => simp [find_str n es F (i + 1) h2]
theorem find_run (n : ByteArray) (es : Array MapEntry) (F : List (ByteArray × Value)) (w : World) (h : es.toList.map (fun e => (e.key, e.val)) = F.map ent) : (Instr.findKey 9 (.string n) es.toList).run Tryz.prog w = .ok ((at_ n F 0).map (fun p => (p.1, p.2))) w := by
 unfold Instr.findKey;simp [go_sem, find_str n es.toList F 0 h]
theorem key_run (e : Bool) (n : ByteArray) (w : World) : (Instr.checkKey e 10000 9 (.string n)).run Tryz.prog w = .ok () w := by
 show (Instr.checkKey e (9999 + 1) 9 (.string n)).run Tryz.prog w = .ok () w;rw [Instr.checkKey];simp [go_sem]
theorem look {t e : TypeId} (hu : Tryz.prog.underlying t = some (.map 9 e)) {w : World} {b : Nat} {F : List (ByteArray × Value)} (h : Is w b F) (n : ByteArray) (ok : Bool) {z : Value} (hz : ∀ w, (zeroValue e).run Tryz.prog w = .ok z w) :
  (Instr.lookup t (.map (some b)) (.string n) ok).run Tryz.prog w = .ok (match at_ n F 0 with | some p => if ok then .tuple #[p.2, .bool true] else p.2 | none => if ok then .tuple #[z, .bool false] else z) w := by
 obtain ⟨es, c, hb, hF, hS⟩ := h;have hf := find_run n es F w hF;simp only [Instr.lookup, Sem.run_bind, run_underlying hu, MapKept.run_getObj_map hb, key_run, hf, Result.andThen_ok, Sem.run_pure];cases at_ n F 0 with
 | none => simp [go_sem, hz]
 | some p => simp [go_sem]
def put (F : List (ByteArray × Value)) (n : ByteArray) (d : Value) : List (ByteArray × Value) :=
 match at_ n F 0 with
 | some p => F.set p.1 (n, d)
 | none => F ++ [(n, d)]
theorem at_spec (n : ByteArray) : ∀ (F : List (ByteArray × Value)) (i : Nat) (p : Nat × Value), at_ n F i = some p -> ∃ j x, p.1 = i + j /\ F[j]? = some x /\ n = x.1 /\ p.2 = x.2
 | [], _, _, h => by cases h
 | x :: F, i, p, h => by
  rw [at_] at h;split at h
  ·rename_i hb;cases h;exact ⟨0, x, rfl, rfl, (bytes_beq _ _).1 hb, rfl⟩
  ·obtain ⟨j, y, h1, h2, h3⟩ := at_spec n F (i + 1) p h;exact ⟨j + 1, y, by omega, by simpa using h2, h3⟩
theorem update {t e : TypeId} (hu : Tryz.prog.underlying t = some (.map 9 e)) {w : World} {b : Nat} {F : List (ByteArray × Value)} (h : Is w b F) (n : ByteArray) (d : Value) :
  ∃ w', (Instr.mapUpdate t (.map (some b)) (.string n) d).run Tryz.prog w = .ok () w' /\ Is w' b (put F n d) /\ w.grownBy w' (some b) := by
 obtain ⟨es, c, hb, hF, hS⟩ := h;have hf := find_run n es F w hF;cases ha : at_ n F 0 with
 | none =>
  rw [ha] at hf;refine ⟨ChangeMaps.setBlock w b (.map (es.push ⟨.string n, d, c⟩) (c + 1)), ?_, ⟨_, _, heap_setBlock_same hb _, ?_, hS.push _ _⟩, ⟨rfl, rfl, rfl, by simp [ChangeMaps.setBlock], fun i _ hi => heap_setBlock_other hb _ (fun e => hi (by rw [e]))⟩⟩
  ·simp [Instr.mapUpdate, run_underlying hu, MapKept.run_getObj_map hb, key_run, hf, MapKept.run_setObj_map _ hb, Result.andThen, ChangeMaps.setBlock]
  ·unfold put;rw [ha];simp [hF, ent]
 | some p =>
  rw [ha] at hf;obtain ⟨j, x, h1, h2, h3, h4⟩ := at_spec n F 0 p ha;have hj : p.1 = j := by omega
  have hje : j < es.size := by
   have h5 := congrArg List.length hF;simp at h5;rw [h5]; exact (List.getElem?_eq_some_iff.1 h2).1
  have hk : es[j].key = .string n := by
   have h5 : (es.toList.map (fun e => (e.key, e.val)))[j]? = (F.map ent)[j]? := by rw [hF]
   rw [List.getElem?_map, List.getElem?_map, h2] at h5;simp [hje, ent] at h5;rw [h5.1, h3]
  refine ⟨setBlock w b (.map (es.modify j fun e => { e with key := .string n, val := d }) c), ?_, ⟨_, _, heap_setBlock_same hb _, ?_, hS.turn j _ _⟩, ⟨rfl, rfl, rfl, by simp [setBlock], fun i _ hi => heap_setBlock_other hb _ (fun e => hi (by rw [e]))⟩⟩
  ·have hsb : Instr.sameBits 10000 (.string n) (.string n) = true := by simp [Instr.sameBits, (bytes_beq _ _).2 rfl]
   simp [Instr.mapUpdate, run_underlying hu, MapKept.run_getObj_map hb, key_run, hf, MapKept.run_setObj_map _ hb, Result.andThen, setBlock, Instr.keyThatStays, hj, hje, hk, hsb]
  ·unfold put;rw [ha];simp only;rw [hj, Array.toList_modify];apply List.ext_getElem?;intro i;have h5 : (es.toList.map (fun e => (e.key, e.val)))[i]? = (F.map ent)[i]? := by rw [hF]
   rw [List.getElem?_map, List.getElem?_map] at h5 ⊢;rw [List.getElem?_modify, List.getElem?_set];by_cases hij : j = i
   ·subst hij;have hF2 : j < F.length := (List.getElem?_eq_some_iff.1 h2).1;simp [hje, hF2, ent]
   ·simp only [if_neg hij];cases he : es.toList[i]? with
    | none => rw [he] at h5; simpa using h5
    | some e => rw [he] at h5; simpa using h5
theorem Is.below {w w' : World} {b B : Nat} {F : List (ByteArray × Value)} (h : Is w b F) (hg : Below B w w') (hB : b < B) : Is w' b F := by
 obtain ⟨es, c, hb, hF⟩ := h;exact ⟨es, c, (hg.block b hB).trans hb, hF⟩
theorem Is.made (w : World) : Is (w.alloc (.map #[] 0)) w.heap.size [] := ⟨#[], 0, heap_alloc_new _ _, rfl, (fun e he => by cases he), List.nodup_nil⟩
theorem at_shift (n : ByteArray) : ∀ (S : List (ByteArray × Value)) (i : Nat), at_ n S i = (at_ n S 0).map (fun p => (p.1 + i, p.2))
 | [], _ => rfl
 | x :: S, i => by
  rw [at_, at_];split
  ·simp
  ·rw [at_shift n S (i + 1), at_shift n S (0 + 1), Option.map_map];congr 1;funext p;simp;omega
def get (F : List (ByteArray × Value)) (n : ByteArray) : Option Value := (at_ n F 0).map (·.2)
theorem get_cons (x : ByteArray × Value) (F : List (ByteArray × Value)) (n : ByteArray) : get (x :: F) n = if n == x.1 then some x.2 else get F n := by
 unfold get;rw [at_];cases h : (n == x.1) with
 | true => simp
 | false =>
  rw [if_neg (by simp), if_neg (by simp), at_shift, Option.map_map]; rfl
end S
end Go.Proofs.YtcekcfjabhlheaaGreatDoor.Vx
