/- StateSays: SD SE SF SG SH SI SJ SK. -/
import Derived.Test.YtcekcfjabhlheaaGreatDoorSC
import Derived.Test.YtcekcfjabhlheaaGreatDoorVJ
import Derived.Deep.RegionHeld3
import Derived.Test.YtcekcfjabhlheaaGreatDoorUV
set_option maxRecDepth 100000
set_option maxHeartbeats 12800000
namespace Go.Proofs.YtcekcfjabhlheaaGreatDoor.Dx
open Go.RowKit
attribute [local go_sem ↓] Go.wp_at_zero Go.wp_at_succ
structure SvAt (w3 : World) (B : Nat -> Prop) (g : Nat) (D : Dk) (f d : ByteArray) (k : Nat) (wr : World) : Prop where
 le : k <= 3
 disk : ∃ B', Disk wr B' g (D.sv f d k) /\ ∀ x, B' x -> B x \/ w3.heap.size <= x
 oks : ∀ i, i < k -> ¬ (D.sv f d i).fails
 fit : 0 < k -> D.fit draftN d.size = 0
 fr : Fr w3 wr B
def StepSays (wr wn : World) (B : Nat -> Prop) (g : Nat) (D : Dk) (f d : ByteArray) (k : Nat) (o : Ending) : Prop :=
 (k = 0 /\ D.fit draftN d.size ≠ 0 /\ o = .returned (.iface 54 (.int .i64 (D.fit draftN d.size))) /\ Fr wr wn (fun _ => False)) \/
 (D.fit draftN d.size = 0 /\ (D.sv f d k).fails /\ o = .returned (.iface 54 (.int .i64 10)) /\ Disk wn B g (D.sv f d k).fell /\ Fr wr wn B) \/
 (D.fit draftN d.size = 0 /\ ¬ (D.sv f d k).fails /\ o = .returned .nilIface /\ (∃ B', Disk wn B' g (D.sv f d (k + 1)) /\ ∀ x, B' x -> B x \/ wr.heap.size <= x) /\ Fr wr wn B)
theorem StepSays.of_doing {wr wn : World} {B : Nat -> Prop} {g : Nat} {D : Dk} {f d : ByteArray} {k : Nat} {o : Ending} (h0 : D.fit draftN d.size = 0) (h : Doing wr wn B g (D.sv f d k) (D.sv f d (k + 1)) o) : StepSays wr wn B g D f d k o := by
 rcases h with ⟨⟨h1, h2, h3⟩ | ⟨h1, h2, h3⟩, h4⟩
 ·exact .inr (.inl ⟨h0, h1, h2, h3, h4⟩)
 ·exact .inr (.inr ⟨h0, h1, h2, h3, h4⟩)
theorem StepSays.of_changed {wr wn : World} {B : Nat -> Prop} {g : Nat} {D : Dk} {f d : ByteArray} {o : Ending} (h : Changed wr wn B g (D.sv f d 0) (D.sv f d 1) (D.fit draftN d.size) o) : StepSays wr wn B g D f d 0 o := by
 rcases h with ⟨h1, h2, h3⟩ | ⟨h1, h2⟩
 ·exact .inl ⟨rfl, h1, by rw [errV_ne h1] at h2; exact h2, h3⟩
 ·exact .of_doing h1 h2
theorem SvAt.next {w3 wr wn : World} {B Bk : Nat -> Prop} {g : Nat} {D : Dk} {f d : ByteArray} {k : Nat} (h : SvAt w3 B g D f d k wr) (hk : k < 3) (hBk : ∀ x, Bk x -> B x \/ w3.heap.size <= x) (h0 : D.fit draftN d.size = 0) (hf : ¬ (D.sv f d k).fails) (hD : ∃ B', Disk wn B' g (D.sv f d (k + 1)) /\ ∀ x, B' x -> Bk x \/ wr.heap.size <= x) (hF : Fr wr wn Bk) : SvAt w3 B g D f d (k + 1) wn := by
 obtain ⟨B', hD, hB'⟩ := hD;refine ⟨by omega, ⟨B', hD, fun x hx => ?_⟩, fun i hi => ?_, fun _ => h0, h.fr.trans hF (fun c hc e => (hBk c e).resolve_right (by omega))⟩
 ·rcases hB' x hx with h1 | h1
  ·exact hBk x h1
  ·exact .inr (Nat.le_trans h.fr.size h1)
 ·by_cases e : i = k
  ·rw [e];exact hf
  ·exact h.oks i (by omega)
theorem SvAt.say {w w3 wr wn : World} {B Bk : Nat -> Prop} {g : Nat} {D : Dk} {f d : ByteArray} {k : Nat} {o : Ending} (h : SvAt w3 B g D f d k wr) (hk : k < 3) (hw3 : Fr w w3 (fun _ => False)) (hBk : ∀ x, Bk x -> B x \/ w3.heap.size <= x) (hBl : ∀ x, Bk x -> x < wr.heap.size) (hDk : Disk wr Bk g (D.sv f d k)) (hs : StepSays wr wn Bk g D f d k o) (ho : o ≠ .returned .nilIface) : SaveSays w wn B g D 0 f d o := by
 have hsz := hw3.size;have hin : ∀ x, Bk x -> B x \/ w.heap.size <= x := fun x hx => (hBk x hx).imp id (fun h => Nat.le_trans hsz h)
 rcases hs with ⟨rfl, h1, rfl, hF⟩ | ⟨h0, h1, rfl, hD, hF⟩ | ⟨_, _, h2, _⟩
 ·refine ⟨D.fit draftN d.size, D, Bk, by rw [errV_ne h1], hDk.fr hF (fun _ _ e => e), hin, fun x hx => Nat.lt_of_lt_of_le (hBl x hx) hF.size, ?_, .inr ⟨rfl, .inl ⟨h1, rfl, rfl⟩⟩⟩;exact ((hw3.weak (fun c _ e => e.elim)).trans h.fr (fun c _ e => e)).trans hF (fun c _ e => e.elim)
 ·refine ⟨10, _, Bk, rfl, hD, hin, fun x hx => Nat.lt_of_lt_of_le (hBl x hx) hF.size, ?_, .inr ⟨rfl, .inr (.inl ⟨h0, rfl, k, hk, h.oks, h1, rfl⟩)⟩⟩;exact ((hw3.weak (fun c _ e => e.elim)).trans h.fr (fun c _ e => e)).trans hF (fun c hc e => (hin c e).resolve_right (by omega))
 ·exact absurd h2 ho
theorem SvAt.done {w w3 wr : World} {B : Nat -> Prop} {g : Nat} {D : Dk} {f d : ByteArray} (h : SvAt w3 B g D f d 3 wr) (hw3 : Fr w w3 (fun _ => False)) : SaveSays w wr B g D 0 f d (.returned .nilIface) := by
 have hsz := hw3.size;obtain ⟨B', hD, hB'⟩ := h.disk;obtain ⟨B2, hD2, h21, h22⟩ := hD.shrink2;exact ⟨0, _, B2, rfl, hD2, fun x hx => (hB' x (h21 x hx)).imp id (fun h => Nat.le_trans hsz h), h22, (hw3.weak (fun c _ e => e.elim)).trans h.fr (fun c _ e => e), .inr ⟨rfl, .inr (.inr ⟨h.fit (by decide), rfl, fun i hi => h.oks i hi, rfl⟩)⟩⟩
theorem fit_size {D : Dk} {n d : ByteArray} (hz : D.fit n d.size = 0) : d.size <= 1000000 := by
 unfold Dk.fit at hz;split at hz
 ·cases hz
 ·split at hz
  ·cases hz
  ·rename_i h2;omega
theorem save_good (n : ByteArray) (m : Nat) (s : Vx.St) (c0 c1 c2 c3 : Value) (w : World) (B : Nat -> Prop) (g : Nat) (D : Dk) (hn : Vx.V.name (Vx.V.bl n) = true) (hM : Vx.S.Mem m w s [c0, c1, c2, c3]) (hbk : Vx.S.bulk m s <= 2000000) (htab : Lib.TabIs Tryz.prog w "internal/strconv.uint64pow10" .u64 Lib.pow10Tab) (h : Disk w B g D) (hB : ∀ x, B x -> x < w.heap.size) (hE : D.Easy) (hgood : Vx.S.fault m s = 0) :
  Calls Tryz.prog 6 #[.pointer (some ⟨g, 0, none⟩), .string n, .agg #[c0, c1, c2, c3]] w fun o w' => SaveSays w w' B g D 0 (fileN n) (Vx.V.str (Vx.S.text m s)) o := by
 have hbx : Below w.heap.size w (w.alloc (.cells #[c0, c1, c2, c3] 26)) := ba;have hX := heap_alloc_new w (.cells #[c0, c1, c2, c3] 26);have hsn : n.size <= 12 := by
  unfold Vx.V.name at hn;simp only [Bool.and_eq_true, decide_eq_true_eq] at hn;have := Vx.V.length_bl n;omega
 have HN := hide (fun w => Vx.name_any n w (by unfold maxLen; omega));have HFO := hide (fun w => fileOf_any n w (by omega));have HNM := hide hn;rw [hn] at HN;have HT := hide (Vx.stateText_any m (w.alloc (.cells #[c0, c1, c2, c3] 26)) s c0 c1 c2 c3 (hM.kept hbx) hbk (Vx.tab_below htab hbx));rw [hgood, show Vx.S.textOr m s = Vx.V.str (Vx.S.text m s) by unfold Vx.S.textOr; rw [if_pos hgood], show Vx.V.errOf 0 = .nilIface from rfl] at HT;obtain ⟨hv, iv, ov, hcs, hh, hi, ho, h64⟩ := hM;simp only [List.cons.injEq, and_true] at hcs;obtain ⟨rfl, rfl, rfl, rfl⟩ := hcs;obtain ⟨ah, ch, rfl⟩ := Vx.V.Row.shape hh;obtain ⟨ai, ci, rfl⟩ := Vx.V.Row.shape hi;obtain ⟨ao, co, rfl⟩ := Vx.V.Row.shape ho;have HB0 : Hid (Below w.heap.size w (w.alloc (.cells #[.int .i64 s.serial, .slice ah s.held.length ch, .slice ai s.its.length ci, .slice ao s.outs.length co] 26))) := hbx;obtain ⟨x0, x1, x2, x3⟩ := cl4 hX;generalize Vx.V.str (Vx.S.text m s) = d at *;obtain ⟨HD, HBL, HE⟩ := hd3 h hB hE;clear hbx hX hgood hbk htab h hB hh hi ho h64 hn hsn hE;go_enter Tryz.func6, Tryz.ntmps6;go_wp2_with fail;generalize (w.alloc _) = w0 at *;refine (HN.out w0).mono ?_;rintro o w1 ⟨rfl, hw1⟩;rw [hw1];clear hw1 HN;go_wp2_with fail;refine HT.out.mono ?_;rintro o w2 ⟨rfl, hb2⟩;have HB2 := hide (HB0.out.trans (hb2.mono HB0.out.size));clear hb2 HT x0 x1 x2 x3 HB0;go_wp2_with fail;refine (HFO.out w2).mono ?_;rintro o w1' ⟨rfl, hw1⟩;rw [hw1];clear hw1 HFO;go_wp2_with fail;refine (steps_any g (fileN n) d w2).mono ?_;rintro o w3 ⟨rfl, k3, k4, k5, k6, hF3, hs3⟩;have hF03 : Fr w w3 (fun _ => False) := (show Fr w w2 (fun _ => False) from ⟨HB2.out.os, HB2.out.tape, HB2.out.output, HB2.out.size, fun c hc _ => HB2.out.block c hc⟩).trans hF3 (fun _ _ e => e);have hsw := HB2.out.size;have hSV0 : SvAt w3 B g D (fileN n) d 0 w3 := ⟨by decide, ⟨B, HD.out.fr hF03 (fun _ _ e => e), fun x hx => .inl hx⟩, fun i hi => absurd hi (by omega), fun hk => absurd hk (by omega), Fr.refl _ _⟩
 obtain ⟨HSV0, HF03⟩ := hd2 hSV0 hF03;have HK : Hid (∀ wr, Fr w3 wr B -> wr.cell? ⟨w2.heap.size, 0, none⟩ = some (.pointer (some ⟨g, 0, none⟩)) /\ wr.cell? ⟨w2.heap.size + 1, 0, none⟩ = some (.string (fileN n)) /\ wr.cell? ⟨w2.heap.size + 2, 0, none⟩ = some (.string d) /\ wr.cell? ⟨w2.heap.size + 3, 0, none⟩ = some (.func (.func 47) #[] #[.pointer (some ⟨w2.heap.size, 0, none⟩), .pointer (some ⟨w2.heap.size + 2, 0, none⟩)]) /\ wr.cell? ⟨w2.heap.size + 3, 1, none⟩ = some (.func (.func 49) #[] #[.pointer (some ⟨w2.heap.size, 0, none⟩), .pointer (some ⟨w2.heap.size + 1, 0, none⟩)]) /\ wr.cell? ⟨w2.heap.size + 3, 2, none⟩ = some (.func (.func 51) #[] #[.pointer (some ⟨w2.heap.size, 0, none⟩)])) := fun wr hf => by
  have no : ∀ j, w2.heap.size <= j -> ¬ B j := fun j hj e => by have := HBL.out j e; omega
  have b3 := (hf.block w2.heap.size (by omega) (no _ (by omega))).trans k3;have b4 := (hf.block (w2.heap.size + 1) (by omega) (no _ (by omega))).trans k4;have b5 := (hf.block (w2.heap.size + 2) (by omega) (no _ (by omega))).trans k5;have b6 := (hf.block (w2.heap.size + 3) (by omega) (no _ (by omega))).trans k6;exact ⟨cell_of_block b3 0 _ rfl, cell_of_block b4 0 _ rfl, cell_of_block b5 0 _ rfl, cell_of_block b6 0 _ rfl, cell_of_block b6 1 _ rfl, cell_of_block b6 2 _ rfl⟩
 clear k3 k4 k5 k6 hF3 hs3 hF03 hsw hSV0 HD HB2;go_wp2_with fail;go_loopw [30, 10, 11] (fun vi _ _ wr => ∃ k : Nat, vi = .int .i64 k /\ SvAt w3 B g D (fileN n) d k wr) (fun vi _ _ _ => 3 - (intOf vi).toNat)
 case atStart => exact ⟨0, rfl, HSV0.out⟩
 case round =>
  clear HSV0;obtain ⟨k, rfl, hS⟩ := hrel;have HS := hide hS;have hle := hS.le;obtain ⟨y3, y4, y5, y60, y61, y62⟩ := HK.out wr hS.fr;obtain ⟨B1, hD1, hB1⟩ := hS.disk;obtain ⟨Bk, hDk, hBk, hBkl⟩ := hD1.shrink2;have HBK : Hid (∀ x, Bk x -> B x \/ w3.heap.size <= x) := fun x hx => hB1 x (hBk x hx)
  obtain ⟨HBKL, HDK⟩ := hd2 hBkl hDk;clear hS hD1 hB1 hBk;rcases (show k = 0 \/ k = 1 \/ k = 2 \/ k = 3 by omega) with rfl | rfl | rfl | rfl
  ·have HST : Hid (Calls Tryz.prog 47 #[.pointer (some ⟨w2.heap.size, 0, none⟩), .pointer (some ⟨w2.heap.size + 2, 0, none⟩)] wr fun o wn => StepSays wr wn Bk g D (fileN n) d 0 o) := (step1_any wr Bk g _ _ D d hDk hBkl HE.out y3 y5).mono (fun o wn hc => .of_changed hc);have hgo : ¬ ((0 : Int) = 3) := by decide
   clear hDk hBkl y3 y4 y5 y61 y62;go_wp2_with fail;refine HST.out.mono ?_;rintro o wn hs;rcases id hs with ⟨_, h1, rfl, _⟩ | ⟨_, h1, rfl, _⟩ | ⟨h0, h1, rfl, hD, hF⟩
   ·have HR := hide (HS.out.say (by decide) HF03.out HBK.out HBKL.out HDK.out hs (by intro e; cases e));clear hs h1 hgo HST;generalize D.fit draftN d.size = qq at *;go_wp2_with fail;go_ret;exact HR.out
   ·have HR := hide (HS.out.say (by decide) HF03.out HBK.out HBKL.out HDK.out hs (by intro e; cases e));clear hs h1 hgo HST;go_wp2_with fail;go_ret;exact HR.out
   ·have HNX := hide (HS.out.next (by decide) HBK.out h0 h1 hD hF);clear hs h0 h1 hD hF hgo HST;go_wp2_with fail;go_roundw
    case rel => exact ⟨1, by go_num, HNX.out⟩
    case measure => simp [intOf]
  ·have HST : Hid (Calls Tryz.prog 49 #[.pointer (some ⟨w2.heap.size, 0, none⟩), .pointer (some ⟨w2.heap.size + 1, 0, none⟩)] wr fun o wn => StepSays wr wn Bk g D (fileN n) d 1 o) := (step2_any wr Bk g _ _ D d n hDk hBkl HE.out HNM.out (fit_size (HS.out.fit (by decide))) y3 y4).mono (fun o wn hc => .of_doing (HS.out.fit (by decide)) hc);have hgo : ¬ ((1 : Int) = 3) := by decide
   clear hDk hBkl y3 y4 y5 y60 y62;go_wp2_with fail;refine HST.out.mono ?_;rintro o wn hs;rcases id hs with ⟨_, h1, rfl, _⟩ | ⟨_, h1, rfl, _⟩ | ⟨h0, h1, rfl, hD, hF⟩
   ·have HR := hide (HS.out.say (by decide) HF03.out HBK.out HBKL.out HDK.out hs (by intro e; cases e));clear hs h1 hgo HST;generalize D.fit draftN d.size = qq at *;go_wp2_with fail;go_ret;exact HR.out
   ·have HR := hide (HS.out.say (by decide) HF03.out HBK.out HBKL.out HDK.out hs (by intro e; cases e));clear hs h1 hgo HST;go_wp2_with fail;go_ret;exact HR.out
   ·have HNX := hide (HS.out.next (by decide) HBK.out h0 h1 hD hF);clear hs h0 h1 hD hF hgo HST;go_wp2_with fail;go_roundw
    case rel => exact ⟨2, by go_num, HNX.out⟩
    case measure => simp [intOf]
  ·have HST : Hid (Calls Tryz.prog 51 #[.pointer (some ⟨w2.heap.size, 0, none⟩)] wr fun o wn => StepSays wr wn Bk g D (fileN n) d 2 o) := (step3_any wr Bk g _ D d n hDk HE.out (fit_size (HS.out.fit (by decide))) y3).mono (fun o wn hc => .of_doing (HS.out.fit (by decide)) hc);have hgo : ¬ ((2 : Int) = 3) := by decide
   clear hDk hBkl y3 y4 y5 y60 y61;go_wp2_with fail;refine HST.out.mono ?_;rintro o wn hs;rcases id hs with ⟨_, h1, rfl, _⟩ | ⟨_, h1, rfl, _⟩ | ⟨h0, h1, rfl, hD, hF⟩
   ·have HR := hide (HS.out.say (by decide) HF03.out HBK.out HBKL.out HDK.out hs (by intro e; cases e));clear hs h1 hgo HST;generalize D.fit draftN d.size = qq at *;go_wp2_with fail;go_ret;exact HR.out
   ·have HR := hide (HS.out.say (by decide) HF03.out HBK.out HBKL.out HDK.out hs (by intro e; cases e));clear hs h1 hgo HST;go_wp2_with fail;go_ret;exact HR.out
   ·have HNX := hide (HS.out.next (by decide) HBK.out h0 h1 hD hF);clear hs h0 h1 hD hF hgo HST;go_wp2_with fail;go_roundw
    case rel => exact ⟨3, by go_num, HNX.out⟩
    case measure => simp [intOf]
  ·clear hDk hBkl y3 y4 y5 y60 y61 y62;have HR := hide (HS.out.done HF03.out);go_wp2_with fail;go_ret;exact HR.out
theorem save_any (n : ByteArray) (m : Nat) (s : Vx.St) (c0 c1 c2 c3 : Value) (w : World) (B : Nat -> Prop) (g : Nat) (D : Dk) (hn : Vx.V.name (Vx.V.bl n) = true) (hM : Vx.S.Mem m w s [c0, c1, c2, c3]) (hbk : Vx.S.bulk m s <= 2000000) (htab : Lib.TabIs Tryz.prog w "internal/strconv.uint64pow10" .u64 Lib.pow10Tab) (h : Disk w B g D) (hB : ∀ x, B x -> x < w.heap.size) (hE : D.Easy) :
  Calls Tryz.prog 6 #[.pointer (some ⟨g, 0, none⟩), .string n, .agg #[c0, c1, c2, c3]] w fun o w' => SaveSays w w' B g D (Vx.S.fault m s) (fileN n) (Vx.V.str (Vx.S.text m s)) o := by
 by_cases hf : Vx.S.fault m s = 0
 ·rw [hf];exact save_good n m s c0 c1 c2 c3 w B g D hn hM hbk htab h hB hE hf
 ·exact save_bad n m s c0 c1 c2 c3 w B g D hn hM hbk htab h hB hf
end Go.Proofs.YtcekcfjabhlheaaGreatDoor.Dx
namespace Go.Proofs.YtcekcfjabhlheaaGreatDoor.Vx
open Go.RowKit
theorem below_dx {w w' : World} (h : Dx.Fr w w' (fun _ => False)) : Below w.heap.size w w' := ⟨h.os, h.tape, h.output, h.size, fun c hc => h.block c hc (fun e => e)⟩
theorem eq_nil7 (w : World) : (binOp BinOp.eql 30 .nilIface (.iface 54 (.int .i64 7))).run Tryz.prog w = .ok (.bool false) w := by kernel_rfl
theorem load_there (n : ByteArray) (s : St) (w : World) (B : Nat -> Prop) (g : Nat) (D : Dx.Dk) (hn : V.name (V.bl n) = true) (h : Dx.Disk w B g D) (hdn : D.down = false) (hget : Dx.M.get D.files (Dx.fileN n) = some (V.str (S.text 6 s))) (h6 : S.Six s) (hlen : (S.text 6 s).length <= 4000) (htab : Lib.TabIs Tryz.prog w "internal/strconv.uint64pow10" .u64 Lib.pow10Tab) :
  Calls Tryz.prog 10 #[.pointer (some ⟨g, 0, none⟩), .string n] w fun o w' => (∃ cs, o = .returned (.tuple #[.agg cs.toArray, .nilIface]) /\ P.StR w w' s cs) /\ Below w.heap.size w w' := by
 have hb0 : Below w.heap.size w (w.alloc (.cells #[.int .i64 0, .slice none 0 0, .slice none 0 0, .slice none 0 0] 26)) := ba;have hA0 := heap_alloc_new w (.cells #[.int .i64 0, .slice none 0 0, .slice none 0 0, .slice none 0 0] 26);have HS0 : Hid ((w.alloc (.cells #[.int .i64 0, .slice none 0 0, .slice none 0 0, .slice none 0 0] 26)).heap.size = w.heap.size + 1) := by
  show _ = _;simp
 have hsn : n.size <= 12 := by
  unfold V.name at hn;simp only [Bool.and_eq_true, decide_eq_true_eq] at hn;have := V.length_bl n;omega
 have HN := hide (fun w => name_any n w (by unfold maxLen; omega));rw [hn] at HN;have HFO := hide (fun w => Dx.fileOf_any n w (by omega));have HRD : Hid (Calls Tryz.prog 25 #[.pointer (some ⟨g, 0, none⟩), .string (Dx.fileN n)] (w.alloc (.cells #[.int .i64 0, .slice none 0 0, .slice none 0 0, .slice none 0 0] 26)) fun o w' => o = .returned (.tuple #[.string (V.str (S.text 6 s)), .nilIface]) /\ Below (w.alloc (.cells #[.int .i64 0, .slice none 0 0, .slice none 0 0, .slice none 0 0] 26)).heap.size (w.alloc (.cells #[.int .i64 0, .slice none 0 0, .slice none 0 0, .slice none 0 0] 26)) w') := by
  refine (Dx.read_any (w.alloc (.cells #[.int .i64 0, .slice none 0 0, .slice none 0 0, .slice none 0 0] 26)) B g D (Dx.fileN n) (h.fr ((Dx.Fr.refl w (fun _ => False)).alloc _) (fun _ _ e => e))).mono ?_;rintro o w' ⟨rfl, hf⟩;refine ⟨?_, below_dx hf⟩;unfold Dx.Dk.read;rw [hdn, hget];rfl
 have HP : Hid (∀ W, Below w.heap.size w W -> Calls Tryz.prog 20 #[.string (V.str (S.text 6 s))] W fun e w' => (∃ cs, e = .returned (.tuple #[.agg cs.toArray, .nilIface]) /\ P.StR W w' s cs) /\ Below W.heap.size W w') := fun W hW => stateParse_one s W h6 hlen (tab_below htab hW)
 generalize V.str (S.text 6 s) = tt at *;obtain ⟨HB0, HA0⟩ := hd2 hb0 hA0;clear hb0 hA0 hsn hn h hdn hget h6 hlen htab;go_enter Tryz.func10, Tryz.ntmps10;go_wp2_with fail;generalize (w.alloc _) = w0 at *;refine (HN.out w0).mono ?_;rintro o w1 ⟨rfl, hw1⟩;rw [hw1];clear hw1 HN;go_wp2_with fail;refine (HFO.out w0).mono ?_;rintro o w1' ⟨rfl, hw1⟩;rw [hw1];clear hw1 HFO;go_wp2_with fail;refine HRD.out.mono ?_;rintro o w3 ⟨rfl, hb3⟩;have hB3 := HB0.out.trans (hb3.mono HB0.out.size);have HPP := hide (HP.out w3 hB3);have HB3 := hide hB3;have hA3 := (hb3.block w.heap.size (by have := HS0.out; omega)).trans HA0.out;have HA3 := hide hA3;have HS3 : Hid (w.heap.size + 1 <= w3.heap.size) := by
  have := hb3.size;have := HS0.out;show _ <= _;omega
 clear hb3 hB3 hA3 HRD HP HA0 HB0;have hq7 := eq_nil7;go_wp2_with fail;refine HPP.out.mono ?_;rintro e w4 ⟨⟨cs, rfl, ⟨a1, n1, q1, a2, n2, q2, a3, n3, q3, rfl⟩, hK⟩, hb4⟩;have hA4 := (hb4.block w.heap.size (by have := HS3.out; omega)).trans HA3.out;obtain ⟨HA4, HK4⟩ := hd2 hA4 hK;have HB4 := bt HB3 hb4;obtain ⟨m0, m1, m2, m3⟩ := cl4 hA4;obtain ⟨f0, f1, f2, f3⟩ := fl4 hA4;clear hA4 hK hb4 HPP;go_wp2_with fail;have hF : Fr w4 ((((w4.setCell ⟨w.heap.size, 0, none⟩ (.int .i64 s.serial)).setCell ⟨w.heap.size, 1, none⟩ (.slice a1 n1 q1)).setCell ⟨w.heap.size, 2, none⟩ (.slice a2 n2 q2)).setCell ⟨w.heap.size, 3, none⟩ (.slice a3 n3 q3)) (fun c => c = w.heap.size) := ((((Fr.refl w4 (fun c => c = w.heap.size)).set ⟨w.heap.size, 0, none⟩ _ (fun _ => rfl)).set ⟨w.heap.size, 1, none⟩ _ (fun _ => rfl)).set ⟨w.heap.size, 2, none⟩ _ (fun _ => rfl)).set ⟨w.heap.size, 3, none⟩ _ (fun _ => rfl);have hB : ((((w4.setCell ⟨w.heap.size, 0, none⟩ (.int .i64 s.serial)).setCell ⟨w.heap.size, 1, none⟩ (.slice a1 n1 q1)).setCell ⟨w.heap.size, 2, none⟩ (.slice a2 n2 q2)).setCell ⟨w.heap.size, 3, none⟩ (.slice a3 n3 q3)).heap[w.heap.size]? = some (.cells #[.int .i64 s.serial, .slice a1 n1 q1, .slice a2 n2 q2, .slice a3 n3 q3] 26 (0, 0)) := by
  have bq0 : (w4.setCell ⟨w.heap.size, 0, none⟩ (.int .i64 s.serial)).heap[w.heap.size]? = _ := block_set (i := 0) HA4.out (.int .i64 s.serial);have bq1 := block_set (i := 1) bq0 (.slice a1 n1 q1);have bq2 := block_set (i := 2) bq1 (.slice a2 n2 q2);exact block_set (i := 3) bq2 (.slice a3 n3 q3)
 generalize ((((w4.setCell _ _).setCell _ _).setCell _ _).setCell _ _) = wz at *;obtain ⟨r0, r1, r2, r3⟩ := cl4 hB;have hs3 := HS3.out;refine bodyPost_ret (v := .tuple #[.agg #[.int .i64 s.serial, .slice a1 n1 q1, .slice a2 n2 q2, .slice a3 n3 q3], .nilIface]) (by simp [results, Tryz.results10, go_sem, r0, r1, r2, r3]) rfl ⟨⟨[.int .i64 s.serial, .slice a1 n1 q1, .slice a2 n2 q2, .slice a3 n3 q3], rfl, ⟨_, _, _, _, _, _, _, _, _, rfl⟩, ?_⟩, HB4.out.trans (hF.below HB4.out.size (fun c e => by omega))⟩;refine HK4.out.to (fun c hc => ?_) (fun c hc => ?_)
 ·have h1 := hc.1;have h2 := hc.2;exact hF.block c (by omega) (by omega)
 ·have h1 := hc.1;have h2 := hc.2;have h3 := hF.size;exact ⟨by omega, by omega⟩
theorem S.Mem.form2 {m : Nat} {w : World} {v : Val} {cs : List Value} (h : V.Mem m w v cs) : ∃ al cl af cf, cs = [.int .i64 v.kind, .int .i64 v.n, .string v.s, .slice al v.l.length cl, .slice af v.f.length cf] := by
 cases m with
 | zero => exact h.elim
 | succ m =>
  obtain ⟨lv, fv, h1, h2, h3⟩ := h;obtain ⟨al, cl, rfl⟩ := V.Row.shape h2;obtain ⟨af, cf, rfl⟩ := V.Row.shape h3;exact ⟨al, cl, af, cf, h1⟩
theorem S.len_sum {α : Type} {f : α -> Nat} (h : ∀ x, 1 <= f x) : ∀ l : List α, l.length <= (l.map f).sum
 | [] => Nat.zero_le _
 | a :: l => by
  have := S.len_sum h l;have := h a;simp only [List.length_cons, List.map_cons, List.sum_cons];omega
theorem S.lens {m : Nat} {s : St} (h : S.bulk m s <= 2000000) : s.held.length <= 2000000 /\ s.its.length <= 2000000 /\ s.outs.length <= 2000000 := by
 have h1 := S.len_sum (f := S.bulkH m) (fun x => by unfold S.bulkH; omega) s.held;have h2 := S.len_sum (f := S.bulkI m) (fun x => by unfold S.bulkI; omega) s.its;have h3 := S.len_sum (f := S.bulkO m) (fun x => by unfold S.bulkO; omega) s.outs;unfold S.bulk at h;omega
def Bools (e : Ending) : Prop := ∃ r : Bool, e = .returned (.bool r)
theorem lightState_any (m : Nat) (w : World) (s : St) (c0 c1 c2 c3 : Value) (hm : S.Mem m w s [c0, c1, c2, c3]) (hbk : S.bulk m s <= 2000000) :
    Calls Tryz.prog 7 #[.agg #[c0, c1, c2, c3]] w fun e w' => Bools e /\ Below w.heap.size w w' := by
  have few := S.Few.of hbk;have len := S.lens hbk;obtain ⟨hv, iv, ov, hcs, hh, hi, ho, _⟩ := hm;obtain ⟨rfl, rfl, rfl, rfl⟩ := ij4 hcs;obtain ⟨ah, ch, rfl⟩ := V.Row.shape hh;obtain ⟨ai, ci, rfl⟩ := V.Row.shape hi;obtain ⟨ao, co, rfl⟩ := V.Row.shape ho;have hbL : Below w.heap.size w (w.alloc (.cells #[.int .i64 s.serial, .slice ah s.held.length ch, .slice ai s.its.length ci, .slice ao s.outs.length co] 26)) := ba;have hA0 := heap_alloc_new w (.cells #[.int .i64 s.serial, .slice ah s.held.length ch, .slice ai s.its.length ci, .slice ao s.outs.length co] 26);obtain ⟨HBW, HK0, HF, HRH, HRI, HRO⟩ := hd6 hbL hA0 few hh hi ho;obtain ⟨l1, l2, l3⟩ := len;obtain ⟨x0, x1, x2, x3⟩ := cl4 hA0;clear hbL hA0 hh hi ho hbk few;go_enter Tryz.func7, Tryz.ntmps7;by_cases e1 : 20 < s.held.length
  · go_wp2_with fail
    go_ret;exact ⟨⟨_, rfl⟩, HBW.out⟩
  by_cases e2 : 12 < s.its.length
  · go_wp2_with fail
    go_ret;exact ⟨⟨_, rfl⟩, HBW.out⟩
  by_cases e3 : 12 < s.outs.length
  · go_wp2_with fail
    go_ret;exact ⟨⟨_, rfl⟩, HBW.out⟩
  go_wp2_with fail;generalize (w.alloc _) = wa at *;clear x0 x1 x2 x3 e1 e2 e3;go_loopw [3, 4] (fun vn vi wr => ∃ k : Nat, k <= s.held.length /\ vi = .int .i64 k /\ (∃ n : Int, vn = .int .i64 n) /\ wr.heap[w.heap.size]? = some (.cells #[.int .i64 s.serial, .slice ah s.held.length ch, .slice ai s.its.length ci, .slice ao s.outs.length co] 26 (0, 0)) /\ Below w.heap.size w wr) (fun _ vi _ => s.held.length - (intOf vi).toNat)
  case atStart => exact ⟨0, Nat.zero_le _, rfl, ⟨_, rfl⟩, HK0.out, HBW.out⟩
  case round =>
    clear HBW HK0;obtain ⟨k, hk, rfl, ⟨n, rfl⟩, hb0, hw⟩ := hrel;have s0 := cell_of_block hb0 1 _ rfl;by_cases hlt : k < s.held.length
    · obtain ⟨p1, o1, cap1, x, d0, d1, d2, d3, d4, e1, hx, hm1, _, u500, u501, u502, u503, u504, u505, u506, u507⟩ := S.elemH (HRH.out.kept hw) k hlt
      obtain ⟨rfl, _, rfl⟩ := Value.slice.inj e1;obtain ⟨al5, cl5, af5, cf5, hcs⟩ := S.Mem.form2 hm1;obtain ⟨rfl, rfl, rfl, rfl, rfl⟩ := ij5 hcs;have hxb := (HF.out.held x (List.mem_of_getElem? hx)).2.2;have hI : ∀ w' : World, (w'.cell? ⟨w.heap.size, 1, none⟩ = some (.slice (some ⟨p1, o1, none⟩) s.held.length ch) /\ w'.cell? ⟨p1, o1 + k * 8, none⟩ = some (.string x.name) /\ w'.cell? ⟨p1, o1 + k * 8 + 1, none⟩ = some (.string x.kind) /\ w'.cell? ⟨p1, o1 + k * 8 + 2, none⟩ = some (.int .i64 x.id) /\ w'.cell? ⟨p1, o1 + k * 8 + 3, none⟩ = some (.int .i64 x.v.kind) /\ w'.cell? ⟨p1, o1 + k * 8 + 4, none⟩ = some (.int .i64 x.v.n) /\ w'.cell? ⟨p1, o1 + k * 8 + 5, none⟩ = some (.string x.v.s) /\ w'.cell? ⟨p1, o1 + k * 8 + 6, none⟩ = some (.slice al5 x.v.l.length cl5) /\ w'.cell? ⟨p1, o1 + k * 8 + 7, none⟩ = some (.slice af5 x.v.f.length cf5) /\ Below wr.heap.size wr w') -> Calls Tryz.prog 24 #[.agg #[.int .i64 x.v.kind, .int .i64 x.v.n, .string x.v.s, .slice al5 x.v.l.length cl5, .slice af5 x.v.f.length cf5], .int .i64 9000] w' fun e w'' => (∃ n : Int, e = .returned (.int .i64 n)) /\ w''.cell? ⟨w.heap.size, 1, none⟩ = some (.slice (some ⟨p1, o1, none⟩) s.held.length ch) /\ w''.cell? ⟨p1, o1 + k * 8, none⟩ = some (.string x.name) /\ w''.cell? ⟨p1, o1 + k * 8 + 1, none⟩ = some (.string x.kind) /\ w''.cell? ⟨p1, o1 + k * 8 + 2, none⟩ = some (.int .i64 x.id) /\ w''.cell? ⟨p1, o1 + k * 8 + 3, none⟩ = some (.int .i64 x.v.kind) /\ w''.cell? ⟨p1, o1 + k * 8 + 4, none⟩ = some (.int .i64 x.v.n) /\ w''.cell? ⟨p1, o1 + k * 8 + 5, none⟩ = some (.string x.v.s) /\ w''.cell? ⟨p1, o1 + k * 8 + 6, none⟩ = some (.slice al5 x.v.l.length cl5) /\ w''.cell? ⟨p1, o1 + k * 8 + 7, none⟩ = some (.slice af5 x.v.f.length cf5) /\ Below wr.heap.size wr w'' := by
        intro w' ⟨t0, t1, t2, t3, t4, t5, t6, t7, t8, t9⟩;refine (weight_any 9000 m w' x.v _ _ _ _ _ (V.Mem.kept _ hm1 t9) hxb).mono ?_;rintro r w'' ⟨hr, hb⟩;exact ⟨hr, kept_cell hb t0, kept_cell hb t1, kept_cell hb t2, kept_cell hb t3, kept_cell hb t4, kept_cell hb t5, kept_cell hb t6, kept_cell hb t7, kept_cell hb t8, t9.trans (hb.mono t9.size)⟩
      obtain ⟨HI, HW, HLT, HB0⟩ := hd4 hI hw hlt hb0;have HLB0 := hide (blt hb0);have hbd : Below wr.heap.size wr wr.drew := below_drewN (Below.refl _ _) 1;have hi1 : (k : Int) < s.held.length := by omega
      clear hI hm1 hx hw hxb hb0;go_wp2_with fail;go_region_held3 (fun w' => w'.cell? ⟨w.heap.size, 1, none⟩ = some (.slice (some ⟨p1, o1, none⟩) s.held.length ch) /\ w'.cell? ⟨p1, o1 + k * 8, none⟩ = some (.string x.name) /\ w'.cell? ⟨p1, o1 + k * 8 + 1, none⟩ = some (.string x.kind) /\ w'.cell? ⟨p1, o1 + k * 8 + 2, none⟩ = some (.int .i64 x.id) /\ w'.cell? ⟨p1, o1 + k * 8 + 3, none⟩ = some (.int .i64 x.v.kind) /\ w'.cell? ⟨p1, o1 + k * 8 + 4, none⟩ = some (.int .i64 x.v.n) /\ w'.cell? ⟨p1, o1 + k * 8 + 5, none⟩ = some (.string x.v.s) /\ w'.cell? ⟨p1, o1 + k * 8 + 6, none⟩ = some (.slice al5 x.v.l.length cl5) /\ w'.cell? ⟨p1, o1 + k * 8 + 7, none⟩ = some (.slice af5 x.v.f.length cf5) /\ Below wr.heap.size wr w') (go_keep)
        (first | (go_at_call 24; refine Calls.mono (HI.out _ ?_) ?_; exact ⟨‹_›, ‹_›, ‹_›, ‹_›, ‹_›, ‹_›, ‹_›, ‹_›, ‹_›, ‹_›⟩; rintro r w3 ⟨⟨q, rfl⟩, t0, t1, t2, t3, t4, t5, t6, t7, t8, t9⟩))
      all_goals
        have HW3 := bt HW t9;have HK0 := hide ((t9.block w.heap.size HLB0.out).trans HB0.out);clear t9 t0 t1 t2 t3 t4 t5 t6 t7 t8;go_wp2_with fail
        all_goals first
          | (go_ret; exact ⟨⟨_, rfl⟩, HW3.out⟩)
          | (go_roundw
             case rel => exact ⟨k + 1, HLT.out, by go_num, ⟨_, rfl⟩, HK0.out, HW3.out⟩
             case measure =>
               have h1 := HLT.out;simp [intOf];omega)
    · have HBW := hide hw
      have HK0 := hide hb0;clear hw hk hb0;go_wp2_with fail;clear s0 hlt;go_loopw [3, 5] (fun vn vi wr => ∃ k : Nat, k <= s.its.length /\ vi = .int .i64 k /\ (∃ n : Int, vn = .int .i64 n) /\ wr.heap[w.heap.size]? = some (.cells #[.int .i64 s.serial, .slice ah s.held.length ch, .slice ai s.its.length ci, .slice ao s.outs.length co] 26 (0, 0)) /\ Below w.heap.size w wr) (fun _ vi _ => s.its.length - (intOf vi).toNat)
      case atStart => exact ⟨0, Nat.zero_le _, rfl, ⟨_, rfl⟩, HK0.out, HBW.out⟩
      case round =>
        clear HBW HK0;obtain ⟨k, hk, rfl, ⟨n, rfl⟩, hb0, hw⟩ := hrel;have s0 := cell_of_block hb0 2 _ rfl;by_cases hlt : k < s.its.length
        · obtain ⟨p1, o1, cap1, x, d0, d1, d2, d3, d4, e1, hx, hm1, _, _, u500, u501, u502, u503, u504, u505, u506, u507, u508, u509⟩ := S.elemI (HRI.out.kept hw) k hlt
          obtain ⟨rfl, _, rfl⟩ := Value.slice.inj e1;obtain ⟨al5, cl5, af5, cf5, hcs⟩ := S.Mem.form2 hm1;obtain ⟨rfl, rfl, rfl, rfl, rfl⟩ := ij5 hcs;have hxb := (HF.out.its x (List.mem_of_getElem? hx)).1.2.2;have hI : ∀ w' : World, (w'.cell? ⟨w.heap.size, 2, none⟩ = some (.slice (some ⟨p1, o1, none⟩) s.its.length ci) /\ w'.cell? ⟨p1, o1 + k * 10, none⟩ = some (.int .i64 x.op) /\ w'.cell? ⟨p1, o1 + k * 10 + 1, none⟩ = some (.string x.h.name) /\ w'.cell? ⟨p1, o1 + k * 10 + 2, none⟩ = some (.string x.h.kind) /\ w'.cell? ⟨p1, o1 + k * 10 + 3, none⟩ = some (.int .i64 x.h.id) /\ w'.cell? ⟨p1, o1 + k * 10 + 4, none⟩ = some (.int .i64 x.h.v.kind) /\ w'.cell? ⟨p1, o1 + k * 10 + 5, none⟩ = some (.int .i64 x.h.v.n) /\ w'.cell? ⟨p1, o1 + k * 10 + 6, none⟩ = some (.string x.h.v.s) /\ w'.cell? ⟨p1, o1 + k * 10 + 7, none⟩ = some (.slice al5 x.h.v.l.length cl5) /\ w'.cell? ⟨p1, o1 + k * 10 + 8, none⟩ = some (.slice af5 x.h.v.f.length cf5) /\ w'.cell? ⟨p1, o1 + k * 10 + 9, none⟩ = some (.string x.token) /\ Below wr.heap.size wr w') -> Calls Tryz.prog 24 #[.agg #[.int .i64 x.h.v.kind, .int .i64 x.h.v.n, .string x.h.v.s, .slice al5 x.h.v.l.length cl5, .slice af5 x.h.v.f.length cf5], .int .i64 9000] w' fun e w'' => (∃ n : Int, e = .returned (.int .i64 n)) /\ w''.cell? ⟨w.heap.size, 2, none⟩ = some (.slice (some ⟨p1, o1, none⟩) s.its.length ci) /\ w''.cell? ⟨p1, o1 + k * 10, none⟩ = some (.int .i64 x.op) /\ w''.cell? ⟨p1, o1 + k * 10 + 1, none⟩ = some (.string x.h.name) /\ w''.cell? ⟨p1, o1 + k * 10 + 2, none⟩ = some (.string x.h.kind) /\ w''.cell? ⟨p1, o1 + k * 10 + 3, none⟩ = some (.int .i64 x.h.id) /\ w''.cell? ⟨p1, o1 + k * 10 + 4, none⟩ = some (.int .i64 x.h.v.kind) /\ w''.cell? ⟨p1, o1 + k * 10 + 5, none⟩ = some (.int .i64 x.h.v.n) /\ w''.cell? ⟨p1, o1 + k * 10 + 6, none⟩ = some (.string x.h.v.s) /\ w''.cell? ⟨p1, o1 + k * 10 + 7, none⟩ = some (.slice al5 x.h.v.l.length cl5) /\ w''.cell? ⟨p1, o1 + k * 10 + 8, none⟩ = some (.slice af5 x.h.v.f.length cf5) /\ w''.cell? ⟨p1, o1 + k * 10 + 9, none⟩ = some (.string x.token) /\ Below wr.heap.size wr w'' := by
            intro w' ⟨t0, t1, t2, t3, t4, t5, t6, t7, t8, t9, t10, t11⟩;refine (weight_any 9000 m w' x.h.v _ _ _ _ _ (V.Mem.kept _ hm1 t11) hxb).mono ?_;rintro r w'' ⟨hr, hb⟩;exact ⟨hr, kept_cell hb t0, kept_cell hb t1, kept_cell hb t2, kept_cell hb t3, kept_cell hb t4, kept_cell hb t5, kept_cell hb t6, kept_cell hb t7, kept_cell hb t8, kept_cell hb t9, kept_cell hb t10, t11.trans (hb.mono t11.size)⟩
          obtain ⟨HI, HW, HLT, HB0⟩ := hd4 hI hw hlt hb0;have HLB0 := hide (blt hb0);have hbd : Below wr.heap.size wr wr.drew := below_drewN (Below.refl _ _) 1;have hi1 : (k : Int) < s.its.length := by omega
          clear hI hm1 hx hw hxb hb0;go_wp2_with fail;go_region_held3 (fun w' => w'.cell? ⟨w.heap.size, 2, none⟩ = some (.slice (some ⟨p1, o1, none⟩) s.its.length ci) /\ w'.cell? ⟨p1, o1 + k * 10, none⟩ = some (.int .i64 x.op) /\ w'.cell? ⟨p1, o1 + k * 10 + 1, none⟩ = some (.string x.h.name) /\ w'.cell? ⟨p1, o1 + k * 10 + 2, none⟩ = some (.string x.h.kind) /\ w'.cell? ⟨p1, o1 + k * 10 + 3, none⟩ = some (.int .i64 x.h.id) /\ w'.cell? ⟨p1, o1 + k * 10 + 4, none⟩ = some (.int .i64 x.h.v.kind) /\ w'.cell? ⟨p1, o1 + k * 10 + 5, none⟩ = some (.int .i64 x.h.v.n) /\ w'.cell? ⟨p1, o1 + k * 10 + 6, none⟩ = some (.string x.h.v.s) /\ w'.cell? ⟨p1, o1 + k * 10 + 7, none⟩ = some (.slice al5 x.h.v.l.length cl5) /\ w'.cell? ⟨p1, o1 + k * 10 + 8, none⟩ = some (.slice af5 x.h.v.f.length cf5) /\ w'.cell? ⟨p1, o1 + k * 10 + 9, none⟩ = some (.string x.token) /\ Below wr.heap.size wr w') (go_keep)
            (first | (go_at_call 24; refine Calls.mono (HI.out _ ?_) ?_; exact ⟨‹_›, ‹_›, ‹_›, ‹_›, ‹_›, ‹_›, ‹_›, ‹_›, ‹_›, ‹_›, ‹_›, ‹_›⟩; rintro r w3 ⟨⟨q, rfl⟩, t0, t1, t2, t3, t4, t5, t6, t7, t8, t9, t10, t11⟩))
          all_goals
            have HW3 := bt HW t11;have HK0 := hide ((t11.block w.heap.size HLB0.out).trans HB0.out);clear t11 t0 t1 t2 t3 t4 t5 t6 t7 t8 t9 t10;go_wp2_with fail
            all_goals first
              | (go_ret; exact ⟨⟨_, rfl⟩, HW3.out⟩)
              | (go_roundw
                 case rel => exact ⟨k + 1, HLT.out, by go_num, ⟨_, rfl⟩, HK0.out, HW3.out⟩
                 case measure =>
                   have h1 := HLT.out;simp [intOf];omega)
        · have HBW := hide hw
          have HK0 := hide hb0;clear hw hk hb0;go_wp2_with fail;clear s0 hlt;go_loopw [3, 6] (fun vn vi wr => ∃ k : Nat, k <= s.outs.length /\ vi = .int .i64 k /\ (∃ n : Int, vn = .int .i64 n) /\ wr.heap[w.heap.size]? = some (.cells #[.int .i64 s.serial, .slice ah s.held.length ch, .slice ai s.its.length ci, .slice ao s.outs.length co] 26 (0, 0)) /\ Below w.heap.size w wr) (fun _ vi _ => s.outs.length - (intOf vi).toNat)
          case atStart => exact ⟨0, Nat.zero_le _, rfl, ⟨_, rfl⟩, HK0.out, HBW.out⟩
          case round =>
            clear HBW HK0;obtain ⟨k, hk, rfl, ⟨n, rfl⟩, hb0, hw⟩ := hrel;have s0 := cell_of_block hb0 3 _ rfl;by_cases hlt : k < s.outs.length
            · obtain ⟨p1, o1, cap1, x, d0, d1, d2, d3, d4, e1, hx, hm1, u500, u501, u502, u503, u504, u505⟩ := S.elemO (HRO.out.kept hw) k hlt
              obtain ⟨rfl, _, rfl⟩ := Value.slice.inj e1;obtain ⟨al5, cl5, af5, cf5, hcs⟩ := S.Mem.form2 hm1;obtain ⟨rfl, rfl, rfl, rfl, rfl⟩ := ij5 hcs;have hxb := (HF.out.outs x (List.mem_of_getElem? hx)).2;have hI : ∀ w' : World, (w'.cell? ⟨w.heap.size, 3, none⟩ = some (.slice (some ⟨p1, o1, none⟩) s.outs.length co) /\ w'.cell? ⟨p1, o1 + k * 6, none⟩ = some (.string x.1) /\ w'.cell? ⟨p1, o1 + k * 6 + 1, none⟩ = some (.int .i64 x.2.kind) /\ w'.cell? ⟨p1, o1 + k * 6 + 2, none⟩ = some (.int .i64 x.2.n) /\ w'.cell? ⟨p1, o1 + k * 6 + 3, none⟩ = some (.string x.2.s) /\ w'.cell? ⟨p1, o1 + k * 6 + 4, none⟩ = some (.slice al5 x.2.l.length cl5) /\ w'.cell? ⟨p1, o1 + k * 6 + 5, none⟩ = some (.slice af5 x.2.f.length cf5) /\ Below wr.heap.size wr w') -> Calls Tryz.prog 24 #[.agg #[.int .i64 x.2.kind, .int .i64 x.2.n, .string x.2.s, .slice al5 x.2.l.length cl5, .slice af5 x.2.f.length cf5], .int .i64 9000] w' fun e w'' => (∃ n : Int, e = .returned (.int .i64 n)) /\ w''.cell? ⟨w.heap.size, 3, none⟩ = some (.slice (some ⟨p1, o1, none⟩) s.outs.length co) /\ w''.cell? ⟨p1, o1 + k * 6, none⟩ = some (.string x.1) /\ w''.cell? ⟨p1, o1 + k * 6 + 1, none⟩ = some (.int .i64 x.2.kind) /\ w''.cell? ⟨p1, o1 + k * 6 + 2, none⟩ = some (.int .i64 x.2.n) /\ w''.cell? ⟨p1, o1 + k * 6 + 3, none⟩ = some (.string x.2.s) /\ w''.cell? ⟨p1, o1 + k * 6 + 4, none⟩ = some (.slice al5 x.2.l.length cl5) /\ w''.cell? ⟨p1, o1 + k * 6 + 5, none⟩ = some (.slice af5 x.2.f.length cf5) /\ Below wr.heap.size wr w'' := by
                intro w' ⟨t0, t1, t2, t3, t4, t5, t6, t7⟩;refine (weight_any 9000 m w' x.2 _ _ _ _ _ (V.Mem.kept _ hm1 t7) hxb).mono ?_;rintro r w'' ⟨hr, hb⟩;exact ⟨hr, kept_cell hb t0, kept_cell hb t1, kept_cell hb t2, kept_cell hb t3, kept_cell hb t4, kept_cell hb t5, kept_cell hb t6, t7.trans (hb.mono t7.size)⟩
              obtain ⟨HI, HW, HLT, HB0⟩ := hd4 hI hw hlt hb0;have HLB0 := hide (blt hb0);have hbd : Below wr.heap.size wr wr.drew := below_drewN (Below.refl _ _) 1;have hi1 : (k : Int) < s.outs.length := by omega
              clear hI hm1 hx hw hxb hb0;go_wp2_with fail;go_region_held3 (fun w' => w'.cell? ⟨w.heap.size, 3, none⟩ = some (.slice (some ⟨p1, o1, none⟩) s.outs.length co) /\ w'.cell? ⟨p1, o1 + k * 6, none⟩ = some (.string x.1) /\ w'.cell? ⟨p1, o1 + k * 6 + 1, none⟩ = some (.int .i64 x.2.kind) /\ w'.cell? ⟨p1, o1 + k * 6 + 2, none⟩ = some (.int .i64 x.2.n) /\ w'.cell? ⟨p1, o1 + k * 6 + 3, none⟩ = some (.string x.2.s) /\ w'.cell? ⟨p1, o1 + k * 6 + 4, none⟩ = some (.slice al5 x.2.l.length cl5) /\ w'.cell? ⟨p1, o1 + k * 6 + 5, none⟩ = some (.slice af5 x.2.f.length cf5) /\ Below wr.heap.size wr w') (go_keep)
                (first | (go_at_call 24; refine Calls.mono (HI.out _ ?_) ?_; exact ⟨‹_›, ‹_›, ‹_›, ‹_›, ‹_›, ‹_›, ‹_›, ‹_›⟩; rintro r w3 ⟨⟨q, rfl⟩, t0, t1, t2, t3, t4, t5, t6, t7⟩))
              all_goals
                have HW3 := bt HW t7;have HK0 := hide ((t7.block w.heap.size HLB0.out).trans HB0.out);clear t7 t0 t1 t2 t3 t4 t5 t6;go_wp2_with fail
                all_goals first
                  | (go_ret; exact ⟨⟨_, rfl⟩, HW3.out⟩)
                  | (go_roundw
                     case rel => exact ⟨k + 1, HLT.out, by go_num, ⟨_, rfl⟩, HK0.out, HW3.out⟩
                     case measure =>
                       have h1 := HLT.out;simp [intOf];omega)
            · have HBW := hide hw
              have HK0 := hide hb0;clear hw hk hb0;go_wp2_with fail;go_ret;exact ⟨⟨_, rfl⟩, HBW.out⟩
end Go.Proofs.YtcekcfjabhlheaaGreatDoor.Vx
namespace Go.Proofs.YtcekcfjabhlheaaGreatDoor.Dx
open Go.RowKit
structure Dk.Nice (D : Dk) : Prop where
 chg : D.chg = []
 down : D.down = false
 nodF : (D.files.map (·.1)).Nodup
 nodK : (D.kept.map (·.1)).Nodup
 szF : ∀ n, ((M.get D.files n).getD ⟨#[]⟩).size <= 4000
 szK : ∀ n, ((M.get D.kept n).getD ⟨#[]⟩).size <= 4000
 len : D.files.length <= 100
 steps : 0 <= D.steps /\ D.steps <= 1000
 left : -1 <= D.left /\ D.left <= 20
theorem Dk.Nice.easy {D : Dk} (h : D.Nice) : D.Easy :=
 ⟨⟨h.steps.1, by have := h.steps.2; omega⟩, by have := h.left; omega, by have := h.len; omega, h.chg, fun n => by have := h.szF n; omega, fun n => by have := h.szK n; omega⟩
theorem nice_new : Dk.new.Nice :=
 ⟨rfl, rfl, List.nodup_nil, List.nodup_nil, fun _ => Nat.zero_le _, fun _ => Nat.zero_le _, Nat.zero_le _, ⟨by decide, by decide⟩, ⟨by decide, by decide⟩⟩
def saveF (F : List (ByteArray × ByteArray)) (f d : ByteArray) : List (ByteArray × ByteArray) := M.del (M.put (M.put F draftN d) f d) draftN
theorem act_write (F : List (ByteArray × ByteArray)) (d : ByteArray) : Ch.act ⟨0, draftN, ⟨#[]⟩, d⟩ F = M.put F draftN d := by
 unfold Ch.act;rw [if_pos rfl]
theorem act_move (F : List (ByteArray × ByteArray)) (f d : ByteArray) : Ch.act ⟨2, draftN, f, ⟨#[]⟩⟩ (M.put F draftN d) = saveF F f d := by
 unfold Ch.act saveF;rw [if_neg (by show ¬ (2 : Int) = 0; decide), if_neg (by show ¬ (2 : Int) = 1; decide), if_pos rfl, M.get_put, if_pos (M.beq_self _)];rfl
theorem saveF_get {F : List (ByteArray × ByteArray)} (h : (F.map (·.1)).Nodup) (n d m : ByteArray) : M.get (saveF F (fileN n) d) m = if m == draftN then none else if m == fileN n then some d else M.get F m := by
 unfold saveF;rw [M.get_del _ _ (M.nodup_put (M.nodup_put h)), M.get_put, M.get_put];split
 ·rfl
 ·rfl
theorem saveF_nodup {F : List (ByteArray × ByteArray)} (h : (F.map (·.1)).Nodup) (f d : ByteArray) : ((saveF F f d).map (·.1)).Nodup := M.nodup_del (M.nodup_put (M.nodup_put h))
theorem saveF_len (F : List (ByteArray × ByteArray)) (f d : ByteArray) : (saveF F f d).length <= F.length + 2 := by
 have h1 := (M.del_sub draftN (M.put (M.put F draftN d) f d)).length_le;have h2 := M.len_put f d (M.put F draftN d);have h3 := M.len_put draftN d F;unfold saveF;omega
theorem saveF_file {F : List (ByteArray × ByteArray)} (h : (F.map (·.1)).Nodup) (n d : ByteArray) : M.get (saveF F (fileN n) d) (fileN n) = some d := by
 rw [saveF_get h, if_neg (fun e => draft_ne n ((M.beq_iff _ _).1 e).symm), if_pos (M.beq_self _)]
theorem sv3_eq (D : Dk) (f d : ByteArray) (hc : D.chg = []) : (D.sv f d 3).files = saveF D.files f d /\ (D.sv f d 3).kept = saveF D.kept f d /\ (D.sv f d 3).chg = [] /\ (D.sv f d 3).down = D.down /\ (D.sv f d 3).steps = D.steps + 1 + 1 + 1 := by
 refine ⟨?_, ?_, rfl, rfl, rfl⟩
 ·show Ch.act ⟨2, draftN, f, ⟨#[]⟩⟩ (Ch.act ⟨0, draftN, ⟨#[]⟩, d⟩ D.files) = _;rw [act_write, act_move]
 ·show (((D.chg ++ [_]) ++ [_]).take ((D.chg ++ [_]) ++ [_]).length).foldl (fun F (c : Ch) => c.act F) D.kept = _;rw [hc];show Ch.act ⟨2, draftN, f, ⟨#[]⟩⟩ (Ch.act ⟨0, draftN, ⟨#[]⟩, d⟩ D.kept) = _;rw [act_write, act_move]
theorem step_left {x : Int} (h : -1 <= x /\ x <= 20) : -1 <= (if 0 < x then x - 1 else x) /\ (if 0 < x then x - 1 else x) <= 20 := by split <;> omega
theorem nice_sv3 {D : Dk} (h : D.Nice) (n d : ByteArray) (hd : d.size <= 4000) (hs : D.steps <= 990) (hl : D.files.length <= 98) :
  (D.sv (fileN n) d 3).Nice /\ M.get (D.sv (fileN n) d 3).files (fileN n) = some d /\ M.get (D.sv (fileN n) d 3).kept (fileN n) = some d := by
 obtain ⟨e1, e2, e3, e4, e5⟩ := sv3_eq D (fileN n) d h.chg;refine ⟨⟨e3, by rw [e4]; exact h.down, by rw [e1]; exact saveF_nodup h.nodF _ _, by rw [e2]; exact saveF_nodup h.nodK _ _, fun m => ?_, fun m => ?_, ?_, ?_, ?_⟩, by rw [e1]; exact saveF_file h.nodF n d, by rw [e2]; exact saveF_file h.nodK n d⟩
 ·rw [e1, saveF_get h.nodF];split
  ·exact Nat.zero_le _
  ·split
   ·exact hd
   ·exact h.szF m
 ·rw [e2, saveF_get h.nodK];split
  ·exact Nat.zero_le _
  ·split
   ·exact hd
   ·exact h.szK m
 ·rw [e1];have := saveF_len D.files (fileN n) d;omega
 ·rw [e5];have := h.steps;omega
 ·exact step_left (step_left (step_left h.left))
theorem save_new {n d : ByteArray} (hd : d.size <= 4000) {D' : Dk} {k : Nat} (h : Dk.new.Saved (fileN n) d D' k) : k = 0 /\ D' = Dk.new.sv (fileN n) d 3 := by
 have hf : Dk.new.fit draftN d.size = 0 := by
  unfold Dk.fit;rw [if_neg (by rw [may_draft]; decide), if_neg];intro e;rcases e with e | ⟨_, e⟩
  ·omega
  ·exact absurd e (by decide)
 have hn : ∀ i, i < 3 -> ¬ (Dk.new.sv (fileN n) d i).fails := fun i hi e => by
  have hl : (Dk.new.sv (fileN n) d i).left = -1 /\ (Dk.new.sv (fileN n) d i).down = false := by
   match i, hi with
   | 0, _ => exact ⟨rfl, rfl⟩
   | 1, _ => exact ⟨rfl, rfl⟩
   | 2, _ => exact ⟨rfl, rfl⟩
  rcases e with e | e
  ·rw [hl.1] at e;cases e
  ·rw [hl.2] at e;cases e
 rcases h with ⟨h1, h2, _⟩ | ⟨_, _, j, hj, _, h3, _⟩ | ⟨_, h2, _, h4⟩
 ·exact absurd (h2.trans hf) h1
 ·exact absurd h3 (hn j hj)
 ·exact ⟨h2, h4⟩
end Go.Proofs.YtcekcfjabhlheaaGreatDoor.Dx
namespace Go.Proofs.YtcekcfjabhlheaaGreatDoor.Vx
open Go.RowKit
namespace S
theorem Mem.up {m : Nat} {w : World} {s : St} {cs : List Value} (h : Mem m w s cs) : Mem (m + 1) w s cs := by
 obtain ⟨hv, iv, ov, e, h1, h2, h3, h4⟩ := h;exact ⟨hv, iv, ov, e, V.Row.imp h1 (fun _ _ ⟨x, hx, a0, a1, a2, a3, a4, e1, hm, hr⟩ => ⟨x, hx, a0, a1, a2, a3, a4, e1, V.Mem.up m hm, hr⟩), V.Row.imp h2 (fun _ _ ⟨x, hx, a0, a1, a2, a3, a4, e1, hm, hr⟩ => ⟨x, hx, a0, a1, a2, a3, a4, e1, V.Mem.up m hm, hr⟩), V.Row.imp h3 (fun _ _ ⟨x, c', hx, e1, hm⟩ => ⟨x, c', hx, e1, V.Mem.up m hm⟩), h4⟩
theorem Mem.mono {m k : Nat} {w : World} {s : St} {cs : List Value} (h : Mem m w s cs) (hk : m <= k) : Mem k w s cs := by
 induction hk with
 | refl => exact h
 | step _ ih => exact ih.up
end S
def LawAt (wA : World) (g : Nat) (D : Dx.Dk) (W : World) : Prop := ∃ B, Dx.Disk W B g D /\ (∀ x, B x -> wA.heap.size <= x /\ x < W.heap.size) /\ Below wA.heap.size wA W
theorem LawAt.below {wA W : World} {g : Nat} {D : Dx.Dk} (h : LawAt wA g D W) : Below wA.heap.size wA W := by
 obtain ⟨_, _, _, h⟩ := h;exact h
theorem LawAt.kept {wA W W' : World} {g : Nat} {D : Dx.Dk} (h : LawAt wA g D W) (hb : Below W.heap.size W W') : LawAt wA g D W' := by
 obtain ⟨B, h1, h2, h3⟩ := h;have hF : Dx.Fr W W' (fun _ => False) := ⟨hb.os, hb.tape, hb.output, hb.size, fun c hc _ => hb.block c hc⟩
 exact ⟨B, h1.fr hF (fun _ _ e => e), fun x hx => ⟨(h2 x hx).1, Nat.lt_of_lt_of_le (h2 x hx).2 hb.size⟩, h3.trans (hb.mono h3.size)⟩
theorem law_new (wA : World) : Calls Tryz.prog 5 #[] wA fun o W => ∃ g, o = .returned (.pointer (some ⟨g, 0, none⟩)) /\ LawAt wA g Dx.Dk.new W := by
 refine (Dx.new_any wA).mono ?_;rintro o W ⟨g, ho, hD, hF⟩;obtain ⟨B, hD2, h1, h2⟩ := hD.shrink2;exact ⟨g, ho, B, hD2, fun x hx => ⟨h1 x hx, h2 x hx⟩, below_dx hF⟩
theorem fr_law {wA W W' : World} {B : Nat -> Prop} (h3 : Below wA.heap.size wA W) (hB : ∀ x, B x -> wA.heap.size <= x) (hF : Dx.Fr W W' B) : Below wA.heap.size wA W' := h3.trans (hF.below h3.size hB)
theorem ta_errno (n : Int) (w : World) : (Instr.typeAssert (.iface 54 (.int .i64 n)) 30 54 true).run Tryz.prog w = .ok (.tuple #[.int .i64 n, .bool true]) w := by kernel_rfl
end Go.Proofs.YtcekcfjabhlheaaGreatDoor.Vx
