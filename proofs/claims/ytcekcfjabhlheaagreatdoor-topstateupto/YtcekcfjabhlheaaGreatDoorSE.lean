/- TopState: SD SE. -/
import Derived.Test.YtcekcfjabhlheaaGreatDoorSC
set_option maxRecDepth 100000
set_option maxHeartbeats 8000000
namespace Go.Proofs.YtcekcfjabhlheaaGreatDoor.Dx
open Go.RowKit
attribute [local go_sem ↓] Go.wp_at_zero Go.wp_at_succ
structure SvAt (w3 : World) (B : Nat -> Prop) (g : Nat) (D : Dk) (f d : ByteArray) (k : Nat) (wr : World) : Prop where
 le : k <= 3
 disk : ∃ B', Disk wr B' g (D.sv f d k) /\ ∀ x, B' x -> B x \/ w3.heap.size <= x
 oks : ∀ i, i < k -> ¬ (D.sv f d i).fails
 fit : 0 < k -> D.fit draftN d.size = 0
 fr : Fr w3 wr B
def StepSays (wr wn : World) (B : Nat -> Prop) (g : Nat) (D : Dk) (f d : ByteArray) (k : Nat) (o : Ending) : Prop :=
 (k = 0 /\ D.fit draftN d.size ≠ 0 /\ o = .returned (.iface 54 (.int .i64 (D.fit draftN d.size))) /\ Fr wr wn (fun _ => False)) \/
 (D.fit draftN d.size = 0 /\ (D.sv f d k).fails /\ o = .returned (.iface 54 (.int .i64 10)) /\ Disk wn B g (D.sv f d k).fell /\ Fr wr wn B) \/
 (D.fit draftN d.size = 0 /\ ¬ (D.sv f d k).fails /\ o = .returned .nilIface /\ (∃ B', Disk wn B' g (D.sv f d (k + 1)) /\ ∀ x, B' x -> B x \/ wr.heap.size <= x) /\ Fr wr wn B)
theorem StepSays.of_doing {wr wn : World} {B : Nat -> Prop} {g : Nat} {D : Dk} {f d : ByteArray} {k : Nat} {o : Ending} (h0 : D.fit draftN d.size = 0) (h : Doing wr wn B g (D.sv f d k) (D.sv f d (k + 1)) o) : StepSays wr wn B g D f d k o := by
 rcases h with ⟨⟨h1, h2, h3⟩ | ⟨h1, h2, h3⟩, h4⟩
 ·exact .inr (.inl ⟨h0, h1, h2, h3, h4⟩)
 ·exact .inr (.inr ⟨h0, h1, h2, h3, h4⟩)
theorem StepSays.of_changed {wr wn : World} {B : Nat -> Prop} {g : Nat} {D : Dk} {f d : ByteArray} {o : Ending} (h : Changed wr wn B g (D.sv f d 0) (D.sv f d 1) (D.fit draftN d.size) o) : StepSays wr wn B g D f d 0 o := by
 rcases h with ⟨h1, h2, h3⟩ | ⟨h1, h2⟩
 ·exact .inl ⟨rfl, h1, by rw [errV_ne h1] at h2; exact h2, h3⟩
 ·exact .of_doing h1 h2
theorem SvAt.next {w3 wr wn : World} {B Bk : Nat -> Prop} {g : Nat} {D : Dk} {f d : ByteArray} {k : Nat} (h : SvAt w3 B g D f d k wr) (hk : k < 3) (hBk : ∀ x, Bk x -> B x \/ w3.heap.size <= x) (h0 : D.fit draftN d.size = 0) (hf : ¬ (D.sv f d k).fails) (hD : ∃ B', Disk wn B' g (D.sv f d (k + 1)) /\ ∀ x, B' x -> Bk x \/ wr.heap.size <= x) (hF : Fr wr wn Bk) : SvAt w3 B g D f d (k + 1) wn := by
 obtain ⟨B', hD, hB'⟩ := hD
 refine ⟨by omega, ⟨B', hD, fun x hx => ?_⟩, fun i hi => ?_, fun _ => h0, h.fr.trans hF (fun c hc e => (hBk c e).resolve_right (by omega))⟩
 ·rcases hB' x hx with h1 | h1
  ·exact hBk x h1
  ·exact .inr (Nat.le_trans h.fr.size h1)
 ·by_cases e : i = k
  ·rw [e]
   exact hf
  ·exact h.oks i (by omega)
theorem SvAt.say {w w3 wr wn : World} {B Bk : Nat -> Prop} {g : Nat} {D : Dk} {f d : ByteArray} {k : Nat} {o : Ending} (h : SvAt w3 B g D f d k wr) (hk : k < 3) (hw3 : Fr w w3 (fun _ => False)) (hBk : ∀ x, Bk x -> B x \/ w3.heap.size <= x) (hBl : ∀ x, Bk x -> x < wr.heap.size) (hDk : Disk wr Bk g (D.sv f d k)) (hs : StepSays wr wn Bk g D f d k o) (ho : o ≠ .returned .nilIface) : SaveSays w wn B g D 0 f d o := by
 have hsz := hw3.size
 have hin : ∀ x, Bk x -> B x \/ w.heap.size <= x := fun x hx => (hBk x hx).imp id (fun h => Nat.le_trans hsz h)
 rcases hs with ⟨rfl, h1, rfl, hF⟩ | ⟨h0, h1, rfl, hD, hF⟩ | ⟨_, _, h2, _⟩
 ·refine ⟨D.fit draftN d.size, D, Bk, by rw [errV_ne h1], hDk.fr hF (fun _ _ e => e), hin, fun x hx => Nat.lt_of_lt_of_le (hBl x hx) hF.size, ?_, .inr ⟨rfl, .inl ⟨h1, rfl, rfl⟩⟩⟩
  exact ((hw3.weak (fun c _ e => e.elim)).trans h.fr (fun c _ e => e)).trans hF (fun c _ e => e.elim)
 ·refine ⟨10, _, Bk, rfl, hD, hin, fun x hx => Nat.lt_of_lt_of_le (hBl x hx) hF.size, ?_, .inr ⟨rfl, .inr (.inl ⟨h0, rfl, k, hk, h.oks, h1, rfl⟩)⟩⟩
  exact ((hw3.weak (fun c _ e => e.elim)).trans h.fr (fun c _ e => e)).trans hF (fun c hc e => (hin c e).resolve_right (by omega))
 ·exact absurd h2 ho
theorem SvAt.done {w w3 wr : World} {B : Nat -> Prop} {g : Nat} {D : Dk} {f d : ByteArray} (h : SvAt w3 B g D f d 3 wr) (hw3 : Fr w w3 (fun _ => False)) : SaveSays w wr B g D 0 f d (.returned .nilIface) := by
 have hsz := hw3.size
 obtain ⟨B', hD, hB'⟩ := h.disk
 obtain ⟨B2, hD2, h21, h22⟩ := hD.shrink2
 exact ⟨0, _, B2, rfl, hD2, fun x hx => (hB' x (h21 x hx)).imp id (fun h => Nat.le_trans hsz h), h22, (hw3.weak (fun c _ e => e.elim)).trans h.fr (fun c _ e => e), .inr ⟨rfl, .inr (.inr ⟨h.fit (by decide), rfl, fun i hi => h.oks i hi, rfl⟩)⟩⟩
theorem fit_size {D : Dk} {n d : ByteArray} (hz : D.fit n d.size = 0) : d.size <= 1000000 := by
 unfold Dk.fit at hz
 split at hz
 ·cases hz
 ·split at hz
  ·cases hz
  ·rename_i h2
   omega
theorem save_good (n : ByteArray) (m : Nat) (s : Vx.St) (c0 c1 c2 c3 : Value) (w : World) (B : Nat -> Prop) (g : Nat) (D : Dk) (hn : Vx.V.name (Vx.V.bl n) = true) (hM : Vx.S.Mem m w s [c0, c1, c2, c3]) (hbk : Vx.S.bulk m s <= 2000000) (htab : Lib.TabIs Tryz.prog w "internal/strconv.uint64pow10" .u64 Lib.pow10Tab) (h : Disk w B g D) (hB : ∀ x, B x -> x < w.heap.size) (hE : D.Easy) (hgood : Vx.S.fault m s = 0) :
  Calls Tryz.prog 6 #[.pointer (some ⟨g, 0, none⟩), .string n, .agg #[c0, c1, c2, c3]] w fun o w' => SaveSays w w' B g D 0 (fileN n) (Vx.V.str (Vx.S.text m s)) o := by
 have hbx : Below w.heap.size w (w.alloc (.cells #[c0, c1, c2, c3] 26)) := (Below.refl _ _).alloc (Nat.le_refl _) _
 have hX := heap_alloc_new w (.cells #[c0, c1, c2, c3] 26)
 have hsn : n.size <= 12 := by
  unfold Vx.V.name at hn
  simp only [Bool.and_eq_true, decide_eq_true_eq] at hn
  have := Vx.V.length_bl n
  omega
 have HN := hide (fun w => Vx.name_any n w (by unfold maxLen; omega))
 have HFO := hide (fun w => fileOf_any n w (by omega))
 have HNM := hide hn
 rw [hn] at HN
 have HT := hide (Vx.stateText_any m (w.alloc (.cells #[c0, c1, c2, c3] 26)) s c0 c1 c2 c3 (hM.kept hbx) hbk (Vx.tab_below htab hbx))
 rw [hgood, show Vx.S.textOr m s = Vx.V.str (Vx.S.text m s) by unfold Vx.S.textOr; rw [if_pos hgood], show Vx.V.errOf 0 = .nilIface from rfl] at HT
 obtain ⟨hv, iv, ov, hcs, hh, hi, ho, h64⟩ := hM
 simp only [List.cons.injEq, and_true] at hcs
 obtain ⟨rfl, rfl, rfl, rfl⟩ := hcs
 obtain ⟨ah, ch, rfl⟩ := Vx.V.Row.shape hh
 obtain ⟨ai, ci, rfl⟩ := Vx.V.Row.shape hi
 obtain ⟨ao, co, rfl⟩ := Vx.V.Row.shape ho
 have HB0 : Hid (Below w.heap.size w (w.alloc (.cells #[.int .i64 s.serial, .slice ah s.held.length ch, .slice ai s.its.length ci, .slice ao s.outs.length co] 26))) := hbx
 obtain ⟨x0, x1, x2, x3⟩ := cl4 hX
 generalize Vx.V.str (Vx.S.text m s) = d at *
 obtain ⟨HD, HBL, HE⟩ := hd3 h hB hE
 clear hbx hX hgood hbk htab h hB hh hi ho h64 hn hsn hE
 go_enter Tryz.func6, Tryz.ntmps6
 go_wp2_with fail
 generalize (w.alloc _) = w0 at *
 refine (HN.out w0).mono ?_
 rintro o w1 ⟨rfl, hw1⟩
 rw [hw1]
 clear hw1 HN
 go_wp2_with fail
 refine HT.out.mono ?_
 rintro o w2 ⟨rfl, hb2⟩
 have HB2 := hide (HB0.out.trans (hb2.mono HB0.out.size))
 clear hb2 HT x0 x1 x2 x3 HB0
 go_wp2_with fail
 refine (HFO.out w2).mono ?_
 rintro o w1' ⟨rfl, hw1⟩
 rw [hw1]
 clear hw1 HFO
 go_wp2_with fail
 refine (steps_any g (fileN n) d w2).mono ?_
 rintro o w3 ⟨rfl, k3, k4, k5, k6, hF3, hs3⟩
 have hF03 : Fr w w3 (fun _ => False) := (show Fr w w2 (fun _ => False) from ⟨HB2.out.os, HB2.out.tape, HB2.out.output, HB2.out.size, fun c hc _ => HB2.out.block c hc⟩).trans hF3 (fun _ _ e => e)
 have hsw := HB2.out.size
 have hSV0 : SvAt w3 B g D (fileN n) d 0 w3 := ⟨by decide, ⟨B, HD.out.fr hF03 (fun _ _ e => e), fun x hx => .inl hx⟩, fun i hi => absurd hi (by omega), fun hk => absurd hk (by omega), Fr.refl _ _⟩
 obtain ⟨HSV0, HF03⟩ := hd2 hSV0 hF03
 have HK : Hid (∀ wr, Fr w3 wr B -> wr.cell? ⟨w2.heap.size, 0, none⟩ = some (.pointer (some ⟨g, 0, none⟩)) /\ wr.cell? ⟨w2.heap.size + 1, 0, none⟩ = some (.string (fileN n)) /\ wr.cell? ⟨w2.heap.size + 2, 0, none⟩ = some (.string d) /\ wr.cell? ⟨w2.heap.size + 3, 0, none⟩ = some (.func (.func 47) #[] #[.pointer (some ⟨w2.heap.size, 0, none⟩), .pointer (some ⟨w2.heap.size + 2, 0, none⟩)]) /\ wr.cell? ⟨w2.heap.size + 3, 1, none⟩ = some (.func (.func 49) #[] #[.pointer (some ⟨w2.heap.size, 0, none⟩), .pointer (some ⟨w2.heap.size + 1, 0, none⟩)]) /\ wr.cell? ⟨w2.heap.size + 3, 2, none⟩ = some (.func (.func 51) #[] #[.pointer (some ⟨w2.heap.size, 0, none⟩)])) := fun wr hf => by
  have no : ∀ j, w2.heap.size <= j -> ¬ B j := fun j hj e => by have := HBL.out j e; omega
  have b3 := (hf.block w2.heap.size (by omega) (no _ (by omega))).trans k3
  have b4 := (hf.block (w2.heap.size + 1) (by omega) (no _ (by omega))).trans k4
  have b5 := (hf.block (w2.heap.size + 2) (by omega) (no _ (by omega))).trans k5
  have b6 := (hf.block (w2.heap.size + 3) (by omega) (no _ (by omega))).trans k6
  exact ⟨cell_of_block b3 0 _ rfl, cell_of_block b4 0 _ rfl, cell_of_block b5 0 _ rfl, cell_of_block b6 0 _ rfl, cell_of_block b6 1 _ rfl, cell_of_block b6 2 _ rfl⟩
 clear k3 k4 k5 k6 hF3 hs3 hF03 hsw hSV0 HD HB2
 go_wp2_with fail
 go_loopw [30, 10, 11] (fun vi _ _ wr => ∃ k : Nat, vi = .int .i64 k /\ SvAt w3 B g D (fileN n) d k wr) (fun vi _ _ _ => 3 - (intOf vi).toNat)
 case atStart => exact ⟨0, rfl, HSV0.out⟩
 case round =>
  clear HSV0
  obtain ⟨k, rfl, hS⟩ := hrel
  have HS := hide hS
  have hle := hS.le
  obtain ⟨y3, y4, y5, y60, y61, y62⟩ := HK.out wr hS.fr
  obtain ⟨B1, hD1, hB1⟩ := hS.disk
  obtain ⟨Bk, hDk, hBk, hBkl⟩ := hD1.shrink2
  have HBK : Hid (∀ x, Bk x -> B x \/ w3.heap.size <= x) := fun x hx => hB1 x (hBk x hx)
  obtain ⟨HBKL, HDK⟩ := hd2 hBkl hDk
  clear hS hD1 hB1 hBk
  rcases (show k = 0 \/ k = 1 \/ k = 2 \/ k = 3 by omega) with rfl | rfl | rfl | rfl
  ·have HST : Hid (Calls Tryz.prog 47 #[.pointer (some ⟨w2.heap.size, 0, none⟩), .pointer (some ⟨w2.heap.size + 2, 0, none⟩)] wr fun o wn => StepSays wr wn Bk g D (fileN n) d 0 o) := (step1_any wr Bk g _ _ D d hDk hBkl HE.out y3 y5).mono (fun o wn hc => .of_changed hc)
   have hgo : ¬ ((0 : Int) = 3) := by decide
   clear hDk hBkl y3 y4 y5 y61 y62
   go_wp2_with fail
   refine HST.out.mono ?_
   rintro o wn hs
   rcases id hs with ⟨_, h1, rfl, _⟩ | ⟨_, h1, rfl, _⟩ | ⟨h0, h1, rfl, hD, hF⟩
   ·have HR := hide (HS.out.say (by decide) HF03.out HBK.out HBKL.out HDK.out hs (by intro e; cases e))
    clear hs h1 hgo HST
    generalize D.fit draftN d.size = qq at *
    go_wp2_with fail
    go_ret
    exact HR.out
   ·have HR := hide (HS.out.say (by decide) HF03.out HBK.out HBKL.out HDK.out hs (by intro e; cases e))
    clear hs h1 hgo HST
    go_wp2_with fail
    go_ret
    exact HR.out
   ·have HNX := hide (HS.out.next (by decide) HBK.out h0 h1 hD hF)
    clear hs h0 h1 hD hF hgo HST
    go_wp2_with fail
    go_roundw
    case rel => exact ⟨1, by go_num, HNX.out⟩
    case measure => simp [intOf]
  ·have HST : Hid (Calls Tryz.prog 49 #[.pointer (some ⟨w2.heap.size, 0, none⟩), .pointer (some ⟨w2.heap.size + 1, 0, none⟩)] wr fun o wn => StepSays wr wn Bk g D (fileN n) d 1 o) := (step2_any wr Bk g _ _ D d n hDk hBkl HE.out HNM.out (fit_size (HS.out.fit (by decide))) y3 y4).mono (fun o wn hc => .of_doing (HS.out.fit (by decide)) hc)
   have hgo : ¬ ((1 : Int) = 3) := by decide
   clear hDk hBkl y3 y4 y5 y60 y62
   go_wp2_with fail
   refine HST.out.mono ?_
   rintro o wn hs
   rcases id hs with ⟨_, h1, rfl, _⟩ | ⟨_, h1, rfl, _⟩ | ⟨h0, h1, rfl, hD, hF⟩
   ·have HR := hide (HS.out.say (by decide) HF03.out HBK.out HBKL.out HDK.out hs (by intro e; cases e))
    clear hs h1 hgo HST
    generalize D.fit draftN d.size = qq at *
    go_wp2_with fail
    go_ret
    exact HR.out
   ·have HR := hide (HS.out.say (by decide) HF03.out HBK.out HBKL.out HDK.out hs (by intro e; cases e))
    clear hs h1 hgo HST
    go_wp2_with fail
    go_ret
    exact HR.out
   ·have HNX := hide (HS.out.next (by decide) HBK.out h0 h1 hD hF)
    clear hs h0 h1 hD hF hgo HST
    go_wp2_with fail
    go_roundw
    case rel => exact ⟨2, by go_num, HNX.out⟩
    case measure => simp [intOf]
  ·have HST : Hid (Calls Tryz.prog 51 #[.pointer (some ⟨w2.heap.size, 0, none⟩)] wr fun o wn => StepSays wr wn Bk g D (fileN n) d 2 o) := (step3_any wr Bk g _ D d n hDk HE.out (fit_size (HS.out.fit (by decide))) y3).mono (fun o wn hc => .of_doing (HS.out.fit (by decide)) hc)
   have hgo : ¬ ((2 : Int) = 3) := by decide
   clear hDk hBkl y3 y4 y5 y60 y61
   go_wp2_with fail
   refine HST.out.mono ?_
   rintro o wn hs
   rcases id hs with ⟨_, h1, rfl, _⟩ | ⟨_, h1, rfl, _⟩ | ⟨h0, h1, rfl, hD, hF⟩
   ·have HR := hide (HS.out.say (by decide) HF03.out HBK.out HBKL.out HDK.out hs (by intro e; cases e))
    clear hs h1 hgo HST
    generalize D.fit draftN d.size = qq at *
    go_wp2_with fail
    go_ret
    exact HR.out
   ·have HR := hide (HS.out.say (by decide) HF03.out HBK.out HBKL.out HDK.out hs (by intro e; cases e))
    clear hs h1 hgo HST
    go_wp2_with fail
    go_ret
    exact HR.out
   ·have HNX := hide (HS.out.next (by decide) HBK.out h0 h1 hD hF)
    clear hs h0 h1 hD hF hgo HST
    go_wp2_with fail
    go_roundw
    case rel => exact ⟨3, by go_num, HNX.out⟩
    case measure => simp [intOf]
  ·clear hDk hBkl y3 y4 y5 y60 y61 y62
   have HR := hide (HS.out.done HF03.out)
   go_wp2_with fail
   go_ret
   exact HR.out
theorem save_any (n : ByteArray) (m : Nat) (s : Vx.St) (c0 c1 c2 c3 : Value) (w : World) (B : Nat -> Prop) (g : Nat) (D : Dk) (hn : Vx.V.name (Vx.V.bl n) = true) (hM : Vx.S.Mem m w s [c0, c1, c2, c3]) (hbk : Vx.S.bulk m s <= 2000000) (htab : Lib.TabIs Tryz.prog w "internal/strconv.uint64pow10" .u64 Lib.pow10Tab) (h : Disk w B g D) (hB : ∀ x, B x -> x < w.heap.size) (hE : D.Easy) :
  Calls Tryz.prog 6 #[.pointer (some ⟨g, 0, none⟩), .string n, .agg #[c0, c1, c2, c3]] w fun o w' => SaveSays w w' B g D (Vx.S.fault m s) (fileN n) (Vx.V.str (Vx.S.text m s)) o := by
 by_cases hf : Vx.S.fault m s = 0
 ·rw [hf]
  exact save_good n m s c0 c1 c2 c3 w B g D hn hM hbk htab h hB hE hf
 ·exact save_bad n m s c0 c1 c2 c3 w B g D hn hM hbk htab h hB hf
end Go.Proofs.YtcekcfjabhlheaaGreatDoor.Dx
namespace Go.Proofs.YtcekcfjabhlheaaGreatDoor.Vx
open Go.RowKit
theorem below_dx {w w' : World} (h : Dx.Fr w w' (fun _ => False)) : Below w.heap.size w w' := ⟨h.os, h.tape, h.output, h.size, fun c hc => h.block c hc (fun e => e)⟩
theorem eq_nil7 (w : World) : (binOp BinOp.eql 30 .nilIface (.iface 54 (.int .i64 7))).run Tryz.prog w = .ok (.bool false) w := by kernel_rfl
theorem load_there (n : ByteArray) (s : St) (w : World) (B : Nat -> Prop) (g : Nat) (D : Dx.Dk) (hn : V.name (V.bl n) = true) (h : Dx.Disk w B g D) (hdn : D.down = false) (hget : Dx.M.get D.files (Dx.fileN n) = some (V.str (S.text 6 s))) (h6 : S.Six s) (hlen : (S.text 6 s).length <= 4000) (htab : Lib.TabIs Tryz.prog w "internal/strconv.uint64pow10" .u64 Lib.pow10Tab) :
  Calls Tryz.prog 10 #[.pointer (some ⟨g, 0, none⟩), .string n] w fun o w' => (∃ cs, o = .returned (.tuple #[.agg cs.toArray, .nilIface]) /\ P.StR w w' s cs) /\ Below w.heap.size w w' := by
 have hb0 : Below w.heap.size w (w.alloc (.cells #[.int .i64 0, .slice none 0 0, .slice none 0 0, .slice none 0 0] 26)) := (Below.refl _ _).alloc (Nat.le_refl _) _
 have hA0 := heap_alloc_new w (.cells #[.int .i64 0, .slice none 0 0, .slice none 0 0, .slice none 0 0] 26)
 have HS0 : Hid ((w.alloc (.cells #[.int .i64 0, .slice none 0 0, .slice none 0 0, .slice none 0 0] 26)).heap.size = w.heap.size + 1) := by
  show _ = _
  simp
 have hsn : n.size <= 12 := by
  unfold V.name at hn
  simp only [Bool.and_eq_true, decide_eq_true_eq] at hn
  have := V.length_bl n
  omega
 have HN := hide (fun w => name_any n w (by unfold maxLen; omega))
 rw [hn] at HN
 have HFO := hide (fun w => Dx.fileOf_any n w (by omega))
 have HRD : Hid (Calls Tryz.prog 25 #[.pointer (some ⟨g, 0, none⟩), .string (Dx.fileN n)] (w.alloc (.cells #[.int .i64 0, .slice none 0 0, .slice none 0 0, .slice none 0 0] 26)) fun o w' => o = .returned (.tuple #[.string (V.str (S.text 6 s)), .nilIface]) /\ Below (w.alloc (.cells #[.int .i64 0, .slice none 0 0, .slice none 0 0, .slice none 0 0] 26)).heap.size (w.alloc (.cells #[.int .i64 0, .slice none 0 0, .slice none 0 0, .slice none 0 0] 26)) w') := by
  refine (Dx.read_any (w.alloc (.cells #[.int .i64 0, .slice none 0 0, .slice none 0 0, .slice none 0 0] 26)) B g D (Dx.fileN n) (h.fr ((Dx.Fr.refl w (fun _ => False)).alloc _) (fun _ _ e => e))).mono ?_
  rintro o w' ⟨rfl, hf⟩
  refine ⟨?_, below_dx hf⟩
  unfold Dx.Dk.read
  rw [hdn, hget]
  rfl
 have HP : Hid (∀ W, Below w.heap.size w W -> Calls Tryz.prog 20 #[.string (V.str (S.text 6 s))] W fun e w' => (∃ cs, e = .returned (.tuple #[.agg cs.toArray, .nilIface]) /\ P.StR W w' s cs) /\ Below W.heap.size W w') := fun W hW => stateParse_one s W h6 hlen (tab_below htab hW)
 generalize V.str (S.text 6 s) = tt at *
 obtain ⟨HB0, HA0⟩ := hd2 hb0 hA0
 clear hb0 hA0 hsn hn h hdn hget h6 hlen htab
 go_enter Tryz.func10, Tryz.ntmps10
 go_wp2_with fail
 generalize (w.alloc _) = w0 at *
 refine (HN.out w0).mono ?_
 rintro o w1 ⟨rfl, hw1⟩
 rw [hw1]
 clear hw1 HN
 go_wp2_with fail
 refine (HFO.out w0).mono ?_
 rintro o w1' ⟨rfl, hw1⟩
 rw [hw1]
 clear hw1 HFO
 go_wp2_with fail
 refine HRD.out.mono ?_
 rintro o w3 ⟨rfl, hb3⟩
 have hB3 := HB0.out.trans (hb3.mono HB0.out.size)
 have HPP := hide (HP.out w3 hB3)
 have HB3 := hide hB3
 have hA3 := (hb3.block w.heap.size (by have := HS0.out; omega)).trans HA0.out
 have HA3 := hide hA3
 have HS3 : Hid (w.heap.size + 1 <= w3.heap.size) := by
  have := hb3.size
  have := HS0.out
  show _ <= _
  omega
 clear hb3 hB3 hA3 HRD HP HA0 HB0
 have hq7 := eq_nil7
 go_wp2_with fail
 refine HPP.out.mono ?_
 rintro e w4 ⟨⟨cs, rfl, ⟨a1, n1, q1, a2, n2, q2, a3, n3, q3, rfl⟩, hK⟩, hb4⟩
 have hA4 := (hb4.block w.heap.size (by have := HS3.out; omega)).trans HA3.out
 obtain ⟨HA4, HK4⟩ := hd2 hA4 hK
 have HB4 := hide (HB3.out.trans (hb4.mono HB3.out.size))
 obtain ⟨m0, m1, m2, m3⟩ := cl4 hA4
 obtain ⟨f0, f1, f2, f3⟩ := fl4 hA4
 clear hA4 hK hb4 HPP
 go_wp2_with fail
 have hF : Fr w4 ((((w4.setCell ⟨w.heap.size, 0, none⟩ (.int .i64 s.serial)).setCell ⟨w.heap.size, 1, none⟩ (.slice a1 n1 q1)).setCell ⟨w.heap.size, 2, none⟩ (.slice a2 n2 q2)).setCell ⟨w.heap.size, 3, none⟩ (.slice a3 n3 q3)) (fun c => c = w.heap.size) := ((((Fr.refl w4 (fun c => c = w.heap.size)).set ⟨w.heap.size, 0, none⟩ _ (fun _ => rfl)).set ⟨w.heap.size, 1, none⟩ _ (fun _ => rfl)).set ⟨w.heap.size, 2, none⟩ _ (fun _ => rfl)).set ⟨w.heap.size, 3, none⟩ _ (fun _ => rfl)
 have hB : ((((w4.setCell ⟨w.heap.size, 0, none⟩ (.int .i64 s.serial)).setCell ⟨w.heap.size, 1, none⟩ (.slice a1 n1 q1)).setCell ⟨w.heap.size, 2, none⟩ (.slice a2 n2 q2)).setCell ⟨w.heap.size, 3, none⟩ (.slice a3 n3 q3)).heap[w.heap.size]? = some (.cells #[.int .i64 s.serial, .slice a1 n1 q1, .slice a2 n2 q2, .slice a3 n3 q3] 26 (0, 0)) := by
  have bq0 : (w4.setCell ⟨w.heap.size, 0, none⟩ (.int .i64 s.serial)).heap[w.heap.size]? = _ := block_set (i := 0) HA4.out (.int .i64 s.serial)
  have bq1 := block_set (i := 1) bq0 (.slice a1 n1 q1)
  have bq2 := block_set (i := 2) bq1 (.slice a2 n2 q2)
  exact block_set (i := 3) bq2 (.slice a3 n3 q3)
 generalize ((((w4.setCell _ _).setCell _ _).setCell _ _).setCell _ _) = wz at *
 obtain ⟨r0, r1, r2, r3⟩ := cl4 hB
 have hs3 := HS3.out
 refine bodyPost_ret (v := .tuple #[.agg #[.int .i64 s.serial, .slice a1 n1 q1, .slice a2 n2 q2, .slice a3 n3 q3], .nilIface]) (by simp [results, Tryz.results10, go_sem, r0, r1, r2, r3]) rfl ⟨⟨[.int .i64 s.serial, .slice a1 n1 q1, .slice a2 n2 q2, .slice a3 n3 q3], rfl, ⟨_, _, _, _, _, _, _, _, _, rfl⟩, ?_⟩, HB4.out.trans (hF.below HB4.out.size (fun c e => by omega))⟩
 refine HK4.out.to (fun c hc => ?_) (fun c hc => ?_)
 ·have h1 := hc.1
  have h2 := hc.2
  exact hF.block c (by omega) (by omega)
 ·have h1 := hc.1
  have h2 := hc.2
  have h3 := hF.size
  exact ⟨by omega, by omega⟩
end Go.Proofs.YtcekcfjabhlheaaGreatDoor.Vx
