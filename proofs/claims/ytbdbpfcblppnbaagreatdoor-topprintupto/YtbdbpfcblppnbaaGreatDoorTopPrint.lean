/- Proved: TopPrint answers true for every list of stacks and every text, and its arguments read behind the call as they did ahead of it. Conditions: what the arguments hold is of bulk at most 1048576 (the second form), and the listed package variables hold what the program's own text lays into them (the card ties that). -/
import Derived.Test.YtbdbpfcblppnbaaGreatDoorTI
namespace Go.Proofs.YtbdbpfcblppnbaaGreatDoor
open Go.ChangeShapes Go.WideShapes Go.ChangeAt Go.WideMaps Go.WideElems Go.RowKit
open _root_.Go.Proofs.YtbdbpfcblppnbaaGreatDoor.Rows (uptoBulk uptoBulkAll)
set_option maxRecDepth 100000 in
theorem topPrint_wit (os : Os) (H : Type) (enc : TypeId × Value → H) :
  ∃ (w : World) (tape : Tape) (i : Input), w.os = os ∧ (w.forCall tape i).Shaped Tryz.checked.prog ∧ i.vars = [] ∧ Input.okWide Tryz.checked.prog (w.forCall tape i) .any w.heap.size 3 i ∧
   Rows.topPrintUptoRow.pre enc Tryz.checked.prog Tryz.f3 (Rows.OpenSpec.upto Rows.topPrintSpec) (w.forCall tape i).memory i.args ∧ ({} : Assume).holds Tryz.checked.prog (lone (Frame.enter Tryz.checked.prog 3 i.args .normal) [] (w.forCall tape i)) := by
 have hok : Input.okWideB Tryz.checked.prog ((World.doorLaid Tryz.prog 400 os).forCall (fun _ _ => 0) ⟨#[], #[.slice none 0 0, .string ⟨#[]⟩], []⟩) 3 ⟨#[], #[.slice none 0 0, .string ⟨#[]⟩], []⟩ = true := by kernel_rfl
 refine ⟨World.doorLaid Tryz.prog 400 os, fun _ _ => 0, ⟨#[], #[.slice none 0 0, .string ⟨#[]⟩], []⟩, rfl, World.shaped_of_RefB (by kernel_rfl) (by kernel_rfl), (Input.okWide_of_okWideB (base := 0) hok).1, (Input.okWide_of_okWideB hok).2, ⟨⟨(OpenSpec.pre_some rfl _ _ _ _).2 ⟨_, _, _, DataW.Whole_of_whole (fuel := 8) (x := ([.nil, .lit (.string [])], [], [])) (by kernel_rfl), by kernel_rfl, by kernel_rfl⟩, Vx.laid_met os _⟩, sizedMet_of_sizedB (fuel := 8) (by kernel_rfl)⟩, ?_⟩
 simp only [Assume.holds]
 exact ⟨by simp, by simp, fun _ => Modest.zero, by simp, by simp⟩
set_option maxRecDepth 100000 in
theorem topPrint_lifted (os : Os) (started : os.Started) (H : Type) (enc : TypeId × Value → H) (F0 : Stop.Interp) :
  ReturnsInHanded {} Tryz.checked os 3 .any (Rows.topPrintUptoRow.pre enc Tryz.prog Tryz.f3 (Rows.OpenSpec.upto Rows.topPrintSpec)) (((Rows.OpenSpec.upto Rows.topPrintSpec).at F0).post enc Tryz.prog Tryz.f3 false true false false) := by
 refine returnsInHanded_of_calls Vx.ownK started (by kernel_rfl) (topPrint_wit os H enc) ?_
 intro w tape i _ _ _ hok hpre hholds
 obtain ⟨_, _, _, fn', hfn', _, _, _, _, hval0⟩ := hok
 have e : fn' = Tryz.f3 := Option.some.inj (hfn'.symm.trans Tryz.func3)
 subst e
 obtain ⟨⟨hpr, hlaid⟩, _⟩ := hpre
 obtain ⟨ds, gs, before, hw, _, hkk⟩ := (OpenSpec.pre_some (s := Rows.OpenSpec.upto Rows.topPrintSpec) (k := Rows.uptoSmall) rfl _ _ _ _).1 hpr
 have hW := DataW.Whole.of_heap (w' := w.forCall tape i) (by rfl) hw
 have hlaid' : laidMetH Tryz.prog Rows.topPrintUptoRow.laid (w.forCall tape i).memory := hlaid
 have hL : laidMetH Tryz.prog Rows.topPrintUptoRow.laid (w.forCall tape i) := laidMetH.of_heap (w := (w.forCall tape i).memory) (w' := w.forCall tape i) rfl hlaid'
 clear hlaid hlaid' hpr hw hholds
 have htab := Vx.tab_of_laid hL
 generalize w.forCall tape i = W at *
 obtain ⟨_, args, _⟩ := i
 have hW' := hW
 obtain ⟨p, q, hA0, hV, rfl, _, _⟩ := hW
 have hA : DataW.TrodAll enc Tryz.prog W 0 (fun _ => true) true Tryz.f3.params.toList args.toList ds p := hA0
 have hAk := hA
 have hval : ∀ (j : Nat) t v, Tryz.f3.params[j]? = some t → args[j]? = some v → Value.okWide Tryz.prog W .any _ t v := hval0
 rw [Tryz.params3] at hA hval
 obtain ⟨v0, vs0, d0, ds0, p0, q0, hargs, rfl, rfl, h0, r0⟩ := trodAll_cons hA
 obtain ⟨v1, vs1, d1, ds1, p1, q1, hargs1, rfl, rfl, h1, r1⟩ := trodAll_cons r0
 obtain ⟨rfl, rfl, rfl⟩ := trodAll_nil r1
 subst hargs1
 obtain rfl : args = #[v0, v1] := by cases args; simp_all
 obtain ⟨rfl, rfl⟩ := trodVars_none hV
 obtain ⟨f0, h0⟩ := h0
 obtain ⟨f1, h1⟩ := h1
 obtain ⟨v, e0, l, hS, hbl⟩ := Vx.Rd.stacks_of (m := f0 + 6 + 1) (by omega) h0
 obtain ⟨a3, n3, k3, rfl⟩ := okWide_slice (show Tryz.prog.underlying 22 = some (.slice 41) from Tryz.underlying22) (hval 0 22 v0 rfl rfl)
 have hv : Value.slice a3 n3 k3 = v := by simpa [Value.cells] using e0
 subst hv
 obtain ⟨s, rfl⟩ := okWide_string Tryz.underlying9 (hval 1 9 v1 rfl rfl)
 obtain ⟨s', es, ed, _⟩ := DataW.trod_string Tryz.underlying9 h1
 have es' : s = s' := by simpa [Value.cells] using es
 subst es'
 have ed2 : d1 = .lit (.string s.data.toList) := congrArg Prod.fst ed
 have hk2 : uptoBulkAll ([d0, d1] ++ []) ≤ 1048576 := of_decide_eq_true hkk
 rw [ed2] at hk2
 have hsz : s.data.toList.length = s.size := rfl
 simp only [List.append_nil, uptoBulkAll, uptoBulk, hsz] at hk2
 have hbl' : Vx.X.sumS (f0 + 6 + 1) l + l.length + 1 ≤ uptoBulk d0 := hbl
 have hlt := hAk.lt
 obtain ⟨sm, hsm⟩ := Vx.V.says_some
 refine (Vx.topPrint_any sm hsm (f0 + 6) (by omega) W _ l s hS (by omega) htab (by omega)).mono fun e W' ⟨he, hb⟩ => ?_
 subst he
 refine ChangeSpec.post_blind ⟨_, _, _, [], _, [], hW', trodAll_mk1 (shut_bool Tryz.underlying4 _), Vx.trodAll_kept hb (DataW.TrodAll.respare Vx.kids Vx.full (by rw [Tryz.params3]; decide +kernel) hAk (fun x hx => decide_eq_true (hlt x hx))), rfl, hb.frame _, fun h => by cases h⟩
theorem topPrint_said : Rows.TopPrintUptoSaid :=
 OpenClaim.holds_of_cond 3 Tryz.f3 rfl rfl rfl rfl rfl rfl rfl ⟨rfl, rfl, rfl, rfl, rfl⟩ rfl rfl rfl rfl rfl (by kernel_rfl) Tryz.func3 (by kernel_rfl)
  (of_decide_eq_true (by kernel_rfl)) (by unfold Func.isWrapper; first | (rw [if_pos (by decide +kernel)]; kernel_rfl) | (rw [if_neg (by decide +kernel)]; exact ⟨rfl, rfl⟩))
  (fun os started H enc _ F0 => topPrint_lifted os started H enc F0)
theorem st22 : Tryz.pinned.checked.prog.wantsStandIn 22 = false := by kernel_rfl
theorem st9 : Tryz.pinned.checked.prog.wantsStandIn 9 = false := by kernel_rfl
theorem plain3 (f : FuncId) (fn : Func) (hf : Tryz.pinned.checked.prog.funcNamed "wavewright/wavewrighttop.TopPrint" = some f) (hfn : Tryz.pinned.checked.prog.funcs[f]? = some fn) :
  true = Tryz.pinned.checked.prog.looks [] ∧ ∀ (j : Nat) t, fn.params[j]? = some t → Tryz.pinned.checked.prog.wantsStandIn t = false := by
 obtain rfl : f = 3 := Option.some.inj ((show Tryz.prog.funcNamed "wavewright/wavewrighttop.TopPrint" = some 3 by kernel_rfl).symm.trans hf) |>.symm
 obtain rfl : fn = Tryz.f3 := (Option.some.inj (Tryz.func3.symm.trans hfn)).symm
 refine ⟨by kernel_rfl, fun j t ht => ?_⟩
 rw [Tryz.params3] at ht
 match j, ht with
 | 0, ht => rw [← show 22 = t from Option.some.inj ht]; exact st22
 | 1, ht => rw [← show 9 = t from Option.some.inj ht]; exact st9
 | n + 2, ht => simp at ht
theorem topPrintUptoCard_holds : Rows.TopPrintUptoCardSaid :=
 Claim7.holds_tied_plain_at .later [] _ _ _ _ topPrint_said (fun _ h => by cases h) (by kernel_rfl) (fun _ h => by cases h) topPrintUpto_row_tie rfl ⟨rfl, rfl⟩ (by kernel_rfl) rfl plain3 (by kernel_rfl)
end Go.Proofs.YtbdbpfcblppnbaaGreatDoor
