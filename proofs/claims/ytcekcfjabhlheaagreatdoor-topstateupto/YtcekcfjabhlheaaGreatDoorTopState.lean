/- Proved: TopState answers true for all states s and t and all numbers fuse, keep and torn, and its arguments read behind the call as they did ahead of it. Conditions: what the arguments hold is of bulk at most 1048576 (the second form), and the listed package variables hold what the program's own text lays into them (the card ties that). -/
import Derived.Test.YtcekcfjabhlheaaGreatDoorSN
namespace Go.Proofs.YtcekcfjabhlheaaGreatDoor
open Go.ChangeShapes Go.WideShapes Go.ChangeAt Go.WideMaps Go.WideElems Go.RowKit
open _root_.Go.Proofs.YtcekcfjabhlheaaGreatDoor.Rows (uptoBulk uptoBulkAll)
set_option maxRecDepth 100000 in
theorem topState_wit (os : Os) (H : Type) (enc : TypeId × Value -> H) :
  ∃ (w : World) (tape : Tape) (i : Input), w.os = os /\ (w.forCall tape i).Shaped Tryz.checked.prog /\ i.vars = [] /\ Input.okWide Tryz.checked.prog (w.forCall tape i) .any w.heap.size 3 i /\
   Rows.topStateUptoRow.pre enc Tryz.checked.prog Tryz.f3 (Rows.OpenSpec.upto Rows.topStateSpec) (w.forCall tape i).memory i.args /\ ({} : Assume).holds Tryz.checked.prog (lone (Frame.enter Tryz.checked.prog 3 i.args .normal) [] (w.forCall tape i)) := by
 have hok : Input.okWideB Tryz.checked.prog ((World.laidAll Tryz.prog os Rows.topStateUptoRow.laid).forCall (fun _ _ => 0) ⟨#[], #[.agg #[.int .i64 0, .slice none 0 0, .slice none 0 0, .slice none 0 0], .agg #[.int .i64 0, .slice none 0 0, .slice none 0 0, .slice none 0 0], .int .i64 0, .int .i64 0, .int .i64 0], []⟩) 3 ⟨#[], #[.agg #[.int .i64 0, .slice none 0 0, .slice none 0 0, .slice none 0 0], .agg #[.int .i64 0, .slice none 0 0, .slice none 0 0, .slice none 0 0], .int .i64 0, .int .i64 0, .int .i64 0], []⟩ = true := by kernel_rfl
 refine ⟨World.laidAll Tryz.prog os Rows.topStateUptoRow.laid, fun _ _ => 0, ⟨#[], #[.agg #[.int .i64 0, .slice none 0 0, .slice none 0 0, .slice none 0 0], .agg #[.int .i64 0, .slice none 0 0, .slice none 0 0, .slice none 0 0], .int .i64 0, .int .i64 0, .int .i64 0], []⟩, World.laidAll_os _ _ _, World.shaped_of_ZipB (by kernel_rfl) (by kernel_rfl), (Input.okWide_of_okWideB (base := 0) hok).1, (Input.okWide_of_okWideB hok).2, ⟨⟨(OpenSpec.pre_some rfl _ _ _ _).2 ⟨_, _, _, DataW.Whole_of_whole (fuel := 8) (x := ([.agg [.lit (.int .i64 0), .nil, .nil, .nil], .agg [.lit (.int .i64 0), .nil, .nil, .nil], .lit (.int .i64 0), .lit (.int .i64 0), .lit (.int .i64 0)], [], [])) (by kernel_rfl), by kernel_rfl, by kernel_rfl⟩, Vx.laid_met os _⟩, sizedMet_of_sizedB (fuel := 8) (by kernel_rfl)⟩, ?_⟩
 simp only [Assume.holds]
 exact ⟨by simp, by simp, fun _ => Modest.zero, by simp, by simp⟩
set_option maxRecDepth 100000 in
theorem topState_lifted (os : Os) (started : os.Started) (H : Type) (enc : TypeId × Value -> H) (F0 : Stop.Interp) :
  ReturnsInHanded {} Tryz.checked os 3 .any (Rows.topStateUptoRow.pre enc Tryz.prog Tryz.f3 (Rows.OpenSpec.upto Rows.topStateSpec)) (((Rows.OpenSpec.upto Rows.topStateSpec).at F0).post enc Tryz.prog Tryz.f3 false true false false) := by
 refine returnsInHanded_of_calls Vx.ownK started (by kernel_rfl) (topState_wit os H enc) ?_
 intro w tape i _ _ _ hok hpre hholds
 obtain ⟨_, _, _, fn', hfn', _, _, _, _, hval0⟩ := hok
 have e : fn' = Tryz.f3 := Option.some.inj (hfn'.symm.trans Tryz.func3)
 subst e
 obtain ⟨⟨hpr, hlaid⟩, _⟩ := hpre
 obtain ⟨ds, gs, before, hw, _, hkk⟩ := (OpenSpec.pre_some (s := Rows.OpenSpec.upto Rows.topStateSpec) (k := Rows.uptoSmall) rfl _ _ _ _).1 hpr
 have hW := DataW.Whole.of_heap (w' := w.forCall tape i) (by rfl) hw
 have hlaid' : laidMetH Tryz.prog Rows.topStateUptoRow.laid (w.forCall tape i).memory := hlaid
 have hL : laidMetH Tryz.prog Rows.topStateUptoRow.laid (w.forCall tape i) := laidMetH.of_heap (w := (w.forCall tape i).memory) (w' := w.forCall tape i) rfl hlaid'
 clear hlaid hlaid' hpr hw hholds
 have htab := Vx.tab_of_laid hL
 generalize w.forCall tape i = W at *
 obtain ⟨_, args, _⟩ := i
 have hW' := hW
 obtain ⟨p, q, hA0, hV, rfl, _, _⟩ := hW
 have hA : DataW.TrodAll enc Tryz.prog W 0 (fun _ => true) true Tryz.f3.params.toList args.toList ds p := hA0
 have hAk := hA
 have hval : ∀ (j : Nat) t v, Tryz.f3.params[j]? = some t -> args[j]? = some v -> Value.okWide Tryz.prog W .any _ t v := hval0
 rw [Tryz.params3] at hA hval
 obtain ⟨v0, vs0, d0, ds0, p0, q0, hargs, rfl, rfl, h0, r0⟩ := trodAll_cons hA
 obtain ⟨v1, vs1, d1, ds1, p1, q1, hargs1, rfl, rfl, h1, r1⟩ := trodAll_cons r0
 obtain ⟨v2, vs2, d2, ds2, p2, q2, hargs2, rfl, rfl, h2, r2⟩ := trodAll_cons r1
 obtain ⟨v3, vs3, d3, ds3, p3, q3, hargs3, rfl, rfl, h3, r3⟩ := trodAll_cons r2
 obtain ⟨v4, vs4, d4, ds4, p4, q4, hargs4, rfl, rfl, h4, r4⟩ := trodAll_cons r3
 obtain ⟨rfl, rfl, rfl⟩ := trodAll_nil r4
 subst hargs4 hargs3 hargs2 hargs1
 obtain rfl : args = #[v0, v1, v2, v3, v4] := by cases args; simp_all
 obtain ⟨rfl, rfl⟩ := trodVars_none hV
 obtain ⟨f0, h0⟩ := h0
 obtain ⟨f1, h1⟩ := h1
 obtain ⟨f2, h2⟩ := h2
 obtain ⟨f3, h3⟩ := h3
 obtain ⟨f4, h4⟩ := h4
 obtain ⟨cs0, rfl, hl0⟩ := okWide_struct Tryz.underlying26 (hval 0 26 v0 rfl rfl)
 obtain ⟨cs1, rfl, hl1⟩ := okWide_struct Tryz.underlying26 (hval 1 26 v1 rfl rfl)
 rw [Vx.Rd.c26] at hl0 hl1
 obtain ⟨n2, rfl⟩ := okWide_int Tryz.underlying3 (hval 2 3 v2 rfl rfl)
 obtain ⟨n3, rfl⟩ := okWide_int Tryz.underlying3 (hval 3 3 v3 rfl rfl)
 obtain ⟨n4, rfl⟩ := okWide_int Tryz.underlying3 (hval 4 3 v4 rfl rfl)
 obtain ⟨s, hs, bs⟩ := Vx.Rd.state_of (m := f0 + f1 + 6) (by omega) (by simpa [Value.cells] using hl0) h0
 obtain ⟨t, ht, bt⟩ := Vx.Rd.state_of (m := f0 + f1 + 6) (by omega) (by simpa [Value.cells] using hl1) h1
 obtain ⟨k3, e3, ed3, w3⟩ := DataW.trod_int Tryz.underlying3 h3
 obtain ⟨k4, e4, ed4, w4⟩ := DataW.trod_int Tryz.underlying3 h4
 have e3' : n3 = k3 := by simpa [Value.cells] using e3
 have e4' : n4 = k4 := by simpa [Value.cells] using e4
 subst e3' e4'
 have hk2 : uptoBulkAll ([d0, d1, d2, d3, d4] ++ []) <= 1048576 := of_decide_eq_true hkk
 simp only [List.append_nil, uptoBulkAll] at hk2
 have bs' : Vx.S.bulk (f0 + f1 + 6) s + 1 <= uptoBulk d0 := bs
 have bt' : Vx.S.bulk (f0 + f1 + 6) t + 1 <= uptoBulk d1 := bt
 have hs2 : Vx.S.Mem (f0 + f1 + 6) W s cs0.toList := hs
 have ht2 : Vx.S.Mem (f0 + f1 + 6) W t cs1.toList := ht
 obtain ⟨a1, a2, a3, ecs0, _⟩ := id hs2
 obtain ⟨b1, b2, b3, ecs1, _⟩ := id ht2
 rw [ecs0] at hs2
 rw [ecs1] at ht2
 have ecs0' : cs0 = #[.int .i64 s.serial, a1, a2, a3] := Array.toList_inj.1 ecs0
 have ecs1' : cs1 = #[.int .i64 t.serial, b1, b2, b3] := Array.toList_inj.1 ecs1
 have hlt := hAk.lt
 obtain ⟨sm, hsm⟩ := Vx.V.says_some
 have hcall := Vx.topState_any sm hsm (f0 + f1 + 6) (by omega) W s t _ _ _ _ _ _ _ _ hs2 ht2 (by omega) (by omega) htab n2 n3 n4 (Vx.Rd.in64_of w3) (Vx.Rd.in64_of w4)
 rw [<- ecs0', <- ecs1'] at hcall
 refine hcall.mono fun e W' ⟨he, hb⟩ => ?_
 subst he
 refine ChangeSpec.post_blind ⟨_, _, _, [], _, [], hW', trodAll_mk1 (shut_bool Tryz.underlying4 _), Vx.trodAll_kept hb (DataW.TrodAll.respare Vx.kids Vx.full (by rw [Tryz.params3]; decide +kernel) hAk (fun x hx => decide_eq_true (hlt x hx))), rfl, hb.frame _, fun h => by cases h⟩
theorem topState_said : Rows.TopStateUptoSaid :=
 OpenClaim.holds_of_cond 3 Tryz.f3 rfl rfl rfl rfl rfl rfl rfl ⟨rfl, rfl, rfl, rfl, rfl⟩ rfl rfl rfl rfl rfl (by kernel_rfl) Tryz.func3 (by kernel_rfl)
  (of_decide_eq_true (by kernel_rfl)) (by unfold Func.isWrapper; first | (rw [if_pos (by decide +kernel)]; kernel_rfl) | (rw [if_neg (by decide +kernel)]; exact ⟨rfl, rfl⟩))
  (fun os started H enc _ F0 => topState_lifted os started H enc F0)
theorem st26 : Tryz.pinned.checked.prog.wantsStandIn 26 = false := by kernel_rfl
theorem st3 : Tryz.pinned.checked.prog.wantsStandIn 3 = false := by kernel_rfl
theorem plain3 (f : FuncId) (fn : Func) (hf : Tryz.pinned.checked.prog.funcNamed "wavewright/wavewrighttop.TopState" = some f) (hfn : Tryz.pinned.checked.prog.funcs[f]? = some fn) :
  true = Tryz.pinned.checked.prog.looks [] /\ ∀ (j : Nat) t, fn.params[j]? = some t -> Tryz.pinned.checked.prog.wantsStandIn t = false := by
 obtain rfl : f = 3 := Option.some.inj ((show Tryz.prog.funcNamed "wavewright/wavewrighttop.TopState" = some 3 by kernel_rfl).symm.trans hf) |>.symm
 obtain rfl : fn = Tryz.f3 := (Option.some.inj (Tryz.func3.symm.trans hfn)).symm
 refine ⟨by kernel_rfl, fun j t ht => ?_⟩
 rw [Tryz.params3] at ht
 match j, ht with
 | 0, ht => rw [<- show 26 = t from Option.some.inj ht]; exact st26
 | 1, ht => rw [<- show 26 = t from Option.some.inj ht]; exact st26
 | 2, ht => rw [<- show 3 = t from Option.some.inj ht]; exact st3
 | 3, ht => rw [<- show 3 = t from Option.some.inj ht]; exact st3
 | 4, ht => rw [<- show 3 = t from Option.some.inj ht]; exact st3
 | n + 5, ht => simp at ht
theorem topStateUptoCard_holds : Rows.TopStateUptoCardSaid :=
 Claim7.holds_tied_plain_at .later [] _ _ _ _ topState_said (fun _ h => by cases h) (by kernel_rfl) (fun _ h => by cases h) topStateUpto_row_tie rfl ⟨rfl, rfl⟩ (by kernel_rfl) rfl plain3 (by kernel_rfl)
end Go.Proofs.YtcekcfjabhlheaaGreatDoor
