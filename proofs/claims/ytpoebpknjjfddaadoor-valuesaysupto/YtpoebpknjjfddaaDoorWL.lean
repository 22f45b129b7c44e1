/- ValueSays, lifted: the row and the card, from the law's own walk (a hypothesis here). -/
import Derived.Test.YtpoebpknjjfddaaDoorWK
namespace Go.Proofs.YtpoebpknjjfddaaDoor
open Go.ChangeShapes Go.WideShapes Go.ChangeAt Go.WideMaps Go.WideElems Go.RowKit
open _root_.Go.Proofs.YtpoebpknjjfddaaDoor.Rows (uptoBulk uptoBulkAll)
namespace V
set_option maxRecDepth 100000 in
theorem lifted (law : V.Law) (os : Os) (started : os.Started) (H : Type) (enc : TypeId × Value → H) (F0 : Stop.Interp) :
    ReturnsInHanded {} Tryd.checked os 4 .any (Rows.valueSaysUptoRow.pre enc Tryd.prog Tryd.f4 (Rows.OpenSpec.upto Rows.valueSaysSpec)) (((Rows.OpenSpec.upto Rows.valueSaysSpec).at F0).post enc Tryd.prog Tryd.f4 false true false false) := by
  refine returnsInHanded_of_calls ownK started (by kernel_rfl) (lifted_wit os H enc) ?_
  intro w tape i _ _ _ hok hpre hholds
  obtain ⟨_, _, _, fn', hfn', _, _, _, _, hval0⟩ := hok
  have e : fn' = Tryd.f4 := Option.some.inj (hfn'.symm.trans Tryd.func4)
  subst e
  obtain ⟨⟨hpr, hlaid⟩, _⟩ := hpre
  obtain ⟨ds, gs, before, hw, _, hkk⟩ := (OpenSpec.pre_some (s := Rows.OpenSpec.upto Rows.valueSaysSpec) (k := Rows.uptoSmall) rfl _ _ _ _).1 hpr
  have hW := DataW.Whole.of_heap (w' := w.forCall tape i) (by rfl) hw
  have hlaid' : laidMetH Tryd.prog Rows.valueSaysUptoRow.laid (w.forCall tape i).memory := hlaid
  have hL : laidMetH Tryd.prog Rows.valueSaysUptoRow.laid (w.forCall tape i) := laidMetH.of_heap (w := (w.forCall tape i).memory) (w' := w.forCall tape i) rfl hlaid'
  clear hlaid hlaid' hpr hw hholds
  have htab := tab_of_laid hL
  generalize w.forCall tape i = W at *
  obtain ⟨_, args, _⟩ := i
  have hW' := hW
  obtain ⟨p, q, hA0, hV, rfl, _, _⟩ := hW
  have hA : DataW.TrodAll enc Tryd.prog W 0 (fun _ => true) true Tryd.f4.params.toList args.toList ds p := hA0
  have hAk := hA
  have hval : ∀ (j : Nat) t v, Tryd.f4.params[j]? = some t → args[j]? = some v → Value.okWide Tryd.prog W .any _ t v := hval0
  rw [Tryd.params4] at hA hval
  obtain ⟨v0, v1, v2, v3, d0, d1, d2, d3, p0, p1, p2, p3, rfl, rfl, rfl, ⟨f0, h0⟩, ⟨f1, h1⟩, ⟨f2, h2⟩, ⟨f3, h3⟩⟩ := trodAll_four hA
  obtain ⟨rfl, rfl⟩ := trodVars_none hV
  obtain ⟨cs0, rfl, _⟩ := okWide_struct u34 (hval 0 34 v0 rfl rfl)
  obtain ⟨cs1, rfl, _⟩ := okWide_struct u34 (hval 1 34 v1 rfl rfl)
  obtain ⟨s, rfl⟩ := okWide_string u9 (hval 2 9 v2 rfl rfl)
  obtain ⟨a3, n3, k3, rfl⟩ := okWide_slice u32 (hval 3 32 v3 rfl rfl)
  obtain ⟨v, hv, bv⟩ := mem_of_trod (f0 + f1 + f3 + 1) f0 _ _ (by omega) h0
  obtain ⟨o, ho, bo⟩ := mem_of_trod (f0 + f1 + f3 + 1) f1 _ _ (by omega) h1
  obtain ⟨fv, efv, l, hR, bl⟩ := fields_of_trod (f0 + f1 + f3) f3 _ _ (by omega) h3
  obtain ⟨s', es, ed, _⟩ := DataW.trod_string u9 h2
  have es' : s = s' := by simpa [Value.cells] using es
  subst es'
  have ed2 : d2 = .lit (.string s.data.toList) := congrArg Prod.fst ed
  have efv' : (Value.slice a3 n3 k3) = fv := by simpa [Value.cells] using efv
  subst efv'
  have hk2 : uptoBulkAll ([d0, d1, d2, d3] ++ []) ≤ 1048576 := of_decide_eq_true hkk
  rw [ed2] at hk2
  have hsz : s.data.toList.length = s.size := rfl
  simp only [List.append_nil, uptoBulkAll, uptoBulk, hsz] at hk2
  have hv2 : V.Mem (f0 + f1 + f3 + 1) W v cs0.toList := hv
  have ho2 : V.Mem (f0 + f1 + f3 + 1) W o cs1.toList := ho
  obtain ⟨l0, g0, ecs0, _, _⟩ := id hv2
  obtain ⟨l1, g1, ecs1, _, _⟩ := id ho2
  rw [ecs0] at hv2
  rw [ecs1] at ho2
  have ecs0' : cs0 = #[.int .i64 v.kind, .int .i64 v.n, .string v.s, l0, g0] := Array.toList_inj.1 ecs0
  have ecs1' : cs1 = #[.int .i64 o.kind, .int .i64 o.n, .string o.s, l1, g1] := Array.toList_inj.1 ecs1
  have hlt := hAk.lt
  have bv' : V.bulk (f0 + f1 + f3 + 1) v + 1 ≤ uptoBulk d0 := bv
  have bo' : V.bulk (f0 + f1 + f3 + 1) o + 1 ≤ uptoBulk d1 := bo
  have bl' : V.sumF (fun x => x.1.size + V.bulk (f0 + f1 + f3) x.2) l + l.length + 1 ≤ uptoBulk d3 := bl
  have hcall := law (f0 + f1 + f3) W v o _ _ _ _ _ _ _ _ _ _ (.slice a3 n3 k3) s l hv2 ho2 hR (by omega) (by omega) (by omega) (by omega) htab
  rw [← ecs0', ← ecs1'] at hcall
  refine hcall.mono fun e W' ⟨he, hb⟩ => ?_
  subst he
  refine ChangeSpec.post_blind ⟨_, _, _, [], _, [], hW', trodAll_mk1 (shut_bool Tryd.underlying4 _), trodAll_kept hb (DataW.TrodAll.respare kids full (by rw [Tryd.params4]; decide +kernel) hAk (fun x hx => decide_eq_true (hlt x hx))), rfl, hb.frame _, fun h => by cases h⟩
theorem said_of (law : V.Law) : Rows.ValueSaysUptoSaid :=
  OpenClaim.holds_of_cond 4 Tryd.f4 rfl rfl rfl rfl rfl rfl rfl ⟨rfl, rfl, rfl, rfl, rfl⟩ rfl rfl rfl rfl rfl (by kernel_rfl) Tryd.func4 (by kernel_rfl)
    (of_decide_eq_true (by kernel_rfl)) (by unfold Func.isWrapper; first | (rw [if_pos (by decide +kernel)]; kernel_rfl) | (rw [if_neg (by decide +kernel)]; exact ⟨rfl, rfl⟩))
    (fun os started H enc _ F0 => lifted law os started H enc F0)
theorem st34 : Tryd.pinned.checked.prog.wantsStandIn 34 = false := by kernel_rfl
theorem st9 : Tryd.pinned.checked.prog.wantsStandIn 9 = false := by kernel_rfl
theorem st32 : Tryd.pinned.checked.prog.wantsStandIn 32 = false := by kernel_rfl
theorem plain4 (f : FuncId) (fn : Func) (hf : Tryd.pinned.checked.prog.funcNamed "wavewright/wavewrightlaw.ValueSays" = some f) (hfn : Tryd.pinned.checked.prog.funcs[f]? = some fn) :
    true = Tryd.pinned.checked.prog.looks [] ∧ ∀ (j : Nat) t, fn.params[j]? = some t → Tryd.pinned.checked.prog.wantsStandIn t = false := by
  obtain rfl : f = 4 := Option.some.inj ((show Tryd.prog.funcNamed "wavewright/wavewrightlaw.ValueSays" = some 4 by kernel_rfl).symm.trans hf) |>.symm
  obtain rfl : fn = Tryd.f4 := (Option.some.inj (Tryd.func4.symm.trans hfn)).symm
  refine ⟨by kernel_rfl, fun j t ht => ?_⟩
  rw [Tryd.params4] at ht
  match j, ht with
  | 0, ht => rw [← show 34 = t from Option.some.inj ht]; exact st34
  | 1, ht => rw [← show 34 = t from Option.some.inj ht]; exact st34
  | 2, ht => rw [← show 9 = t from Option.some.inj ht]; exact st9
  | 3, ht => rw [← show 32 = t from Option.some.inj ht]; exact st32
  | n + 4, ht => simp at ht
theorem card_of (law : V.Law) : Rows.ValueSaysUptoCardSaid :=
  Claim7.holds_tied_plain_at .later [] _ _ _ _ (said_of law) (fun _ h => by cases h) (by kernel_rfl) (fun _ h => by cases h) valueSaysUpto_row_tie rfl ⟨rfl, rfl⟩ (by kernel_rfl) rfl plain4 (by kernel_rfl)
end V
end Go.Proofs.YtpoebpknjjfddaaDoor
