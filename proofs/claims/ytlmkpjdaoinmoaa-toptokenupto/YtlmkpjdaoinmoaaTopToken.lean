/- TopToken holds where what is read is of the bulk that the second form names: for all acts on a cloud, a call that is made again by the same token does nothing more and answers the same, and no number is given again. No condition of our own. -/
import Derived.Test.YtlmkpjdaoinmoaaCU
import Derived.Test.YtlmkpjdaoinmoaaCS
import Derived.Test.YtlmkpjdaoinmoaaCQ
import Derived.ProofKit
import Derived.OpenShut
import Derived.ShutString
import Derived.ReadAgain
import Derived.Carry
import Derived.ChangeReads
import Derived.ChangeOld
import Derived.RowKit3
import Derived.LaidMore
import Derived.JoinedCond
namespace Go.Proofs.Ytlmkpjdaoinmoaa
open Go.ChangeShapes Go.WideShapes Go.ChangeAt Go.WideMaps Go.WideElems Go.RowKit
open _root_.Go.Proofs.Ytlmkpjdaoinmoaa.Rows (uptoBulk uptoBulkAll)
theorem trodAll_kept {H : Type} {enc : TypeId × Value → H} {w w' : World} {base : Nat} {sp : Nat → Bool} {held : Bool} (hb : Below w.heap.size w w') : ∀ {ts : List TypeId} {vs : List Value} {ds : List (DataW H)} {ps : List MemPlace},
    DataW.TrodAll enc Try.prog w base sp held ts vs ds ps → DataW.TrodAll enc Try.prog w' base sp held ts vs ds ps
  | [], [], [], _, h => h
  | _ :: _, _ :: _, _ :: _, _, ⟨p, q, ⟨n, hn⟩, h2, h3⟩ => ⟨p, q, ⟨n, DataW.trod_carry n _ _ _ hn (fun x hx => hb.same (DataW.trod_lt n _ _ _ hn x hx))⟩, trodAll_kept hb h2, h3⟩
theorem tokenOwn : ownKnob Try.prog.godebug = none := by kernel_rfl
theorem tokenKids : Kids Try.prog (· < Try.prog.types.size) := kids_rows (by kernel_rfl) (by kernel_rfl)
theorem tokenFull : ∀ t e, t < Try.prog.types.size → Try.prog.underlying t = some (.slice e) → 0 < Try.prog.cellsOf e := slices_full_of Try.prog (by kernel_rfl)
set_option maxRecDepth 100000 in
theorem topToken_lifted (os : Os) (started : os.Started) (H : Type) (enc : TypeId × Value → H) (F : Stop.Interp) :
    ReturnsInHanded {} Try.checked os 4 .any ((Rows.OpenSpec.upto Rows.topTokenSpec).pre6 enc Try.prog Try.f4 Rows.topTokenUptoRow.domain false) (((Rows.OpenSpec.upto Rows.topTokenSpec).at F).post enc Try.prog Try.f4 false true false false) := by
  refine returnsInHanded_of_cond (C := Try.checked) (s := Rows.OpenSpec.upto Rows.topTokenSpec) (k := Rows.uptoSmall) rfl tokenOwn started (by kernel_rfl) Try.func4
    (OpenSpec.witness (enc := enc) (C := Try.checked) (s := Rows.OpenSpec.upto Rows.topTokenSpec) (k := Rows.uptoSmall) rfl false ⟨#[], #[.slice none 0 0], []⟩ 8 (by kernel_rfl) (by kernel_rfl) (by kernel_rfl)
      (x := ([.nil], [], [])) (by kernel_rfl) rfl (by kernel_rfl)) ?_
  intro W base args ds gs before hval0 hW _ hk _
  have hW' := hW
  obtain ⟨p, q, hA0, hV, rfl, hfz, hnd⟩ := hW
  have hA : DataW.TrodAll enc Try.prog W 0 (fun _ => true) true Try.f4.params.toList args.toList ds p := hA0
  have hAk := hA
  have hval : ∀ (j : Nat) t v, Try.f4.params[j]? = some t → args[j]? = some v → Value.okWide Try.prog W .any base t v := hval0
  rw [Try.params4] at hA hval
  obtain ⟨v0, vs0, d0, ds0, p0, q0, hargs, rfl, rfl, h0, r0⟩ := trodAll_cons hA
  obtain ⟨rfl, rfl, rfl⟩ := trodAll_nil r0
  obtain rfl : args = #[v0] := by cases args; simp_all
  obtain ⟨rfl, rfl⟩ := trodVars_none hV
  obtain ⟨f0, h0⟩ := h0
  have hk2 : uptoBulkAll ([d0] ++ []) ≤ 1048576 := of_decide_eq_true hk
  simp only [List.append_nil, uptoBulkAll] at hk2
  obtain ⟨v, l, e0, hL⟩ := V.acts_of_trod (by show uptoBulk d0 ≤ 1048576; omega) h0
  obtain ⟨a3, n3, k3, rfl⟩ := okWide_slice V.uActs (hval 0 22 v0 rfl rfl)
  have hv : Value.slice a3 n3 k3 = v := by simpa [Value.cells] using e0
  subst hv
  have hlt := hAk.lt
  refine (topToken_any sortC_holds f0 W _ l hL).mono fun e W' ⟨he, hb⟩ => ?_
  subst he
  exact ⟨_, rfl, _, _, _, [], _, [], hW', trodAll_cons_mk (shut_bool Try.underlying4 _) trodAll_mk0, trodAll_kept hb (DataW.TrodAll.respare tokenKids tokenFull (by rw [Try.params4]; decide +kernel) hAk (fun x hx => decide_eq_true (hlt x hx))), rfl, hb.frame _, fun h => by cases h⟩
theorem topToken_holds : Rows.TopTokenUptoSaid :=
  OpenClaim.holds_of_cond 4 Try.f4 rfl rfl rfl rfl rfl rfl rfl ⟨rfl, rfl, rfl, rfl, rfl⟩ rfl rfl rfl rfl rfl (by kernel_rfl) Try.func4 (by kernel_rfl)
    (of_decide_eq_true (by kernel_rfl)) (by unfold Func.isWrapper; first | (rw [if_pos (by decide +kernel)]; kernel_rfl) | (rw [if_neg (by decide +kernel)]; exact ⟨rfl, rfl⟩))
    (fun os started H enc _ F => topToken_lifted os started H enc F)
end Go.Proofs.Ytlmkpjdaoinmoaa
