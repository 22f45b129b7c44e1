/- DiskSays holds: for all acts on a disk, with falls and restarts, the disk answers as the document's own disk does, and has the same files. No condition of our own. -/
import Derived.Test.YtmlbcdofogffkabHS
import Derived.Test.YtmlbcdofogffkabEI
namespace Go.Proofs.Ytmlbcdofogffkab
open Go.ChangeShapes Go.WideShapes Go.ChangeAt Go.WideMaps Go.WideElems Go.RowKit
theorem dsOwn : ownKnob Try.prog.godebug = none := by kernel_rfl
theorem dsKids : Kids Try.prog (· < Try.prog.types.size) := kids_rows (by kernel_rfl) (by kernel_rfl)
theorem dsFull : ∀ t e, t < Try.prog.types.size → Try.prog.underlying t = some (.slice e) → 0 < Try.prog.cellsOf e := slices_full_of Try.prog (by kernel_rfl)
set_option maxRecDepth 100000 in
theorem diskSays_lifted (os : Os) (started : os.Started) (H : Type) (enc : TypeId × Value → H) :
    ReturnsInHanded Rows.diskSaysRow.assume Try.checked os 4 .any (Rows.diskSaysSpec.pre6 enc Try.prog Try.f4 Rows.diskSaysRow.domain false) (Rows.diskSaysSpec.post enc Try.prog Try.f4 false true false false) := by
  refine returnsInHanded_of_change (C := Try.checked) dsOwn started (by kernel_rfl) Try.func4
    (ChangeSpec.witness6 (enc := enc) (C := Try.checked) false ⟨#[], #[.slice none 0 0], []⟩ 8 (by kernel_rfl) (by kernel_rfl) (by kernel_rfl) (by kernel_rfl)) ?_
  intro W base args ds gs before hval0 hW hcnd _
  have hW' := hW
  obtain ⟨p, q, hA0, hV, rfl, hfz, hnd⟩ := hW
  have hA : DataW.TrodAll enc Try.prog W 0 (fun _ => true) true Try.f4.params.toList args.toList ds p := hA0
  have hAk := hA
  have hval : ∀ (j : Nat) t v, Try.f4.params[j]? = some t → args[j]? = some v → Value.okWide Try.prog W .any base t v := hval0
  rw [Try.params4] at hA hval
  obtain ⟨v0, vs0, d0, ds0, p0, q0, hargs0, rfl, rfl, h0, r0⟩ := trodAll_cons hA
  obtain ⟨rfl, rfl, rfl⟩ := trodAll_nil r0
  obtain rfl : args = #[v0] := by cases args; simp_all
  obtain ⟨rfl, rfl⟩ := trodVars_none hV
  obtain ⟨f0, h0⟩ := h0
  obtain ⟨u0, l0, e0, hL0⟩ := A.acts_of_trod h0
  obtain ⟨a3, n3, k3, rfl⟩ := okWide_slice A.uActs (hval 0 50 v0 rfl rfl)
  have hv0 : Value.slice a3 n3 k3 = u0 := by simpa [Value.cells] using e0
  subst hv0
  have hlt := hAk.lt
  refine (diskSays_any f0 _ l0 W hL0).mono fun e W' ⟨he, hb⟩ => ?_
  subst he
  exact ⟨_, rfl, _, _, _, [], _, [], hW', trodAll_cons_mk (shut_bool Try.underlying4 _) trodAll_mk0, trodAll_kept hb (DataW.TrodAll.respare dsKids dsFull (by rw [Try.params4]; decide +kernel) hAk (fun x hx => decide_eq_true (hlt x hx))), rfl, hb.frame _, fun h => by cases h⟩
theorem diskSays_holds : Rows.DiskSaysSaid :=
  OpenClaim.holds_of_wide 4 Try.f4 rfl rfl rfl rfl rfl rfl rfl ⟨rfl, rfl, rfl, rfl, rfl⟩ rfl rfl rfl rfl rfl (by kernel_rfl) Try.func4 (by kernel_rfl)
    (of_decide_eq_true (by kernel_rfl)) (by unfold Func.isWrapper; first | (rw [if_pos (by decide +kernel)]; kernel_rfl) | (rw [if_neg (by decide +kernel)]; exact ⟨rfl, rfl⟩))
    (fun os started H enc _ => diskSays_lifted os started H enc)
end Go.Proofs.Ytmlbcdofogffkab
