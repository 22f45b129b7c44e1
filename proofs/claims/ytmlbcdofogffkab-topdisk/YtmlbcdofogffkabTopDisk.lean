/- TopDisk holds: for all acts and all numbers, what was synced is there behind a restart, and of the changes that were not just the first ones, as many as are kept. No condition of our own. -/
import Derived.Test.YtmlbcdofogffkabFN
import Derived.Test.YtmlbcdofogffkabEI
namespace Go.Proofs.Ytmlbcdofogffkab
open Go.ChangeShapes Go.WideShapes Go.ChangeAt Go.WideMaps Go.WideElems Go.RowKit
theorem tdOwn : ownKnob Try.prog.godebug = none := by kernel_rfl
theorem tdKids : Kids Try.prog (· < Try.prog.types.size) := kids_rows (by kernel_rfl) (by kernel_rfl)
theorem tdFull : ∀ t e, t < Try.prog.types.size → Try.prog.underlying t = some (.slice e) → 0 < Try.prog.cellsOf e := slices_full_of Try.prog (by kernel_rfl)
theorem td_range {n : Int} (h : (Lit.int .i64 n).wf = true) : -9223372036854775808 ≤ n ∧ n ≤ 9223372036854775807 := by
  simp [Lit.wf] at h
  have e : IntKind.i64.min = -9223372036854775808 := by decide
  rw [e] at h; exact h
set_option maxRecDepth 100000 in
theorem topDisk_lifted (os : Os) (started : os.Started) (H : Type) (enc : TypeId × Value → H) :
    ReturnsInHanded Rows.topDiskRow.assume Try.checked os 6 .any (Rows.topDiskSpec.pre6 enc Try.prog Try.f6 Rows.topDiskRow.domain false) (Rows.topDiskSpec.post enc Try.prog Try.f6 false true false false) := by
  refine returnsInHanded_of_change (C := Try.checked) tdOwn started (by kernel_rfl) Try.func6
    (ChangeSpec.witness6 (enc := enc) (C := Try.checked) false ⟨#[], #[.slice none 0 0, .slice none 0 0, .int .i64 0], []⟩ 8 (by kernel_rfl) (by kernel_rfl) (by kernel_rfl) (by kernel_rfl)) ?_
  intro W base args ds gs before hval0 hW hcnd _
  have hW' := hW
  obtain ⟨p, q, hA0, hV, rfl, hfz, hnd⟩ := hW
  have hA : DataW.TrodAll enc Try.prog W 0 (fun _ => true) true Try.f6.params.toList args.toList ds p := hA0
  have hAk := hA
  have hval : ∀ (j : Nat) t v, Try.f6.params[j]? = some t → args[j]? = some v → Value.okWide Try.prog W .any base t v := hval0
  rw [Try.params6] at hA hval
  obtain ⟨v0, vs0, d0, ds0, p0, q0, hargs0, rfl, rfl, h0, r0⟩ := trodAll_cons hA
  obtain ⟨v1, vs1, d1, ds1, p1, q1, rfl, rfl, rfl, h1, r1⟩ := trodAll_cons r0
  obtain ⟨v2, vs2, d2, ds2, p2, q2, rfl, rfl, rfl, h2, r2⟩ := trodAll_cons r1
  obtain ⟨rfl, rfl, rfl⟩ := trodAll_nil r2
  obtain rfl : args = #[v0, v1, v2] := by cases args; simp_all
  obtain ⟨rfl, rfl⟩ := trodVars_none hV
  obtain ⟨f0, h0⟩ := h0
  obtain ⟨u0, l0, e0, hL0⟩ := A.acts_of_trod h0
  obtain ⟨a3, n3, k3, rfl⟩ := okWide_slice A.uActs (hval 0 50 v0 rfl rfl)
  have hv0 : Value.slice a3 n3 k3 = u0 := by simpa [Value.cells] using e0
  subst hv0
  obtain ⟨f1, h1⟩ := h1
  obtain ⟨u1, l1, e1, hL1⟩ := A.acts_of_trod h1
  obtain ⟨a4, n4, k4, rfl⟩ := okWide_slice A.uActs (hval 1 50 v1 rfl rfl)
  have hv1 : Value.slice a4 n4 k4 = u1 := by simpa [Value.cells] using e1
  subst hv1
  obtain ⟨x2, rfl, rfl, rfl, w2⟩ := open_int u3 (hval 2 3 v2 rfl rfl) h2
  have hlt := hAk.lt
  refine (topDisk_any f0 f1 _ _ l0 l1 x2 W hL0 hL1 (td_range w2)).mono fun e W' ⟨he, hb⟩ => ?_
  subst he
  exact ⟨_, rfl, _, _, _, [], _, [], hW', trodAll_cons_mk (shut_bool Try.underlying4 _) trodAll_mk0, trodAll_kept hb (DataW.TrodAll.respare tdKids tdFull (by rw [Try.params6]; decide +kernel) hAk (fun x hx => decide_eq_true (hlt x hx))), rfl, hb.frame _, fun h => by cases h⟩
theorem topDisk_holds : Rows.TopDiskSaid :=
  OpenClaim.holds_of_wide 6 Try.f6 rfl rfl rfl rfl rfl rfl rfl ⟨rfl, rfl, rfl, rfl, rfl⟩ rfl rfl rfl rfl rfl (by kernel_rfl) Try.func6 (by kernel_rfl)
    (of_decide_eq_true (by kernel_rfl)) (by unfold Func.isWrapper; first | (rw [if_pos (by decide +kernel)]; kernel_rfl) | (rw [if_neg (by decide +kernel)]; exact ⟨rfl, rfl⟩))
    (fun os started H enc _ => topDisk_lifted os started H enc)
end Go.Proofs.Ytmlbcdofogffkab
