/- ValueSays, lifted: from the law's own walk (a hypothesis here) to the given row. -/
import Derived.Test.YtpoebpknjjfddaaDoorWJ
import Derived.Test.YtpoebpknjjfddaaDoorCards
import Derived.Test.YtpoebpknjjfddaaDoorTie
import Derived.ProofKit
import Derived.LaidMore
import Derived.OpenShut
import Derived.Stop.Joined
import Derived.JoinedCond
import Derived.RowKit3
import Derived.ReadAgain
import Derived.Carry
namespace Go.Proofs.YtpoebpknjjfddaaDoor
open Go.ChangeShapes Go.WideShapes Go.ChangeAt Go.WideMaps Go.WideElems Go.RowKit
namespace V
/-- What the law's walk is to say. -/
def Law : Prop := ∀ (m : Nat) (W : World) (v o : Val) (c0 c1 c2 c3 c4 d0 d1 d2 d3 d4 fv : Value) (s : ByteArray) (l : List (ByteArray × Val)),
  V.Mem (m + 1) W v [c0, c1, c2, c3, c4] → V.Mem (m + 1) W o [d0, d1, d2, d3, d4] → V.Row W fv l.length 6 (fun i c => ∃ x c', l[i]? = some x ∧ c = .string x.1 :: c' ∧ V.Mem m W x.2 c') →
  V.bulk (m + 1) v ≤ 1100000 → V.bulk (m + 1) o ≤ 1100000 → s.size ≤ 1100000 → V.sumF (fun x => x.1.size + V.bulk m x.2) l + l.length ≤ 1100000 →
  Lib.TabIs Tryd.prog W "internal/strconv.uint64pow10" .u64 Lib.pow10Tab →
  Calls Tryd.prog 4 #[.agg #[c0, c1, c2, c3, c4], .agg #[d0, d1, d2, d3, d4], .string s, fv] W fun e W' => e = .returned (.bool true) ∧ Below W.heap.size W W'
theorem ownK : ownKnob Tryd.prog.godebug = none := by kernel_rfl
theorem kids : Kids Tryd.prog (· < Tryd.prog.types.size) := kids_rows (by kernel_rfl) (by kernel_rfl)
theorem full : ∀ t e, t < Tryd.prog.types.size → Tryd.prog.underlying t = some (.slice e) → 0 < Tryd.prog.cellsOf e := slices_full_of Tryd.prog (by kernel_rfl)
theorem laid_met (os : Os) (args : Array Value) : laidMetH Tryd.prog Rows.valueSaysUptoRow.laid ((World.doorLaid Tryd.prog 400 os).forCall (fun _ _ => 0) ⟨#[], args, []⟩).memory :=
  laidMetH_of_parts3 (fuel := 8) (laidMet_of_run' 8 (by kernel_rfl) (by kernel_rfl)) (by kernel_rfl) (by kernel_rfl)
set_option maxRecDepth 100000 in
theorem lifted_wit (os : Os) (H : Type) (enc : TypeId × Value → H) :
    ∃ (w : World) (tape : Tape) (i : Input), w.os = os ∧ (w.forCall tape i).Shaped Tryd.checked.prog ∧ i.vars = [] ∧ Input.okWide Tryd.checked.prog (w.forCall tape i) .any w.heap.size 4 i ∧
      Rows.valueSaysUptoRow.pre enc Tryd.checked.prog Tryd.f4 (Rows.OpenSpec.upto Rows.valueSaysSpec) (w.forCall tape i).memory i.args ∧ ({} : Assume).holds Tryd.checked.prog (lone (Frame.enter Tryd.checked.prog 4 i.args .normal) [] (w.forCall tape i)) := by
  have hok : Input.okWideB Tryd.checked.prog ((World.doorLaid Tryd.prog 400 os).forCall (fun _ _ => 0) ⟨#[], #[.agg #[.int .i64 0, .int .i64 0, .string ⟨#[]⟩, .slice none 0 0, .slice none 0 0], .agg #[.int .i64 0, .int .i64 0, .string ⟨#[]⟩, .slice none 0 0, .slice none 0 0], .string ⟨#[]⟩, .slice none 0 0], []⟩) 4 ⟨#[], #[.agg #[.int .i64 0, .int .i64 0, .string ⟨#[]⟩, .slice none 0 0, .slice none 0 0], .agg #[.int .i64 0, .int .i64 0, .string ⟨#[]⟩, .slice none 0 0, .slice none 0 0], .string ⟨#[]⟩, .slice none 0 0], []⟩ = true := by kernel_rfl
  refine ⟨World.doorLaid Tryd.prog 400 os, fun _ _ => 0, ⟨#[], #[.agg #[.int .i64 0, .int .i64 0, .string ⟨#[]⟩, .slice none 0 0, .slice none 0 0], .agg #[.int .i64 0, .int .i64 0, .string ⟨#[]⟩, .slice none 0 0, .slice none 0 0], .string ⟨#[]⟩, .slice none 0 0], []⟩, rfl, World.shaped_of_RefB (by kernel_rfl) (by kernel_rfl), (Input.okWide_of_okWideB (base := 0) hok).1, (Input.okWide_of_okWideB hok).2, ⟨⟨(OpenSpec.pre_some rfl _ _ _ _).2 ⟨_, _, _, DataW.Whole_of_whole (fuel := 8) (x := ([.agg [.lit (.int .i64 0), .lit (.int .i64 0), .lit (.string []), .nil, .nil], .agg [.lit (.int .i64 0), .lit (.int .i64 0), .lit (.string []), .nil, .nil], .lit (.string []), .nil], [], [])) (by kernel_rfl), by kernel_rfl, by kernel_rfl⟩, laid_met os _⟩, sizedMet_of_sizedB (fuel := 8) (by kernel_rfl)⟩, ?_⟩
  simp only [Assume.holds]
  exact ⟨by simp, by simp, fun _ => Modest.zero, by simp, by simp⟩
end V
end Go.Proofs.YtpoebpknjjfddaaDoor
