/- disk: copied (at most one file), onFirst. -/
import Derived.Test.YtlglomjodbjbaaaDoorDH
import Derived.Maps.RangeRun
namespace Go.Proofs.YtlglomjodbjbaaaDoor
open Go.RowKit
open Go.ChangeMaps (setBlock)
attribute [local go_sem ↓] Go.wp_at_zero Go.wp_at_succ
theorem make_run (n : Int) (w : World) : (Instr.makeMap 45 (some (.int .i64 n))).run Tryd.prog w = .ok (.map (some w.heap.size)) (w.alloc (.map #[] 0)) := by kernel_rfl
theorem range_run {w : World} {b : Nat} {es : Array MapEntry} {c : Nat} (h : w.heap[b]? = some (.map es c)) : (Instr.range 45 (.map (some b))).run Tryd.prog w = .ok (.pointer (some ⟨w.heap.size, 0, none⟩)) (w.alloc (.mapIter (some b) c #[] c)) := by
  simp [Instr.range, run_underlying M.u112, MapKept.run_getObj_map h, Result.andThen]
/-- How many rounds there are to come, at most. -/
def M.leftN (w : World) (r : Nat) : Nat := match w.heap[r]? with | some (.mapIter _ _ sn _) => 1 - sn.size | _ => 0
theorem M.leftN_at {w : World} {r : Nat} {m : Option Nat} {a b : Nat} {sn : Array Nat} (h : w.heap[r]? = some (.mapIter m a sn b)) : M.leftN w r = 1 - sn.size := by unfold M.leftN; rw [h]
theorem heap_set_at {w : World} {r : Nat} {o o2 : Obj} (h : w.heap[r]? = some o) : (setBlock w r o2).heap[r]? = some o2 := by
  have := (Array.getElem?_eq_some_iff.1 h).1
  simp [setBlock, this]
theorem fr_set (w : World) (r : Nat) (o : Obj) : Fr w (setBlock w r o) (fun c => c = r) := ⟨rfl, rfl, rfl, by simp [setBlock], fun c _ he => by
  have he2 : r ≠ c := fun e => he e.symm
  simp [setBlock, he2]⟩

/-- A change with the first bytes of its data alone: without any it is not done. -/
def Ch.first (c : Ch) (n : Int) (F : List (ByteArray × ByteArray)) : List (ByteArray × ByteArray) := if min n c.data.size < 1 then F else ({ c with data := c.data.extract 0 (min n c.data.size).toNat } : Ch).on F

end Go.Proofs.YtlglomjodbjbaaaDoor
