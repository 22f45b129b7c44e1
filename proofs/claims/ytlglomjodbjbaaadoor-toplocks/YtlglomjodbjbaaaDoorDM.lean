/- A log in memory; walog.take, read. -/
import Derived.Test.YtlglomjodbjbaaaDoorDK
import Derived.Laws.BitsAllLaws
namespace Go.Proofs.YtlglomjodbjbaaaDoor
open Go.RowKit
attribute [local go_sem ↓] Go.wp_at_zero Go.wp_at_succ
theorem info9 : (Tryd.prog.info? 9).map (fun i => (i.zero, i.size, i.bytes)) = some (some (.string ⟨#[]⟩), 1, 16) := by kernel_rfl
theorem u27 : Tryd.prog.underlying 28 = some (.slice 9) := by kernel_rfl
namespace N
/-- How many bytes the frames of these records take. -/
def size : List ByteArray → Nat
  | [] => 0
  | r :: R => 6 + r.size + size R
theorem size_append : ∀ (R : List ByteArray) (s : ByteArray), size (R ++ [s]) = size R + (6 + s.size)
  | [], s => by simp [size]
  | r :: R, s => by rw [List.cons_append, size, size_append R s, size]; omega
end N
def strs (R : List ByteArray) : List Value := R.map Value.string

namespace N
end N
end Go.Proofs.YtlglomjodbjbaaaDoor
