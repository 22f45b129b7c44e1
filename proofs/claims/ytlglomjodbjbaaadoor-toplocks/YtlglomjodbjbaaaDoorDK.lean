/- value.Sum; walog.lowFirst, head, framed. -/
import Derived.Test.YtlglomjodbjbaaaDoorDI
namespace Go.Proofs.YtlglomjodbjbaaaDoor
open Go.RowKit
attribute [local go_sem ↓] Go.wp_at_zero Go.wp_at_succ
theorem ret_int {k : IntKind} {a b : Int} (h : a = b) : Ending.returned (.int k a) = .returned (.int k b) := by rw [h]
namespace N
def sumStep (n : Int) (b : UInt8) : Int := IntKind.u64.wrap (bits BinOp.xor IntKind.u64 n (IntKind.u64.wrap (b.toNat : Int)) * 1099511628211)
def sum (l : List UInt8) : Int := l.foldl sumStep 14695981039346656037
def str (l : List UInt8) : ByteArray := ⟨l.toArray⟩
/-- A byte of a number. -/
def lowB (n : Int) (d : Int) : UInt8 := UInt8.ofNat (n / d % 256).toNat
theorem lowB_int (n d : Int) : ((lowB n d).toNat : Int) = n / d % 256 := by
  have h1 : 0 ≤ n / d % 256 := Int.emod_nonneg _ (by decide)
  have h2 : n / d % 256 < 256 := Int.emod_lt_of_pos _ (by decide)
  have h3 : (lowB n d).toNat = (n / d % 256).toNat := by
    unfold lowB
    rw [UInt8.toNat_ofNat']
    omega
  rw [h3]; omega
end N

theorem strOfNums_bytes (l : List UInt8) : strOfNums (l.map fun b => (b.toNat : Int)) = N.str l := by
  unfold strOfNums N.str
  congr 1
  apply Array.toList_inj.1
  simp only [List.map_map]
  have : ((fun n : Int => UInt8.ofNat n.toNat) ∘ fun b : UInt8 => (b.toNat : Int)) = id := by funext b; simp
  rw [this]; simp
theorem u140 : Tryd.prog.underlying 94 = some (.slice 5) := by kernel_rfl
theorem u5 : Tryd.prog.underlying 5 = some (.int .u8) := by kernel_rfl
theorem conv_at (w : World) (g : Nat) (l : List UInt8) (cs : Array Value) (n : Nat) (hn : n = l.length) (h : cs = (l.map (fun b => Value.int .u8 b.toNat)).toArray) (hb : w.heap[g]? = some (.cells cs 5 (0, 0))) :
    (convert 94 9 (.slice (some ⟨g, 0, none⟩) n n)).run Tryd.prog w = .ok (.string (N.str l)) w := by
  subst hn h
  rw [run_convert_bytes_arg _ 94 5 u140 u5 g 0 l.length l.length (l.map fun b => (b.toNat : Int)) (by simp) ?_ 9 M.u9, strOfNums_bytes]
  intro i hi
  rw [Nat.zero_add, cell_of_row _ g i _ 5 (0, 0) hb]
  simp [List.getD, List.getElem?_eq_getElem hi]
theorem mk2 (w : World) : (Instr.makeSlice 94 (.int .i64 2) (.int .i64 2)).run Tryd.prog w = .ok (.slice (some ⟨w.heap.size, 0, none⟩) 2 2) (w.alloc (.cells #[.int .u8 0, .int .u8 0] 5)) := by kernel_rfl
theorem mk4 (w : World) : (Instr.makeSlice 94 (.int .i64 4) (.int .i64 4)).run Tryd.prog w = .ok (.slice (some ⟨w.heap.size, 0, none⟩) 4 4) (w.alloc (.cells #[.int .u8 0, .int .u8 0, .int .u8 0, .int .u8 0] 5)) := by kernel_rfl


namespace N
/-- A frame's head. -/
def head (s : ByteArray) : ByteArray := str [lowB s.size 1, lowB s.size 256] ++ str [lowB (sum (bl s) % 4294967296) 1, lowB (sum (bl s) % 4294967296) 256, lowB (sum (bl s) % 4294967296) 65536, lowB (sum (bl s) % 4294967296) 16777216]
theorem head_size (s : ByteArray) : (head s).size = 6 := by unfold head; rw [ByteArray.size_append]; rfl
end N


end Go.Proofs.YtlglomjodbjbaaaDoor
