/- The table of tens that the row lists, as the contracts want it; a reading of the arguments stays behind Below. -/
import Derived.Test.YtpoebpknjjfddaaDoorWI
import Derived.Lib.LaidU8
import Derived.Lib.LaidTab
import Derived.ChangeReads
import Derived.ChangeOld
namespace Go.Proofs.YtpoebpknjjfddaaDoor
open Go.RowKit
namespace V
theorem g10 : Tryd.prog.globalNamed "internal/strconv.uint64pow10" = some 1 := by kernel_rfl
theorem t10 : (Tryd.prog.globals[1]?).map (·.type) = some 119 := by kernel_rfl
theorem u116 : Tryd.prog.underlying 119 = some (.array 20 48) := by kernel_rfl
theorem u48 : Tryd.prog.underlying 48 = some (.int .u64) := by kernel_rfl
theorem c48 : Tryd.prog.cellsOf 48 = 1 := by kernel_rfl
theorem c116 : Tryd.prog.cellsOf 119 = 20 := by kernel_rfl
theorem tab_data : (Rows.laid_internal_strconv_uint64pow10 : DataW Unit) = Lib.tabData .u64 Lib.pow10Tab := by rfl
set_option maxRecDepth 100000 in
theorem tab_of_laid {W : World} (h : laidMetH Tryd.prog Rows.valueSaysUptoRow.laid W) : Lib.TabIs Tryd.prog W "internal/strconv.uint64pow10" .u64 Lib.pow10Tab := by
  have h1 : laidMet Tryd.prog [("math/bits.deBruijn32tab", Rows.laid_math_bits_deBruijn32tab), ("math/bits.deBruijn64tab", Rows.laid_math_bits_deBruijn64tab), ("internal/strconv.uint64pow10", Rows.laid_internal_strconv_uint64pow10)] W := h
  obtain ⟨g, t, cs, fuel, p, hg, ht, hv, hd⟩ := Lib.laidMet.reads h1 (.tail _ (.tail _ (.head _)))
  obtain rfl := Option.some.inj (g10.symm.trans hg)
  obtain rfl := Option.some.inj (t10.symm.trans ht)
  unfold Lib.TabIs
  rw [tab_data] at hd
  rw [hv, ← Lib.cells_of_tab u116 u48 c48 c116 hd]
theorem trodAll_kept {H : Type} {enc : TypeId × Value → H} {w w' : World} {base : Nat} {sp : Nat → Bool} {held : Bool} (hb : Below w.heap.size w w') : ∀ {ts : List TypeId} {vs : List Value} {ds : List (DataW H)} {ps : List MemPlace},
    DataW.TrodAll enc Tryd.prog w base sp held ts vs ds ps → DataW.TrodAll enc Tryd.prog w' base sp held ts vs ds ps
  | [], [], [], _, h => h
  | _ :: _, _ :: _, _ :: _, _, ⟨p, q, ⟨n, hn⟩, h2, h3⟩ => ⟨p, q, ⟨n, DataW.trod_carry n _ _ _ hn (fun x hx => hb.same (DataW.trod_lt n _ _ _ hn x hx))⟩, trodAll_kept hb h2, h3⟩
end V
end Go.Proofs.YtpoebpknjjfddaaDoor
