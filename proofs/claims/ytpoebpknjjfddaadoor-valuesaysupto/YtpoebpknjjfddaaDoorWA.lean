/- values(): a closed fact; errors told by their numbers. -/
import Derived.Test.YtpoebpknjjfddaaDoorVZ
import Derived.Test.YtpoebpknjjfddaaDoorNamesWalk
namespace Go.Proofs.YtpoebpknjjfddaaDoor
open Go.RowKit
theorem same_of (n : Nat) (w : World) : Calls Tryd.prog 5 #[V.errOf n, .int .i64 n] w fun e w' => e = .returned (.bool true) ∧ w' = w := by
  by_cases h : n = 0
  · subst h; exact same_nil 0 w
  · rw [V.errOf, if_neg h]
    refine (same_err n n w).mono ?_
    rintro e w' ⟨rfl, rfl⟩
    exact ⟨by simp; omega, rfl⟩
namespace V
def seven : Val := ⟨1, -7, ⟨#[]⟩, [], []⟩
def aText : Val := ⟨2, 0, ⟨#[97, 10]⟩, [], []⟩
def both : Val := ⟨4, 0, ⟨#[]⟩, [seven, aText], []⟩
theorem itoa_seven : Lib.itoa (-7) = [45, 55] := by
  rw [Lib.itoa, if_pos (by decide), show (-7 : Int).natAbs = 7 from rfl, Lib.decDigits, dif_pos (by decide)]; rfl
theorem text_both : text 2 both = [91, 45, 55, 44, 32, 34, 97, 92, 120, 48, 97, 34, 93] := by
  have h1 : text 1 seven = [45, 55] := by rw [text, if_pos (by rfl)]; exact itoa_seven
  have h2 : text 1 aText = [34, 97, 92, 120, 48, 97, 34] := by rw [text, if_neg (by decide), if_pos (by rfl)]; decide
  rw [text, if_neg (by decide), if_neg (by decide), if_neg (by decide), if_pos (by rfl), show both.l = [seven, aText] from rfl, List.map_cons, List.map_cons, List.map_nil, h1, h2]
  rfl
theorem shaped_both : shaped 2 both = true := by
  have h1 : shaped 1 seven = true := by simp [shaped, seven, spare, fits]
  have h2 : shaped 1 aText = true := by simp [shaped, aText, spare, fits]; decide
  rw [shaped, show both.l = [seven, aText] from rfl, List.all_cons, List.all_cons, h1, h2]
  simp [both, spare, fits]
theorem fault_both : fault 2 both = 0 := by
  rw [fault, if_neg (by decide), shaped_both]; rfl
theorem bulk_both : bulk 2 both ≤ 2000000 := by decide
end V
set_option maxRecDepth 100000 in
set_option maxHeartbeats 800000 in
theorem values_any (w : World) (htab : Lib.TabIs Tryd.prog w "internal/strconv.uint64pow10" .u64 Lib.pow10Tab) :
    Calls Tryd.prog 8 #[] w fun e w' => e = .returned (.bool true) ∧ Below w.heap.size w w' := by
  have hb : Below w.heap.size w (w.alloc (.cells #[.int .i64 1, .int .i64 (-7), .string ⟨#[]⟩, .slice none 0 0, .slice none 0 0, .int .i64 2, .int .i64 0, .string ⟨#[97, 10]⟩, .slice none 0 0, .slice none 0 0] 34)) := (Below.refl _ _).alloc (Nat.le_refl _) _
  have hblk : (w.alloc (.cells #[.int .i64 1, .int .i64 (-7), .string ⟨#[]⟩, .slice none 0 0, .slice none 0 0, .int .i64 2, .int .i64 0, .string ⟨#[97, 10]⟩, .slice none 0 0, .slice none 0 0] 34)).heap[w.heap.size]? = some (.cells #[.int .i64 1, .int .i64 (-7), .string ⟨#[]⟩, .slice none 0 0, .slice none 0 0, .int .i64 2, .int .i64 0, .string ⟨#[97, 10]⟩, .slice none 0 0, .slice none 0 0] 34 (0, 0)) := heap_alloc_new _ _
  have hM : V.Mem 2 (w.alloc (.cells #[.int .i64 1, .int .i64 (-7), .string ⟨#[]⟩, .slice none 0 0, .slice none 0 0, .int .i64 2, .int .i64 0, .string ⟨#[97, 10]⟩, .slice none 0 0, .slice none 0 0] 34)) V.both [.int .i64 4, .int .i64 0, .string ⟨#[]⟩, .slice (some ⟨w.heap.size, 0, none⟩) 2 2, .slice none 0 0] := by
    refine ⟨_, _, rfl, ⟨some ⟨w.heap.size, 0, none⟩, 2, rfl, .inr ⟨w.heap.size, 0, rfl, fun i hi => ?_⟩⟩, V.Row.zero _ _ _⟩
    have hi2 : i < 2 := hi
    match i, hi2 with
    | 0, _ =>
      refine ⟨[.int .i64 1, .int .i64 (-7), .string ⟨#[]⟩, .slice none 0 0, .slice none 0 0], rfl, fun j hj => ?_, V.seven, rfl, ⟨_, _, rfl, V.Row.zero _ _ _, V.Row.zero _ _ _⟩⟩
      rw [cell_of_row _ w.heap.size _ _ 34 (0, 0) hblk]
      match j, hj with
      | 0, _ => rfl
      | 1, _ => rfl
      | 2, _ => rfl
      | 3, _ => rfl
      | 4, _ => rfl
    | 1, _ =>
      refine ⟨[.int .i64 2, .int .i64 0, .string ⟨#[97, 10]⟩, .slice none 0 0, .slice none 0 0], rfl, fun j hj => ?_, V.aText, rfl, ⟨_, _, rfl, V.Row.zero _ _ _, V.Row.zero _ _ _⟩⟩
      rw [cell_of_row _ w.heap.size _ _ 34 (0, 0) hblk]
      match j, hj with
      | 0, _ => rfl
      | 1, _ => rfl
      | 2, _ => rfl
      | 3, _ => rfl
      | 4, _ => rfl
  have HT := hide (text_any 2 _ V.both _ _ _ _ _ hM V.bulk_both (tab_below htab hb))
  have hs := same_nil 0
  clear hM htab hblk
  go_enter Tryd.func8, Tryd.ntmps8
  go_wp2_with fail
  refine Calls.mono HT.out ?_
  rintro e w1 ⟨rfl, hb1⟩
  have hB1 := hb.trans (hb1.mono hb.size)
  have ht : V.textOr 2 V.both = V.str [91, 45, 55, 44, 32, 34, 97, 92, 120, 48, 97, 34, 93] := by rw [V.textOr, if_pos V.fault_both, V.text_both]
  rw [ht, V.fault_both, show V.errOf 0 = .nilIface from rfl]
  have hl : ((V.str [91, 45, 55, 44, 32, 34, 97, 92, 120, 48, 97, 34, 93]).toList == [91, 45, 55, 44, 32, 34, 97, 92, 120, 48, 97, 34, 93]) = true := by rw [V.toList_bl, V.bl_str]; rfl
  generalize V.str [91, 45, 55, 44, 32, 34, 97, 92, 120, 48, 97, 34, 93] = tt at *
  clear ht hb hb1 HT
  go_wp2_with fail
  refine (hs _).mono ?_
  rintro e w2 ⟨rfl, hw2⟩
  rw [hw2]
  clear hw2
  go_wp2_with fail
  go_ret
  exact ⟨rfl, hB1⟩
end Go.Proofs.YtpoebpknjjfddaaDoor
