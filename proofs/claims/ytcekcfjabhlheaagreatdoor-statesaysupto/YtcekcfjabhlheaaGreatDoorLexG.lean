/- StateSays: LexE LexF LexG. -/
import Derived.Test.YtcekcfjabhlheaaGreatDoorLexD
import Derived.Laws.BytesArg
import Derived.Deep.RegionHeld3
import Derived.Deep.DrawnRows
import Derived.Deep.DeepCutAuto
set_option maxRecDepth 100000
set_option maxHeartbeats 800000
namespace Go.Proofs.YtcekcfjabhlheaaGreatDoor
open Go.RowKit
namespace Lx
theorem unq_le (l : List UInt8) (h : l ≠ []) : (unq l).2 <= l.length := by
 have hl : 0 < l.length := by cases l <;> simp_all
 unfold unq;split
 ·simp
 ·split
  ·exact hl
  ·split
   ·rename_i h1; exact h1.1
   ·split
    ·rename_i h1; exact h1.1
    ·simp
def qtF : Nat -> List UInt8 -> Nat -> List UInt8 -> Tok
 | 0, _, _, _ => bad 4
 | _ + 1, [], _, _ => bad 4
 | n + 1, c :: r, k, acc =>
  if c.toNat = 34 then (if acc.length > 40 then bad 1 else ⟨3, acc, k + 1, 0⟩)
  else if (unq (c :: r)).2 = 0 then bad 4
  else qtF n ((c :: r).drop (unq (c :: r)).2) (k + (unq (c :: r)).2) (acc ++ [(unq (c :: r)).1])
theorem qtF_fuel : ∀ (n m : Nat) (l : List UInt8) (k : Nat) (acc : List UInt8), l.length < n -> l.length < m -> qtF n l k acc = qtF m l k acc
 | 0, _, _, _, _, h, _ => absurd h (by omega)
 | _ + 1, 0, _, _, _, _, h => absurd h (by omega)
 | n + 1, m + 1, [], k, acc, _, _ => by rw [qtF, qtF]
 | n + 1, m + 1, c :: r, k, acc, h1, h2 => by
  rw [qtF, qtF];split
  ·rfl
  ·split
   ·rfl
   ·rename_i h0;simp only [List.length_cons] at h1 h2;exact qtF_fuel n m _ _ _ (by rw [List.length_drop, List.length_cons]; omega) (by rw [List.length_drop, List.length_cons]; omega)
def qt (l : List UInt8) (k : Nat) (acc : List UInt8) : Tok := qtF (l.length + 1) l k acc
theorem qt_nil (k : Nat) (acc : List UInt8) : qt [] k acc = bad 4 := by rw [qt, qtF]
theorem qt_cons (c : UInt8) (r : List UInt8) (k : Nat) (acc : List UInt8) : qt (c :: r) k acc =
  if c.toNat = 34 then (if acc.length > 40 then bad 1 else ⟨3, acc, k + 1, 0⟩)
  else if (unq (c :: r)).2 = 0 then bad 4
  else qt ((c :: r).drop (unq (c :: r)).2) (k + (unq (c :: r)).2) (acc ++ [(unq (c :: r)).1]) := by
 rw [qt, qtF];split
 ·rfl
 ·split
  ·rfl
  ·rename_i h0;exact qtF_fuel _ _ _ _ _ (by rw [List.length_drop, List.length_cons]; omega) (by omega)
def quotedTok (l : List UInt8) : Tok := qt (l.drop 1) 1 []
def byteV (b : UInt8) : Value := .int .u8 b.toNat
end Lx
theorem free_of_block {w : World} {g : Nat} {cs : Array Value} {e : TypeId} (h : w.heap[g]? = some (.cells cs e (0, 0))) (j : Nat) : w.frozen? ⟨g, j, none⟩ = false := by simp [World.frozen?, h]
theorem cell_of_block {w : World} {g : Nat} {cs : Array Value} {e : TypeId} (h : w.heap[g]? = some (.cells cs e (0, 0))) (j : Nat) (u : Value) (hu : cs[j]? = some u) : w.cell? ⟨g, j, none⟩ = some u := by rw [cell_of_row w g j cs e (0, 0) h]; exact hu
theorem bl_rest (s : ByteArray) (k : Nat) : Lx.bl (s.extract k s.size) = (Lx.bl s).drop k := by
 rw [Lx.bl_extract, List.take_of_length_le (by simp [Lx.length_bl])]
theorem news_of {w : World} {g : Nat} {cs : Array Value} {e : TypeId} {fr : Nat × Nat} (h : w.heap[g]? = some (.cells cs e fr)) : ∀ j u, cs.toList[j]? = some u -> w.cell? ((⟨g, 0, none⟩ : Addr).add j) = some u := by
 intro j u hu;have hadd : (⟨g, 0, none⟩ : Addr).add j = ⟨g, j, none⟩ := by unfold Addr.add; split <;> simp_all
 rw [hadd, cell_of_row w g j cs e fr h];simpa using hu
theorem news_alloc (w : World) (cs : Array Value) (e : TypeId) (g : Nat) (h : w.heap.size = g) : ∀ j u, cs.toList[j]? = some u -> (w.alloc (.cells cs e)).cell? ((⟨g, 0, none⟩ : Addr).add j) = some u := by
 subst h;exact news_of (heap_alloc_new w _)
theorem info5 : (Tryz.prog.info? 5).map (fun i => (i.zero, i.size, i.bytes)) = some (some (.int .u8 0), 1, 1) := by kernel_rfl
theorem strOfNums_bytes (acc : List UInt8) : strOfNums (acc.map fun b => (b.toNat : Int)) = Lx.str acc := by
 unfold strOfNums Lx.str;rw [List.map_map];have : ((fun n : Int => UInt8.ofNat n.toNat) ∘ fun b : UInt8 => (b.toNat : Int)) = id := by funext b; simp
 rw [this]; simp
theorem bytes_string {w : World} {base : Nat} {ao : Option Addr} {cap : Nat} {acc : List UInt8} (h : w.ownsRow base 5 1 (.slice ao acc.length cap) acc.length (acc.map Lx.byteV)) :
  (convert 99 9 (.slice ao acc.length cap)).run Tryz.prog w = .ok (.string (Lx.str acc)) w := by
 rcases h.2 with ⟨hv, h0⟩ | ⟨g, cap', cur, hv, _⟩
 ·obtain rfl : acc = [] := List.length_eq_zero_iff.1 h0;simp only [Value.slice.injEq] at hv;obtain ⟨rfl, _, rfl⟩ := hv;exact run_convert_bytes_nil w 99 5 Tryz.underlying99 Tryz.underlying5 _ _ 9 Tryz.underlying9
 ·simp only [Value.slice.injEq] at hv;obtain ⟨rfl, _, rfl⟩ := hv;rw [run_convert_bytes_arg w 99 5 Tryz.underlying99 Tryz.underlying5 g 0 acc.length cap (acc.map fun b => (b.toNat : Int)) (by simp) ?_ 9 Tryz.underlying9, strOfNums_bytes];intro i hi;rw [Nat.zero_add, h.cellAt i (by omega), List.getElem?_map, List.getElem?_eq_getElem hi];simp [Lx.byteV, List.getD, List.getElem?_eq_getElem hi]
theorem qrel {w wr w1 : World} {ao : Option Addr} {cap g cap' : Nat} {acc : List UInt8} {b : UInt8} {o o' : Obj}
  (hown : wr.ownsRow (w.heap.size + 1) 5 1 (.slice ao acc.length cap) acc.length (acc.map Lx.byteV))
  (hown1 : w1.ownsRow (w.heap.size + 1) 5 1 (.slice (some ⟨g, 0, none⟩) (acc.length + 1) cap') (acc.length + 1) (acc.map Lx.byteV ++ [Lx.byteV b]))
  (hgrow : (wr.alloc o).grownBy w1 (Value.slice ao acc.length cap).ownBlock)
  (hblk : wr.heap[w.heap.size]? = some o') (hbr : Below w.heap.size w wr) :
  w1.ownsRow (w.heap.size + 1) 5 1 (.slice (some ⟨g, 0, none⟩) (acc ++ [b]).length cap') (acc ++ [b]).length ((acc ++ [b]).map Lx.byteV) /\
   w1.heap[w.heap.size]? = some o' /\ Below w.heap.size w w1 := by
 refine ⟨by simpa using hown1, ?_, ?_⟩
 ·have hlt : w.heap.size < wr.heap.size := (Array.getElem?_eq_some_iff.1 hblk).1;rw [hgrow.block w.heap.size (by simp; omega) (fun e => by have := hown.lt _ e.symm; omega), heap_alloc_old wr o hlt, hblk]
 ·exact (hbr.alloc hbr.size o).grown hgrow (by have := hbr.size; simp; omega) (fun k hk => by have := hown.lt _ hk; omega)
theorem quoted_any (s : ByteArray) (w : World) (hs : s.size <= 1000000) (h0 : 0 < s.size) :
  Calls Tryz.prog 217 #[.string s] w fun e w' => e = .returned (Lx.tokV (Lx.quotedTok (Lx.bl s))) /\ Below w.heap.size w w' := by
 obtain ⟨i0, hi, hz0, hz1, hz2⟩ := info_parts info5;go_enter Tryz.func217, Tryz.ntmps217;go_wp2_with fail;go_loopw [5, 6, 7, 8] (fun v at' _ _ wr => ∃ (k : Nat) (acc : List UInt8) (ao : Option Addr) (cap : Nat), 1 <= k /\ k <= s.size /\ acc.length <= k /\ at' = .int .i64 k /\ v = .slice ao acc.length cap /\
   wr.ownsRow (w.heap.size + 1) 5 1 (.slice ao acc.length cap) acc.length (acc.map Lx.byteV) /\ Lx.quotedTok (Lx.bl s) = Lx.qt ((Lx.bl s).drop k) k acc /\
   wr.heap[w.heap.size]? = some (.cells #[.int .i64 0, .int .i64 0, .string ⟨#[]⟩] 218 (0, 0)) /\ Below w.heap.size w wr)
  (fun _ at' _ _ _ => s.size - (intOf at').toNat)
 case atStart => exact ⟨1, [], none, 0, by omega, by omega, by simp, rfl, rfl, World.ownsRow_nil _ _ _ _, rfl, heap_alloc_new _ _, (Below.refl _ _).alloc (Nat.le_refl _) _⟩
 case round =>
  obtain ⟨k, acc, ao, cap, hk1, hk, hak, rfl, rfl, hown, hq, hblk, hbr⟩ := hrel;have c0 := cell_of_block hblk 0 (.int .i64 0) rfl;have c1 := cell_of_block hblk 1 (.int .i64 0) rfl;have c2 := cell_of_block hblk 2 (.string ⟨#[]⟩) rfl;have f0 := free_of_block hblk 0;have f1 := free_of_block hblk 1;have f2 := free_of_block hblk 2;by_cases hlt : k < s.size
  ·have hd := Lx.bl_drop s k hlt;have hq' := hq;rw [hd, Lx.qt_cons, <- hd] at hq';by_cases h34 : s[k].toNat = 34
   ·have g34 : ((s[k].toNat : Int) == 34) = true := by simp; omega
    rw [if_pos h34] at hq';have hcv := bytes_string hown;by_cases h40 : acc.length > 40
    ·have E : Hid (Lx.tokV (Lx.quotedTok (Lx.bl s)) = .tuple #[.agg #[.int .i64 0, .int .i64 0, .string ⟨#[]⟩], .int .i64 0, .iface 54 (.int .i64 1)]) := by
      show _ = _; rw [hq', if_pos h40]; rfl
     clear hq hq' hd h34 hblk;go_wp2_with fail;exact bodyPost_ret (v := .tuple #[.agg #[.int .i64 0, .int .i64 0, .string ⟨#[]⟩], .int .i64 0, .iface 54 (.int .i64 1)]) (by simp [results, Tryz.results217, go_sem, c0, c1, c2]) rfl ⟨congrArg Ending.returned E.out.symm, ((hbr.setCell (p := ⟨w.heap.size, 0, none⟩) (Nat.le_refl _) _).setCell (p := ⟨w.heap.size, 1, none⟩) (Nat.le_refl _) _).setCell (p := ⟨w.heap.size, 2, none⟩) (Nat.le_refl _) _⟩
    ·have E : Hid (Lx.tokV (Lx.quotedTok (Lx.bl s)) = .tuple #[.agg #[.int .i64 3, .int .i64 0, .string (Lx.str acc)], .int .i64 (k + 1), .nilIface]) := by
      show _ = _; rw [hq', if_neg h40]; rfl
     clear hq hq' hd h34 hblk;go_wp2_with fail;exact bodyPost_ret (v := .tuple #[.agg #[.int .i64 3, .int .i64 0, .string (Lx.str acc)], .int .i64 (k + 1), .nilIface]) (by simp [results, Tryz.results217, go_sem, c0, c1, c2]) rfl ⟨congrArg Ending.returned E.out.symm, ((hbr.setCell (p := ⟨w.heap.size, 0, none⟩) (Nat.le_refl _) _).setCell (p := ⟨w.heap.size, 1, none⟩) (Nat.le_refl _) _).setCell (p := ⟨w.heap.size, 2, none⟩) (Nat.le_refl _) _⟩
   ·have g34 : ((s[k].toNat : Int) == 34) = false := by simp; omega
    rw [if_neg h34] at hq';have hle := Lx.unq_le ((Lx.bl s).drop k) (by rw [hd]; simp);rw [List.length_drop, Lx.length_bl] at hle;have hx := fun w => unquoted_any (s.extract k s.size) w (by simp; omega) (by simp; omega)
    rw [bl_rest] at hx;generalize Lx.unq ((Lx.bl s).drop k) = u at *;obtain ⟨b, n⟩ := u;have HX : Hid _ := hx;clear hx;by_cases hn : n = 0
    ·have E : Hid (Lx.tokV (Lx.quotedTok (Lx.bl s)) = .tuple #[.agg #[.int .i64 0, .int .i64 0, .string ⟨#[]⟩], .int .i64 0, .iface 54 (.int .i64 4)]) := by
      show _ = _; rw [hq', if_pos hn]; rfl
     subst hn;clear hq hq' hd h34 hblk;go_wp2_with (go_at_call 226; refine (HX.out _).mono ?_; rintro e w' ⟨rfl, rfl⟩);exact bodyPost_ret (v := .tuple #[.agg #[.int .i64 0, .int .i64 0, .string ⟨#[]⟩], .int .i64 0, .iface 54 (.int .i64 4)]) (by simp [results, Tryz.results217, go_sem, c0, c1, c2]) rfl ⟨congrArg Ending.returned E.out.symm, ((hbr.setCell (p := ⟨w.heap.size, 0, none⟩) (Nat.le_refl _) _).setCell (p := ⟨w.heap.size, 1, none⟩) (Nat.le_refl _) _).setCell (p := ⟨w.heap.size, 2, none⟩) (Nat.le_refl _) _⟩
    ·have E : Hid (Lx.quotedTok (Lx.bl s) = Lx.qt ((Lx.bl s).drop (k + n)) (k + n) (acc ++ [b])) := by
      show _ = _; rw [hq', if_neg hn, List.drop_drop]
     have gn : ((n : Int) == 0) = false := by simp; omega
     simp only at hle;have HB : Hid _ := hblk;clear hq hq' hd h34 hblk c0 c1 c2 f0 f1 f2;go_wp2_with (first
      | (go_at_call 226; refine (HX.out _).mono ?_; rintro e w' ⟨rfl, rfl⟩)
      | (at_builtin; go_must (refine wpList_append_lies _ rfl (.tmp 36) (.tmp 38) 99 rfl (w.heap.size + 1) 5 i0 (.int .u8 0) 1 1 Tryz.underlying99 hi hz0 hz1 hz2 rfl (by decide) _ acc.length (acc.map Lx.byteV) rfl (hown.alloc _) ⟨w'.heap.size, 0, none⟩ 1 1 [Lx.byteV b] rfl rfl (news_alloc _ _ _ _ rfl) (by simp [Lx.byteV, Value.oneCell']) (by decide) (by unfold maxLen; omega) (by omega) (by have := hbr.size; simp; omega) _ rfl ?_); intro g cap' w1 hown1 hgrow hat hlt1))
     have R := qrel hown hown1 hgrow HB.out hbr;go_roundw
     case rel => exact ⟨k + n, acc ++ [b], some ⟨g, 0, none⟩, cap', by omega, by omega, by simp; omega, by go_num, by simp, R.1, E.out, R.2.1, R.2.2⟩
     case measure => simp [intOf]; omega
  ·have E : Hid (Lx.tokV (Lx.quotedTok (Lx.bl s)) = .tuple #[.agg #[.int .i64 0, .int .i64 0, .string ⟨#[]⟩], .int .i64 0, .iface 54 (.int .i64 4)]) := by
    show _ = _; rw [hq, Lx.bl_drop_end s k hlt, Lx.qt_nil]; rfl
   clear hq hblk;go_wp2_with fail;exact bodyPost_ret (v := .tuple #[.agg #[.int .i64 0, .int .i64 0, .string ⟨#[]⟩], .int .i64 0, .iface 54 (.int .i64 4)]) (by simp [results, Tryz.results217, go_sem, c0, c1, c2]) rfl ⟨congrArg Ending.returned E.out.symm, ((hbr.setCell (p := ⟨w.heap.size, 0, none⟩) (Nat.le_refl _) _).setCell (p := ⟨w.heap.size, 1, none⟩) (Nat.le_refl _) _).setCell (p := ⟨w.heap.size, 2, none⟩) (Nat.le_refl _) _⟩
namespace Lx
def firstTok : List UInt8 -> Tok
 | [] => ⟨0, [], 0, 0⟩
 | c :: r => if letter c then wordTok (c :: r) else if digit c then digitsTok (c :: r) else if c.toNat = 34 then quotedTok (c :: r) else signTok (c :: r)
end Lx
theorem three_kept {w w1 : World} {a b c : Value} {e : TypeId} (hb : Below (w.alloc (.cells #[a, b, c] e)).heap.size (w.alloc (.cells #[a, b, c] e)) w1) :
  w1.heap[w.heap.size]? = some (.cells #[a, b, c] e (0, 0)) := by
 rw [hb.block w.heap.size (by simp)];exact heap_alloc_new w _
theorem below_three {w w1 : World} {o : Obj} {a b c : Value} (hb : Below (w.alloc o).heap.size (w.alloc o) w1) :
  Below w.heap.size w (((w1.setCell ⟨w.heap.size, 0, none⟩ a).setCell ⟨w.heap.size, 1, none⟩ b).setCell ⟨w.heap.size, 2, none⟩ c) :=
 (((((Below.refl _ w).alloc (Nat.le_refl _) o).trans (hb.mono (by simp))).setCell (p := ⟨w.heap.size, 0, none⟩) (Nat.le_refl _) _).setCell (p := ⟨w.heap.size, 1, none⟩) (Nat.le_refl _) _).setCell (p := ⟨w.heap.size, 2, none⟩) (Nat.le_refl _) _
theorem first_nil (s : ByteArray) (w : World) (h0 : s.size = 0) :
  Calls Tryz.prog 195 #[.string s] w fun e w' => e = .returned (Lx.tokV (Lx.firstTok (Lx.bl s))) /\ Below w.heap.size w w' := by
 have hl : Lx.bl s = [] := List.length_eq_zero_iff.1 (by rw [Lx.length_bl]; exact h0);have E : Hid (Lx.tokV (Lx.firstTok (Lx.bl s)) = .tuple #[.agg #[.int .i64 0, .int .i64 0, .string ⟨#[]⟩], .int .i64 0, .nilIface]) := by
  show _ = _; rw [hl]; rfl
 have he : s.toList.isEmpty = true := by rw [toList_bl, hl]; rfl
 clear hl;go_enter Tryz.func195, Tryz.ntmps195;go_wp2_with fail;exact bodyPost_ret (v := .tuple #[.agg #[.int .i64 0, .int .i64 0, .string ⟨#[]⟩], .int .i64 0, .nilIface]) (by simp [results, Tryz.results195, go_sem]) rfl ⟨congrArg Ending.returned E.out.symm, (Below.refl _ _).alloc (Nat.le_refl _) _⟩
theorem first_word (s : ByteArray) (w : World) (hs : s.size <= 1000000) (h0 : 0 < s.size) (hc : Lx.letter s[0] = true) :
  Calls Tryz.prog 195 #[.string s] w fun e w' => e = .returned (Lx.tokV (Lx.firstTok (Lx.bl s))) /\ Below w.heap.size w w' := by
 obtain ⟨r, hr⟩ := Lx.bl_head? s h0;have hx := fun w => word_any s w hs
 have hf : Lx.firstTok (Lx.bl s) = Lx.wordTok (Lx.bl s) := by rw [hr, Lx.firstTok, if_pos hc]
 have he : s.toList.isEmpty = false := by rw [toList_bl, hr]; rfl
 rw [hf];generalize Lx.wordTok (Lx.bl s) = T at *;simp only [Lx.tokV] at hx ⊢;have HX : Hid _ := hx;clear hx hr hf;go_enter Tryz.func195, Tryz.ntmps195;go_wp2_with fail;refine (letter_any s[0] _).mono ?_;rw [hc];rintro e w' ⟨rfl, rfl⟩;go_wp2_with fail;refine (HX.out _).mono ?_;rintro e w1 ⟨rfl, hb⟩;have hblk := three_kept hb;have c0 := cell_of_block hblk 0 (.int .i64 0) rfl;have c1 := cell_of_block hblk 1 (.int .i64 0) rfl;have c2 := cell_of_block hblk 2 (.string ⟨#[]⟩) rfl;have f0 := free_of_block hblk 0;have f1 := free_of_block hblk 1;have f2 := free_of_block hblk 2;have HB := below_three (a := .int .i64 T.kind) (b := .int .i64 0) (c := .string (Lx.str T.text)) hb;clear hblk hb;go_wp2_with fail;exact bodyPost_ret (v := .tuple #[.agg #[.int .i64 T.kind, .int .i64 0, .string (Lx.str T.text)], .int .i64 T.size, Lx.errV T.err]) (by simp [results, Tryz.results195, go_sem, c0, c1, c2]) rfl ⟨rfl, HB⟩
theorem first_digits (s : ByteArray) (w : World) (hs : s.size <= 1000000) (h0 : 0 < s.size) (hc : Lx.letter s[0] = false) (hd : Lx.digit s[0] = true) :
  Calls Tryz.prog 195 #[.string s] w fun e w' => e = .returned (Lx.tokV (Lx.firstTok (Lx.bl s))) /\ Below w.heap.size w w' := by
 obtain ⟨r, hr⟩ := Lx.bl_head? s h0;have hx := fun w => digits_any s w hs
 have hf : Lx.firstTok (Lx.bl s) = Lx.digitsTok (Lx.bl s) := by rw [hr, Lx.firstTok, if_neg (by simp [hc]), if_pos hd]
 have he : s.toList.isEmpty = false := by rw [toList_bl, hr]; rfl
 rw [hf];generalize Lx.digitsTok (Lx.bl s) = T at *;simp only [Lx.tokV] at hx ⊢;have HX : Hid _ := hx;clear hx hr hf;go_enter Tryz.func195, Tryz.ntmps195;go_wp2_with fail;refine (letter_any s[0] _).mono ?_;rw [hc];rintro e w' ⟨rfl, rfl⟩;go_wp2_with fail;refine (digit_any s[0] _).mono ?_;rw [hd];rintro e w' ⟨rfl, rfl⟩;go_wp2_with fail;refine (HX.out _).mono ?_;rintro e w1 ⟨rfl, hb⟩;have hblk := three_kept hb;have c0 := cell_of_block hblk 0 (.int .i64 0) rfl;have c1 := cell_of_block hblk 1 (.int .i64 0) rfl;have c2 := cell_of_block hblk 2 (.string ⟨#[]⟩) rfl;have f0 := free_of_block hblk 0;have f1 := free_of_block hblk 1;have f2 := free_of_block hblk 2;have HB := below_three (a := .int .i64 T.kind) (b := .int .i64 0) (c := .string (Lx.str T.text)) hb;clear hblk hb;go_wp2_with fail;exact bodyPost_ret (v := .tuple #[.agg #[.int .i64 T.kind, .int .i64 0, .string (Lx.str T.text)], .int .i64 T.size, Lx.errV T.err]) (by simp [results, Tryz.results195, go_sem, c0, c1, c2]) rfl ⟨rfl, HB⟩
theorem first_quoted (s : ByteArray) (w : World) (hs : s.size <= 1000000) (h0 : 0 < s.size) (hc : Lx.letter s[0] = false) (hd : Lx.digit s[0] = false) (hq : s[0].toNat = 34) :
  Calls Tryz.prog 195 #[.string s] w fun e w' => e = .returned (Lx.tokV (Lx.firstTok (Lx.bl s))) /\ Below w.heap.size w w' := by
 obtain ⟨r, hr⟩ := Lx.bl_head? s h0;have hx := fun w => quoted_any s w hs h0
 have hf : Lx.firstTok (Lx.bl s) = Lx.quotedTok (Lx.bl s) := by rw [hr, Lx.firstTok, if_neg (by simp [hc]), if_neg (by simp [hd]), if_pos hq]
 have he : s.toList.isEmpty = false := by rw [toList_bl, hr]; rfl
 have g34 : ((s[0].toNat : Int) == 34) = true := by simp; omega
 rw [hf];generalize Lx.quotedTok (Lx.bl s) = T at *;simp only [Lx.tokV] at hx ⊢;have HX : Hid _ := hx;clear hx hr hf hq;go_enter Tryz.func195, Tryz.ntmps195;go_wp2_with fail;refine (letter_any s[0] _).mono ?_;rw [hc];rintro e w' ⟨rfl, rfl⟩;go_wp2_with fail;refine (digit_any s[0] _).mono ?_;rw [hd];rintro e w' ⟨rfl, rfl⟩;go_wp2_with fail;refine (HX.out _).mono ?_;rintro e w1 ⟨rfl, hb⟩;have hblk := three_kept hb;have c0 := cell_of_block hblk 0 (.int .i64 0) rfl;have c1 := cell_of_block hblk 1 (.int .i64 0) rfl;have c2 := cell_of_block hblk 2 (.string ⟨#[]⟩) rfl;have f0 := free_of_block hblk 0;have f1 := free_of_block hblk 1;have f2 := free_of_block hblk 2;have HB := below_three (a := .int .i64 T.kind) (b := .int .i64 0) (c := .string (Lx.str T.text)) hb;clear hblk hb;go_wp2_with fail;exact bodyPost_ret (v := .tuple #[.agg #[.int .i64 T.kind, .int .i64 0, .string (Lx.str T.text)], .int .i64 T.size, Lx.errV T.err]) (by simp [results, Tryz.results195, go_sem, c0, c1, c2]) rfl ⟨rfl, HB⟩
theorem first_sign (s : ByteArray) (w : World) (hs : s.size <= 1000000) (h0 : 0 < s.size) (hc : Lx.letter s[0] = false) (hd : Lx.digit s[0] = false) (hq : ¬ s[0].toNat = 34) :
  Calls Tryz.prog 195 #[.string s] w fun e w' => e = .returned (Lx.tokV (Lx.firstTok (Lx.bl s))) /\ Below w.heap.size w w' := by
 obtain ⟨r, hr⟩ := Lx.bl_head? s h0;have hx := fun w => sign_any s w hs h0
 have hf : Lx.firstTok (Lx.bl s) = Lx.signTok (Lx.bl s) := by rw [hr, Lx.firstTok, if_neg (by simp [hc]), if_neg (by simp [hd]), if_neg hq]
 have he : s.toList.isEmpty = false := by rw [toList_bl, hr]; rfl
 have g34 : ((s[0].toNat : Int) == 34) = false := by simp; omega
 rw [hf];generalize Lx.signTok (Lx.bl s) = T at *;simp only [Lx.tokV] at hx ⊢;have HX : Hid _ := hx;clear hx hr hf hq;go_enter Tryz.func195, Tryz.ntmps195;go_wp2_with fail;refine (letter_any s[0] _).mono ?_;rw [hc];rintro e w' ⟨rfl, rfl⟩;go_wp2_with fail;refine (digit_any s[0] _).mono ?_;rw [hd];rintro e w' ⟨rfl, rfl⟩;go_wp2_with fail;refine (HX.out _).mono ?_;rintro e w1 ⟨rfl, hb⟩;have hblk := three_kept hb;have c0 := cell_of_block hblk 0 (.int .i64 0) rfl;have c1 := cell_of_block hblk 1 (.int .i64 0) rfl;have c2 := cell_of_block hblk 2 (.string ⟨#[]⟩) rfl;have f0 := free_of_block hblk 0;have f1 := free_of_block hblk 1;have f2 := free_of_block hblk 2;have HB := below_three (a := .int .i64 T.kind) (b := .int .i64 0) (c := .string (Lx.str T.text)) hb;clear hblk hb;go_wp2_with fail;exact bodyPost_ret (v := .tuple #[.agg #[.int .i64 T.kind, .int .i64 0, .string (Lx.str T.text)], .int .i64 T.size, Lx.errV T.err]) (by simp [results, Tryz.results195, go_sem, c0, c1, c2]) rfl ⟨rfl, HB⟩
theorem first_any (s : ByteArray) (w : World) (hs : s.size <= 1000000) :
  Calls Tryz.prog 195 #[.string s] w fun e w' => e = .returned (Lx.tokV (Lx.firstTok (Lx.bl s))) /\ Below w.heap.size w w' := by
 by_cases h0 : 0 < s.size
 ·cases hc : Lx.letter s[0]
  ·cases hd : Lx.digit s[0]
   ·by_cases hq : s[0].toNat = 34
    ·exact first_quoted s w hs h0 hc hd hq
    ·exact first_sign s w hs h0 hc hd hq
   ·exact first_digits s w hs h0 hc hd
  ·exact first_word s w hs h0 hc
 ·exact first_nil s w (by omega)
end Go.Proofs.YtcekcfjabhlheaaGreatDoor
namespace Go.Proofs.YtcekcfjabhlheaaGreatDoor
open Go.RowKit
attribute [local go_sem ↓] Go.wp_at_zero Go.wp_at_succ
theorem grown_below {w w1 : World} (h : Below w.heap.size w w1) (row : Option Nat) : w.grownBy w1 row := ⟨h.os, h.tape, h.output, h.size, fun k hk _ => h.block k hk⟩
theorem grown_trans {w w1 w2 : World} {row : Option Nat} (h : w.grownBy w1 row) (k : w1.grownBy w2 row) : w.grownBy w2 row :=
 ⟨k.os.trans h.os, k.tape.trans h.tape, k.output.trans h.output, Nat.le_trans h.size k.size, fun j hj hr => (k.block j (Nat.lt_of_lt_of_le hj h.size) hr).trans (h.block j hj hr)⟩
theorem grown_set (w : World) (a : Addr) (v : Value) : w.grownBy (w.setCell a v) (some a.block) :=
 ⟨rfl, rfl, rfl, by simp, fun k _ hr => Below.heap_setCell w a v k (fun e => hr (by rw [e]))⟩
theorem grown_set_new {w w1 : World} {row : Option Nat} (h : w.grownBy w1 row) (a : Addr) (v : Value) (ha : w.heap.size <= a.block) : w.grownBy (w1.setCell a v) row :=
 ⟨h.os, h.tape, h.output, by have := h.size; simpa using this, fun k hk hr => (Below.heap_setCell w1 a v k (by omega)).trans (h.block k hk hr)⟩
theorem grown_drew (w : World) (row : Option Nat) : w.grownBy w.drew row := ⟨rfl, rfl, rfl, Nat.le_refl _, fun _ _ _ => rfl⟩
theorem Lx.qt_size (l : List UInt8) (k : Nat) (acc : List UInt8) : (Lx.qt l k acc).size <= k + l.length := by
 induction h : l.length using Nat.strongRecOn generalizing l k acc with
 | ind n ih =>
  cases l with
  | nil => rw [Lx.qt_nil]; simp [Lx.bad]
  | cons c r =>
   rw [Lx.qt_cons];split
   ·split <;> simp [Lx.bad] at *; omega
   ·split
    ·simp [Lx.bad]
    ·have hle := Lx.unq_le (c :: r) (by simp);have hlen : (List.drop (Lx.unq (c :: r)).2 (c :: r)).length = (c :: r).length - (Lx.unq (c :: r)).2 := List.length_drop;have := ih _ (by rw [<- h, hlen]; simp only [List.length_cons] at *; omega) (List.drop (Lx.unq (c :: r)).2 (c :: r)) (k + (Lx.unq (c :: r)).2) (acc ++ [(Lx.unq (c :: r)).1]) rfl;rw [hlen] at this;omega
theorem Lx.first_size (l : List UInt8) : (Lx.firstTok l).size <= l.length := by
 cases l with
 | nil => exact Nat.le_refl _
 | cons c r =>
  rw [Lx.firstTok];split
  ·rw [Lx.wordTok]; split
   ·simp [Lx.bad]
   ·exact Lx.plen_le _ _
  ·split
   ·rw [Lx.digitsTok]; split
    ·simp [Lx.bad]
    ·exact Lx.plen_le _ _
   ·split
    ·rw [Lx.quotedTok];have := Lx.qt_size ((c :: r).drop 1) 1 [];simp only [List.drop_succ_cons, List.drop_zero, List.length_cons] at *;omega
    ·rw [Lx.signTok]; split
     ·rename_i h;have := congrArg List.length h;simp only [List.length_take, List.length_cons, List.length_nil] at *;omega
     ·split
      ·simp [Lx.bad]
      ·simp
theorem Lx.gap_le (r : Bool) (l : List UInt8) : Lx.gapLen r l <= l.length := by
 induction l generalizing r with
 | nil => exact Nat.le_refl _
 | cons b t ih => rw [Lx.gapLen]; split <;> simp; exact ih _
theorem after_gap {w w1 : World} {o o' : Obj} {A : Nat} (hA : w.heap[A]? = some o') (hb : Below (w.alloc o).drew.heap.size (w.alloc o).drew w1) : w1.heap[A]? = some o' := by
 have lA : A < w.heap.size := (Array.getElem?_eq_some_iff.1 hA).1;rw [hb.block A (by simp; omega)];exact (heap_alloc_old w o lA).trans hA
theorem set_one {w : World} {g : Nat} {u v : Value} {e : TypeId} (h : w.heap[g]? = some (.cells #[u] e (0, 0))) : (w.setCell ⟨g, 0, none⟩ v).heap[g]? = some (.cells #[v] e (0, 0)) := one_setCell h
theorem cut_rel {w w1 : World} {A B k g : Nat} {s : ByteArray} {o : Obj} (hne : A ≠ B) (lA : A < w.heap.size)
  (hA1 : w1.heap[A]? = some (.cells #[.int .i64 k] 3 (0, 0))) (hB1 : w1.heap[B]? = some (.cells #[.string s] 9 (0, 0))) (hb : Below (w.alloc o).drew.heap.size (w.alloc o).drew w1) :
  (w1.setCell ⟨A, 0, none⟩ (.int .i64 ((k : Int) + (g : Int)))).heap[A]? = some (.cells #[.int .i64 (k + g : Nat)] 3 (0, 0)) /\
  (w1.setCell ⟨A, 0, none⟩ (.int .i64 ((k : Int) + (g : Int)))).heap[B]? = some (.cells #[.string s] 9 (0, 0)) /\
  (w1.setCell ⟨A, 0, none⟩ (.int .i64 ((k : Int) + (g : Int)))).heap[w.heap.size]? = some o /\ w.grownBy (w1.setCell ⟨A, 0, none⟩ (.int .i64 ((k : Int) + (g : Int)))) (some A) := by
 refine ⟨set_one hA1, ?_, ?_, ?_⟩
 ·rw [Below.heap_setCell _ _ _ _ (Ne.symm hne)]; exact hB1
 ·rw [Below.heap_setCell _ _ _ _ (by show w.heap.size ≠ A; omega), hb.block w.heap.size (by simp)];exact heap_alloc_new w o
 ·refine grown_trans (grown_trans (World.grownBy_alloc w o _) (grown_trans (grown_drew _ _) (grown_below hb _))) (grown_set w1 ⟨A, 0, none⟩ _)
theorem find_any (s : ByteArray) (A B k : Nat) (w : World) (hs : s.size <= 1000000) (hk : k <= s.size) (hne : A ≠ B)
  (hA : w.heap[A]? = some (.cells #[.int .i64 k] 3 (0, 0))) (hB : w.heap[B]? = some (.cells #[.string s] 9 (0, 0))) :
  Calls Tryz.prog 193 #[.pointer (some ⟨A, 0, none⟩), .pointer (some ⟨B, 0, none⟩)] w fun e w' => ∃ (a : Nat) (T : Lx.Tok),
   a = k + Lx.gapLen false ((Lx.bl s).drop k) /\ T = Lx.firstTok ((Lx.bl s).drop a) /\
   e = .returned (.tuple #[.agg #[.int .i64 T.kind, .int .i64 a, .string (Lx.str T.text)], Lx.errV T.err]) /\
   w'.heap[A]? = some (.cells #[.int .i64 (a + T.size : Nat)] 3 (0, 0)) /\ w.grownBy w' (some A) := by
 have cA := cell_of_block hA 0 (.int .i64 k) rfl;have cB := cell_of_block hB 0 (.string s) rfl;have fA := free_of_block hA 0;have lA : A < w.heap.size := (Array.getElem?_eq_some_iff.1 hA).1;have lB : B < w.heap.size := (Array.getElem?_eq_some_iff.1 hB).1;have nA := World.new_ne w ⟨A, 0, none⟩ cA;have nB := World.new_ne w ⟨B, 0, none⟩ cB;have hk0 : (0 : Int) <= (k : Int) := by omega
 have hk1 : (k : Int) <= (s.size : Int) := by omega
 have HA : Hid _ := hA;have HB : Hid _ := hB;clear hA hB;have hx := fun w => gap_any (s.extract k s.size) w (by simp; omega)
 rw [bl_rest] at hx;have hg := Lx.gap_le false ((Lx.bl s).drop k);rw [List.length_drop, Lx.length_bl] at hg;refine Calls.mono ?_ (fun e w' h => (⟨_, _, rfl, rfl, h⟩ : ∃ (a : Nat) (T : Lx.Tok), a = k + Lx.gapLen false ((Lx.bl s).drop k) /\ T = Lx.firstTok ((Lx.bl s).drop a) /\
   e = .returned (.tuple #[.agg #[.int .i64 T.kind, .int .i64 a, .string (Lx.str T.text)], Lx.errV T.err]) /\
   w'.heap[A]? = some (.cells #[.int .i64 (a + T.size : Nat)] 3 (0, 0)) /\ w.grownBy w' (some A)))
 generalize Lx.gapLen false ((Lx.bl s).drop k) = g at *;have HX : Hid _ := hx;clear hx;have hwr : IntKind.i64.wrap ((k : Int) + (g : Int)) = (k : Int) + (g : Int) := by
  rw [IntKind.wrap]; simp [IntKind.signed, IntKind.bits]; omega
 have hy := fun w => first_any (s.extract (k + g) s.size) w (by simp; omega)
 rw [bl_rest] at hy;simp only [Lx.tokV] at hy;have hT := Lx.first_size ((Lx.bl s).drop (k + g));rw [List.length_drop, Lx.length_bl] at hT;generalize Lx.firstTok ((Lx.bl s).drop (k + g)) = T at *;have HY : Hid _ := hy;clear hy;go_enter Tryz.func193, Tryz.ntmps193;go_wp2_with fail;go_cut [] (fun wr => wr.heap[A]? = some (.cells #[.int .i64 (k + g : Nat)] 3 (0, 0)) /\ wr.heap[B]? = some (.cells #[.string s] 9 (0, 0)) /\ wr.heap[w.heap.size]? = some (.cells #[.int .i64 0, .int .i64 0, .string ⟨#[]⟩] 218 (0, 0)) /\ w.grownBy wr (some A))
 case first =>
  go_region_with (first | (go_at_call 194; refine (HX.out _).mono ?_; rintro e w1 ⟨rfl, hb⟩; have hA1 := after_gap HA.out hb; have hB1 := after_gap HB.out hb; have cA1 := cell_of_block hA1 0 (.int .i64 k) rfl; have cB1 := cell_of_block hB1 0 (.string s) rfl; have fA1 := free_of_block hA1 0))
  all_goals (go_wp2_with fail; go_meet; exact cut_rel hne lA hA1 hB1 hb)
 case rest =>
  obtain ⟨hA2, hB2, hC2, hg2⟩ := hcut;clear hwr HX cA cB fA nA nB HA HB;have cA := cell_of_block hA2 0 (.int .i64 (k + g : Nat)) rfl;have cB := cell_of_block hB2 0 (.string s) rfl;have lA2 : A < wc.heap.size := (Array.getElem?_eq_some_iff.1 hA2).1;have lC2 : w.heap.size < wc.heap.size := (Array.getElem?_eq_some_iff.1 hC2).1;go_wp2_with fail;refine (HY.out _).mono ?_;rintro e w3 ⟨rfl, hb3⟩;have hA3 := (hb3.block A lA2).trans hA2;have hC3 := (hb3.block w.heap.size lC2).trans hC2;have hg3 := grown_trans hg2 (grown_below hb3 (some A));have hs3 := hb3.size;have aA := cell_of_block hA3 0 (.int .i64 (k + g : Nat)) rfl;have fA := free_of_block hA3 0;have c0 := cell_of_block hC3 0 (.int .i64 0) rfl;have c1 := cell_of_block hC3 1 (.int .i64 0) rfl;have c2 := cell_of_block hC3 2 (.string ⟨#[]⟩) rfl;have f0 := free_of_block hC3 0;have f1 := free_of_block hC3 1;have f2 := free_of_block hC3 2;have lA3 : A < w3.heap.size := by omega
  have lC3 : w.heap.size < w3.heap.size := by omega
  have HA3 : Hid _ := hA3;have HG3 : Hid _ := hg3;clear hb3 hA2 hB2 hC2 hg2 cA cB hA3 hC3 hg3 hs3 lA2 lC2 lB;go_wp2_with fail;refine bodyPost_ret (v := .tuple #[.agg #[.int .i64 T.kind, .int .i64 ((k : Int) + (g : Int)), .string (Lx.str T.text)], Lx.errV T.err]) (by simp [results, Tryz.results193, go_sem, c0, c1, c2, lC3]) rfl ⟨rfl, ?_, ?_⟩
  ·rw [heap_alloc_old _ _ (by simpa using lA3), Below.heap_setCell _ _ _ _ (by show A ≠ w.heap.size; omega), Below.heap_setCell _ _ _ _ (by show A ≠ w.heap.size; omega), Below.heap_setCell _ _ _ _ (by show A ≠ w.heap.size; omega)];exact set_one HA3.out
  ·refine grown_trans ?_ (World.grownBy_alloc _ _ _);exact grown_set_new (grown_set_new (grown_set_new (grown_trans HG3.out (grown_set w3 ⟨A, 0, none⟩ _)) _ _ (Nat.le_refl _)) _ _ (Nat.le_refl _)) _ _ (Nat.le_refl _)
end Go.Proofs.YtcekcfjabhlheaaGreatDoor
