/- StateSays: VL VM VN. -/
import Derived.Test.YtcekcfjabhlheaaGreatDoorVJ
import Derived.Test.YtcekcfjabhlheaaGreatDoorUL
import Derived.Lib.Builder
import Derived.Lib.Bytealg
set_option maxRecDepth 100000
set_option maxHeartbeats 1600000
namespace Go.Proofs.YtcekcfjabhlheaaGreatDoor.Vx
open Go.RowKit
theorem info5 : (Tryz.prog.info? 5).map (fun i => (i.zero, i.size, i.bytes)) = some (some (.int .u8 0), 1, 1) := by kernel_rfl
theorem own_shape {w : World} {b e n m : Nat} {v : Value} {xs : List Value} (h : w.ownsRow b e m v n xs) : ∃ ao cap, v = .slice ao n cap := by
 rcases h.2 with ⟨hv, h0⟩ | ⟨g, cap, cur, hv, _⟩
 ·exact ⟨none, 0, by rw [hv, h0]⟩
 ·exact ⟨_, _, hv⟩
theorem bldSize : (Tryz.prog.info? 101).map (·.size) = some 2 := by kernel_rfl
theorem bldLies : liesAt Tryz.prog Tryz.prog.depth 101 (2 / Tryz.prog.cellsOf 101) 0 101 1 = true := by kernel_rfl
theorem callNoEscape (x : Value) (w : World) : (callFunc 96 #[x]).run Tryz.prog w = .ok (.value x) w := by
 rw [run_callFunc_extern Tryz.func96 (by kernel_rfl) (by kernel_rfl) (by kernel_rfl) (e := Extern.AbiNoEscape.same) (by kernel_rfl), Lib.run_noEscape];rfl
theorem check_fresh (b : Nat) (w : World) (h0 : w.cell? ⟨b, 0, none⟩ = some (.pointer none)) (hsh : w.shape? b = some (101, 2)) (hfz : w.frozen? ⟨b, 0, none⟩ = false) :
  Calls Tryz.prog 80 #[.pointer (some ⟨b, 0, none⟩)] w fun e w' => e = .returned (.tuple #[]) /\ w' = w.setCell ⟨b, 0, none⟩ (.pointer (some ⟨b, 0, none⟩)) := by
 obtain ⟨j, hj, hjs⟩ := Option.map_eq_some_iff.1 bldSize;have k1 := Lib.run_to_unsafe (P := Tryz.prog) (src := 98) (dst := 136) w ⟨b, 0, none⟩ Tryz.underlying98 Tryz.underlying136 hj (by rw [hjs]; decide) hsh (Nat.zero_lt_succ 1);have k2 := Lib.run_from_unsafe (P := Tryz.prog) (src := 136) (dst := 98) w ⟨b, 0, none⟩ Tryz.underlying136 Tryz.underlying98 hj hsh bldLies;have k3 := callNoEscape;go_enter Tryz.func80, Tryz.ntmps80
 go_wp2
 go_end0;exact ⟨rfl, rfl⟩
theorem check_used (b : Nat) (w : World) (h0 : w.cell? ⟨b, 0, none⟩ = some (.pointer (some ⟨b, 0, none⟩))) :
  Calls Tryz.prog 80 #[.pointer (some ⟨b, 0, none⟩)] w fun e w' => e = .returned (.tuple #[]) /\ w' = w := by
 obtain ⟨j, hj, hjs⟩ := Option.map_eq_some_iff.1 bldSize;have k1 := fun w : World => Lib.run_neq_ptr_same (P := Tryz.prog) w (tp := 98) (te := 101) ⟨b, 0, none⟩ Tryz.underlying98 hj
 go_enter Tryz.func80, Tryz.ntmps80
 go_wp2
 go_end0;exact ⟨rfl, rfl⟩
theorem copyCheck_any (B b : Nat) (bs : List Value) (w : World) (h : Lib.IsBuilder 101 5 B b bs w) :
  Calls Tryz.prog 80 #[.pointer (some ⟨b, 0, none⟩)] w fun e w' => e = .returned (.tuple #[]) /\ Lib.BuilderAt 101 5 B b (.pointer (some ⟨b, 0, none⟩)) bs w' /\ Below B w w' := by
 rcases h with h | h
 ·refine (check_fresh b w h.cell0 h.shape h.frozen0).mono ?_;rintro e w' ⟨rfl, rfl⟩;exact ⟨rfl, h.used _, (Below.refl B w).setCell (p := ⟨b, 0, none⟩) h.1 _⟩
 ·refine (check_used b w h.cell0).mono ?_;rintro e w' ⟨rfl, rfl⟩;exact ⟨rfl, h, Below.refl B _⟩
theorem writeByte_any (B b : Nat) (bs : List Value) (c : Int) (w : World) (h : Lib.IsBuilder 101 5 B b bs w) (hlen : bs.length + 1 <= 1000000000) (hBw : B <= w.heap.size) :
  Calls Tryz.prog 135 #[.pointer (some ⟨b, 0, none⟩), .int .u8 c] w fun e w' => e = .returned .nilIface /\ Lib.BuilderAt 101 5 B b (.pointer (some ⟨b, 0, none⟩)) (bs ++ [.int .u8 c]) w' /\ Below B w w' := by
 obtain ⟨i0, hi, hz0, hz1, hz2⟩ := info_parts info5;go_enter Tryz.func135, Tryz.ntmps135;go_wp2_with fail;refine (copyCheck_any B b bs _ h).mono ?_;rintro e w1 ⟨rfl, ⟨hB, v, hbk, hown, hne⟩, hb1⟩;have c0 := cell_of_block hbk 0 (.pointer (some ⟨b, 0, none⟩)) rfl;have c1 := cell_of_block hbk 1 v rfl;have hlt := blt hbk;have hs1 := hb1.size;have HBK : Hid _ := hbk;clear hbk;go_wp2_with (at_builtin; go_must (refine wpList_append_lies _ rfl (.tmp 11) (.tmp 13) 99 rfl B 5 i0 (.int .u8 0) 1 1 Tryz.underlying99 hi hz0 hz1 hz2 rfl (by decide) v bs.length bs rfl (hown.alloc _) ⟨w1.heap.size, 0, none⟩ 1 1 [.int .u8 c] rfl rfl (news_alloc _ _ _ _ rfl) (by simp [Value.oneCell']) (by decide) (by unfold maxLen; omega) (by omega) (by simp; omega) _ rfl ?_); intro g cap' w2 hown2 hgrow hat hlt2; have hb2 := (hgrow.block b (by simp; omega) (fun e => hne e.symm)).trans ((heap_alloc_old w1 _ hlt).trans HBK.out); have d1 := cell_of_block hb2 1 v rfl; have f1 := free_of_block hb2 1);go_ret;refine ⟨rfl, ?_, ?_⟩
 ·exact Lib.BuilderAt.put (T := 101) (e := 5) hB hb2 (bs' := bs ++ [.int .u8 c]) (by simpa using hown2) (by decide)
 ·exact ((hb1.alloc (by omega) _).grown hgrow (by simp; omega) (fun k hk => (hown.lt k hk).1)).setCell (p := ⟨b, 1, none⟩) hB _
theorem writeString_any (B b : Nat) (bs : List Value) (s : ByteArray) (w : World) (h : Lib.IsBuilder 101 5 B b bs w) (hlen : bs.length + s.size <= 1000000000) (hBw : B <= w.heap.size) :
  Calls Tryz.prog 59 #[.pointer (some ⟨b, 0, none⟩), .string s] w fun e w' => e = .returned (.tuple #[.int .i64 s.size, .nilIface]) /\ Lib.BuilderAt 101 5 B b (.pointer (some ⟨b, 0, none⟩)) (bs ++ Lib.strCells s) w' /\ Below B w w' := by
 obtain ⟨i0, hi, hz0, hz1, hz2⟩ := info_parts info5;go_enter Tryz.func59, Tryz.ntmps59;go_wp2_with fail;refine (copyCheck_any B b bs _ h).mono ?_;rintro e w1 ⟨rfl, ⟨hB, v, hbk, hown, hne⟩, hb1⟩;have c0 := cell_of_block hbk 0 (.pointer (some ⟨b, 0, none⟩)) rfl;have c1 := cell_of_block hbk 1 v rfl;have hlt := blt hbk;have hs1 := hb1.size;have HBK : Hid _ := hbk;clear hbk;go_wp2_with (at_builtin; go_must (refine Lib.wpList_append_own_string _ rfl _ _ 99 9 rfl B 5 i0 Tryz.underlying99 Tryz.underlying9 hi hz0 hz1 hz2 _ _ _ rfl hown s rfl (by unfold maxLen; omega) (by omega) (by omega) ?_); intro v' w2 hown2 hgrow hat; obtain ⟨ao, cap, rfl⟩ := own_shape hown2; have hb2 := (hgrow.block b hlt (fun e => hne e.symm)).trans HBK.out; have d1 := cell_of_block hb2 1 v rfl; have f1 := free_of_block hb2 1);go_ret2;refine ⟨rfl, ?_, ?_⟩
 ·exact Lib.BuilderAt.put (T := 101) (e := 5) hB hb2 (bs' := bs ++ Lib.strCells s) (by simpa [Lib.strCells_length] using hown2) (by decide)
 ·exact (hb1.grown hgrow (by omega) (fun k hk => (hown.lt k hk).1)).setCell (p := ⟨b, 1, none⟩) hB _
theorem string_any (B b : Nat) (l : List UInt8) (w : World) (h : Lib.IsBuilder 101 5 B b (Lib.byteCells l) w) (hBw : B <= w.heap.size) :
  Calls Tryz.prog 64 #[.pointer (some ⟨b, 0, none⟩)] w fun e w' => e = .returned (.string (V.str l)) /\ Below B w w' := sh_Builder_String_any B b l w h hBw
theorem byteCells_snoc (l : List UInt8) (c : UInt8) : Lib.byteCells l ++ [.int .u8 c.toNat] = Lib.byteCells (l ++ [c]) := by simp [Lib.byteCells]
theorem byteCells_str (l : List UInt8) (s : ByteArray) : Lib.byteCells l ++ Lib.strCells s = Lib.byteCells (l ++ V.bl s) := by simp [Lib.byteCells, Lib.strCells, V.bl]
theorem writeByte_list (B b : Nat) (l : List UInt8) (c : UInt8) (w : World) (h : Lib.IsBuilder 101 5 B b (Lib.byteCells l) w) (hlen : l.length + 1 <= 1000000000) (hBw : B <= w.heap.size) :
  Calls Tryz.prog 135 #[.pointer (some ⟨b, 0, none⟩), .int .u8 c.toNat] w fun e w' => e = .returned .nilIface /\ Lib.IsBuilder 101 5 B b (Lib.byteCells (l ++ [c])) w' /\ Below B w w' := by
 refine (writeByte_any B b _ c.toNat w h (by rw [Lib.byteCells_length]; exact hlen) hBw).mono ?_;rintro e w' ⟨rfl, h1, hb⟩;rw [byteCells_snoc] at h1;exact ⟨rfl, .inr h1, hb⟩
theorem writeString_list (B b : Nat) (l : List UInt8) (s : ByteArray) (w : World) (h : Lib.IsBuilder 101 5 B b (Lib.byteCells l) w) (hlen : l.length + s.size <= 1000000000) (hBw : B <= w.heap.size) :
  Calls Tryz.prog 59 #[.pointer (some ⟨b, 0, none⟩), .string s] w fun e w' => e = .returned (.tuple #[.int .i64 s.size, .nilIface]) /\ Lib.IsBuilder 101 5 B b (Lib.byteCells (l ++ V.bl s)) w' /\ Below B w w' := by
 refine (writeString_any B b _ s w h (by rw [Lib.byteCells_length]; exact hlen) hBw).mono ?_;rintro e w' ⟨rfl, h1, hb⟩;rw [byteCells_str] at h1;exact ⟨rfl, .inr h1, hb⟩
theorem V.take_snoc (s : ByteArray) (k : Nat) (h : k < s.size) : (V.bl s).take (k + 1) = (V.bl s).take k ++ [s[k]] := by
 rw [List.take_add_one, V.bl_get s k h]; rfl
theorem V.flat_snoc (s : ByteArray) (k : Nat) (h : k < s.size) : [34] ++ ((V.bl s).take (k + 1)).flatMap V.quoteB = [34] ++ ((V.bl s).take k).flatMap V.quoteB ++ V.quoteB s[k] := by
 rw [V.take_snoc s k h, List.flatMap_append]; simp
theorem hex_at2 (n : Nat) (h : n < 16) : (⟨#[48, 49, 50, 51, 52, 53, 54, 55, 56, 57, 97, 98, 99, 100, 101, 102]⟩ : ByteArray)[n]'h = V.hexd n := hex_lit ⟨n, h⟩
theorem quote_any (s : ByteArray) (w : World) (hs : s.size <= 2000000) :
  Calls Tryz.prog 114 #[.string s] w fun e w' => e = .returned (.string (V.str (V.quote (V.bl s)))) /\ Below w.heap.size w w' := by
 have hbl : Below w.heap.size w (w.alloc (.cells #[.pointer none, .slice none 0 0] 101)) := ba;have hf := Lib.fresh_isBuilder 101 5 w;go_enter Tryz.func114, Tryz.ntmps114;go_wp2_with fail;refine (writeByte_list w.heap.size w.heap.size [] 34 _ hf (by simp) (by simp)).mono ?_;rintro e w1 ⟨rfl, h1, hb1⟩;have hB1 := hbl.trans hb1;clear hf hb1 hbl;go_wp2_with fail;go_loopw [9, 4, 5] (fun i _ _ wr => ∃ k : Nat, k <= s.size /\ i = .int .i64 k /\ Lib.IsBuilder 101 5 w.heap.size w.heap.size (Lib.byteCells ([34] ++ ((V.bl s).take k).flatMap V.quoteB)) wr /\ Below w.heap.size w wr) (fun i _ _ _ => s.size - (intOf i).toNat)
 case atStart => exact ⟨0, Nat.zero_le _, rfl, by simpa using h1, hB1⟩
 case round =>
  obtain ⟨k, hk, rfl, hb, hB⟩ := hrel;clear h1 hB1;have hsz := hB.size;by_cases hlt : k < s.size
  ·have hfl := V.flat_len ((V.bl s).take k);have htl : ((V.bl s).take k).length <= k := List.length_take_le _ _;have hsn := V.flat_snoc s k hlt;have HSN : Hid _ := hsn;clear hsn;by_cases hq : s[k].toNat = 34 \/ s[k].toNat = 92
   ·have hqb : V.quoteB s[k] = [92, s[k]] := by rw [V.quoteB, if_pos hq]
    have HQB : Hid _ := hqb;have L1 : ([34] ++ ((V.bl s).take k).flatMap V.quoteB).length + 4 <= 1000000000 := by rw [List.length_append]; simp only [List.length_cons, List.length_nil]; omega
    generalize [34] ++ ((V.bl s).take k).flatMap V.quoteB = acc at *;clear hqb;by_cases h34 : s[k].toNat = 34
    ·have g34 : ((s[k].toNat : Int) == 34) = true := by simp; omega
     clear hq h34;go_wp2_with fail;refine (writeByte_list w.heap.size w.heap.size acc 92 _ hb (by omega) hsz).mono ?_;rintro e w2 ⟨rfl, h2, hb2⟩;have hs2 := hb2.size;go_wp2_with fail;refine (writeByte_list w.heap.size w.heap.size (acc ++ [92]) s[k] _ h2 (by simp; omega) (by omega)).mono ?_;rintro e w3 ⟨rfl, h3, hb3⟩;have hB3 := (hB.trans hb2).trans hb3;clear hB hb2 hb3 h2 hb;go_wp2_with fail;go_roundw
     case rel => exact ⟨k + 1, by omega, by go_num, by rw [HSN.out, HQB.out]; simpa using h3, hB3⟩
     case measure => simp [intOf]; omega
    ·have g34 : ((s[k].toNat : Int) == 34) = false := by simp; omega
     have g92 : ((s[k].toNat : Int) == 92) = true := by simp; omega
     clear hq h34;go_wp2_with fail;refine (writeByte_list w.heap.size w.heap.size acc 92 _ hb (by omega) hsz).mono ?_;rintro e w2 ⟨rfl, h2, hb2⟩;have hs2 := hb2.size;go_wp2_with fail;refine (writeByte_list w.heap.size w.heap.size (acc ++ [92]) s[k] _ h2 (by simp; omega) (by omega)).mono ?_;rintro e w3 ⟨rfl, h3, hb3⟩;have hB3 := (hB.trans hb2).trans hb3;clear hB hb2 hb3 h2 hb;go_wp2_with fail;go_roundw
     case rel => exact ⟨k + 1, by omega, by go_num, by rw [HSN.out, HQB.out]; simpa using h3, hB3⟩
     case measure => simp [intOf]; omega
   ·have g34 : ((s[k].toNat : Int) == 34) = false := by simp; omega
    have g92 : ((s[k].toNat : Int) == 92) = false := by simp; omega
    by_cases hx : s[k].toNat < 32 \/ 126 < s[k].toNat
    ·have hqb : V.quoteB s[k] = [92, 120] ++ [V.hexd (s[k].toNat / 16), V.hexd (s[k].toNat % 16)] := by rw [V.quoteB, if_neg hq, if_neg (by omega)]; rfl
     have HQB : Hid _ := hqb;have L1 : ([34] ++ ((V.bl s).take k).flatMap V.quoteB).length + 4 <= 1000000000 := by rw [List.length_append]; simp only [List.length_cons, List.length_nil]; omega
     generalize [34] ++ ((V.bl s).take k).flatMap V.quoteB = acc at *;have hd1 : s[k].toNat / 16 < 16 := by have := s[k].toNat_lt; omega
     have hd2 : s[k].toNat % 16 < 16 := by omega
     clear hqb hq;by_cases hx1 : s[k].toNat < 32
     ·clear hx;go_wp2_with fail;refine (writeString_list w.heap.size w.heap.size acc ⟨#[92, 120]⟩ _ hb (by rw [show (⟨#[92, 120]⟩ : ByteArray).size = 2 from rfl]; omega) hsz).mono ?_;rintro e w2 ⟨rfl, h2, hb2⟩;have hs2 := hb2.size;rw [show V.bl ⟨#[92, 120]⟩ = [92, 120] from rfl] at h2;go_wp2_with fail;refine (writeByte_list w.heap.size w.heap.size (acc ++ [92, 120]) _ _ h2 (by simp; omega) (by omega)).mono ?_;rintro e w3 ⟨rfl, h3, hb3⟩;have hs3 := hb3.size;rw [hex_at2 _ hd1] at h3;go_wp2_with fail;refine (writeByte_list w.heap.size w.heap.size (acc ++ [92, 120] ++ [V.hexd (s[k].toNat / 16)]) _ _ h3 (by simp; omega) (by omega)).mono ?_;rintro e w4 ⟨rfl, h4, hb4⟩;rw [hex_at2 _ hd2] at h4;have hB4 := ((hB.trans hb2).trans hb3).trans hb4;clear hB hb2 hb3 hb4 h2 h3 hb;go_wp2_with fail;go_roundw
      case rel => exact ⟨k + 1, by omega, by go_num, by rw [HSN.out, HQB.out]; simpa using h4, hB4⟩
      case measure => simp [intOf]; omega
     ·have hx2 : 126 < s[k].toNat := by omega
      clear hx;go_wp2_with fail;refine (writeString_list w.heap.size w.heap.size acc ⟨#[92, 120]⟩ _ hb (by rw [show (⟨#[92, 120]⟩ : ByteArray).size = 2 from rfl]; omega) hsz).mono ?_;rintro e w2 ⟨rfl, h2, hb2⟩;have hs2 := hb2.size;rw [show V.bl ⟨#[92, 120]⟩ = [92, 120] from rfl] at h2;go_wp2_with fail;refine (writeByte_list w.heap.size w.heap.size (acc ++ [92, 120]) _ _ h2 (by simp; omega) (by omega)).mono ?_;rintro e w3 ⟨rfl, h3, hb3⟩;have hs3 := hb3.size;rw [hex_at2 _ hd1] at h3;go_wp2_with fail;refine (writeByte_list w.heap.size w.heap.size (acc ++ [92, 120] ++ [V.hexd (s[k].toNat / 16)]) _ _ h3 (by simp; omega) (by omega)).mono ?_;rintro e w4 ⟨rfl, h4, hb4⟩;rw [hex_at2 _ hd2] at h4;have hB4 := ((hB.trans hb2).trans hb3).trans hb4;clear hB hb2 hb3 hb4 h2 h3 hb;go_wp2_with fail;go_roundw
      case rel => exact ⟨k + 1, by omega, by go_num, by rw [HSN.out, HQB.out]; simpa using h4, hB4⟩
      case measure => simp [intOf]; omega
    ·have hqb : V.quoteB s[k] = [s[k]] := by rw [V.quoteB, if_neg hq, if_pos (by omega)]
     have HQB : Hid _ := hqb;have L1 : ([34] ++ ((V.bl s).take k).flatMap V.quoteB).length + 4 <= 1000000000 := by rw [List.length_append]; simp only [List.length_cons, List.length_nil]; omega
     generalize [34] ++ ((V.bl s).take k).flatMap V.quoteB = acc at *;have hx1 : 32 <= s[k].toNat := by omega
     have hx2 : s[k].toNat <= 126 := by omega
     clear hqb hq hx;go_wp2_with fail;refine (writeByte_list w.heap.size w.heap.size acc s[k] _ hb (by omega) hsz).mono ?_;rintro e w3 ⟨rfl, h3, hb3⟩;have hB3 := hB.trans hb3;clear hB hb3 hb;go_wp2_with fail;go_roundw
     case rel => exact ⟨k + 1, by omega, by go_num, by rw [HSN.out, HQB.out]; exact h3, hB3⟩
     case measure => simp [intOf]; omega
  ·have hfl := V.flat_len (V.bl s);rw [V.length_bl] at hfl;rw [List.take_of_length_le (by rw [V.length_bl]; omega)] at hb;have L1 : ([34] ++ (V.bl s).flatMap V.quoteB).length + 4 <= 1000000000 := by rw [List.length_append]; simp only [List.length_cons, List.length_nil]; omega
   have HQ : Hid (V.quote (V.bl s) = [34] ++ (V.bl s).flatMap V.quoteB ++ [34]) := by show _ = _; rw [V.quote]; simp
   generalize [34] ++ (V.bl s).flatMap V.quoteB = acc at *;go_wp2_with fail;refine (writeByte_list w.heap.size w.heap.size acc 34 _ hb (by omega) hsz).mono ?_;rintro e w2 ⟨rfl, h2, hb2⟩;have hs2 := hb2.size;go_wp2_with fail;refine (string_any w.heap.size w.heap.size (acc ++ [34]) _ h2 (by omega)).mono ?_;rintro e w3 ⟨rfl, hb3⟩;go_wp2_with fail;go_ret;exact ⟨by rw [HQ.out]; rfl, (hB.trans hb2).trans hb3⟩
namespace V
def trueB : List UInt8 := [116, 114, 117, 101]
def falseB : List UInt8 := [102, 97, 108, 115, 101]
def nullB : List UInt8 := [110, 117, 108, 108]
def text : Nat -> Val -> List UInt8
 | 0, _ => []
 | m + 1, v => if v.kind = 1 then Lib.itoa v.n else if v.kind = 2 then quote (bl v.s) else if v.kind = 3 then (if v.n = 1 then trueB else falseB)
   else if v.kind = 4 then 91 :: (Lib.join (v.l.map (text m)) [44, 32] ++ [93]) else if v.kind = 5 then 123 :: (Lib.join (v.f.map (fun x => bl x.1 ++ ([58, 32] ++ text m x.2))) [44, 32] ++ [125]) else nullB
theorem decDigits_len : ∀ (k u : Nat), u < 10 ^ (k + 1) -> (Lib.decDigits u).length <= k + 1
 | 0, u, h => by rw [Lib.decDigits, dif_pos (by simpa using h)]; simp
 | k + 1, u, h => by
  rw [Lib.decDigits];split
  ·simp
  ·rw [List.length_append];have := decDigits_len k (u / 10) (by rw [Nat.pow_succ] at h; omega);simp; omega
theorem itoa_len (n : Int) (h0 : -1000000000 <= n) (h1 : n <= 1000000000) : (Lib.itoa n).length <= 11 := by
 rw [Lib.itoa];split
 ·have := decDigits_len 9 n.natAbs (by show _ < 10000000000; omega); simp; omega
 ·have := decDigits_len 9 n.toNat (by show _ < 10000000000; omega); omega
theorem tail_len (sep : List UInt8) : ∀ (r : List (List UInt8)), (Lib.joinTail sep r).length = (r.map (fun x => sep.length + x.length)).sum
 | [] => rfl
 | a :: r => by
  have := tail_len sep r;unfold Lib.joinTail at *;rw [List.map_cons, List.flatten_cons, List.length_append, this, List.map_cons, List.sum_cons, List.length_append]
theorem join_len (sep : List UInt8) : ∀ (xs : List (List UInt8)), (Lib.join xs sep).length <= (xs.map (fun x => sep.length + x.length)).sum
 | [] => by rw [Lib.join_nil]; simp
 | a :: r => by rw [Lib.join_cons, List.length_append, tail_len, List.map_cons, List.sum_cons]; omega
theorem sum_le {α : Type} (l : List α) (g h : α -> Nat) (c : Nat) (hh : ∀ x ∈ l, g x <= 40 * h x + c) : (l.map g).sum <= 40 * (l.map h).sum + c * l.length := by
 induction l with
 | nil => simp
 | cons a l ih =>
  rw [List.map_cons, List.sum_cons, List.map_cons, List.sum_cons, List.length_cons];have h1 := hh a (by simp);have h2 := ih (fun x hx => hh x (by simp [hx]));rw [Nat.mul_add, Nat.mul_add]; omega
theorem flat_le (l : List UInt8) : (quote l).length <= 4 * l.length + 2 := by
 rw [quote, List.length_cons, List.length_append]; have := flat_len l; simp only [List.length_cons, List.length_nil]; omega
theorem shaped_parts (m : Nat) (v : Val) (h : shaped (m + 1) v = true) : spare v.kind v.n v.s v.l.length v.f.length = true /\ fits v.kind v.n v.s (rise v.f) = true /\ (∀ x ∈ v.l, shaped m x = true) /\ (∀ x ∈ v.f, shaped m x.2 = true) := by
 rw [shaped] at h;simp only [Bool.and_eq_true, List.all_eq_true] at h;exact ⟨h.1.1, h.1.2, h.2.1, h.2.2⟩
theorem fits_num (n : Int) (s : ByteArray) (r : Bool) (h : fits 1 n s r = true) : -1000000000 <= n /\ n <= 1000000000 := by
 unfold fits at h;simp only [decide_eq_true_eq] at h;omega
theorem text_len (m : Nat) : ∀ (v : Val), shaped m v = true -> (text m v).length <= 40 * bulk m v := by
 induction m with
 | zero => intro v _; simp [text]
 | succ m ih =>
  intro v h;obtain ⟨_, hf, hl, hff⟩ := shaped_parts m v h;rw [text, bulk];split
  ·rename_i hk;rw [hk] at hf;have := fits_num _ _ _ hf;have := itoa_len v.n this.1 this.2;omega
  split
  ·have := flat_le (bl v.s); rw [length_bl] at this; omega
  split
  ·split
   ·simp [trueB]; omega
   ·simp [falseB]; omega
  split
  ·have h1 := join_len [44, 32] (v.l.map (text m));rw [List.map_map] at h1;have h2 := sum_le v.l ((fun x => [44, 32].length + x.length) ∘ text m) (bulk m) 2 (fun x hx => by have := ih x (hl x hx); simp; omega);rw [List.length_cons, List.length_append];unfold sumL;simp only [List.length_cons, List.length_nil] at *;omega
  split
  ·have h1 := join_len [44, 32] (v.f.map (fun x => bl x.1 ++ ([58, 32] ++ text m x.2)));rw [List.map_map] at h1;have h2 := sum_le v.f ((fun x => [44, 32].length + x.length) ∘ (fun x : ByteArray × Val => bl x.1 ++ ([58, 32] ++ text m x.2))) (fun x => x.1.size + bulk m x.2) 4 (fun x hx => by
    have := ih x.2 (hff x hx);simp only [Function.comp, List.length_append, List.length_cons, List.length_nil, length_bl]; omega)
   rw [List.length_cons, List.length_append];unfold sumF;simp only [List.length_cons, List.length_nil] at *;omega
  ·simp [nullB]; omega
end V
theorem V.Mem.form {m : Nat} {w : World} {v : Val} {c0 c1 c2 c3 c4 : Value} (h : V.Mem m w v [c0, c1, c2, c3, c4]) :
  ∃ al cl af cf, c0 = .int .i64 v.kind /\ c1 = .int .i64 v.n /\ c2 = .string v.s /\ c3 = .slice al v.l.length cl /\ c4 = .slice af v.f.length cf := by
 cases m with
 | zero => exact h.elim
 | succ m =>
  obtain ⟨lv, fv, hcs, hl, hf⟩ := h;obtain ⟨rfl, rfl, rfl, rfl, rfl⟩ := ij5 hcs;obtain ⟨al, cl, rfl⟩ := hl.shape;obtain ⟨af, cf, rfl⟩ := hf.shape;exact ⟨al, cl, af, cf, rfl, rfl, rfl, rfl, rfl⟩
theorem tab_below {w w' : World} {zs : List Int} (h : Lib.TabIs Tryz.prog w "internal/strconv.uint64pow10" .u64 zs) (hb : Below w.heap.size w w') : Lib.TabIs Tryz.prog w' "internal/strconv.uint64pow10" .u64 zs := by
 unfold Lib.TabIs World.var? at *;cases hg : Tryz.prog.globalNamed "internal/strconv.uint64pow10" with
 | none => rw [hg] at h; simp at h
 | some g =>
  rw [hg] at h;simp only [Option.bind_some] at h ⊢;have hlt : g < w.heap.size := by
   rcases Nat.lt_or_ge g w.heap.size with h' | h'
   ·exact h'
   ·simp [Array.getElem?_eq_none h'] at h
  rw [hb.block g hlt];exact h
theorem info9v : (Tryz.prog.info? 9).map (fun i => (i.zero, i.size, i.bytes)) = some (some (.string ⟨#[]⟩), 1, 16) := by kernel_rfl
def V.strsV (l : List (List UInt8)) : List Value := l.map (fun x => .string (V.str x))
theorem itemTexts_of (m : Nat) (IH : Hid (∀ (w : World) (v : Val) (c0 c1 c2 c3 c4 : Value), V.Mem m w v [c0, c1, c2, c3, c4] -> V.shaped m v = true -> V.bulk m v <= 2000000 -> Lib.TabIs Tryz.prog w "internal/strconv.uint64pow10" .u64 Lib.pow10Tab ->
   Calls Tryz.prog 99 #[.agg #[c0, c1, c2, c3, c4]] w fun e w' => e = .returned (.string (V.str (V.text m v))) /\ Below w.heap.size w w'))
  (w : World) (lv : Value) (l : List Val) (hl : V.Row w lv l.length 5 (fun i c => ∃ x, l[i]? = some x /\ V.Mem m w x c)) (hsh : ∀ x ∈ l, V.shaped m x = true) (hbk : V.sumL (V.bulk m) l + l.length <= 2000000)
  (htab : Lib.TabIs Tryz.prog w "internal/strconv.uint64pow10" .u64 Lib.pow10Tab) :
  Calls Tryz.prog 116 #[lv] w fun e w' => (∃ ao cap, e = .returned (.slice ao l.length cap) /\ w'.ownsRow w.heap.size 9 1 (.slice ao l.length cap) l.length (V.strsV (l.map (V.text m)))) /\ Below w.heap.size w w' := by
 obtain ⟨i0, hi, hz0, hz1, hz2⟩ := info_parts info9v;obtain ⟨al, cl, rfl⟩ := hl.shape;have HL : Hid _ := hl;have HSH : Hid _ := hsh;have HTAB : Hid _ := htab;clear hl hsh htab;go_enter Tryz.func116, Tryz.ntmps116;go_wp2_with fail;go_loopw [3, 5, 8] (fun vt _ vi wr => ∃ (k : Nat) (ao : Option Addr) (cap : Nat), k <= l.length /\ vi = .int .i64 k /\ vt = .slice ao k cap /\ wr.ownsRow w.heap.size 9 1 (.slice ao k cap) k (V.strsV ((l.take k).map (V.text m))) /\ Below w.heap.size w wr)
  (fun _ _ vi _ => l.length - (intOf vi).toNat)
 case atStart => exact ⟨0, none, 0, Nat.zero_le _, rfl, rfl, World.ownsRow_nil _ _ _ _, Below.refl _ _⟩
 case round =>
  obtain ⟨k, ao, cap, hk, rfl, rfl, hown, hB⟩ := hrel;by_cases hlt : k < l.length
  ·obtain ⟨b, off, cap2, x, d0, d1, d2, d3, d4, e1, hx, hm, y0, y1, y2, y3, y4⟩ := V.elemL (V.Row.kept HL.out hB (fun _ _ ⟨x, hx, hm⟩ => ⟨x, hx, V.Mem.kept m hm hB⟩)) k hlt;obtain ⟨rfl, _, rfl⟩ := Value.slice.inj e1;have s1 := V.sumL_le (V.bulk m) l k x hx;obtain ⟨xal, xcl, xaf, xcf, rfl, rfl, rfl, rfl, rfl⟩ := V.Mem.form hm;have HM : Hid _ := hm;have HX : Hid _ := hx;clear hm hx;go_wp2_with fail;have hb2 : Below wr.heap.size wr (wr.alloc (.cells #[.int .i64 x.kind, .int .i64 x.n, .string x.s, .slice xal x.l.length xcl, .slice xaf x.f.length xcf] 61)) := ba;refine (IH.out _ x _ _ _ _ _ (V.Mem.kept m HM.out hb2) (HSH.out x (List.mem_of_getElem? HX.out)) (by omega) (tab_below HTAB.out (hB.trans (hb2.mono hB.size)))).mono ?_;rintro e w3 ⟨rfl, hb3⟩;have hown3 := owns_below (owns_below hown hb2) hb3;have hB3 := (hB.trans (hb2.mono hB.size)).trans (hb3.mono (by have := hB.size; simp; omega));have hs3 := hB3.size;generalize ht : V.str (V.text m x) = t;have HT : Hid _ := ht;clear ht hb2 hb3 y0 y1 y2 y3 y4 hown hB;go_wp2_with (at_builtin; go_must (refine wpList_append_lies _ rfl (.tmp 12) (.tmp 15) 102 rfl w.heap.size 9 i0 (.string ⟨#[]⟩) 1 16 Tryz.underlying102 hi hz0 hz1 hz2 rfl (by decide) (.slice ao k cap) k (V.strsV ((l.take k).map (V.text m))) rfl (hown3.alloc _) ⟨w3.heap.size, 0, none⟩ 1 1 [.string t] rfl rfl (news_alloc _ #[.string t] _ _ rfl) (by simp [Value.oneCell']) (by decide) (by unfold maxLen; omega) (by omega) (by simp; omega) _ rfl ?_); intro g cap' w4 hown4 hgrow hat hlt4);go_roundw
   case rel =>
    refine ⟨k + 1, some ⟨g, 0, none⟩, cap', by omega, by go_num, rfl, ?_, (hB3.alloc hs3 _).grown hgrow (by simp; omega) (fun k hk => (hown3.lt k hk).1)⟩;have e2 : V.strsV ((l.take (k + 1)).map (V.text m)) = V.strsV ((l.take k).map (V.text m)) ++ [.string t] := by
     rw [List.take_add_one, HX.out, <- HT.out]; simp [V.strsV]
    rw [e2]; exact hown4
   case measure => simp [intOf]; omega
  ·have hkk : k = l.length := by omega
   subst hkk;rw [List.take_length] at hown;go_wp2_with fail;go_ret;exact ⟨⟨ao, cap, rfl, hown⟩, hB⟩
theorem fieldTexts_of (m : Nat) (IH : Hid (∀ (w : World) (v : Val) (c0 c1 c2 c3 c4 : Value), V.Mem m w v [c0, c1, c2, c3, c4] -> V.shaped m v = true -> V.bulk m v <= 2000000 -> Lib.TabIs Tryz.prog w "internal/strconv.uint64pow10" .u64 Lib.pow10Tab ->
   Calls Tryz.prog 99 #[.agg #[c0, c1, c2, c3, c4]] w fun e w' => e = .returned (.string (V.str (V.text m v))) /\ Below w.heap.size w w'))
  (w : World) (fv : Value) (l : List (ByteArray × Val)) (hf : V.Row w fv l.length 6 (fun i c => ∃ x c', l[i]? = some x /\ c = .string x.1 :: c' /\ V.Mem m w x.2 c')) (hsh : ∀ x ∈ l, V.shaped m x.2 = true) (hbk : V.sumF (fun x => x.1.size + V.bulk m x.2) l + l.length <= 2000000)
  (htab : Lib.TabIs Tryz.prog w "internal/strconv.uint64pow10" .u64 Lib.pow10Tab) :
  Calls Tryz.prog 117 #[fv] w fun e w' => (∃ ao cap, e = .returned (.slice ao l.length cap) /\ w'.ownsRow w.heap.size 9 1 (.slice ao l.length cap) l.length (V.strsV (l.map (fun x => V.bl x.1 ++ ([58, 32] ++ V.text m x.2))))) /\ Below w.heap.size w w' := by
 obtain ⟨i0, hi, hz0, hz1, hz2⟩ := info_parts info9v;obtain ⟨al, cl, rfl⟩ := hf.shape;have HL : Hid _ := hf;have HSH : Hid _ := hsh;have HTAB : Hid _ := htab;clear hf hsh htab;go_enter Tryz.func117, Tryz.ntmps117;go_wp2_with fail;go_loopw [3, 5, 8] (fun vt _ vi wr => ∃ (k : Nat) (ao : Option Addr) (cap : Nat), k <= l.length /\ vi = .int .i64 k /\ vt = .slice ao k cap /\ wr.ownsRow w.heap.size 9 1 (.slice ao k cap) k (V.strsV ((l.take k).map (fun x => V.bl x.1 ++ ([58, 32] ++ V.text m x.2)))) /\ Below w.heap.size w wr)
  (fun _ _ vi _ => l.length - (intOf vi).toNat)
 case atStart => exact ⟨0, none, 0, Nat.zero_le _, rfl, rfl, World.ownsRow_nil _ _ _ _, Below.refl _ _⟩
 case round =>
  obtain ⟨k, ao, cap, hk, rfl, rfl, hown, hB⟩ := hrel;by_cases hlt : k < l.length
  ·obtain ⟨b, off, cap2, x, d0, d1, d2, d3, d4, e1, hx, hm, yn, y0, y1, y2, y3, y4⟩ := V.elemF (V.Row.kept HL.out hB (fun _ _ ⟨x, c', hx, hc, hm⟩ => ⟨x, c', hx, hc, V.Mem.kept m hm hB⟩)) k hlt;obtain ⟨rfl, _, rfl⟩ := Value.slice.inj e1;have s1 := V.sumF_le (fun x => x.1.size + V.bulk m x.2) l k x hx;have s2 := V.text_len m x.2 (HSH.out x (List.mem_of_getElem? hx));obtain ⟨xal, xcl, xaf, xcf, rfl, rfl, rfl, rfl, rfl⟩ := V.Mem.form hm;have HM : Hid _ := hm;have HX : Hid _ := hx;clear hm hx;go_wp2_with fail;have hb2 : Below wr.heap.size wr (wr.alloc (.cells #[.string x.1, .int .i64 x.2.kind, .int .i64 x.2.n, .string x.2.s, .slice xal x.2.l.length xcl, .slice xaf x.2.f.length xcf] 68)) := ba;have hblk := heap_alloc_new wr (.cells #[.string x.1, .int .i64 x.2.kind, .int .i64 x.2.n, .string x.2.s, .slice xal x.2.l.length xcl, .slice xaf x.2.f.length xcf] 68);generalize wr.alloc _ = W1 at *;have hB1 := hB.trans (hb2.mono hB.size);have hC : Calls Tryz.prog 99 #[.agg #[.int .i64 x.2.kind, .int .i64 x.2.n, .string x.2.s, .slice xal x.2.l.length xcl, .slice xaf x.2.f.length xcf]] W1.drew fun e w3 =>
     (∃ t, e = .returned (.string t) /\ Hid (t = V.str (V.text m x.2)) /\ t.size <= 80000000) /\ (w3.cell? ⟨wr.heap.size, 0, none⟩ = some (.string x.1) /\ w3.cell? ⟨wr.heap.size, 1, none⟩ = some (.int .i64 x.2.kind) /\ w3.cell? ⟨wr.heap.size, 2, none⟩ = some (.int .i64 x.2.n) /\ w3.cell? ⟨wr.heap.size, 3, none⟩ = some (.string x.2.s) /\ w3.cell? ⟨wr.heap.size, 4, none⟩ = some (.slice xal x.2.l.length xcl) /\ w3.cell? ⟨wr.heap.size, 5, none⟩ = some (.slice xaf x.2.f.length xcf)) /\ Hid (w3.ownsRow w.heap.size 9 1 (.slice ao k cap) k (V.strsV ((l.take k).map (fun x => V.bl x.1 ++ ([58, 32] ++ V.text m x.2))))) /\ Hid (Below w.heap.size w w3) := by
    have hb3 : Below W1.heap.size W1 W1.drew := below_drewN (Below.refl _ _) 1;refine (IH.out W1.drew x.2 _ _ _ _ _ (V.Mem.kept m (V.Mem.kept m HM.out hb2) hb3) (HSH.out x (List.mem_of_getElem? HX.out)) (by omega) (tab_below HTAB.out (hB1.trans (hb3.mono hB1.size)))).mono ?_;rintro e w3 ⟨rfl, hb4⟩;have hb5 : Below W1.heap.size W1 w3 := hb3.trans (hb4.mono hb3.size);have hblk3 := (hb5.block wr.heap.size (blt hblk)).trans hblk;exact ⟨⟨_, rfl, rfl, by rw [str_size]; omega⟩, ⟨cell_of_block hblk3 0 _ rfl, cell_of_block hblk3 1 _ rfl, cell_of_block hblk3 2 _ rfl, cell_of_block hblk3 3 _ rfl, cell_of_block hblk3 4 _ rfl, cell_of_block hblk3 5 _ rfl⟩, owns_below (owns_below hown hb2) hb5, hB1.trans (hb5.mono hB1.size)⟩
   have HC : Hid _ := hC;obtain ⟨z0, z1, z2, z3, z4, z5⟩ := cl6 hblk;have hxs : x.1.size <= 2000000 := by omega
   have hg1 : ¬ 9223372036854775807 < x.1.size + 2 := by omega
   have KG : Hid (∀ (w3 : World) (o : Obj) (w4 : World), (w3.cell? ⟨wr.heap.size, 0, none⟩ = some (.string x.1) /\ w3.cell? ⟨wr.heap.size, 1, none⟩ = some (.int .i64 x.2.kind) /\ w3.cell? ⟨wr.heap.size, 2, none⟩ = some (.int .i64 x.2.n) /\ w3.cell? ⟨wr.heap.size, 3, none⟩ = some (.string x.2.s) /\ w3.cell? ⟨wr.heap.size, 4, none⟩ = some (.slice xal x.2.l.length xcl) /\ w3.cell? ⟨wr.heap.size, 5, none⟩ = some (.slice xaf x.2.f.length xcf)) -> (w3.alloc o).grownBy w4 (Value.slice ao k cap).ownBlock -> w4.cell? ⟨wr.heap.size, 0, none⟩ = some (.string x.1) /\ w4.cell? ⟨wr.heap.size, 1, none⟩ = some (.int .i64 x.2.kind) /\ w4.cell? ⟨wr.heap.size, 2, none⟩ = some (.int .i64 x.2.n) /\ w4.cell? ⟨wr.heap.size, 3, none⟩ = some (.string x.2.s) /\ w4.cell? ⟨wr.heap.size, 4, none⟩ = some (.slice xal x.2.l.length xcl) /\ w4.cell? ⟨wr.heap.size, 5, none⟩ = some (.slice xaf x.2.f.length xcf)) := by
    have hne : ∀ (w3 : World) (o : Obj) (w4 : World) (j : Nat) (u : Value), (w3.alloc o).grownBy w4 (Value.slice ao k cap).ownBlock -> w3.cell? ⟨wr.heap.size, j, none⟩ = some u -> w4.cell? ⟨wr.heap.size, j, none⟩ = some u := by
     intro w3 o w4 j u hg hc;have hlt3 := World.block_lt_of_cell? w3 _ hc;have hbk := hg.block wr.heap.size (by simp at hlt3 ⊢; omega) (fun e => by have := (hown.lt _ e.symm).2; omega);rw [heap_alloc_old w3 o hlt3] at hbk;unfold World.cell? at hc ⊢;simp only at hc ⊢;rw [hbk]; exact hc
    intro w3 o w4 ⟨t0, t1, t2, t3, t4, t5⟩ hg;exact ⟨hne _ _ _ _ _ hg t0, hne _ _ _ _ _ hg t1, hne _ _ _ _ _ hg t2, hne _ _ _ _ _ hg t3, hne _ _ _ _ _ hg t4, hne _ _ _ _ _ hg t5⟩
   have hxs2 : (x.1 ++ (⟨#[58, 32]⟩ : ByteArray)).size = x.1.size + 2 := by rw [ByteArray.size_append]; rfl
   clear hC hb2 hB1 hB hown hblk yn y0 y1 y2 y3 y4;go_region_held3 (fun W' => W'.cell? ⟨wr.heap.size, 0, none⟩ = some (.string x.1) /\ W'.cell? ⟨wr.heap.size, 1, none⟩ = some (.int .i64 x.2.kind) /\ W'.cell? ⟨wr.heap.size, 2, none⟩ = some (.int .i64 x.2.n) /\ W'.cell? ⟨wr.heap.size, 3, none⟩ = some (.string x.2.s) /\ W'.cell? ⟨wr.heap.size, 4, none⟩ = some (.slice xal x.2.l.length xcl) /\ W'.cell? ⟨wr.heap.size, 5, none⟩ = some (.slice xaf x.2.f.length xcf)) (go_keep)
    (first
     | (go_at_call 99; refine Calls.mono HC.out ?_; rintro e w3 ⟨⟨t, rfl, ht, htz⟩, ⟨t0, t1, t2, t3, t4, t5⟩, HO3, HB3⟩; have hs3 := HB3.out.size; have hg2 : ¬ 9223372036854775807 < x.1.size + 2 + t.size := (by omega))
     | (refine step_append_lies _ ?_ (.tmp 12) (.tmp 20) 102 ?_ w.heap.size 9 i0 (.string ⟨#[]⟩) 1 16 Tryz.underlying102 hi hz0 hz1 hz2 rfl Nat.one_pos (.slice ao k cap) k (V.strsV ((l.take k).map (fun x => V.bl x.1 ++ ([58, 32] ++ V.text m x.2)))) ?_ ?_ ⟨w3.heap.size, 0, none⟩ 1 1 [.string (x.1 ++ ⟨#[58, 32]⟩ ++ t)] ?_ rfl ?_ ?_ Nat.one_pos ?_ ?_ ?_ _ rfl ?_; rfl; rfl; rfl; exact (HO3.out.alloc _); rfl; exact news_alloc w3 #[.string (x.1 ++ ⟨#[58, 32]⟩ ++ t)] 9 _ rfl; simp [Value.oneCell']; (unfold maxLen; omega); omega; (simp; omega); intro g cap' w4 hown4 hgrow hat hlt4; obtain ⟨r0, r1, r2, r3, r4, r5⟩ := KG.out _ _ _ ⟨t0, t1, t2, t3, t4, t5⟩ hgrow))
   all_goals
    go_wp2_with fail;go_roundw
    case rel =>
     refine ⟨k + 1, some ⟨g, 0, none⟩, cap', by omega, by go_num, rfl, ?_, (HB3.out.alloc hs3 _).grown hgrow (by simp; omega) (fun k hk => (HO3.out.lt k hk).1)⟩;have e2 : V.strsV ((l.take (k + 1)).map (fun x => V.bl x.1 ++ ([58, 32] ++ V.text m x.2))) = V.strsV ((l.take k).map (fun x => V.bl x.1 ++ ([58, 32] ++ V.text m x.2))) ++ [.string (x.1 ++ ⟨#[58, 32]⟩ ++ t)] := by
      have e3 : x.1 ++ (⟨#[58, 32]⟩ : ByteArray) ++ t = V.str (V.bl x.1 ++ ([58, 32] ++ V.text m x.2)) := by
       rw [ht.out, <- V.str_append, <- V.str_append, V.str_bl, ByteArray.append_assoc]; rfl
      rw [List.take_add_one, HX.out, e3]; simp [V.strsV]
     rw [e2]; exact hown4
    case measure => simp [intOf]; omega
  ·have hkk : k = l.length := by omega
   subst hkk;rw [List.take_length] at hown;go_wp2_with fail;go_ret;exact ⟨⟨ao, cap, rfl, hown⟩, hB⟩
end Go.Proofs.YtcekcfjabhlheaaGreatDoor.Vx
