/- value.Quote, and strings.Builder as it uses it. -/
import Derived.Shelf.Strings.Builder1
import Derived.Shelf.Strings.OnBuilder
import Derived.Shelf.LaysM
import Derived.Lib.Builder
import Derived.Lib.Bytealg
import Derived.Test.YtmlbcdofogffkabFE
import Derived.Test.YtmlbcdofogffkabEB
namespace Go.Proofs.Ytmlbcdofogffkab.Qt
open Go.RowKit
open Go.Shelf
def sh_lays169_ren : Go.Shelf.Ren := ⟨fun | 169 => 130 | n => n, fun | 70 => 196 | 9 => 9 | 0 => 0 | 72 => 198 | 37 => 166 | 127 => 218 | 3 => 3 | 5 => 5 | n => n, fun | n => n⟩
theorem sh_lays169 : Go.Proofs.Lays.n169 Try.prog sh_lays169_ren := {
  mixed := by kernel_rfl
  f169 := Try.func130.trans (congrArg some (by kernel_rfl))
  t0 := Try.underlying0
  a0 := Try.isAgg0
  z0 := Try.sizeOf0
  v0 := Try.zeroValue0
  t3 := Try.underlying3
  a3 := Try.isAgg3
  z3 := Try.sizeOf3
  v3 := Try.zeroValue3
  t9 := Try.underlying9
  a9 := Try.isAgg9
  z9 := Try.sizeOf9
  v9 := Try.zeroValue9
  t37 := Try.underlying166
  a37 := Try.isAgg166
  z37 := Try.sizeOf166
  v37 := Try.zeroValue166
  t70 := Try.underlying196
  a70 := Try.isAgg196
  z70 := Try.sizeOf196
  v70 := Try.zeroValue196
  t72 := Try.underlying198
  a72 := Try.isAgg198
  z72 := Try.sizeOf198
  v72 := Try.zeroValue198
  t127 := Try.underlying218
  a127 := Try.isAgg218
  z127 := Try.sizeOf218
  v127 := Try.zeroValue218 }
theorem sh_Builder_Extra_169 : Builder.Extra Try.prog sh_lays169_ren := {
  sizeBuilder := by kernel_rfl
  liesBuilder := by kernel_rfl
  t5 := Try.underlying5
  a5 := Try.isAgg5
  z5 := Try.sizeOf5
  v5 := Try.zeroValue5
  infoByte := by kernel_rfl
  cellsByte := by kernel_rfl
  sizeByte := by kernel_rfl
  neB5 := by decide }
open Go.RowKit in
theorem sh_Builder_String_any (B b : Nat) (l : List UInt8) (w : World) (h : Lib.IsBuilder 198 5 B b (Lib.byteCells l) w) (hBw : B ≤ w.heap.size) :
    Calls Try.prog 130 #[.pointer (some ⟨b, 0, none⟩)] w fun e w' => e = .returned (.string ⟨l.toArray⟩) ∧ Below B w w' := Any.Builder_String_any sh_lays169 sh_Builder_Extra_169 B b l w h hBw
namespace V
open Go.Proofs.Ytmlbcdofogffkab.N (bl str bl_get length_bl)
def hexd (n : Nat) : UInt8 := (if n < 10 then 48 + n else 87 + n).toUInt8
def quoteB (c : UInt8) : List UInt8 := if c.toNat = 34 ∨ c.toNat = 92 then [92, c] else if 32 ≤ c.toNat ∧ c.toNat ≤ 126 then [c] else [92, 120, hexd (c.toNat / 16), hexd (c.toNat % 16)]
def quote (l : List UInt8) : List UInt8 := 34 :: (l.flatMap quoteB ++ [34])
theorem bl_append (a b : ByteArray) : bl (a ++ b) = bl a ++ bl b := by simp [bl, ByteArray.data_append]
theorem str_append (a b : List UInt8) : str a ++ str b = str (a ++ b) := by
  apply ByteArray.ext; simp [str, ByteArray.data_append]
theorem take_flat (s : ByteArray) (k : Nat) (h : k < s.size) : ((bl s).take (k + 1)).flatMap quoteB = ((bl s).take k).flatMap quoteB ++ quoteB s[k] := by
  rw [List.take_add_one, bl_get s k h]; simp
theorem quoteB_len (c : UInt8) : (quoteB c).length ≤ 4 := by unfold quoteB; split; simp; split <;> simp
theorem flat_len (l : List UInt8) : (l.flatMap quoteB).length ≤ 4 * l.length := by
  induction l with
  | nil => simp
  | cons a l ih => rw [List.flatMap_cons, List.length_append, List.length_cons]; have := quoteB_len a; omega
end V
theorem strOfNums_bytes (acc : List UInt8) : strOfNums (acc.map fun b => (b.toNat : Int)) = N.str acc := by
  unfold strOfNums N.str
  rw [List.map_map]
  have : ((fun n : Int => UInt8.ofNat n.toNat) ∘ fun b : UInt8 => (b.toNat : Int)) = id := by funext b; simp
  rw [this]; simp
theorem conv_at (w : World) (g : Nat) (l : List UInt8) (cs : Array Value) (n : Nat) (hn : n = l.length) (h : cs = (l.map (fun b => Value.int .u8 b.toNat)).toArray) (hb : w.heap[g]? = some (.cells cs 5 (0, 0))) :
    (convert 166 9 (.slice (some ⟨g, 0, none⟩) n n)).run Try.prog w = .ok (.string (N.str l)) w := by
  subst hn h
  rw [run_convert_bytes_arg _ 166 5 Try.underlying166 Try.underlying5 g 0 l.length l.length (l.map fun b => (b.toNat : Int)) (by simp) ?_ 9 Try.underlying9, strOfNums_bytes]
  intro i hi
  rw [Nat.zero_add, cell_of_row _ g i _ 5 (0, 0) hb]
  simp [List.getD, List.getElem?_eq_getElem hi]
theorem conv_new (w : World) (l : List UInt8) (cs : Array Value) (n : Nat) (hn : n = l.length) (h : cs = (l.map (fun b => Value.int .u8 b.toNat)).toArray) :
    (convert 166 9 (.slice (some ⟨w.heap.size, 0, none⟩) n n)).run Try.prog (w.alloc (.cells cs 5)) = .ok (.string (N.str l)) (w.alloc (.cells cs 5)) := conv_at _ _ l cs n hn h (heap_alloc_new _ _)
theorem conv_some (w : World) (l : List UInt8) (cs : Array Value) (n : Nat) (hn : n = l.length) (h : cs = (l.map (fun b => Value.int .u8 b.toNat)).toArray) :
    ∃ t : ByteArray, t = N.str l ∧ t.size = n ∧ (convert 166 9 (.slice (some ⟨w.heap.size, 0, none⟩) n n)).run Try.prog (w.alloc (.cells cs 5)) = .ok (.string t) (w.alloc (.cells cs 5)) :=
  ⟨_, rfl, by rw [hn]; simp [N.str, ByteArray.size], conv_new w l cs n hn h⟩
theorem hex_lit : ∀ n : Fin 16, ((⟨#[48, 49, 50, 51, 52, 53, 54, 55, 56, 57, 97, 98, 99, 100, 101, 102]⟩ : ByteArray)[n.val]'(n.isLt)) = V.hexd n.val := by decide
theorem wrap_u8 (i : Int) (h0 : 0 ≤ i) (h1 : i < 256) : IntKind.u8.wrap i = i := by
  rw [IntKind.wrap, show (2 : Int) ^ IntKind.u8.bits = 256 from rfl, show IntKind.u8.signed = false from rfl]
  simp
  omega
theorem hex_at (i : Int) (n : Nat) (hi : i = n) (hn : n < 16) (h : i.toNat < (⟨#[48, 49, 50, 51, 52, 53, 54, 55, 56, 57, 97, 98, 99, 100, 101, 102]⟩ : ByteArray).size) : ((⟨#[48, 49, 50, 51, 52, 53, 54, 55, 56, 57, 97, 98, 99, 100, 101, 102]⟩ : ByteArray)[i.toNat]'h) = V.hexd n := by
  subst hi
  exact hex_lit ⟨n, hn⟩
theorem hex_conv (c : UInt8) (h1 : (IntKind.u8.wrap ((c.toNat : Int) / 16)).toNat < (⟨#[48, 49, 50, 51, 52, 53, 54, 55, 56, 57, 97, 98, 99, 100, 101, 102]⟩ : ByteArray).size) (h2 : ((c.toNat : Int).tmod 16).toNat < (⟨#[48, 49, 50, 51, 52, 53, 54, 55, 56, 57, 97, 98, 99, 100, 101, 102]⟩ : ByteArray).size) :
    ∃ t : ByteArray, t = N.str [92, 120, V.hexd (c.toNat / 16), V.hexd (c.toNat % 16)] ∧ t.size = 4 ∧ ∀ W : World, (convert 166 9 (.slice (some ⟨W.heap.size, 0, none⟩) 4 4)).run Try.prog
      (W.alloc (.cells #[.int .u8 92, .int .u8 120, .int .u8 ((⟨#[48, 49, 50, 51, 52, 53, 54, 55, 56, 57, 97, 98, 99, 100, 101, 102]⟩ : ByteArray)[(IntKind.u8.wrap ((c.toNat : Int) / 16)).toNat]'h1).toNat, .int .u8 ((⟨#[48, 49, 50, 51, 52, 53, 54, 55, 56, 57, 97, 98, 99, 100, 101, 102]⟩ : ByteArray)[((c.toNat : Int).tmod 16).toNat]'h2).toNat] 5)).drew =
      .ok (.string t) (W.alloc (.cells #[.int .u8 92, .int .u8 120, .int .u8 ((⟨#[48, 49, 50, 51, 52, 53, 54, 55, 56, 57, 97, 98, 99, 100, 101, 102]⟩ : ByteArray)[(IntKind.u8.wrap ((c.toNat : Int) / 16)).toNat]'h1).toNat, .int .u8 ((⟨#[48, 49, 50, 51, 52, 53, 54, 55, 56, 57, 97, 98, 99, 100, 101, 102]⟩ : ByteArray)[((c.toNat : Int).tmod 16).toNat]'h2).toNat] 5)).drew := by
  have hc := c.toNat_lt
  rw [hex_at _ (c.toNat / 16) (by rw [wrap_u8 _ (by omega) (by omega)]; omega) (by omega), hex_at _ (c.toNat % 16) (by rw [Int.tmod_eq_emod_of_nonneg (by omega)]; omega) (by omega)]
  exact ⟨_, rfl, rfl, fun W => conv_at _ _ _ _ 4 rfl rfl (heap_alloc_new _ _)⟩
theorem str_size (l : List UInt8) : (N.str l).size = l.length := by simp [N.str, ByteArray.size]
theorem news_of {w : World} {g : Nat} {cs : Array Value} {e : TypeId} {fr : Nat × Nat} (h : w.heap[g]? = some (.cells cs e fr)) : ∀ j u, cs.toList[j]? = some u → w.cell? ((⟨g, 0, none⟩ : Addr).add j) = some u := by
  intro j u hu
  have hadd : (⟨g, 0, none⟩ : Addr).add j = ⟨g, j, none⟩ := by unfold Addr.add; split <;> simp_all
  rw [hadd, cell_of_row w g j cs e fr h]
  simpa using hu
theorem news_alloc (w : World) (cs : Array Value) (e : TypeId) (g : Nat) (h : w.heap.size = g) : ∀ j u, cs.toList[j]? = some u → (w.alloc (.cells cs e)).cell? ((⟨g, 0, none⟩ : Addr).add j) = some u := by
  subst h
  exact news_of (heap_alloc_new w _)
theorem info5 : (Try.prog.info? 5).map (fun i => (i.zero, i.size, i.bytes)) = some (some (.int .u8 0), 1, 1) := by kernel_rfl
theorem own_shape {w : World} {b e n m : Nat} {v : Value} {xs : List Value} (h : w.ownsRow b e m v n xs) : ∃ ao cap, v = .slice ao n cap := by
  rcases h.2 with ⟨hv, h0⟩ | ⟨g, cap, cur, hv, _⟩
  · exact ⟨none, 0, by rw [hv, h0]⟩
  · exact ⟨_, _, hv⟩
theorem bldSize : (Try.prog.info? 198).map (·.size) = some 2 := by kernel_rfl
theorem bldLies : liesAt Try.prog Try.prog.depth 198 (2 / Try.prog.cellsOf 198) 0 198 1 = true := by kernel_rfl
theorem callNoEscape (x : Value) (w : World) : (callFunc 174 #[x]).run Try.prog w = .ok (.value x) w := by
  rw [run_callFunc_extern Try.func174 (by kernel_rfl) (by kernel_rfl) (by kernel_rfl) (e := Extern.AbiNoEscape.same) (by kernel_rfl), Lib.run_noEscape]
  rfl
set_option maxRecDepth 100000 in
set_option maxHeartbeats 400000 in
theorem check_fresh (b : Nat) (w : World) (h0 : w.cell? ⟨b, 0, none⟩ = some (.pointer none)) (hsh : w.shape? b = some (198, 2)) (hfz : w.frozen? ⟨b, 0, none⟩ = false) :
    Calls Try.prog 148 #[.pointer (some ⟨b, 0, none⟩)] w fun e w' => e = .returned (.tuple #[]) ∧ w' = w.setCell ⟨b, 0, none⟩ (.pointer (some ⟨b, 0, none⟩)) := by
  obtain ⟨j, hj, hjs⟩ := Option.map_eq_some_iff.1 bldSize
  have k1 := Lib.run_to_unsafe (P := Try.prog) (src := 196) (dst := 240) w ⟨b, 0, none⟩ Try.underlying196 Try.underlying240 hj (by rw [hjs]; decide) hsh (Nat.zero_lt_succ 1)
  have k2 := Lib.run_from_unsafe (P := Try.prog) (src := 240) (dst := 196) w ⟨b, 0, none⟩ Try.underlying240 Try.underlying196 hj hsh bldLies
  have k3 := callNoEscape
  go_enter Try.func148, Try.ntmps148
  go_wp2
  go_end0
  exact ⟨rfl, rfl⟩
set_option maxRecDepth 100000 in
set_option maxHeartbeats 400000 in
theorem check_used (b : Nat) (w : World) (h0 : w.cell? ⟨b, 0, none⟩ = some (.pointer (some ⟨b, 0, none⟩))) :
    Calls Try.prog 148 #[.pointer (some ⟨b, 0, none⟩)] w fun e w' => e = .returned (.tuple #[]) ∧ w' = w := by
  obtain ⟨j, hj, hjs⟩ := Option.map_eq_some_iff.1 bldSize
  have k1 := fun w : World => Lib.run_neq_ptr_same (P := Try.prog) w (tp := 196) (te := 198) ⟨b, 0, none⟩ Try.underlying196 hj
  go_enter Try.func148, Try.ntmps148
  go_wp2
  go_end0
  exact ⟨rfl, rfl⟩
theorem copyCheck_any (B b : Nat) (bs : List Value) (w : World) (h : Lib.IsBuilder 198 5 B b bs w) :
    Calls Try.prog 148 #[.pointer (some ⟨b, 0, none⟩)] w fun e w' => e = .returned (.tuple #[]) ∧ Lib.BuilderAt 198 5 B b (.pointer (some ⟨b, 0, none⟩)) bs w' ∧ Below B w w' := by
  rcases h with h | h
  · refine (check_fresh b w h.cell0 h.shape h.frozen0).mono ?_
    rintro e w' ⟨rfl, rfl⟩
    exact ⟨rfl, h.used _, (Below.refl B w).setCell (p := ⟨b, 0, none⟩) h.1 _⟩
  · refine (check_used b w h.cell0).mono ?_
    rintro e w' ⟨rfl, rfl⟩
    exact ⟨rfl, h, Below.refl B _⟩
set_option maxRecDepth 100000 in
set_option maxHeartbeats 400000 in
theorem writeByte_any (B b : Nat) (bs : List Value) (c : Int) (w : World) (h : Lib.IsBuilder 198 5 B b bs w) (hlen : bs.length + 1 ≤ 1000000000) (hBw : B ≤ w.heap.size) :
    Calls Try.prog 128 #[.pointer (some ⟨b, 0, none⟩), .int .u8 c] w fun e w' => e = .returned .nilIface ∧ Lib.BuilderAt 198 5 B b (.pointer (some ⟨b, 0, none⟩)) (bs ++ [.int .u8 c]) w' ∧ Below B w w' := by
  obtain ⟨i0, hi, hz0, hz1, hz2⟩ := info_parts info5
  go_enter Try.func128, Try.ntmps128
  go_wp2_with fail
  refine (copyCheck_any B b bs _ h).mono ?_
  rintro e w1 ⟨rfl, ⟨hB, v, hbk, hown, hne⟩, hb1⟩
  have c0 := cell_of_block hbk 0 (.pointer (some ⟨b, 0, none⟩)) rfl
  have c1 := cell_of_block hbk 1 v rfl
  have hlt : b < w1.heap.size := (Array.getElem?_eq_some_iff.1 hbk).1
  have hs1 := hb1.size
  have HBK : Hid _ := hbk
  clear hbk
  go_wp2_with (at_builtin; go_must (refine wpList_append_lies _ rfl (.tmp 11) (.tmp 13) 166 rfl B 5 i0 (.int .u8 0) 1 1 Try.underlying166 hi hz0 hz1 hz2 rfl (by decide) v bs.length bs rfl (hown.alloc _) ⟨w1.heap.size, 0, none⟩ 1 1 [.int .u8 c] rfl rfl (news_alloc _ _ _ _ rfl) (by simp [Value.oneCell']) (by decide) (by unfold maxLen; omega) (by omega) (by simp; omega) _ rfl ?_); intro g cap' w2 hown2 hgrow hat hlt2; have hb2 := (hgrow.block b (by simp; omega) (fun e => hne e.symm)).trans ((heap_alloc_old w1 _ hlt).trans HBK.out); have d1 := cell_of_block hb2 1 v rfl; have f1 := free_of_block hb2 1)
  go_ret
  refine ⟨rfl, ?_, ?_⟩
  · exact Lib.BuilderAt.put (T := 198) (e := 5) hB hb2 (bs' := bs ++ [.int .u8 c]) (by simpa using hown2) (by decide)
  · exact ((hb1.alloc (by omega) _).grown hgrow (by simp; omega) (fun k hk => (hown.lt k hk).1)).setCell (p := ⟨b, 1, none⟩) hB _
set_option maxRecDepth 100000 in
set_option maxHeartbeats 400000 in
theorem writeString_any (B b : Nat) (bs : List Value) (s : ByteArray) (w : World) (h : Lib.IsBuilder 198 5 B b bs w) (hlen : bs.length + s.size ≤ 1000000000) (hBw : B ≤ w.heap.size) :
    Calls Try.prog 129 #[.pointer (some ⟨b, 0, none⟩), .string s] w fun e w' => e = .returned (.tuple #[.int .i64 s.size, .nilIface]) ∧ Lib.BuilderAt 198 5 B b (.pointer (some ⟨b, 0, none⟩)) (bs ++ Lib.strCells s) w' ∧ Below B w w' := by
  obtain ⟨i0, hi, hz0, hz1, hz2⟩ := info_parts info5
  go_enter Try.func129, Try.ntmps129
  go_wp2_with fail
  refine (copyCheck_any B b bs _ h).mono ?_
  rintro e w1 ⟨rfl, ⟨hB, v, hbk, hown, hne⟩, hb1⟩
  have c0 := cell_of_block hbk 0 (.pointer (some ⟨b, 0, none⟩)) rfl
  have c1 := cell_of_block hbk 1 v rfl
  have hlt : b < w1.heap.size := (Array.getElem?_eq_some_iff.1 hbk).1
  have hs1 := hb1.size
  have HBK : Hid _ := hbk
  clear hbk
  go_wp2_with (at_builtin; go_must (refine Lib.wpList_append_own_string _ rfl _ _ 166 9 rfl B 5 i0 Try.underlying166 Try.underlying9 hi hz0 hz1 hz2 _ _ _ rfl hown s rfl (by unfold maxLen; omega) (by omega) (by omega) ?_); intro v' w2 hown2 hgrow hat; obtain ⟨ao, cap, rfl⟩ := own_shape hown2; have hb2 := (hgrow.block b hlt (fun e => hne e.symm)).trans HBK.out; have d1 := cell_of_block hb2 1 v rfl; have f1 := free_of_block hb2 1)
  go_ret2
  refine ⟨rfl, ?_, ?_⟩
  · exact Lib.BuilderAt.put (T := 198) (e := 5) hB hb2 (bs' := bs ++ Lib.strCells s) (by simpa [Lib.strCells_length] using hown2) (by decide)
  · exact (hb1.grown hgrow (by omega) (fun k hk => (hown.lt k hk).1)).setCell (p := ⟨b, 1, none⟩) hB _
theorem string_any (B b : Nat) (l : List UInt8) (w : World) (h : Lib.IsBuilder 198 5 B b (Lib.byteCells l) w) (hBw : B ≤ w.heap.size) :
    Calls Try.prog 130 #[.pointer (some ⟨b, 0, none⟩)] w fun e w' => e = .returned (.string (N.str l)) ∧ Below B w w' := sh_Builder_String_any B b l w h hBw
theorem byteCells_snoc (l : List UInt8) (c : UInt8) : Lib.byteCells l ++ [.int .u8 c.toNat] = Lib.byteCells (l ++ [c]) := by simp [Lib.byteCells]
theorem byteCells_str (l : List UInt8) (s : ByteArray) : Lib.byteCells l ++ Lib.strCells s = Lib.byteCells (l ++ N.bl s) := by simp [Lib.byteCells, Lib.strCells, N.bl]
theorem writeByte_list (B b : Nat) (l : List UInt8) (c : UInt8) (w : World) (h : Lib.IsBuilder 198 5 B b (Lib.byteCells l) w) (hlen : l.length + 1 ≤ 1000000000) (hBw : B ≤ w.heap.size) :
    Calls Try.prog 128 #[.pointer (some ⟨b, 0, none⟩), .int .u8 c.toNat] w fun e w' => e = .returned .nilIface ∧ Lib.IsBuilder 198 5 B b (Lib.byteCells (l ++ [c])) w' ∧ Below B w w' := by
  refine (writeByte_any B b _ c.toNat w h (by rw [Lib.byteCells_length]; exact hlen) hBw).mono ?_
  rintro e w' ⟨rfl, h1, hb⟩
  rw [byteCells_snoc] at h1
  exact ⟨rfl, .inr h1, hb⟩
theorem writeString_list (B b : Nat) (l : List UInt8) (s : ByteArray) (w : World) (h : Lib.IsBuilder 198 5 B b (Lib.byteCells l) w) (hlen : l.length + s.size ≤ 1000000000) (hBw : B ≤ w.heap.size) :
    Calls Try.prog 129 #[.pointer (some ⟨b, 0, none⟩), .string s] w fun e w' => e = .returned (.tuple #[.int .i64 s.size, .nilIface]) ∧ Lib.IsBuilder 198 5 B b (Lib.byteCells (l ++ N.bl s)) w' ∧ Below B w w' := by
  refine (writeString_any B b _ s w h (by rw [Lib.byteCells_length]; exact hlen) hBw).mono ?_
  rintro e w' ⟨rfl, h1, hb⟩
  rw [byteCells_str] at h1
  exact ⟨rfl, .inr h1, hb⟩
theorem V.take_snoc (s : ByteArray) (k : Nat) (h : k < s.size) : (N.bl s).take (k + 1) = (N.bl s).take k ++ [s[k]] := by
  rw [List.take_add_one, N.bl_get s k h]; rfl
theorem V.flat_snoc (s : ByteArray) (k : Nat) (h : k < s.size) : [34] ++ ((N.bl s).take (k + 1)).flatMap V.quoteB = [34] ++ ((N.bl s).take k).flatMap V.quoteB ++ V.quoteB s[k] := by
  rw [V.take_snoc s k h, List.flatMap_append]; simp
theorem hex_at2 (n : Nat) (h : n < 16) : (⟨#[48, 49, 50, 51, 52, 53, 54, 55, 56, 57, 97, 98, 99, 100, 101, 102]⟩ : ByteArray)[n]'h = V.hexd n := hex_lit ⟨n, h⟩
set_option maxRecDepth 100000 in
set_option maxHeartbeats 800000 in
theorem quote_any (s : ByteArray) (w : World) (hs : s.size ≤ 2000000) :
    Calls Try.prog 100 #[.string s] w fun e w' => e = .returned (.string (N.str (V.quote (N.bl s)))) ∧ Below w.heap.size w w' := by
  have hbl : Below w.heap.size w (w.alloc (.cells #[.pointer none, .slice none 0 0] 198)) := (Below.refl _ _).alloc (Nat.le_refl _) _
  have hf := Lib.fresh_isBuilder 198 5 w
  go_enter Try.func100, Try.ntmps100
  go_wp2_with fail
  refine (writeByte_list w.heap.size w.heap.size [] 34 _ hf (by simp) (by simp)).mono ?_
  rintro e w1 ⟨rfl, h1, hb1⟩
  have hB1 := hbl.trans hb1
  clear hf hb1 hbl
  go_wp2_with fail
  go_loopw [9, 4, 5] (fun i _ _ wr => ∃ k : Nat, k ≤ s.size ∧ i = .int .i64 k ∧ Lib.IsBuilder 198 5 w.heap.size w.heap.size (Lib.byteCells ([34] ++ ((N.bl s).take k).flatMap V.quoteB)) wr ∧ Below w.heap.size w wr) (fun i _ _ _ => s.size - (intOf i).toNat)
  case atStart => exact ⟨0, Nat.zero_le _, rfl, by simpa using h1, hB1⟩
  case round =>
    obtain ⟨k, hk, rfl, hb, hB⟩ := hrel
    clear h1 hB1
    have hsz := hB.size
    by_cases hlt : k < s.size
    · have hfl := V.flat_len ((N.bl s).take k)
      have htl : ((N.bl s).take k).length ≤ k := List.length_take_le _ _
      have hsn := V.flat_snoc s k hlt
      have HSN : Hid _ := hsn
      clear hsn
      by_cases hq : s[k].toNat = 34 ∨ s[k].toNat = 92
      · have hqb : V.quoteB s[k] = [92, s[k]] := by rw [V.quoteB, if_pos hq]
        have HQB : Hid _ := hqb
        have L1 : ([34] ++ ((N.bl s).take k).flatMap V.quoteB).length + 4 ≤ 1000000000 := by rw [List.length_append]; simp only [List.length_cons, List.length_nil]; omega
        generalize [34] ++ ((N.bl s).take k).flatMap V.quoteB = acc at *
        clear hqb
        by_cases h34 : s[k].toNat = 34
        · have g34 : ((s[k].toNat : Int) == 34) = true := by simp; omega
          clear hq h34
          go_wp2_with fail
          refine (writeByte_list w.heap.size w.heap.size acc 92 _ hb (by omega) hsz).mono ?_
          rintro e w2 ⟨rfl, h2, hb2⟩
          have hs2 := hb2.size
          go_wp2_with fail
          refine (writeByte_list w.heap.size w.heap.size (acc ++ [92]) s[k] _ h2 (by simp; omega) (by omega)).mono ?_
          rintro e w3 ⟨rfl, h3, hb3⟩
          have hB3 := (hB.trans hb2).trans hb3
          clear hB hb2 hb3 h2 hb
          go_wp2_with fail
          go_roundw
          case rel => exact ⟨k + 1, by omega, by go_num, by rw [HSN.out, HQB.out]; simpa using h3, hB3⟩
          case measure => simp [intOf]; omega
        · have g34 : ((s[k].toNat : Int) == 34) = false := by simp; omega
          have g92 : ((s[k].toNat : Int) == 92) = true := by simp; omega
          clear hq h34
          go_wp2_with fail
          refine (writeByte_list w.heap.size w.heap.size acc 92 _ hb (by omega) hsz).mono ?_
          rintro e w2 ⟨rfl, h2, hb2⟩
          have hs2 := hb2.size
          go_wp2_with fail
          refine (writeByte_list w.heap.size w.heap.size (acc ++ [92]) s[k] _ h2 (by simp; omega) (by omega)).mono ?_
          rintro e w3 ⟨rfl, h3, hb3⟩
          have hB3 := (hB.trans hb2).trans hb3
          clear hB hb2 hb3 h2 hb
          go_wp2_with fail
          go_roundw
          case rel => exact ⟨k + 1, by omega, by go_num, by rw [HSN.out, HQB.out]; simpa using h3, hB3⟩
          case measure => simp [intOf]; omega
      · have g34 : ((s[k].toNat : Int) == 34) = false := by simp; omega
        have g92 : ((s[k].toNat : Int) == 92) = false := by simp; omega
        by_cases hx : s[k].toNat < 32 ∨ 126 < s[k].toNat
        · have hqb : V.quoteB s[k] = [92, 120] ++ [V.hexd (s[k].toNat / 16), V.hexd (s[k].toNat % 16)] := by rw [V.quoteB, if_neg hq, if_neg (by omega)]; rfl
          have HQB : Hid _ := hqb
          have L1 : ([34] ++ ((N.bl s).take k).flatMap V.quoteB).length + 4 ≤ 1000000000 := by rw [List.length_append]; simp only [List.length_cons, List.length_nil]; omega
          generalize [34] ++ ((N.bl s).take k).flatMap V.quoteB = acc at *
          have hd1 : s[k].toNat / 16 < 16 := by have := s[k].toNat_lt; omega
          have hd2 : s[k].toNat % 16 < 16 := by omega
          clear hqb hq
          by_cases hx1 : s[k].toNat < 32
          · clear hx
            go_wp2_with fail
            refine (writeString_list w.heap.size w.heap.size acc ⟨#[92, 120]⟩ _ hb (by rw [show (⟨#[92, 120]⟩ : ByteArray).size = 2 from rfl]; omega) hsz).mono ?_
            rintro e w2 ⟨rfl, h2, hb2⟩
            have hs2 := hb2.size
            rw [show N.bl ⟨#[92, 120]⟩ = [92, 120] from rfl] at h2
            go_wp2_with fail
            refine (writeByte_list w.heap.size w.heap.size (acc ++ [92, 120]) _ _ h2 (by simp; omega) (by omega)).mono ?_
            rintro e w3 ⟨rfl, h3, hb3⟩
            have hs3 := hb3.size
            rw [hex_at2 _ hd1] at h3
            go_wp2_with fail
            refine (writeByte_list w.heap.size w.heap.size (acc ++ [92, 120] ++ [V.hexd (s[k].toNat / 16)]) _ _ h3 (by simp; omega) (by omega)).mono ?_
            rintro e w4 ⟨rfl, h4, hb4⟩
            rw [hex_at2 _ hd2] at h4
            have hB4 := ((hB.trans hb2).trans hb3).trans hb4
            clear hB hb2 hb3 hb4 h2 h3 hb
            go_wp2_with fail
            go_roundw
            case rel => exact ⟨k + 1, by omega, by go_num, by rw [HSN.out, HQB.out]; simpa using h4, hB4⟩
            case measure => simp [intOf]; omega
          · have hx2 : 126 < s[k].toNat := by omega
            clear hx
            go_wp2_with fail
            refine (writeString_list w.heap.size w.heap.size acc ⟨#[92, 120]⟩ _ hb (by rw [show (⟨#[92, 120]⟩ : ByteArray).size = 2 from rfl]; omega) hsz).mono ?_
            rintro e w2 ⟨rfl, h2, hb2⟩
            have hs2 := hb2.size
            rw [show N.bl ⟨#[92, 120]⟩ = [92, 120] from rfl] at h2
            go_wp2_with fail
            refine (writeByte_list w.heap.size w.heap.size (acc ++ [92, 120]) _ _ h2 (by simp; omega) (by omega)).mono ?_
            rintro e w3 ⟨rfl, h3, hb3⟩
            have hs3 := hb3.size
            rw [hex_at2 _ hd1] at h3
            go_wp2_with fail
            refine (writeByte_list w.heap.size w.heap.size (acc ++ [92, 120] ++ [V.hexd (s[k].toNat / 16)]) _ _ h3 (by simp; omega) (by omega)).mono ?_
            rintro e w4 ⟨rfl, h4, hb4⟩
            rw [hex_at2 _ hd2] at h4
            have hB4 := ((hB.trans hb2).trans hb3).trans hb4
            clear hB hb2 hb3 hb4 h2 h3 hb
            go_wp2_with fail
            go_roundw
            case rel => exact ⟨k + 1, by omega, by go_num, by rw [HSN.out, HQB.out]; simpa using h4, hB4⟩
            case measure => simp [intOf]; omega
        · have hqb : V.quoteB s[k] = [s[k]] := by rw [V.quoteB, if_neg hq, if_pos (by omega)]
          have HQB : Hid _ := hqb
          have L1 : ([34] ++ ((N.bl s).take k).flatMap V.quoteB).length + 4 ≤ 1000000000 := by rw [List.length_append]; simp only [List.length_cons, List.length_nil]; omega
          generalize [34] ++ ((N.bl s).take k).flatMap V.quoteB = acc at *
          have hx1 : 32 ≤ s[k].toNat := by omega
          have hx2 : s[k].toNat ≤ 126 := by omega
          clear hqb hq hx
          go_wp2_with fail
          refine (writeByte_list w.heap.size w.heap.size acc s[k] _ hb (by omega) hsz).mono ?_
          rintro e w3 ⟨rfl, h3, hb3⟩
          have hB3 := hB.trans hb3
          clear hB hb3 hb
          go_wp2_with fail
          go_roundw
          case rel => exact ⟨k + 1, by omega, by go_num, by rw [HSN.out, HQB.out]; exact h3, hB3⟩
          case measure => simp [intOf]; omega
    · have hfl := V.flat_len (N.bl s)
      rw [N.length_bl] at hfl
      rw [List.take_of_length_le (by rw [N.length_bl]; omega)] at hb
      have L1 : ([34] ++ (N.bl s).flatMap V.quoteB).length + 4 ≤ 1000000000 := by rw [List.length_append]; simp only [List.length_cons, List.length_nil]; omega
      have HQ : Hid (V.quote (N.bl s) = [34] ++ (N.bl s).flatMap V.quoteB ++ [34]) := by show _ = _; rw [V.quote]; simp
      generalize [34] ++ (N.bl s).flatMap V.quoteB = acc at *
      go_wp2_with fail
      refine (writeByte_list w.heap.size w.heap.size acc 34 _ hb (by omega) hsz).mono ?_
      rintro e w2 ⟨rfl, h2, hb2⟩
      have hs2 := hb2.size
      go_wp2_with fail
      refine (string_any w.heap.size w.heap.size (acc ++ [34]) _ h2 (by omega)).mono ?_
      rintro e w3 ⟨rfl, hb3⟩
      go_wp2_with fail
      go_ret
      exact ⟨by rw [HQ.out]; rfl, (hB.trans hb2).trans hb3⟩
end Go.Proofs.Ytmlbcdofogffkab.Qt
