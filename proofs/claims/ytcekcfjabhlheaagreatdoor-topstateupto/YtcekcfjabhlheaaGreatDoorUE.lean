/- TopState: UE. -/
import Derived.Test.YtcekcfjabhlheaaGreatDoorUD
set_option maxRecDepth 100000
set_option maxHeartbeats 1600000
namespace Go.Proofs.YtcekcfjabhlheaaGreatDoor.Vx
open Go.RowKit
def KeepB (b : Nat) (w w' : World) : Prop := ∀ (G : Nat) (cs : Array Value) (T : TypeId) (fr : Nat × Nat), G ≠ b -> T ≠ 5 -> w.heap[G]? = some (.cells cs T fr) -> w'.heap[G]? = some (.cells cs T fr)
theorem KeepB.refl (b : Nat) (w : World) : KeepB b w w := fun _ _ _ _ _ _ h => h
theorem KeepB.trans {b : Nat} {w w1 w2 : World} (h : KeepB b w w1) (k : KeepB b w1 w2) : KeepB b w w2 := fun G cs T fr hG hT hh => k G cs T fr hG hT (h G cs T fr hG hT hh)
theorem KeepB.of_below {b : Nat} {w w1 : World} (h : Below w.heap.size w w1) : KeepB b w w1 := fun G _ _ _ _ _ hh => (h.block G (blt hh)).trans hh
theorem isb_kept {T e : TypeId} {B b : Nat} {bs : List Value} {w w' : World} (h : Lib.IsBuilder T e B b bs w) (hb : Below w.heap.size w w') : Lib.IsBuilder T e B b bs w' := by
 rcases h with ⟨h1, v, h2, h3, h4⟩ | ⟨h1, v, h2, h3, h4⟩
 ·exact .inl ⟨h1, v, (hb.block b (blt h2)).trans h2, owns_below h3 hb, h4⟩
 ·exact .inr ⟨h1, v, (hb.block b (blt h2)).trans h2, owns_below h3 hb, h4⟩
theorem copyCheck2 (B b : Nat) (bs : List Value) (w : World) (h : Lib.IsBuilder 101 5 B b bs w) :
  Calls Tryz.prog 80 #[.pointer (some ⟨b, 0, none⟩)] w fun e w' => e = .returned (.tuple #[]) /\ Lib.BuilderAt 101 5 B b (.pointer (some ⟨b, 0, none⟩)) bs w' /\ Below B w w' /\ KeepB b w w' := by
 rcases h with h | h
 ·refine (check_fresh b w h.cell0 h.shape h.frozen0).mono ?_
  rintro e w' ⟨rfl, rfl⟩
  exact ⟨rfl, h.used _, (Below.refl B w).setCell (p := ⟨b, 0, none⟩) h.1 _, fun G _ _ _ hG _ hh => by rw [Below.heap_setCell w ⟨b, 0, none⟩ _ G (fun e => hG e)]; exact hh⟩
 ·refine (check_used b w h.cell0).mono ?_
  rintro e w' ⟨rfl, rfl⟩
  exact ⟨rfl, h, Below.refl B _, KeepB.refl _ _⟩
theorem writeString2 (B b : Nat) (bs : List Value) (s : ByteArray) (w : World) (h : Lib.IsBuilder 101 5 B b bs w) (hlen : bs.length + s.size <= 1000000000) (hBw : B <= w.heap.size) :
  Calls Tryz.prog 59 #[.pointer (some ⟨b, 0, none⟩), .string s] w fun e w' => e = .returned (.tuple #[.int .i64 s.size, .nilIface]) /\ Lib.BuilderAt 101 5 B b (.pointer (some ⟨b, 0, none⟩)) (bs ++ Lib.strCells s) w' /\ Below B w w' /\ KeepB b w w' := by
 obtain ⟨i0, hi, hz0, hz1, hz2⟩ := info_parts info5
 go_enter Tryz.func59, Tryz.ntmps59
 go_wp2_with fail
 refine (copyCheck2 B b bs _ h).mono ?_
 rintro e w1 ⟨rfl, ⟨hB, v, hbk, hown, hne⟩, hb1, hk1⟩
 have c0 := cell_of_block hbk 0 (.pointer (some ⟨b, 0, none⟩)) rfl
 have c1 := cell_of_block hbk 1 v rfl
 have hlt : b < w1.heap.size := (blt hbk)
 have hs1 := hb1.size
 have HBK : Hid _ := hbk
 clear hbk
 go_wp2_with (at_builtin; go_must (refine Lib.wpList_append_own_string _ rfl _ _ 99 9 rfl B 5 i0 Tryz.underlying99 Tryz.underlying9 hi hz0 hz1 hz2 _ _ _ rfl hown s rfl (by unfold maxLen; omega) (by omega) (by omega) ?_); intro v' w2 hown2 hgrow hat; obtain ⟨ao, cap, rfl⟩ := own_shape hown2; have hb2 := (hgrow.block b hlt (fun e => hne e.symm)).trans HBK.out; have d1 := cell_of_block hb2 1 v rfl; have f1 := free_of_block hb2 1)
 go_ret2
 refine ⟨rfl, ?_, ?_, ?_⟩
 ·exact Lib.BuilderAt.put (T := 101) (e := 5) hB hb2 (bs' := bs ++ Lib.strCells s) (by simpa [Lib.strCells_length] using hown2) (by decide)
 ·exact (hb1.grown hgrow (by omega) (fun k hk => (hown.lt k hk).1)).setCell (p := ⟨b, 1, none⟩) hB _
 ·refine hk1.trans (fun G _ _ _ hG hT hh => ?_)
  rw [Below.heap_setCell w2 ⟨b, 1, none⟩ _ G (fun e => hG e), hgrow.block G (blt hh) (fun e => Lib.ownBlock_ne hown hh hT e.symm)]
  exact hh
theorem writeS (B b : Nat) (l : List UInt8) (s : ByteArray) (w : World) (h : Lib.IsBuilder 101 5 B b (Lib.byteCells l) w) (hlen : l.length + s.size <= 1000000000) (hBw : B <= w.heap.size) :
  Calls Tryz.prog 59 #[.pointer (some ⟨b, 0, none⟩), .string s] w fun e w' => e = .returned (.tuple #[.int .i64 s.size, .nilIface]) /\ Lib.IsBuilder 101 5 B b (Lib.byteCells (l ++ V.bl s)) w' /\ Below B w w' /\ KeepB b w w' := by
 refine (writeString2 B b _ s w h (by rw [Lib.byteCells_length]; exact hlen) hBw).mono ?_
 rintro e w' ⟨rfl, h1, hb, hk⟩
 rw [byteCells_str] at h1
 exact ⟨rfl, .inr h1, hb, hk⟩
namespace P
theorem flat_take {α : Type} (f : α -> List UInt8) : ∀ (l : List α) (k : Nat) (x : α), l[k]? = some x -> (l.take (k + 1)).flatMap f = (l.take k).flatMap f ++ f x := fun l k x h => by
 rw [List.take_add_one, h]
 simp
theorem flat_take_len {α : Type} (f : α -> List UInt8) (l : List α) (k : Nat) (x : α) (h : l[k]? = some x) : ((l.take k).flatMap f).length + (f x).length <= (l.flatMap f).length := by
 have h1 := congrArg List.length (flat_take f l k x h)
 rw [List.length_append] at h1
 have h2 : (l.flatMap f).length = ((l.take (k + 1)).flatMap f).length + ((l.drop (k + 1)).flatMap f).length := by
  rw [<- List.length_append, <- List.flatMap_append, List.take_append_drop]
 omega
end P
theorem isb_lt {B b : Nat} {bs : List Value} {w : World} (h : Lib.IsBuilder 101 5 B b bs w) : b < w.heap.size := by
 rcases h with h | h
 ·exact h.lt
 ·exact h.lt
namespace S
def lineOf (xs : List (List UInt8)) : List UInt8 := Lib.join xs [32] ++ [10]
end S
theorem lineFn_any (B b : Nat) (l : List UInt8) (bk c : Nat) (xs : List ByteArray) (w : World) (hib : Lib.IsBuilder 101 5 B b (Lib.byteCells l) w) (hcells : ∀ (j : Nat) x, xs[j]? = some x -> w.cell? ⟨bk, 0 + j, none⟩ = some (.string x)) (hbk : bk < w.heap.size) (hN : xs.length <= 10) (hcap : xs.length <= c)
  (hlen : l.length + (S.lineOf (xs.map V.bl)).length <= 500000000) (hBw : B <= w.heap.size) :
  Calls Tryz.prog 58 #[.slice (some ⟨bk, 0, none⟩) xs.length c, .pointer (some ⟨b, 0, none⟩)] w fun e w' => e = .returned (.tuple #[]) /\ Lib.IsBuilder 101 5 B b (Lib.byteCells (l ++ S.lineOf (xs.map V.bl))) w' /\ Below B w w' /\ KeepB b w w' := by
 have hjl : (Lib.join (xs.map V.bl) [32]).length + 1 = (S.lineOf (xs.map V.bl)).length := by simp [S.lineOf]
 have hJ := sh_strings_Join bk 0 c xs ⟨#[32]⟩ w hcells hbk (by omega) hcap (by show (Lib.join (xs.map V.bl) [32]).length <= _; omega)
 have HJ : Hid (Calls Tryz.prog 60 #[.slice (some ⟨bk, 0, none⟩) xs.length c, .string ⟨#[32]⟩] w fun e w' => (∃ t, e = .returned (.string t) /\ Hid (t = V.str (Lib.join (xs.map V.bl) [32])) /\ t.size + 1 = (S.lineOf (xs.map V.bl)).length) /\ Below w.heap.size w w') := by
  refine hJ.mono ?_
  rintro e w' ⟨rfl, h⟩
  refine ⟨⟨_, rfl, rfl, ?_⟩, ?_⟩
  ·rw [show (⟨(Lib.join (xs.map (·.data.toList)) (⟨#[32]⟩ : ByteArray).data.toList).toArray⟩ : ByteArray) = V.str (Lib.join (xs.map V.bl) [32]) from rfl, str_size2]
   exact hjl
  ·exact h
 obtain ⟨HIB, HLEN, HBW⟩ := hd3 hib hlen hBw
 clear hib hcells hbk hN hcap hlen hBw hJ hjl
 go_enter Tryz.func58, Tryz.ntmps58
 go_wp2_with fail
 refine HJ.out.mono ?_
 rintro e w1 ⟨⟨t, rfl, ht, hts⟩, hb1⟩
 have hl := HLEN.out
 have q1 : ¬ 9223372036854775807 < t.size + 1 := by omega
 have hs1 : (t ++ (⟨#[10]⟩ : ByteArray)).size = t.size + 1 := by rw [ByteArray.size_append]; rfl
 have E : Hid (V.bl (t ++ (⟨#[10]⟩ : ByteArray)) = S.lineOf (xs.map V.bl)) := by
  show _ = _
  rw [bl_append, ht.out, V.bl_str]
  rfl
 have HW := hide (writeS B b l (t ++ (⟨#[10]⟩ : ByteArray)) w1 (isb_kept HIB.out hb1) (by rw [hs1]; omega) (Nat.le_trans HBW.out hb1.size))
 have HB1 := hide hb1
 have HB2 : Hid (Below B w w1) := hb1.mono HBW.out
 clear hb1 hl HJ hts hs1
 go_wp2_with fail
 refine HW.out.mono ?_
 rintro e w2 ⟨rfl, h1, h2, h3⟩
 rw [E.out] at h1
 have H1 := hide h1
 have H2 := hide (HB2.out.trans h2)
 have H3 := hide ((KeepB.of_below HB1.out).trans h3)
 clear h1 h2 h3
 go_wp2_with fail
 go_end0
 exact ⟨rfl, H1.out, H2.out, H3.out⟩
theorem line_new (B b : Nat) (l : List UInt8) (xs : List ByteArray) (w : World) (hib : Lib.IsBuilder 101 5 B b (Lib.byteCells l) w) (hN : xs.length <= 10) (hlen : l.length + (S.lineOf (xs.map V.bl)).length <= 500000000) (hBw : B <= w.heap.size) :
  Calls Tryz.prog 58 #[.slice (some ⟨w.heap.size, 0, none⟩) xs.length xs.length, .pointer (some ⟨b, 0, none⟩)] (w.alloc (.cells (xs.map Value.string).toArray 9)) fun e w' => e = .returned (.tuple #[]) /\ Lib.IsBuilder 101 5 B b (Lib.byteCells (l ++ S.lineOf (xs.map V.bl))) w' /\ Below B w w' /\ KeepB b w w' := by
 have hb : Below w.heap.size w (w.alloc (.cells (xs.map Value.string).toArray 9)) := (Below.refl _ _).alloc (Nat.le_refl _) _
 refine (lineFn_any B b l w.heap.size xs.length xs _ (isb_kept hib hb) (fun j x hx => ?_) (by simp) hN (Nat.le_refl _) hlen (Nat.le_trans hBw hb.size)).mono ?_
 ·rw [Nat.zero_add]
  refine cell_of_block (heap_alloc_new w (.cells (xs.map Value.string).toArray 9)) j _ ?_
  simp [hx]
 ·rintro e w' ⟨h1, h2, h3, h4⟩
  exact ⟨h1, h2, (hb.mono hBw).trans h3, (KeepB.of_below hb).trans h4⟩
namespace S
def kSerial : List UInt8 := [115, 101, 114, 105, 97, 108]
def kHeld : List UInt8 := [104, 101, 108, 100]
def kIntent : List UInt8 := [105, 110, 116, 101, 110, 116]
def kOut : List UInt8 := [111, 117, 116]
def serialLine (n : Int) : List UInt8 := lineOf [kSerial, Lib.itoa n]
def heldLine (m : Nat) (h : Hd) : List UInt8 := lineOf [kHeld, heldText m h]
def itLine (m : Nat) (x : It) : List UInt8 := lineOf [kIntent, Lib.itoa x.op, V.bl x.token, heldText m x.h]
def outLine (m : Nat) (x : ByteArray × Val) : List UInt8 := lineOf [kOut, V.bl x.1, V.text m x.2]
def lines (m : Nat) (s : St) : List UInt8 := ((serialLine s.serial ++ s.held.flatMap (heldLine m)) ++ s.its.flatMap (itLine m)) ++ s.outs.flatMap (outLine m)
structure Good (m : Nat) (s : St) : Prop where
 held : ∀ x ∈ s.held, V.fault m x.v = 0
 its : ∀ x ∈ s.its, V.fault m x.h.v = 0
 outs : ∀ x ∈ s.outs, V.fault m x.2 = 0
end S
theorem linesOf_any (m : Nat) (w : World) (s : St) (c0 c1 c2 c3 : Value) (h : S.Mem m w s [c0, c1, c2, c3]) (hf : S.Few m s) (hg : S.Good m s) (hlen : (S.lines m s).length <= 400000000) (h1 : s.held.length <= 1000) (h2 : s.its.length <= 1000) (h3 : s.outs.length <= 1000) (htab : Lib.TabIs Tryz.prog w "internal/strconv.uint64pow10" .u64 Lib.pow10Tab) :
  Calls Tryz.prog 33 #[.agg #[c0, c1, c2, c3]] w fun o w' => o = .returned (.string (V.str (S.lines m s))) /\ Below w.heap.size w w' := by
 obtain ⟨hv, iv, ov, hcs, hh, hi, ho, h64⟩ := h
 simp only [List.cons.injEq, and_true] at hcs
 obtain ⟨rfl, rfl, rfl, rfl⟩ := hcs
 obtain ⟨ah, ch, rfl⟩ := V.Row.shape hh
 obtain ⟨ai, ci, rfl⟩ := V.Row.shape hi
 obtain ⟨ao, co, rfl⟩ := V.Row.shape ho
 obtain ⟨HH, HI, HO, HF, HG, HTAB, HLEN⟩ := hd7 hh hi ho hf hg htab hlen
 have hb0 : Below w.heap.size w (w.alloc (.cells #[.int .i64 s.serial, .slice ah s.held.length ch, .slice ai s.its.length ci, .slice ao s.outs.length co] 26)) := (Below.refl _ _).alloc (Nat.le_refl _) _
 have hA := heap_alloc_new w (.cells #[.int .i64 s.serial, .slice ah s.held.length ch, .slice ai s.its.length ci, .slice ao s.outs.length co] 26)
 have hsz0 : (w.alloc (.cells #[.int .i64 s.serial, .slice ah s.held.length ch, .slice ai s.its.length ci, .slice ao s.outs.length co] 26)).heap.size = w.heap.size + 1 := by simp
 have hnb := Lib.fresh_isBuilder 101 5 (w.alloc (.cells #[.int .i64 s.serial, .slice ah s.held.length ch, .slice ai s.its.length ci, .slice ao s.outs.length co] 26))
 rw [hsz0] at hnb
 have hA0 : ((w.alloc (.cells #[.int .i64 s.serial, .slice ah s.held.length ch, .slice ai s.its.length ci, .slice ao s.outs.length co] 26)).alloc (.cells #[.pointer none, .slice none 0 0] 101)).heap[w.heap.size]? = some (.cells #[.int .i64 s.serial, .slice ah s.held.length ch, .slice ai s.its.length ci, .slice ao s.outs.length co] 26 (0, 0)) := by rw [heap_alloc_old _ _ (by rw [hsz0]; omega)]; exact hA
 have hB0 : Below w.heap.size w ((w.alloc (.cells #[.int .i64 s.serial, .slice ah s.held.length ch, .slice ai s.its.length ci, .slice ao s.outs.length co] 26)).alloc (.cells #[.pointer none, .slice none 0 0] 101)) := hb0.alloc (by rw [hsz0]; omega) _
 have hz0 : w.heap.size + 1 <= ((w.alloc (.cells #[.int .i64 s.serial, .slice ah s.held.length ch, .slice ai s.its.length ci, .slice ao s.outs.length co] 26)).alloc (.cells #[.pointer none, .slice none 0 0] 101)).heap.size := by simp
 have HKP : Hid (∀ wr : World, Below (w.heap.size + 1) ((w.alloc (.cells #[.int .i64 s.serial, .slice ah s.held.length ch, .slice ai s.its.length ci, .slice ao s.outs.length co] 26)).alloc (.cells #[.pointer none, .slice none 0 0] 101)) wr -> Below w.heap.size w wr /\ wr.heap[w.heap.size]? = some (.cells #[.int .i64 s.serial, .slice ah s.held.length ch, .slice ai s.its.length ci, .slice ao s.outs.length co] 26 (0, 0))) := fun wr hb =>
  ⟨hB0.trans (hb.mono (by omega)), (hb.block w.heap.size (by omega)).trans hA0⟩
 have f0 := free_of_block hA0
 have x0 := cell_of_block hA0 0 _ rfl
 have x1 := cell_of_block hA0 1 _ rfl
 obtain ⟨HZ0, HNB⟩ := hd2 hz0 hnb
 have HR0 : Hid (Below (w.heap.size + 1) ((w.alloc (.cells #[.int .i64 s.serial, .slice ah s.held.length ch, .slice ai s.its.length ci, .slice ao s.outs.length co] 26)).alloc (.cells #[.pointer none, .slice none 0 0] 101)) ((w.alloc (.cells #[.int .i64 s.serial, .slice ah s.held.length ch, .slice ai s.its.length ci, .slice ao s.outs.length co] 26)).alloc (.cells #[.pointer none, .slice none 0 0] 101))) := Below.refl _ _
 have HIT := hide (sh_strconv_Itoa s.serial h64.1 h64.2 ((w.alloc (.cells #[.int .i64 s.serial, .slice ah s.held.length ch, .slice ai s.its.length ci, .slice ao s.outs.length co] 26)).alloc (.cells #[.pointer none, .slice none 0 0] 101)) (tab_below htab hB0))
 have hil := itoa_len2 s.serial h64
 have HL0 : Hid (([] : List UInt8).length + (S.serialLine s.serial).length <= 500000000) := by
  show _ <= _
  simp only [S.lines, List.length_append] at hlen
  simp only [List.length_nil]
  omega
 clear hh hi ho hf hg htab hlen hb0 hA hsz0 hnb hA0 hB0 hz0
 go_enter Tryz.func33, Tryz.ntmps33
 go_wp2_with fail
 generalize ((w.alloc _).alloc _) = W0 at *
 refine HIT.out.mono ?_
 rintro e w1 ⟨rfl, kk, os, hw1⟩
 have hb1 : Below W0.heap.size W0 w1 := by rw [hw1]; exact below_grow W0 kk os
 have HB1 := hide (HR0.out.trans (hb1.mono HZ0.out))
 have HNB1 := hide (isb_kept HNB.out hb1)
 have HS1 : Hid (w.heap.size + 1 <= w1.heap.size) := Nat.le_trans HZ0.out hb1.size
 clear hw1 HIT x0 x1 f0 hb1 HNB HR0
 go_wp2_with fail
 refine (line_new (w.heap.size + 1) (w.heap.size + 1) [] [⟨#[115, 101, 114, 105, 97, 108]⟩, ⟨(Lib.itoa s.serial).toArray⟩] w1 HNB1.out (by simp) HL0.out HS1.out).mono ?_
 rintro e w2 ⟨rfl, hi2, hb2, hk2⟩
 have HNB2 : Hid (Lib.IsBuilder 101 5 (w.heap.size + 1) (w.heap.size + 1) (Lib.byteCells (S.serialLine s.serial)) w2) := hi2
 have HB2 := hide (HB1.out.trans hb2)
 have hS2 := (HKP.out _ HB2.out).2
 have x1 := cell_of_block hS2 1 _ rfl
 have f0 := free_of_block hS2
 clear hi2 hb2 hk2 HB1 HNB1 HS1 hS2 HL0 hil
 go_wp2_with fail
 clear x1 f0
 go_loopw [21, 6] (fun vi _ wr => ∃ k : Nat, k <= s.held.length /\ vi = .int .i64 k /\ Lib.IsBuilder 101 5 (w.heap.size + 1) (w.heap.size + 1) (Lib.byteCells (S.serialLine s.serial ++ (s.held.take k).flatMap (S.heldLine m))) wr /\ Below (w.heap.size + 1) W0 wr)
  (fun vi _ _ => s.held.length - (intOf vi).toNat)
 case atStart => exact ⟨0, Nat.zero_le _, rfl, by simpa using HNB2.out, HB2.out⟩
 case round =>
  clear HNB2 HB2
  obtain ⟨k, hk, rfl, hib, hB⟩ := hrel
  obtain ⟨hBw, hSt⟩ := HKP.out wr hB
  have HSZ : Hid (w.heap.size + 1 <= wr.heap.size) := Nat.le_trans HZ0.out hB.size
  by_cases hlt : k < s.held.length
  ·obtain ⟨b, off, cap', x, a0, a1, a2, a3, a4, e1, hx, hm, hid64, y0, y1, y2, y3, y4, y5, y6, y7⟩ := S.elemH (HH.out.kept hBw) k hlt
   simp only [Value.slice.injEq] at e1
   obtain ⟨rfl, _, rfl⟩ := e1
   have hxm := List.mem_of_getElem? hx
   obtain ⟨al, ll, cl, af, lf, cf, hcs⟩ := S.Mem.form hm
   simp only [List.cons.injEq, and_true] at hcs
   obtain ⟨rfl, rfl, rfl, rfl, rfl⟩ := hcs
   have hbA : Below wr.heap.size wr (wr.alloc (.cells #[.string x.name, .string x.kind, .int .i64 x.id, .int .i64 x.v.kind, .int .i64 x.v.n, .string x.v.s, .slice al ll cl, .slice af lf cf] 63)) := (Below.refl _ _).alloc (Nat.le_refl _) _
   have hA := heap_alloc_new wr (.cells #[.string x.name, .string x.kind, .int .i64 x.id, .int .i64 x.v.kind, .int .i64 x.v.n, .string x.v.s, .slice al ll cl, .slice af lf cf] 63)
   have HT := hide (heldText_any m _ x _ _ _ _ _ (V.Mem.kept m hm hbA) (HF.out.held x hxm) hid64 (HG.out.held x hxm) (tab_below HTAB.out (hBw.trans (hbA.mono hBw.size))))
   obtain ⟨HBA, HB, HIB, HX⟩ := hd4 hbA hB hib hx
   have HLN : Hid ((S.serialLine s.serial ++ (s.held.take k).flatMap (S.heldLine m)).length + (S.heldLine m x).length <= 500000000) := by
    show _ <= _
    have h5 := P.flat_take_len (S.heldLine m) s.held k x hx
    have h6 := HLEN.out
    simp only [S.lines, List.length_append] at h6 ⊢
    omega
   have f0 := free_of_block hA
   obtain ⟨x0, x1, x2, x3, x4, x5, x6, x7⟩ := cl8 hA
   clear hm hB hib hbA hA hx hid64 hxm hBw hSt
   go_wp2_with fail
   generalize (wr.alloc _) = wa at *
   refine HT.out.mono ?_
   rintro e w3 ⟨rfl, hb3⟩
   have hb4 := HBA.out.trans (hb3.mono HBA.out.size)
   have HB3 := hide (HB.out.trans (hb4.mono HSZ.out))
   have HIB3 := hide (isb_kept HIB.out hb4)
   have HSZ3 : Hid (w.heap.size + 1 <= w3.heap.size) := Nat.le_trans HSZ.out hb4.size
   clear hb3 hb4 HT x0 x1 x2 x3 x4 x5 x6 x7 f0 y0 y1 y2 y3 y4 y5 y6 y7
   go_wp2_with fail
   refine (line_new (w.heap.size + 1) (w.heap.size + 1) (S.serialLine s.serial ++ (s.held.take k).flatMap (S.heldLine m)) [⟨#[104, 101, 108, 100]⟩, V.str (S.heldText m x)] w3 HIB3.out (by simp) (by have h7 := HLN.out; simp only [S.heldLine] at h7; simp only [List.map_cons, List.map_nil, V.bl_str]; exact h7) HSZ3.out).mono ?_
   rintro e w4 ⟨rfl, hi4, hb4, hk4⟩
   have HI4 : Hid (Lib.IsBuilder 101 5 (w.heap.size + 1) (w.heap.size + 1) (Lib.byteCells (S.serialLine s.serial ++ (s.held.take (k + 1)).flatMap (S.heldLine m))) w4) := by
    show Lib.IsBuilder _ _ _ _ _ _
    rw [P.flat_take (S.heldLine m) s.held k x HX.out, <- List.append_assoc, S.heldLine]
    simp only [List.map_cons, List.map_nil, V.bl_str] at hi4
    exact hi4
   have HB4 := hide (HB3.out.trans hb4)
   clear hi4 hb4 hk4
   go_wp2_with fail
   go_roundw
   case rel => exact ⟨k + 1, by omega, by go_num, HI4.out, HB4.out⟩
   case measure => simp [intOf]; omega
  ·have hkk : k = s.held.length := by omega
   subst hkk
   rw [List.take_length] at hib
   obtain ⟨HIB, HB⟩ := hd2 hib hB
   have x2 := cell_of_block hSt 2 _ rfl
   have f0 := free_of_block hSt
   clear hib hB hk hSt hBw hlt
   go_wp2_with fail
   clear x2 f0
   go_loopw [34, 8] (fun vi _ wr => ∃ k : Nat, k <= s.its.length /\ vi = .int .i64 k /\ Lib.IsBuilder 101 5 (w.heap.size + 1) (w.heap.size + 1) (Lib.byteCells ((S.serialLine s.serial ++ s.held.flatMap (S.heldLine m)) ++ (s.its.take k).flatMap (S.itLine m))) wr /\ Below (w.heap.size + 1) W0 wr)
    (fun vi _ _ => s.its.length - (intOf vi).toNat)
   case atStart => exact ⟨0, Nat.zero_le _, rfl, by simpa using HIB.out, HB.out⟩
   case round =>
    clear HIB HB HSZ
    obtain ⟨k, hk, rfl, hib, hB⟩ := hrel
    obtain ⟨hBw, hSt⟩ := HKP.out wr hB
    have HSZ : Hid (w.heap.size + 1 <= wr.heap.size) := Nat.le_trans HZ0.out hB.size
    by_cases hlt : k < s.its.length
    ·obtain ⟨b, off, cap', x, a0, a1, a2, a3, a4, e1, hx, hm, hid64, hop64, y0, y1, y2, y3, y4, y5, y6, y7, y8, y9⟩ := S.elemI (HI.out.kept hBw) k hlt
     simp only [Value.slice.injEq] at e1
     obtain ⟨rfl, _, rfl⟩ := e1
     have hxm := List.mem_of_getElem? hx
     obtain ⟨al, ll, cl, af, lf, cf, hcs⟩ := S.Mem.form hm
     simp only [List.cons.injEq, and_true] at hcs
     obtain ⟨rfl, rfl, rfl, rfl, rfl⟩ := hcs
     have hbA : Below wr.heap.size wr (wr.alloc (.cells #[.int .i64 x.op, .string x.h.name, .string x.h.kind, .int .i64 x.h.id, .int .i64 x.h.v.kind, .int .i64 x.h.v.n, .string x.h.v.s, .slice al ll cl, .slice af lf cf, .string x.token] 66)) := (Below.refl _ _).alloc (Nat.le_refl _) _
     have hA := heap_alloc_new wr (.cells #[.int .i64 x.op, .string x.h.name, .string x.h.kind, .int .i64 x.h.id, .int .i64 x.h.v.kind, .int .i64 x.h.v.n, .string x.h.v.s, .slice al ll cl, .slice af lf cf, .string x.token] 66)
     have hil := itoa_len2 x.op hop64
     have hne : wr.heap.size ≠ w.heap.size + 1 := by
      have := isb_lt hib
      omega
     have hC1 : ∀ W : World, Below wr.heap.size wr W -> W.heap[wr.heap.size]? = some (.cells #[.int .i64 x.op, .string x.h.name, .string x.h.kind, .int .i64 x.h.id, .int .i64 x.h.v.kind, .int .i64 x.h.v.n, .string x.h.v.s, .slice al ll cl, .slice af lf cf, .string x.token] 66 (0, 0)) -> Calls Tryz.prog 61 #[.int .i64 x.op] W fun e w3 =>
       (∃ t, e = .returned (.string t) /\ Hid (t = V.str (Lib.itoa x.op))) /\ (w3.cell? ⟨wr.heap.size, 0, none⟩ = some (.int .i64 x.op) /\ w3.cell? ⟨wr.heap.size, 1, none⟩ = some (.string x.h.name) /\ w3.cell? ⟨wr.heap.size, 2, none⟩ = some (.string x.h.kind) /\ w3.cell? ⟨wr.heap.size, 3, none⟩ = some (.int .i64 x.h.id) /\ w3.cell? ⟨wr.heap.size, 4, none⟩ = some (.int .i64 x.h.v.kind) /\ w3.cell? ⟨wr.heap.size, 5, none⟩ = some (.int .i64 x.h.v.n) /\ w3.cell? ⟨wr.heap.size, 6, none⟩ = some (.string x.h.v.s) /\ w3.cell? ⟨wr.heap.size, 7, none⟩ = some (.slice al ll cl) /\ w3.cell? ⟨wr.heap.size, 8, none⟩ = some (.slice af lf cf) /\ w3.cell? ⟨wr.heap.size, 9, none⟩ = some (.string x.token)) /\ Hid (w3.heap[wr.heap.size]? = some (.cells #[.int .i64 x.op, .string x.h.name, .string x.h.kind, .int .i64 x.h.id, .int .i64 x.h.v.kind, .int .i64 x.h.v.n, .string x.h.v.s, .slice al ll cl, .slice af lf cf, .string x.token] 66 (0, 0))) /\ Hid (Below wr.heap.size wr w3) := fun W hB' hblk => by
      refine (sh_strconv_Itoa x.op hop64.1 hop64.2 W (tab_below HTAB.out (hBw.trans (hB'.mono hBw.size)))).mono ?_
      rintro e w3 ⟨rfl, kk, os, rfl⟩
      have hb := below_grow W kk os
      have hblk3 := (hb.block wr.heap.size (blt hblk)).trans hblk
      exact ⟨⟨_, rfl, rfl⟩, ⟨cell_of_block hblk3 0 _ rfl, cell_of_block hblk3 1 _ rfl, cell_of_block hblk3 2 _ rfl, cell_of_block hblk3 3 _ rfl, cell_of_block hblk3 4 _ rfl, cell_of_block hblk3 5 _ rfl, cell_of_block hblk3 6 _ rfl, cell_of_block hblk3 7 _ rfl, cell_of_block hblk3 8 _ rfl, cell_of_block hblk3 9 _ rfl⟩, hblk3, hB'.trans (hb.mono hB'.size)⟩
     have hC2 : ∀ W : World, Below wr.heap.size wr W -> W.heap[wr.heap.size]? = some (.cells #[.int .i64 x.op, .string x.h.name, .string x.h.kind, .int .i64 x.h.id, .int .i64 x.h.v.kind, .int .i64 x.h.v.n, .string x.h.v.s, .slice al ll cl, .slice af lf cf, .string x.token] 66 (0, 0)) -> Calls Tryz.prog 62 #[.agg #[.string x.h.name, .string x.h.kind, .int .i64 x.h.id, .int .i64 x.h.v.kind, .int .i64 x.h.v.n, .string x.h.v.s, .slice al ll cl, .slice af lf cf]] W fun e w3 =>
       (∃ t, e = .returned (.string t) /\ Hid (t = V.str (S.heldText m x.h))) /\ (w3.cell? ⟨wr.heap.size, 0, none⟩ = some (.int .i64 x.op) /\ w3.cell? ⟨wr.heap.size, 1, none⟩ = some (.string x.h.name) /\ w3.cell? ⟨wr.heap.size, 2, none⟩ = some (.string x.h.kind) /\ w3.cell? ⟨wr.heap.size, 3, none⟩ = some (.int .i64 x.h.id) /\ w3.cell? ⟨wr.heap.size, 4, none⟩ = some (.int .i64 x.h.v.kind) /\ w3.cell? ⟨wr.heap.size, 5, none⟩ = some (.int .i64 x.h.v.n) /\ w3.cell? ⟨wr.heap.size, 6, none⟩ = some (.string x.h.v.s) /\ w3.cell? ⟨wr.heap.size, 7, none⟩ = some (.slice al ll cl) /\ w3.cell? ⟨wr.heap.size, 8, none⟩ = some (.slice af lf cf) /\ w3.cell? ⟨wr.heap.size, 9, none⟩ = some (.string x.token)) /\ Hid (w3.heap[wr.heap.size]? = some (.cells #[.int .i64 x.op, .string x.h.name, .string x.h.kind, .int .i64 x.h.id, .int .i64 x.h.v.kind, .int .i64 x.h.v.n, .string x.h.v.s, .slice al ll cl, .slice af lf cf, .string x.token] 66 (0, 0))) /\ Hid (Below wr.heap.size wr w3) := fun W hB' hblk => by
      refine (heldText_any m W x.h _ _ _ _ _ (V.Mem.kept m hm hB') (HF.out.its x hxm).1 hid64 (HG.out.its x hxm) (tab_below HTAB.out (hBw.trans (hB'.mono hBw.size)))).mono ?_
      rintro e w3 ⟨rfl, hb⟩
      have hblk3 := (hb.block wr.heap.size (blt hblk)).trans hblk
      exact ⟨⟨_, rfl, rfl⟩, ⟨cell_of_block hblk3 0 _ rfl, cell_of_block hblk3 1 _ rfl, cell_of_block hblk3 2 _ rfl, cell_of_block hblk3 3 _ rfl, cell_of_block hblk3 4 _ rfl, cell_of_block hblk3 5 _ rfl, cell_of_block hblk3 6 _ rfl, cell_of_block hblk3 7 _ rfl, cell_of_block hblk3 8 _ rfl, cell_of_block hblk3 9 _ rfl⟩, hblk3, hB'.trans (hb.mono hB'.size)⟩
     have hLN : ((S.serialLine s.serial ++ s.held.flatMap (S.heldLine m)) ++ (s.its.take k).flatMap (S.itLine m)).length + (S.itLine m x).length <= 500000000 := by
      have h5 := P.flat_take_len (S.itLine m) s.its k x hx
      have h6 := HLEN.out
      simp only [S.lines, List.length_append] at h6 ⊢
      omega
     have hC3 : ∀ (W : World) (t u : ByteArray), Below wr.heap.size wr W -> W.heap[wr.heap.size]? = some (.cells #[.int .i64 x.op, .string x.h.name, .string x.h.kind, .int .i64 x.h.id, .int .i64 x.h.v.kind, .int .i64 x.h.v.n, .string x.h.v.s, .slice al ll cl, .slice af lf cf, .string x.token] 66 (0, 0)) -> t = V.str (Lib.itoa x.op) -> u = V.str (S.heldText m x.h) ->
       Calls Tryz.prog 58 #[.slice (some ⟨W.heap.size, 0, none⟩) 4 4, .pointer (some ⟨w.heap.size + 1, 0, none⟩)] (W.alloc (.cells #[.string ⟨#[105, 110, 116, 101, 110, 116]⟩, .string t, .string x.token, .string u] 9)) fun e w3 =>
       e = .returned (.tuple #[]) /\ (w3.cell? ⟨wr.heap.size, 0, none⟩ = some (.int .i64 x.op) /\ w3.cell? ⟨wr.heap.size, 1, none⟩ = some (.string x.h.name) /\ w3.cell? ⟨wr.heap.size, 2, none⟩ = some (.string x.h.kind) /\ w3.cell? ⟨wr.heap.size, 3, none⟩ = some (.int .i64 x.h.id) /\ w3.cell? ⟨wr.heap.size, 4, none⟩ = some (.int .i64 x.h.v.kind) /\ w3.cell? ⟨wr.heap.size, 5, none⟩ = some (.int .i64 x.h.v.n) /\ w3.cell? ⟨wr.heap.size, 6, none⟩ = some (.string x.h.v.s) /\ w3.cell? ⟨wr.heap.size, 7, none⟩ = some (.slice al ll cl) /\ w3.cell? ⟨wr.heap.size, 8, none⟩ = some (.slice af lf cf) /\ w3.cell? ⟨wr.heap.size, 9, none⟩ = some (.string x.token)) /\ Hid (Lib.IsBuilder 101 5 (w.heap.size + 1) (w.heap.size + 1) (Lib.byteCells ((S.serialLine s.serial ++ s.held.flatMap (S.heldLine m)) ++ (s.its.take (k + 1)).flatMap (S.itLine m))) w3) /\ Hid (Below (w.heap.size + 1) W0 w3) := fun W t u hB' hblk ht hu => by
      subst ht
      subst hu
      refine (line_new (w.heap.size + 1) (w.heap.size + 1) ((S.serialLine s.serial ++ s.held.flatMap (S.heldLine m)) ++ (s.its.take k).flatMap (S.itLine m)) [⟨#[105, 110, 116, 101, 110, 116]⟩, V.str (Lib.itoa x.op), x.token, V.str (S.heldText m x.h)] W (isb_kept hib hB') (by simp) (by simp only [S.itLine] at hLN; simp only [List.map_cons, List.map_nil, V.bl_str]; exact hLN) (Nat.le_trans HSZ.out hB'.size)).mono ?_
      rintro e w3 ⟨rfl, hi3, hb3, hk3⟩
      have hblk3 := hk3 _ _ _ _ hne (by decide) hblk
      refine ⟨rfl, ⟨cell_of_block hblk3 0 _ rfl, cell_of_block hblk3 1 _ rfl, cell_of_block hblk3 2 _ rfl, cell_of_block hblk3 3 _ rfl, cell_of_block hblk3 4 _ rfl, cell_of_block hblk3 5 _ rfl, cell_of_block hblk3 6 _ rfl, cell_of_block hblk3 7 _ rfl, cell_of_block hblk3 8 _ rfl, cell_of_block hblk3 9 _ rfl⟩, ?_, hB.trans ((hB'.mono HSZ.out).trans hb3)⟩
      show Lib.IsBuilder _ _ _ _ _ _
      rw [P.flat_take (S.itLine m) s.its k x hx, <- List.append_assoc, S.itLine]
      simp only [List.map_cons, List.map_nil, V.bl_str] at hi3
      exact hi3
     have HC1 := hide (fun n => hC1 ((wr.alloc (.cells #[.int .i64 x.op, .string x.h.name, .string x.h.kind, .int .i64 x.h.id, .int .i64 x.h.v.kind, .int .i64 x.h.v.n, .string x.h.v.s, .slice al ll cl, .slice af lf cf, .string x.token] 66)).drewN n) (below_drewN hbA n) hA)
     obtain ⟨HC2, HC3⟩ := hd2 hC2 hC3
     obtain ⟨x0, x1, x2, x3, x4, x5, x6, x7, x8, x9⟩ := cl10 hA
     have f0 := free_of_block hA
     clear hC1 hC2 hC3 hm hB hib hbA hA hx hid64 hop64 hxm hBw hSt hne hil hLN
     go_wp2_with fail
     generalize (wr.alloc _) = wa at *
     go_region_held3 (fun W => W.cell? ⟨wr.heap.size, 0, none⟩ = some (.int .i64 x.op) /\ W.cell? ⟨wr.heap.size, 1, none⟩ = some (.string x.h.name) /\ W.cell? ⟨wr.heap.size, 2, none⟩ = some (.string x.h.kind) /\ W.cell? ⟨wr.heap.size, 3, none⟩ = some (.int .i64 x.h.id) /\ W.cell? ⟨wr.heap.size, 4, none⟩ = some (.int .i64 x.h.v.kind) /\ W.cell? ⟨wr.heap.size, 5, none⟩ = some (.int .i64 x.h.v.n) /\ W.cell? ⟨wr.heap.size, 6, none⟩ = some (.string x.h.v.s) /\ W.cell? ⟨wr.heap.size, 7, none⟩ = some (.slice al ll cl) /\ W.cell? ⟨wr.heap.size, 8, none⟩ = some (.slice af lf cf) /\ W.cell? ⟨wr.heap.size, 9, none⟩ = some (.string x.token)) (go_keep)
      (first
       | (go_at_call 61; refine Calls.mono (HC1.out _) ?_; rintro e w3 ⟨⟨t, rfl, ht⟩, ⟨t0, t1, t2, t3, t4, t5, t6, t7, t8, t9⟩, HK3', HB3⟩)
       | (go_at_call 62; refine Calls.mono (HC2.out _ HB3.out HK3'.out) ?_; rintro e w4 ⟨⟨u, rfl, hu⟩, ⟨t0, t1, t2, t3, t4, t5, t6, t7, t8, t9⟩, HK4, HB4⟩)
       | (go_at_call 58; refine Calls.mono (HC3.out _ _ _ HB4.out HK4.out ht.out hu.out) ?_; rintro e w5 ⟨rfl, ⟨t0, t1, t2, t3, t4, t5, t6, t7, t8, t9⟩, HI5, HB5⟩))
     all_goals
      clear HK3' HB3 HK4 HB4 ht hu
      go_wp2_with fail
      go_roundw
      case rel => exact ⟨k + 1, by omega, by go_num, HI5.out, HB5.out⟩
      case measure => simp [intOf]; omega
    ·have hkk : k = s.its.length := by omega
     subst hkk
     rw [List.take_length] at hib
     obtain ⟨HIB, HB⟩ := hd2 hib hB
     have x3 := cell_of_block hSt 3 _ rfl
     have f0 := free_of_block hSt
     clear hib hB hk hSt hBw hlt
     go_wp2_with fail
     clear x3 f0
     go_loopw [53, 10] (fun vi _ wr => ∃ k : Nat, k <= s.outs.length /\ vi = .int .i64 k /\ Lib.IsBuilder 101 5 (w.heap.size + 1) (w.heap.size + 1) (Lib.byteCells (((S.serialLine s.serial ++ s.held.flatMap (S.heldLine m)) ++ s.its.flatMap (S.itLine m)) ++ (s.outs.take k).flatMap (S.outLine m))) wr /\ Below (w.heap.size + 1) W0 wr)
      (fun vi _ _ => s.outs.length - (intOf vi).toNat)
     case atStart => exact ⟨0, Nat.zero_le _, rfl, by simpa using HIB.out, HB.out⟩
     case round =>
      clear HIB HB HSZ
      obtain ⟨k, hk, rfl, hib, hB⟩ := hrel
      obtain ⟨hBw, hSt⟩ := HKP.out wr hB
      have HSZ : Hid (w.heap.size + 1 <= wr.heap.size) := Nat.le_trans HZ0.out hB.size
      by_cases hlt : k < s.outs.length
      ·obtain ⟨b, off, cap', x, a0, a1, a2, a3, a4, e1, hx, hm, y0, y1, y2, y3, y4, y5⟩ := S.elemO (HO.out.kept hBw) k hlt
       simp only [Value.slice.injEq] at e1
       obtain ⟨rfl, _, rfl⟩ := e1
       have hxm := List.mem_of_getElem? hx
       obtain ⟨al, ll, cl, af, lf, cf, hcs⟩ := S.Mem.form hm
       simp only [List.cons.injEq, and_true] at hcs
       obtain ⟨rfl, rfl, rfl, rfl, rfl⟩ := hcs
       have hbA : Below wr.heap.size wr (wr.alloc (.cells #[.string x.1, .int .i64 x.2.kind, .int .i64 x.2.n, .string x.2.s, .slice al ll cl, .slice af lf cf] 68)) := (Below.refl _ _).alloc (Nat.le_refl _) _
       have hA := heap_alloc_new wr (.cells #[.string x.1, .int .i64 x.2.kind, .int .i64 x.2.n, .string x.2.s, .slice al ll cl, .slice af lf cf] 68)
       have hne : wr.heap.size ≠ w.heap.size + 1 := by
        have := isb_lt hib
        omega
       have hC1 : ∀ W : World, Below wr.heap.size wr W -> W.heap[wr.heap.size]? = some (.cells #[.string x.1, .int .i64 x.2.kind, .int .i64 x.2.n, .string x.2.s, .slice al ll cl, .slice af lf cf] 68 (0, 0)) -> Calls Tryz.prog 63 #[.agg #[.int .i64 x.2.kind, .int .i64 x.2.n, .string x.2.s, .slice al ll cl, .slice af lf cf]] W fun e w3 =>
         (∃ t, e = .returned (.string t) /\ Hid (t = V.str (V.text m x.2))) /\ (w3.cell? ⟨wr.heap.size, 0, none⟩ = some (.string x.1) /\ w3.cell? ⟨wr.heap.size, 1, none⟩ = some (.int .i64 x.2.kind) /\ w3.cell? ⟨wr.heap.size, 2, none⟩ = some (.int .i64 x.2.n) /\ w3.cell? ⟨wr.heap.size, 3, none⟩ = some (.string x.2.s) /\ w3.cell? ⟨wr.heap.size, 4, none⟩ = some (.slice al ll cl) /\ w3.cell? ⟨wr.heap.size, 5, none⟩ = some (.slice af lf cf)) /\ Hid (w3.heap[wr.heap.size]? = some (.cells #[.string x.1, .int .i64 x.2.kind, .int .i64 x.2.n, .string x.2.s, .slice al ll cl, .slice af lf cf] 68 (0, 0))) /\ Hid (Below wr.heap.size wr w3) := fun W hB' hblk => by
        refine (told_any m W x.2 _ _ _ _ _ (V.Mem.kept m hm hB') (HF.out.outs x hxm).2 (tab_below HTAB.out (hBw.trans (hB'.mono hBw.size)))).mono ?_
        rintro e w3 ⟨rfl, hb⟩
        have hblk3 := (hb.block wr.heap.size (blt hblk)).trans hblk
        rw [V.textOr_ok (HG.out.outs x hxm)]
        exact ⟨⟨_, rfl, rfl⟩, ⟨cell_of_block hblk3 0 _ rfl, cell_of_block hblk3 1 _ rfl, cell_of_block hblk3 2 _ rfl, cell_of_block hblk3 3 _ rfl, cell_of_block hblk3 4 _ rfl, cell_of_block hblk3 5 _ rfl⟩, hblk3, hB'.trans (hb.mono hB'.size)⟩
       have hLN : (((S.serialLine s.serial ++ s.held.flatMap (S.heldLine m)) ++ s.its.flatMap (S.itLine m)) ++ (s.outs.take k).flatMap (S.outLine m)).length + (S.outLine m x).length <= 500000000 := by
        have h5 := P.flat_take_len (S.outLine m) s.outs k x hx
        have h6 := HLEN.out
        simp only [S.lines, List.length_append] at h6 ⊢
        omega
       have hC3 : ∀ (W : World) (t : ByteArray), Below wr.heap.size wr W -> W.heap[wr.heap.size]? = some (.cells #[.string x.1, .int .i64 x.2.kind, .int .i64 x.2.n, .string x.2.s, .slice al ll cl, .slice af lf cf] 68 (0, 0)) -> t = V.str (V.text m x.2) ->
         Calls Tryz.prog 58 #[.slice (some ⟨W.heap.size, 0, none⟩) 3 3, .pointer (some ⟨w.heap.size + 1, 0, none⟩)] (W.alloc (.cells #[.string ⟨#[111, 117, 116]⟩, .string x.1, .string t] 9)) fun e w3 =>
         e = .returned (.tuple #[]) /\ (w3.cell? ⟨wr.heap.size, 0, none⟩ = some (.string x.1) /\ w3.cell? ⟨wr.heap.size, 1, none⟩ = some (.int .i64 x.2.kind) /\ w3.cell? ⟨wr.heap.size, 2, none⟩ = some (.int .i64 x.2.n) /\ w3.cell? ⟨wr.heap.size, 3, none⟩ = some (.string x.2.s) /\ w3.cell? ⟨wr.heap.size, 4, none⟩ = some (.slice al ll cl) /\ w3.cell? ⟨wr.heap.size, 5, none⟩ = some (.slice af lf cf)) /\ Hid (Lib.IsBuilder 101 5 (w.heap.size + 1) (w.heap.size + 1) (Lib.byteCells (((S.serialLine s.serial ++ s.held.flatMap (S.heldLine m)) ++ s.its.flatMap (S.itLine m)) ++ (s.outs.take (k + 1)).flatMap (S.outLine m))) w3) /\ Hid (Below (w.heap.size + 1) W0 w3) := fun W t hB' hblk ht => by
        subst ht
        refine (line_new (w.heap.size + 1) (w.heap.size + 1) (((S.serialLine s.serial ++ s.held.flatMap (S.heldLine m)) ++ s.its.flatMap (S.itLine m)) ++ (s.outs.take k).flatMap (S.outLine m)) [⟨#[111, 117, 116]⟩, x.1, V.str (V.text m x.2)] W (isb_kept hib hB') (by simp) (by simp only [S.outLine] at hLN; simp only [List.map_cons, List.map_nil, V.bl_str]; exact hLN) (Nat.le_trans HSZ.out hB'.size)).mono ?_
        rintro e w3 ⟨rfl, hi3, hb3, hk3⟩
        have hblk3 := hk3 _ _ _ _ hne (by decide) hblk
        refine ⟨rfl, ⟨cell_of_block hblk3 0 _ rfl, cell_of_block hblk3 1 _ rfl, cell_of_block hblk3 2 _ rfl, cell_of_block hblk3 3 _ rfl, cell_of_block hblk3 4 _ rfl, cell_of_block hblk3 5 _ rfl⟩, ?_, hB.trans ((hB'.mono HSZ.out).trans hb3)⟩
        show Lib.IsBuilder _ _ _ _ _ _
        rw [P.flat_take (S.outLine m) s.outs k x hx, <- List.append_assoc, S.outLine]
        simp only [List.map_cons, List.map_nil, V.bl_str] at hi3
        exact hi3
       have HC1 := hide (fun n => hC1 ((wr.alloc (.cells #[.string x.1, .int .i64 x.2.kind, .int .i64 x.2.n, .string x.2.s, .slice al ll cl, .slice af lf cf] 68)).drewN n) (below_drewN hbA n) hA)
       have HC3 := hide hC3
       obtain ⟨x0, x1, x2, x3, x4, x5⟩ := cl6 hA
       have f0 := free_of_block hA
       clear hC1 hC3 hm hB hib hbA hA hx hxm hBw hSt hne hLN
       go_wp2_with fail
       generalize (wr.alloc _) = wa at *
       go_region_held3 (fun W => W.cell? ⟨wr.heap.size, 0, none⟩ = some (.string x.1) /\ W.cell? ⟨wr.heap.size, 1, none⟩ = some (.int .i64 x.2.kind) /\ W.cell? ⟨wr.heap.size, 2, none⟩ = some (.int .i64 x.2.n) /\ W.cell? ⟨wr.heap.size, 3, none⟩ = some (.string x.2.s) /\ W.cell? ⟨wr.heap.size, 4, none⟩ = some (.slice al ll cl) /\ W.cell? ⟨wr.heap.size, 5, none⟩ = some (.slice af lf cf)) (go_keep)
        (first
         | (go_at_call 63; refine Calls.mono (HC1.out _) ?_; rintro e w3 ⟨⟨t, rfl, ht⟩, ⟨t0, t1, t2, t3, t4, t5⟩, HK3', HB3⟩)
         | (go_at_call 58; refine Calls.mono (HC3.out _ _ HB3.out HK3'.out ht.out) ?_; rintro e w5 ⟨rfl, ⟨t0, t1, t2, t3, t4, t5⟩, HI5, HB5⟩))
       all_goals
        clear HK3' HB3 ht
        go_wp2_with fail
        go_roundw
        case rel => exact ⟨k + 1, by omega, by go_num, HI5.out, HB5.out⟩
        case measure => simp [intOf]; omega
      ·have hkk : k = s.outs.length := by omega
       subst hkk
       rw [List.take_length] at hib
       have HSG := hide (string_any (w.heap.size + 1) (w.heap.size + 1) (S.lines m s) wr hib (Nat.le_trans HZ0.out hB.size))
       have HBW := hide hBw
       clear hib hB hk hSt hBw hlt
       go_wp2_with fail
       refine HSG.out.mono ?_
       rintro e w6 ⟨rfl, hb6⟩
       have HB6 := hide (HBW.out.trans (hb6.mono (by omega)))
       clear hb6
       go_wp2_with fail
       go_ret
       exact ⟨rfl, HB6.out⟩
end Go.Proofs.YtcekcfjabhlheaaGreatDoor.Vx
