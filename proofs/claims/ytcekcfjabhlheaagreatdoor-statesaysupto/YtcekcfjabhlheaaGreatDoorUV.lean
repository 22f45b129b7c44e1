/- StateSays: UF UM UN UV. -/
import Derived.Test.YtcekcfjabhlheaaGreatDoorUE
import Derived.Test.YtcekcfjabhlheaaGreatDoorUK
import Derived.Test.YtcekcfjabhlheaaGreatDoorUL
import Derived.Lib.SplitLaws
import Derived.Lib.IndexBytes
import Derived.Test.YtcekcfjabhlheaaGreatDoorVJ
import Derived.Lib.AtoiAllCases
import Derived.Test.YtcekcfjabhlheaaGreatDoorUO
set_option maxRecDepth 100000
set_option maxHeartbeats 800000
namespace Go.Proofs.YtcekcfjabhlheaaGreatDoor.Vx
open Go.RowKit
namespace S
def bulkH (m : Nat) (h : Hd) : Nat := 1 + h.name.size + h.kind.size + V.bulk m h.v
def bulkI (m : Nat) (x : It) : Nat := 1 + bulkH m x.h + x.token.size
def bulkO (m : Nat) (x : ByteArray × Val) : Nat := 1 + x.1.size + V.bulk m x.2
def bulk (m : Nat) (s : St) : Nat := (s.held.map (bulkH m)).sum + (s.its.map (bulkI m)).sum + (s.outs.map (bulkO m)).sum
theorem Few.of {m : Nat} {s : St} (h : bulk m s <= 2000000) : Few m s := by
 unfold bulk at h;refine ⟨fun x hx => ?_, fun x hx => ?_, fun x hx => ?_⟩
 ·have := X.sum_le (bulkH m) s.held x hx;unfold bulkH at this h;unfold Small;omega
 ·have := X.sum_le (bulkI m) s.its x hx;unfold bulkI bulkH at this h;unfold Small;omega
 ·have := X.sum_le (bulkO m) s.outs x hx;unfold bulkO at this h;omega
theorem firstErr_zero {f : Nat -> Nat} {n : Nat} (h : X.firstErr ((List.range n).map f) = 0) : ∀ k, k < n -> f k = 0 := by
 intro k hk;unfold X.firstErr at h;cases hf : ((List.range n).map f).find? (fun n => n ≠ 0) with
 | none =>
  rw [List.find?_eq_none] at hf;have := hf (f k) (List.mem_map.2 ⟨k, List.mem_range.2 hk, rfl⟩);simpa using this
 | some x =>
  have h1 := List.find?_some hf;rw [hf] at h;have h2 : x = 0 := h;rw [h2] at h1;simp at h1
structure Ok (m : Nat) (s : St) : Prop where
 serial : 0 <= s.serial /\ s.serial <= 1000000000
 nHeld : s.held.length <= 16
 nIts : s.its.length <= 8
 nOuts : s.outs.length <= 8
 held : ∀ x ∈ s.held, V.name (V.bl x.name) = true /\ V.name (V.bl x.kind) = true /\ 0 <= x.id /\ x.v.kind = 5 /\ V.fault m x.v = 0
 its : ∀ x ∈ s.its, V.name (V.bl x.h.name) = true /\ V.name (V.bl x.h.kind) = true /\ 0 <= x.h.id /\ x.h.v.kind = 5 /\ V.fault m x.h.v = 0 /\ 1 <= x.op /\ x.op <= 3 /\ Dx.N.upto 36 x.token = true
 outs : ∀ x ∈ s.outs, V.name (V.bl x.1) = true /\ V.fault m x.2 = 0
theorem faultH_zero {m : Nat} {h : Hd} (k : faultH m h = 0) : V.name (V.bl h.name) = true /\ V.name (V.bl h.kind) = true /\ 0 <= h.id /\ h.v.kind = 5 /\ V.fault m h.v = 0 := by
 unfold faultH at k;split at k
 ·rename_i h1;exact ⟨h1.1, h1.2.1, h1.2.2.1, h1.2.2.2, k⟩
 ·cases k
theorem Ok.of {m : Nat} {s : St} (h : fault m s = 0) : Ok m s := by
 unfold fault at h;split at h
 ·cases h
 ·split at h
  ·cases h
  ·by_cases h1 : heldFault m s.held ≠ 0
   ·rw [if_pos h1] at h; exact absurd h h1
   ·rw [if_neg h1] at h;by_cases h2 : itFault m s.its ≠ 0
    ·rw [if_pos h2] at h; exact absurd h h2
    ·rw [if_neg h2] at h;have h1 : heldFault m s.held = 0 := by omega
     have h2 : itFault m s.its = 0 := by omega
     refine ⟨by omega, by omega, by omega, by omega, fun x hx => ?_, fun x hx => ?_, fun x hx => ?_⟩
     ·obtain ⟨i, hi, rfl⟩ := List.getElem_of_mem hx;have k := firstErr_zero h1 i hi;rw [heldF, List.getElem?_eq_getElem hi] at k;simp only at k;split at k
      ·rename_i hh; exact absurd k hh
      ·rename_i hh;exact faultH_zero (by omega)
     ·obtain ⟨i, hi, rfl⟩ := List.getElem_of_mem hx;have k := firstErr_zero h2 i hi;rw [itF, List.getElem?_eq_getElem hi] at k;simp only at k;split at k
      ·rename_i hh; exact absurd k hh
      ·rename_i hh;have k2 := faultH_zero (m := m) (h := (s.its[i]).h) (by omega);split at k
       ·cases k
       ·rename_i h3;refine ⟨k2.1, k2.2.1, k2.2.2.1, k2.2.2.2.1, k2.2.2.2.2, by omega, by omega, ?_⟩;cases hu : Dx.N.upto 36 (s.its[i]).token
        ·exact absurd (.inr (.inr hu)) h3
        ·rfl
     ·obtain ⟨i, hi, rfl⟩ := List.getElem_of_mem hx;have k := firstErr_zero h i hi;rw [outF, List.getElem?_eq_getElem hi] at k;simp only at k;split at k
      ·cases k
      ·rename_i h3;refine ⟨?_, k⟩;cases hu : V.name (V.bl (s.outs[i]).1)
       ·exact absurd (.inl hu) h3
       ·rfl
theorem Ok.good {m : Nat} {s : St} (h : Ok m s) : Good m s := ⟨fun x hx => (h.held x hx).2.2.2.2, fun x hx => (h.its x hx).2.2.2.2.1, fun x hx => (h.outs x hx).2⟩
end S
namespace S
theorem line2 (a b : List UInt8) : (lineOf [a, b]).length = a.length + b.length + 2 := by
 rw [lineOf, P.join_two];simp [Lib.join, List.intercalate];omega
theorem line3 (a b c : List UInt8) : (lineOf [a, b, c]).length = a.length + b.length + c.length + 3 := by
 rw [lineOf, P.join_two, P.join_two];simp [Lib.join, List.intercalate];omega
theorem line4 (a b c d : List UInt8) : (lineOf [a, b, c, d]).length = a.length + b.length + c.length + d.length + 4 := by
 rw [lineOf, P.join_two, P.join_two, P.join_two];simp [Lib.join, List.intercalate];omega
theorem flat_bound {α : Type} (f : α -> List UInt8) (g : α -> Nat) : ∀ l : List α, (∀ x ∈ l, (f x).length <= 80 * g x) -> (l.flatMap f).length <= 80 * (l.map g).sum
 | [], _ => by simp
 | a :: l, h => by
  have h1 := h a (by simp);have h2 := flat_bound f g l (fun x hx => h x (by simp [hx]));simp only [List.flatMap_cons, List.length_append, List.map_cons, List.sum_cons];omega
theorem heldText_len {m : Nat} {h : Hd} (hi : in64 h.id) (hf : V.fault m h.v = 0) : (heldText m h).length <= 40 * bulkH m h := by
 have h1 := V.text_len m h.v (V.fault_ok m h.v hf);have h2 := itoa_len2 h.id hi;unfold heldText bulkH;simp only [List.length_append, List.length_cons, V.length_bl];omega
theorem ids {m : Nat} {w : World} {s : St} {cs : List Value} (h : Mem m w s cs) : in64 s.serial /\ (∀ x ∈ s.held, in64 x.id) /\ ∀ x ∈ s.its, in64 x.h.id /\ in64 x.op := by
 obtain ⟨hv, iv, ov, _, h1, h2, _, h4⟩ := h;refine ⟨h4, fun x hx => ?_, fun x hx => ?_⟩
 ·obtain ⟨i, hi, rfl⟩ := List.getElem_of_mem hx;obtain ⟨_, _, _, y, _, _, _, _, _, _, hy, _, h5, _⟩ := elemH h1 i hi;rw [List.getElem?_eq_getElem hi] at hy;cases hy;exact h5
 ·obtain ⟨i, hi, rfl⟩ := List.getElem_of_mem hx;obtain ⟨_, _, _, y, _, _, _, _, _, _, hy, _, h5, h6, _⟩ := elemI h2 i hi;rw [List.getElem?_eq_getElem hi] at hy;cases hy;exact ⟨h5, h6⟩
theorem lines_len {m : Nat} {s : St} (hi : in64 s.serial /\ (∀ x ∈ s.held, in64 x.id) /\ ∀ x ∈ s.its, in64 x.h.id /\ in64 x.op) (hg : Good m s) (hb : bulk m s <= 2000000) : (lines m s).length <= 160000100 := by
 have h1 := flat_bound (heldLine m) (bulkH m) s.held (fun x hx => by
  have := heldText_len (hi.2.1 x hx) (hg.held x hx);unfold heldLine;rw [line2];have h2 : 1 <= bulkH m x := by unfold bulkH; omega
  simp only [kHeld, List.length_cons, List.length_nil];omega)
 have h2 := flat_bound (itLine m) (bulkI m) s.its (fun x hx => by
  have := heldText_len (hi.2.2 x hx).1 (hg.its x hx);have h3 := itoa_len2 x.op (hi.2.2 x hx).2;unfold itLine;rw [line4];have h2 : bulkI m x = 1 + bulkH m x.h + x.token.size := rfl;have h4 : 1 <= bulkH m x.h := by unfold bulkH; omega
  simp only [kIntent, List.length_cons, List.length_nil, V.length_bl];omega)
 have h3 := flat_bound (outLine m) (bulkO m) s.outs (fun x hx => by
  have := V.text_len m x.2 (V.fault_ok m x.2 (hg.outs x hx));unfold outLine;rw [line3];have h2 : bulkO m x = 1 + x.1.size + V.bulk m x.2 := rfl;simp only [kOut, List.length_cons, List.length_nil, V.length_bl];omega)
 have h4 : (serialLine s.serial).length <= 40 := by
  have := itoa_len2 s.serial hi.1;unfold serialLine;rw [line2];simp only [kSerial, List.length_cons, List.length_nil];omega
 unfold bulk at hb;unfold lines;simp only [List.length_append];omega
def text (m : Nat) (s : St) : List UInt8 := lines m s ++ sumText (lines m s)
def textOr (m : Nat) (s : St) : ByteArray := if fault m s = 0 then V.str (text m s) else ⟨#[]⟩
theorem sumText_len (l : List UInt8) : (sumText l).length <= 26 := by
 have h := sum_in l;have := dig_len (V.sum l).toNat (by omega);unfold sumText;simp only [List.length_append, List.length_cons, List.length_nil];omega
end S
theorem stateText_any (m : Nat) (w : World) (s : St) (c0 c1 c2 c3 : Value) (h : S.Mem m w s [c0, c1, c2, c3]) (hb : S.bulk m s <= 2000000) (htab : Lib.TabIs Tryz.prog w "internal/strconv.uint64pow10" .u64 Lib.pow10Tab) :
  Calls Tryz.prog 15 #[.agg #[c0, c1, c2, c3]] w fun o w' => o = .returned (.tuple #[.string (S.textOr m s), V.errOf (S.fault m s)]) /\ Below w.heap.size w w' := by
 have hf := S.Few.of hb;have hids := S.ids h;have HM := hide h;obtain ⟨hv, iv, ov, hcs, hh, hi, ho, h64⟩ := h;obtain ⟨rfl, rfl, rfl, rfl⟩ := ij4 hcs;obtain ⟨ah, ch, rfl⟩ := V.Row.shape hh;obtain ⟨ai, ci, rfl⟩ := V.Row.shape hi;obtain ⟨ao, co, rfl⟩ := V.Row.shape ho;have hb0 : Below w.heap.size w (w.alloc (.cells #[.int .i64 s.serial, .slice ah s.held.length ch, .slice ai s.its.length ci, .slice ao s.outs.length co] 26)) := ba;have hA := heap_alloc_new w (.cells #[.int .i64 s.serial, .slice ah s.held.length ch, .slice ai s.its.length ci, .slice ao s.outs.length co] 26);have HLT := hide (blt hA);have HCK := hide (stateCheck_any m _ s _ _ _ _ (HM.out.kept hb0) hf);obtain ⟨HB0, HA⟩ := hd2 hb0 hA;have HE : Hid (S.textOr m s = if S.fault m s = 0 then V.str (S.text m s) else ⟨#[]⟩) := rfl;have HOK : Hid (S.fault m s = 0 -> S.Ok m s) := S.Ok.of;have HLS : Hid (∀ w', Below w.heap.size w w' -> S.Ok m s -> Calls Tryz.prog 33 #[.agg #[.int .i64 s.serial, .slice ah s.held.length ch, .slice ai s.its.length ci, .slice ao s.outs.length co]] w' fun o w2 => o = .returned (.string (V.str (S.lines m s))) /\ Below w'.heap.size w' w2) := fun w' hB hok =>
  linesOf_any m w' s _ _ _ _ (HM.out.kept hB) hf hok.good (by have := S.lines_len hids hok.good hb; omega) (by have := hok.nHeld; omega) (by have := hok.nIts; omega) (by have := hok.nOuts; omega) (tab_below htab hB)
 have HLN : Hid (S.Ok m s -> (S.lines m s).length <= 160000100) := fun hok => S.lines_len hids hok.good hb
 have HTAB := hide htab;obtain ⟨x0, x1, x2, x3⟩ := cl4 hA;have f0 := free_of_block hA;clear hh hi ho h64 hb0 hA htab hf hids hb;generalize S.textOr m s = TT at *;go_enter Tryz.func15, Tryz.ntmps15;go_wp2_with fail;generalize (w.alloc _) = wa at *;refine HCK.out.mono ?_;rintro o w1 ⟨rfl, hb1⟩;have hA1 := (hb1.block w.heap.size HLT.out).trans HA.out;have HB1 := bt HB0 hb1;clear HCK hb1 x0 x1 x2 x3 f0;obtain ⟨x0, x1, x2, x3⟩ := cl4 hA1;have f0 := free_of_block hA1;clear hA1;generalize hfe : S.fault m s = F at *;have HFE := hide hfe;clear hfe;by_cases hF : F = 0
 ·subst hF;have hok := HOK.out rfl;have HL := hide (HLS.out w1 HB1.out hok);have hln := HLN.out hok;have E : Hid (TT = V.str (S.text m s)) := HE.out.trans (if_pos rfl);clear HE HOK HLS HLN hok;rw [V.errOf, if_pos rfl];go_wp2_with fail;refine HL.out.mono ?_;rintro o w2 ⟨rfl, hb2⟩;have hB2 := HB1.out.trans (hb2.mono HB1.out.size);have HB2 := hide hB2;have hsl := str_size2 (S.lines m s);have HSL := hide (sumLine_any (V.str (S.lines m s)) w2 (by omega) (tab_below HTAB.out hB2));rw [V.bl_str] at HSL;have hst := S.sumText_len (S.lines m s);have hss := str_size2 (S.sumText (S.lines m s));have E2 : Hid (V.str (S.lines m s) ++ V.str (S.sumText (S.lines m s)) = V.str (S.text m s)) := by
   show _ = _;refine bl_ext ?_;rw [bl_append, V.bl_str, V.bl_str, V.bl_str];rfl
  generalize V.str (S.lines m s) = A at *;generalize V.str (S.sumText (S.lines m s)) = B at *;have q1 : ¬ 9223372036854775807 < A.size + B.size := by omega
  clear hb2 hB2 hsl hst hss HL;go_wp2_with fail;refine HSL.out.mono ?_;rintro o w3 ⟨rfl, hb3⟩;have HB3 := bt HB2 hb3;clear hb3 HSL;go_wp2_with fail;go_ret2;refine ⟨?_, HB3.out⟩;rw [E.out, <- E2.out, HFE.out];rfl
 ·have E : Hid (TT = ⟨#[]⟩) := HE.out.trans (if_neg hF);clear HE HLS HOK HLN;rw [err_ne F hF];go_wp2_with fail;go_ret2;exact ⟨by rw [E.out, HFE.out, err_ne F hF]; rfl, HB1.out⟩
namespace S
theorem index_at : ∀ (a b : List UInt8) (c : UInt8), c ∉ a -> Lib.indexByte (a ++ c :: b) c = a.length
 | [], b, c, _ => by simp [Lib.indexByte]
 | x :: a, b, c, h => by
  have h1 : ¬ x = c := fun e => h (by simp [e])
  have h2 := index_at a b c (fun e => h (by simp [e]));rw [List.cons_append, Lib.indexByte, h2, if_neg (by simpa using h1), if_neg (by simp)];simp
theorem ext_head (a b : List UInt8) (c : UInt8) : (V.str (a ++ c :: b)).extract 0 a.length = V.str a := by
 have : V.bl ((V.str (a ++ c :: b)).extract 0 a.length) = V.bl (V.str a) := by
  unfold V.bl;rw [Lib.extract_data];show ((a ++ c :: b).drop 0).take (a.length - 0) = a;simp
 rw [<- V.str_bl ((V.str (a ++ c :: b)).extract 0 a.length), this, V.str_bl]
theorem ext_tail (a b : List UInt8) (c : UInt8) (n : Nat) (hn : n = (a ++ c :: b).length) : (V.str (a ++ c :: b)).extract (a.length + 1) n = V.str b := by
 have : V.bl ((V.str (a ++ c :: b)).extract (a.length + 1) n) = V.bl (V.str b) := by
  unfold V.bl;rw [Lib.extract_data, hn];show ((a ++ c :: b).drop (a.length + 1)).take ((a ++ c :: b).length - (a.length + 1)) = b;have hd : (a ++ c :: b).drop (a.length + 1) = b := by
   rw [show a ++ c :: b = (a ++ [c]) ++ b by simp];exact List.drop_left' (by simp)
  rw [hd, List.take_of_length_le (by simp; omega)]
 rw [<- V.str_bl ((V.str (a ++ c :: b)).extract (a.length + 1) n), this, V.str_bl]
theorem size_str (l : List UInt8) : (V.str l).size = l.length := by rw [<- V.length_bl, V.bl_str]
end S
theorem cutIn_any (a b : List UInt8) (c : UInt8) (h : c ∉ a) (hl : (a ++ c :: b).length <= 1000000) (w : World) :
  Calls Tryz.prog 107 #[.string (V.str (a ++ c :: b)), .string ⟨#[c]⟩] w fun e w' => e = .returned (.tuple #[.string (V.str a), .string (V.str b), .bool true]) /\ ∃ n, w' = w.drewN n := by
 have H := hide (sh_stringslite_Index_one (V.str (a ++ c :: b)) c w);rw [show (V.str (a ++ c :: b)).data.toList = a ++ c :: b from V.bl_str _, S.index_at a b c h] at H;have hsz := S.size_str (a ++ c :: b);have e1 := S.ext_head a b c;have e2 := S.ext_tail a b c _ hsz;have hle : a.length + 1 <= (V.str (a ++ c :: b)).size := by rw [hsz]; simp
 rw [<- hsz] at hl;generalize V.str (a ++ c :: b) = s at *;have c1 : (0 : Int) <= ↑a.length := by omega
 have c2 : (↑a.length : Int) <= ↑s.size := by omega
 have c3 : (0 : Int) <= ↑a.length + 1 := by omega
 have c4 : (↑a.length + 1 : Int) <= ↑s.size := by omega
 clear h hsz;go_enter Tryz.func107, Tryz.ntmps107;go_wp2_with fail;refine H.out.mono ?_;rintro e w1 ⟨rfl, hw⟩;rw [hw];clear hw H;go_wp2_with fail;go_quiet (fail)
 all_goals
  go_wp2_with fail
  go_ret3
  exact ⟨rfl, _, rfl⟩
theorem cut_any (a b : List UInt8) (c : UInt8) (h : c ∉ a) (hl : (a ++ c :: b).length <= 1000000) (w : World) :
  Calls Tryz.prog 90 #[.string (V.str (a ++ c :: b)), .string ⟨#[c]⟩] w fun e w' => e = .returned (.tuple #[.string (V.str a), .string (V.str b), .bool true]) /\ ∃ n, w' = w.drewN n := by
 have H := hide (cutIn_any a b c h hl w);generalize V.str (a ++ c :: b) = s at *;clear h hl;go_enter Tryz.func90, Tryz.ntmps90;go_wp2_with fail;refine H.out.mono ?_;rintro e w1 ⟨rfl, n, hw⟩;rw [hw];clear hw H;go_wp2_with fail
 go_ret3
 exact ⟨rfl, _, rfl⟩
namespace S
theorem indexB_one (x : ByteArray) (c : UInt8) : Lib.indexB x ⟨#[c]⟩ = Lib.indexByte x.data.toList c := Lib.index_one x.data.toList c
theorem split_hit (a b : List UInt8) (c : UInt8) (k : Nat) (h : c ∉ a) : Lib.splitB ⟨#[c]⟩ 0 (k + 1) (V.str (a ++ c :: b)) = V.str a :: Lib.splitB ⟨#[c]⟩ 0 k (V.str b) := by
 have hi : Lib.indexB (V.str (a ++ c :: b)) ⟨#[c]⟩ = (a.length : Int) := by rw [indexB_one]; exact index_at a b c h
 rw [Lib.splitB_hit _ _ _ _ a.length hi, Nat.add_zero, ext_head, show (⟨#[c]⟩ : ByteArray).size = 1 from rfl, ext_tail a b c _ (size_str _)]
def words : List (List UInt8) -> List UInt8 -> List UInt8
 | [], t => t
 | a :: l, t => a ++ 32 :: words l t
theorem split_words : ∀ (l : List (List UInt8)) (t : List UInt8), (∀ a ∈ l, (32 : UInt8) ∉ a) -> Lib.splitB ⟨#[32]⟩ 0 l.length (V.str (words l t)) = (l ++ [t]).map V.str
 | [], t, _ => rfl
 | a :: l, t, h => by
  rw [List.length_cons, words, split_hit a _ 32 _ (h a (by simp)), split_words l t (fun x hx => h x (by simp [hx]))];rfl
theorem words_len : ∀ (l : List (List UInt8)) (t : List UInt8), l.length <= (words l t).length
 | [], _ => Nat.zero_le _
 | a :: l, t => by
  have := words_len l t;rw [words, List.length_append, List.length_cons, List.length_cons];omega
end S
theorem splitN_any (l : List (List UInt8)) (t : List UInt8) (h : ∀ a ∈ l, (32 : UInt8) ∉ a) (h1 : 1 <= l.length) (h2 : l.length <= 10) (hl : (S.words l t).length <= 1000000) (w : World) :
  Calls Tryz.prog 110 #[.string (V.str (S.words l t)), .string ⟨#[32]⟩, .int .i64 (l.length + 1 : Nat)] w fun e w' => e = .returned (.slice (some ⟨w.heap.size, 0, none⟩) (l.length + 1) (l.length + 1)) /\ w' = w.alloc (.cells (((l ++ [t]).map (fun x => Value.string (V.str x))).toArray) 9) := by
 have hsz := S.size_str (S.words l t);have hwl := S.words_len l t;have H : Hid (Calls Tryz.prog 131 #[.string (V.str (S.words l t)), .string ⟨#[32]⟩, .int .i64 (0 : Nat), .int .i64 (l.length + 1 : Nat)] w fun e w' => e = .returned (.slice (some ⟨w.heap.size, 0, none⟩) (l.length + 1) (l.length + 1)) /\ w' = w.alloc (.cells (((l ++ [t]).map (fun x => Value.string (V.str x))).toArray) 9)) := by
  have hg := Any.strings_genSplit_core sh_lays221 (by kernel_rfl) (V.str (S.words l t)) ⟨#[32]⟩ 0 ((l.length + 1 : Nat) : Int) (l.length + 1) w (by omega) (by decide) (by decide)
   (fun x c _ => by
    have := sh_strings_Index_one x 32 (w.alloc (.cells c 9));rw [<- S.indexB_one] at this;exact this)
   (by
    have := sh_strings_Count_one (V.str (S.words l t)) 32 w;rw [show Lib.countByte (V.str (S.words l t)).data.toList 32 = Lib.countB (V.str (S.words l t)) ⟨#[32]⟩ from (Lib.count_one 32 _).symm] at this;exact this)
   (by omega) (by omega) (by rw [if_neg (by omega)]; omega)
  rw [Nat.add_sub_cancel, S.split_words l t h] at hg;refine Calls.mono hg ?_;rintro e w' ⟨rfl, rfl⟩;refine ⟨by simp, ?_⟩;congr 2;unfold Lib.cellsOf;simp
 generalize V.str (S.words l t) = s at *;generalize ((l ++ [t]).map (fun x => Value.string (V.str x))).toArray = A at *;generalize l.length + 1 = n at *;clear h h1 h2 hl hsz hwl;go_enter Tryz.func110, Tryz.ntmps110;go_wp2_with fail;refine H.out.mono ?_;rintro e w1 ⟨rfl, hw⟩;rw [hw];clear hw H;go_wp2_with fail;go_ret;exact ⟨rfl, rfl⟩
namespace S
def Off (c : UInt8) : Prop := c = 32 \/ c = 10
theorem name_from : ∀ (i : Nat) (l : List UInt8), V.nameFrom i l = true -> ∀ c, Off c -> c ∉ l
 | _, [], _, _, _ => by simp
 | i, b :: l, h, c, hc => by
  rw [V.nameFrom, Bool.and_eq_true] at h;intro hm;rcases List.mem_cons.1 hm with rfl | hm
  ·have h1 := h.1;unfold V.nameByte V.letter V.digit at h1;rcases hc with rfl | rfl
   ·simp at h1
   ·simp at h1
  ·exact name_from (i + 1) l h.2 c hc hm
theorem name_off {l : List UInt8} (h : V.name l = true) {c : UInt8} (hc : Off c) : c ∉ l := by
 unfold V.name at h;simp only [Bool.and_eq_true] at h;exact name_from 0 l h.2 c hc
theorem dec_off (u : Nat) {c : UInt8} (hc : Off c) : c ∉ Lib.decDigits u := by
 intro hm;have h := (P.dec_digits u).1 c hm;unfold Lx.digit at h;rcases hc with rfl | rfl <;> simp at h
theorem itoa_off (n : Int) {c : UInt8} (hc : Off c) : c ∉ Lib.itoa n := by
 unfold Lib.itoa;split
 ·intro hm;rcases List.mem_cons.1 hm with h | h
  ·rcases hc with rfl | rfl <;> simp at h
  ·exact dec_off _ hc h
 ·exact dec_off _ hc
theorem from_off : ∀ (l : List UInt8), Dx.N.from_ l = true -> ∀ c, Off c -> c ∉ l
 | [], _, _, _ => by simp
 | b :: l, h, c, hc => by
  rw [Dx.N.from_, Bool.and_eq_true] at h;intro hm;rcases List.mem_cons.1 hm with rfl | hm
  ·have h1 := h.1;unfold Dx.N.byte Dx.N.letter Dx.N.digit at h1;rcases hc with rfl | rfl
   ·simp at h1
   ·simp at h1
  ·exact from_off l h.2 c hc hm
theorem upto_off {n : Nat} {s : ByteArray} (h : Dx.N.upto n s = true) {c : UInt8} (hc : Off c) : c ∉ V.bl s := by
 unfold Dx.N.upto at h;simp only [Bool.and_eq_true] at h;exact from_off _ h.2 c hc
theorem join_mem {c : UInt8} {sep : List UInt8} : ∀ (xs : List (List UInt8)), c ∈ Lib.join xs sep -> c ∈ sep \/ ∃ x ∈ xs, c ∈ x
 | [], h => by simp [Lib.join, List.intercalate] at h
 | [a], h => .inr ⟨a, by simp, by simpa [Lib.join, List.intercalate] using h⟩
 | a :: b :: l, h => by
  rw [P.join_two] at h;rcases List.mem_append.1 h with h | h
  ·exact .inr ⟨a, by simp, h⟩
  ·rcases List.mem_append.1 h with h | h
   ·exact .inl h
   ·rcases join_mem (b :: l) h with h | ⟨x, hx, h⟩
    ·exact .inl h
    ·exact .inr ⟨x, by simp [List.mem_cons.1 hx], h⟩
theorem hexd_off : ∀ n : Fin 16, V.hexd n.val ≠ 10 := by decide
theorem quoteB_off (b : UInt8) : (10 : UInt8) ∉ V.quoteB b := by
 unfold V.quoteB;have h1 := hexd_off ⟨b.toNat / 16, by have := b.toNat_lt; omega⟩;have h2 := hexd_off ⟨b.toNat % 16, by omega⟩;split
 ·rename_i h;intro hm;simp only [List.mem_cons, List.not_mem_nil, or_false] at hm;rcases hm with hm | hm
  ·exact absurd hm (by decide)
  ·rw [<- hm] at h;exact absurd h (by decide)
 ·split
  ·rename_i h;intro hm;simp only [List.mem_cons, List.not_mem_nil, or_false] at hm;rw [<- hm] at h;exact absurd h (by decide)
  ·intro hm;simp only [List.mem_cons, List.not_mem_nil, or_false] at hm;rcases hm with hm | hm | hm | hm
   ·exact absurd hm (by decide)
   ·exact absurd hm (by decide)
   ·exact h1 hm.symm
   ·exact h2 hm.symm
theorem text_off : ∀ (m : Nat) (v : Val), V.shaped m v = true -> (10 : UInt8) ∉ V.text m v
 | 0, _, _ => by simp [V.text]
 | m + 1, v, h => by
  obtain ⟨hs, hf, hl, hr⟩ := V.shaped_parts m v h;rw [V.text];split
  ·exact itoa_off _ (.inr rfl)
  ·split
   ·unfold V.quote;intro hm;rcases List.mem_cons.1 hm with hm | hm
    ·exact absurd hm (by decide)
    ·rcases List.mem_append.1 hm with hm | hm
     ·obtain ⟨b, _, hb⟩ := List.mem_flatMap.1 hm;exact quoteB_off b hb
     ·exact absurd hm (by decide)
   ·split
    ·split <;> decide
    ·split
     ·intro hm;rcases List.mem_cons.1 hm with hm | hm
      ·exact absurd hm (by decide)
      ·rcases List.mem_append.1 hm with hm | hm
       ·rcases join_mem _ hm with hm | ⟨x, hx, hm⟩
        ·exact absurd hm (by decide)
        ·obtain ⟨y, hy, rfl⟩ := List.mem_map.1 hx;exact text_off m y (hl y hy) hm
       ·exact absurd hm (by decide)
     ·split
      ·rename_i h5;intro hm;rcases List.mem_cons.1 hm with hm | hm
       ·exact absurd hm (by decide)
       ·rcases List.mem_append.1 hm with hm | hm
        ·rcases join_mem _ hm with hm | ⟨x, hx, hm⟩
         ·exact absurd hm (by decide)
         ·obtain ⟨y, hy, rfl⟩ := List.mem_map.1 hx;rcases List.mem_append.1 hm with hm | hm
          ·refine name_off ?_ (.inr rfl) hm;have hri : V.rise v.f = true := by
            unfold V.fits at hf;simp only [decide_eq_true_eq] at hf;rw [h5] at hf;simpa using hf
           rw [V.rise, List.all_eq_true] at hri;obtain ⟨i, hi, rfl⟩ := List.getElem_of_mem hy;have hk := hri i (List.mem_range.2 hi);rw [V.okAt, List.getElem?_eq_getElem hi] at hk;simp only [Bool.and_eq_true] at hk;exact hk.1
          ·rcases List.mem_append.1 hm with hm | hm
           ·exact absurd hm (by decide)
           ·exact text_off m y.2 (hr y hy) hm
        ·exact absurd hm (by decide)
      ·decide
theorem parse_snoc : ∀ (l : List UInt8) (acc a : Nat) (c : UInt8), Lib.parseUint10 acc l = .ok a -> 48 <= c.toNat /\ c.toNat <= 57 -> a < 1844674407370955161 -> Lib.parseUint10 acc (l ++ [c]) = .ok (a * 10 + (c.toNat - 48))
 | [], acc, a, c, h, hc, ha => by
  simp only [Lib.parseUint10, Lib.NumEnd.ok.injEq] at h;subst h;rw [List.nil_append, Lib.parseUint10, if_pos hc, if_neg (by omega), if_neg (by omega), Lib.parseUint10]
 | b :: l, acc, a, c, h, hc, ha => by
  rw [Lib.parseUint10] at h;rw [List.cons_append, Lib.parseUint10];split at h
  ·rename_i h1;rw [if_pos h1];split at h
   ·cases h
   ·rename_i h2;rw [if_neg h2];split at h
    ·cases h
    ·rename_i h3;rw [if_neg h3];exact parse_snoc l _ a c h hc ha
  ·cases h
theorem parse_dec (u : Nat) (hu : u < 9223372036854775808) : Lib.parseUint10 0 (Lib.decDigits u) = .ok u := by
 induction u using Nat.strongRecOn with
 | ind u ih =>
  rw [Lib.decDigits];split
  ·rename_i h;have e : (UInt8.ofNat (48 + u)).toNat = 48 + u := by simp; omega
   rw [Lib.parseUint10, e, if_pos (by omega), if_neg (by omega), if_neg (by omega), Lib.parseUint10];congr 1;omega
  ·rename_i h;have e : (UInt8.ofNat (48 + u % 10)).toNat = 48 + u % 10 := by simp; omega
   rw [parse_snoc _ 0 (u / 10) _ (ih (u / 10) (by omega) (by omega)) (by rw [e]; omega) (by omega), e];congr 1;omega
theorem dec_cons (u : Nat) : ∃ c r, Lib.decDigits u = c :: r /\ 48 <= c.toNat /\ c.toNat <= 57 := by
 obtain ⟨h1, c, r, h2, _⟩ := P.dec_digits u;refine ⟨c, r, h2, ?_⟩;have := h1 c (by rw [h2]; simp);unfold Lx.digit at this;simpa using this
theorem atoi_itoa (n : Int) (h0 : 0 <= n) (h1 : n <= 9223372036854775807) : Lib.atoiAll (Lib.itoa n) = .ok n := by
 obtain ⟨u, rfl⟩ : ∃ u : Nat, n = u := ⟨n.toNat, by omega⟩
 rw [Lib.itoa_nonneg];obtain ⟨c, r, h2, h3, h4⟩ := dec_cons u;have hp := parse_dec u (by omega);rw [h2] at hp ⊢;rw [Lib.atoiAll_plain c r (by omega) (by omega)];unfold Lib.parseMag;rw [if_neg (by simp), hp];unfold Lib.signless;simp only;rw [if_neg (by omega)]
theorem last_sum (l : List UInt8) : Lib.lastIndex (l ++ sumText l) [115, 117, 109, 32] = l.length := by
 unfold Lib.lastIndex;have hlen : (l ++ sumText l).length = l.length + (sumText l).length := by simp
 have hs4 : 4 <= (sumText l).length := by unfold sumText; simp
 rw [if_pos (by rw [hlen]; simp; omega)];rcases Lib.lastOcc_spec (l ++ sumText l) [115, 117, 109, 32] ((l ++ sumText l).length - [115, 117, 109, 32].length + 1) with ⟨_, h⟩ | ⟨i, hi, h, ho, hn⟩
 ·have := h l.length (by rw [hlen]; simp; omega);unfold Lib.occAt at this;rw [List.drop_left] at this;unfold sumText at this;simp at this
 ·refine h.trans (congrArg (fun n : Nat => (n : Int)) ?_);have hl : ¬ i < l.length := fun hlt => by
   have := hn l.length hlt (by rw [hlen]; simp; omega);unfold Lib.occAt at this;rw [List.drop_left] at this;unfold sumText at this;simp at this
  by_cases he : i = l.length
  ·exact he
  ·exfalso;unfold Lib.occAt at ho;obtain ⟨k, hk⟩ : ∃ k, i = l.length + (k + 1) := ⟨i - l.length - 1, by omega⟩
   rw [hk, List.drop_append, List.drop_eq_nil_of_le (by omega), List.nil_append, show l.length + (k + 1) - l.length = k + 1 by omega] at ho;have hx : ∀ x ∈ (sumText l).drop (k + 1), x ≠ 115 := by
    intro x hx;have hx2 : x ∈ (sumText l).drop 1 := by
     rw [show k + 1 = 1 + k by omega, <- List.drop_drop] at hx;exact List.mem_of_mem_drop hx
    unfold sumText at hx2;simp only [List.cons_append, List.drop_succ_cons, List.drop_zero, List.nil_append, List.mem_cons, List.mem_append, List.not_mem_nil, or_false] at hx2;rcases hx2 with rfl | rfl | rfl | hx2 | rfl
    ·decide
    ·decide
    ·decide
    ·intro e;have := (P.dec_digits (V.sum l).toNat).1 x hx2;rw [e] at this;exact absurd this (by decide)
    ·decide
   cases hd : (sumText l).drop (k + 1) with
   | nil => rw [hd] at ho; simp at ho
   | cons a r =>
    rw [hd] at ho hx;have h5 := hx a (by simp);simp at ho;exact h5 ho.1.symm
end S
abbrev Ln := Sum Int (Sum Hd (Sum It (ByteArray × Val)))
namespace P
def BH (m : Nat) : Base Hd := fun w h cs => S.HB m w h cs
def BI (m : Nat) : Base Vx.It := fun w x cs => S.IB m w x cs
end P
namespace S
def Ln.word : Ln -> List UInt8
 | .inl _ => kSerial
 | .inr (.inl _) => kHeld
 | .inr (.inr (.inl _)) => kIntent
 | .inr (.inr (.inr _)) => kOut
def Ln.rest (m : Nat) : Ln -> List UInt8
 | .inl n => Lib.itoa n
 | .inr (.inl h) => heldText m h
 | .inr (.inr (.inl x)) => words [Lib.itoa x.op, V.bl x.token] (heldText m x.h)
 | .inr (.inr (.inr x)) => V.bl x.1 ++ 32 :: V.text m x.2
def Ln.bare (m : Nat) (x : Ln) : List UInt8 := Ln.word x ++ 32 :: Ln.rest m x
def Ln.put (s : St) : Ln -> St
 | .inl n => { s with serial := n }
 | .inr (.inl h) => { s with held := s.held ++ [h] }
 | .inr (.inr (.inl x)) => { s with its := s.its ++ [x] }
 | .inr (.inr (.inr x)) => { s with outs := s.outs ++ [x] }
def items (s : St) : List Ln := (((.inl s.serial :: s.held.map (fun h => (.inr (.inl h) : Ln))) ++ s.its.map (fun x => (.inr (.inr (.inl x)) : Ln))) ++ s.outs.map (fun x => (.inr (.inr (.inr x)) : Ln)))
theorem fold_held : ∀ (l : List Hd) (s : St), (l.map (fun h => (.inr (.inl h) : Ln))).foldl Ln.put s = { s with held := s.held ++ l }
 | [], s => by simp
 | a :: l, s => by
  simp only [List.map_cons, List.foldl_cons];rw [fold_held l];simp [Ln.put]
theorem fold_its : ∀ (l : List It) (s : St), (l.map (fun h => (.inr (.inr (.inl h)) : Ln))).foldl Ln.put s = { s with its := s.its ++ l }
 | [], s => by simp
 | a :: l, s => by
  simp only [List.map_cons, List.foldl_cons];rw [fold_its l];simp [Ln.put]
theorem fold_outs : ∀ (l : List (ByteArray × Val)) (s : St), (l.map (fun h => (.inr (.inr (.inr h)) : Ln))).foldl Ln.put s = { s with outs := s.outs ++ l }
 | [], s => by simp
 | a :: l, s => by
  simp only [List.map_cons, List.foldl_cons];rw [fold_outs l];simp [Ln.put]
theorem fold_items (s : St) : (items s).foldl Ln.put ⟨0, [], [], []⟩ = s := by
 unfold items;rw [List.foldl_append, List.foldl_append, List.foldl_cons, fold_held, fold_its, fold_outs];simp [Ln.put]
theorem line_serial (m : Nat) (n : Int) : serialLine n = Ln.bare m (.inl n) ++ [10] := by simp [serialLine, lineOf, Lib.join, Ln.bare, Ln.word, Ln.rest]
theorem line_held (m : Nat) (h : Hd) : heldLine m h = Ln.bare m (.inr (.inl h)) ++ [10] := by simp [heldLine, lineOf, Lib.join, Ln.bare, Ln.word, Ln.rest]
theorem line_it (m : Nat) (x : It) : itLine m x = Ln.bare m (.inr (.inr (.inl x))) ++ [10] := by simp [itLine, lineOf, Lib.join, Ln.bare, Ln.word, Ln.rest, words]
theorem line_out (m : Nat) (x : ByteArray × Val) : outLine m x = Ln.bare m (.inr (.inr (.inr x))) ++ [10] := by simp [outLine, lineOf, Lib.join, Ln.bare, Ln.word, Ln.rest]
theorem lines_items (m : Nat) (s : St) : lines m s = (items s).flatMap (fun x => Ln.bare m x ++ [10]) := by
 unfold lines items;rw [List.flatMap_append, List.flatMap_append, List.flatMap_cons, List.flatMap_map, List.flatMap_map, List.flatMap_map, <- line_serial];have e1 : (fun h => Ln.bare m (.inr (.inl h)) ++ [10]) = heldLine m := funext fun h => (line_held m h).symm
 have e2 : (fun h => Ln.bare m (.inr (.inr (.inl h))) ++ [10]) = itLine m := funext fun h => (line_it m h).symm
 have e3 : (fun h => Ln.bare m (.inr (.inr (.inr h))) ++ [10]) = outLine m := funext fun h => (line_out m h).symm
 rw [e1, e2, e3]
theorem word_off (x : Ln) {c : UInt8} (hc : Off c) : c ∉ Ln.word x := by
 rcases hc with rfl | rfl
 ·rcases x with n | h | y | y
  ·show (32 : UInt8) ∉ kSerial;decide
  ·show (32 : UInt8) ∉ kHeld;decide
  ·show (32 : UInt8) ∉ kIntent;decide
  ·show (32 : UInt8) ∉ kOut;decide
 ·rcases x with n | h | y | y
  ·show (10 : UInt8) ∉ kSerial;decide
  ·show (10 : UInt8) ∉ kHeld;decide
  ·show (10 : UInt8) ∉ kIntent;decide
  ·show (10 : UInt8) ∉ kOut;decide
def Ln.Fit : Ln -> Prop
 | .inl n => 0 <= n /\ n <= 1000000000
 | .inr (.inl h) => V.name (V.bl h.name) = true /\ V.name (V.bl h.kind) = true /\ 0 <= h.id /\ in64 h.id /\ V.fault 6 h.v = 0 /\ P.Lay 6 h.v /\ V.bulk 6 h.v <= 2000000
 | .inr (.inr (.inl x)) => V.name (V.bl x.h.name) = true /\ V.name (V.bl x.h.kind) = true /\ 0 <= x.h.id /\ in64 x.h.id /\ V.fault 6 x.h.v = 0 /\ P.Lay 6 x.h.v /\ V.bulk 6 x.h.v <= 2000000 /\ 1 <= x.op /\ x.op <= 3 /\ Dx.N.upto 36 x.token = true
 | .inr (.inr (.inr x)) => V.name (V.bl x.1) = true /\ V.fault 6 x.2 = 0 /\ P.Lay 6 x.2 /\ V.bulk 6 x.2 <= 2000000
theorem held_off {h : Hd} (h1 : V.name (V.bl h.name) = true) (h2 : V.name (V.bl h.kind) = true) (h3 : V.fault 6 h.v = 0) : (10 : UInt8) ∉ heldText 6 h := by
 have k1 := name_off h1 (.inr rfl : Off 10);have k2 := name_off h2 (.inr rfl : Off 10);have k3 := itoa_off h.id (.inr rfl : Off 10);have k4 := text_off 6 h.v (V.fault_ok 6 h.v h3);unfold heldText;simp only [List.mem_append, List.mem_cons, not_or];exact ⟨k2, by decide, k1, by decide, k3, by decide, k4⟩
theorem bare_off {x : Ln} (h : Ln.Fit x) : (10 : UInt8) ∉ Ln.bare 6 x := by
 have hw := word_off x (.inr rfl : Off 10);have hr : (10 : UInt8) ∉ Ln.rest 6 x := by
  rcases x with n | y | y | y
  ·exact itoa_off n (.inr rfl)
  ·exact held_off h.1 h.2.1 h.2.2.2.2.1
  ·have h1 := held_off h.1 h.2.1 h.2.2.2.2.1;have h2 := itoa_off y.op (.inr rfl : Off 10);have h3 := upto_off h.2.2.2.2.2.2.2.2.2 (.inr rfl : Off 10);show (10 : UInt8) ∉ words _ _;simp only [words, List.mem_append, List.mem_cons, not_or];exact ⟨h2, by decide, h3, by decide, h1⟩
  ·have h1 := name_off h.1 (.inr rfl : Off 10);have h2 := text_off 6 y.2 (V.fault_ok 6 y.2 h.2.1);show (10 : UInt8) ∉ V.bl y.1 ++ 32 :: V.text 6 y.2;simp only [List.mem_append, List.mem_cons, not_or];exact ⟨h1, by decide, h2⟩
 unfold Ln.bare;simp only [List.mem_append, List.mem_cons, not_or];exact ⟨hw, by decide, hr⟩
end S
end Go.Proofs.YtcekcfjabhlheaaGreatDoor.Vx
