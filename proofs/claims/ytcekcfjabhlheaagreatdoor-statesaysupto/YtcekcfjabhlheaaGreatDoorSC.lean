/- StateSays: SA SC. -/
import Derived.Test.YtcekcfjabhlheaaGreatDoorUZ
import Derived.Test.YtcekcfjabhlheaaGreatDoorSB
import Derived.Test.YtcekcfjabhlheaaGreatDoorUV
import Derived.Laws.EntriesVeiled
set_option maxRecDepth 100000
set_option maxHeartbeats 4000000
namespace Go.Proofs.YtcekcfjabhlheaaGreatDoor.Vx
open Go.RowKit
theorem S.ext_left (a b : List UInt8) : (V.str (a ++ b)).extract 0 a.length = V.str a := by
 have : V.bl ((V.str (a ++ b)).extract 0 a.length) = V.bl (V.str a) := by
  unfold V.bl;rw [Lib.extract_data];show ((a ++ b).drop 0).take (a.length - 0) = a;simp
 rw [<- V.str_bl ((V.str (a ++ b)).extract 0 a.length), this, V.str_bl]
theorem S.ext_right (a b : List UInt8) (n : Nat) (hn : n = (a ++ b).length) : (V.str (a ++ b)).extract a.length n = V.str b := by
 have : V.bl ((V.str (a ++ b)).extract a.length n) = V.bl (V.str b) := by
  unfold V.bl;rw [Lib.extract_data, hn];show ((a ++ b).drop a.length).take ((a ++ b).length - a.length) = b;rw [List.drop_left, List.take_of_length_le (by simp)]
 rw [<- V.str_bl ((V.str (a ++ b)).extract a.length n), this, V.str_bl]
theorem stateParse_one (s : St) (w : World) (h6 : S.Six s) (hlen : (S.text 6 s).length <= 4000) (htab : Lib.TabIs Tryz.prog w "internal/strconv.uint64pow10" .u64 Lib.pow10Tab) :
  Calls Tryz.prog 20 #[.string (V.str (S.text 6 s))] w fun e w' => (∃ cs, e = .returned (.tuple #[.agg cs.toArray, .nilIface]) /\ P.StR w w' s cs) /\ Below w.heap.size w w' := by
 have hb0 : Below w.heap.size w (w.alloc (.cells #[.int .i64 0, .slice none 0 0, .slice none 0 0, .slice none 0 0] 26)) := ba;have hA0 := heap_alloc_new w (.cells #[.int .i64 0, .slice none 0 0, .slice none 0 0, .slice none 0 0] 26);have HS0 : Hid ((w.alloc (.cells #[.int .i64 0, .slice none 0 0, .slice none 0 0, .slice none 0 0] 26)).heap.size = w.heap.size + 1) := by
  show _ = _;simp
 have hll : (S.lines 6 s).length + (S.sumText (S.lines 6 s)).length = (S.text 6 s).length := by unfold S.text; rw [List.length_append]
 have hsz := S.size_str (S.text 6 s);have e1 : (V.str (S.text 6 s)).extract 0 (S.lines 6 s).length = V.str (S.lines 6 s) := S.ext_left _ _;have e2 : (V.str (S.text 6 s)).extract (S.lines 6 s).length (V.str (S.text 6 s)).size = V.str (S.sumText (S.lines 6 s)) := S.ext_right _ _ _ (by rw [hsz]; rfl);have HLI := hide (fun w => sh_strings_LastIndex (V.str (S.text 6 s)) ⟨#[115, 117, 109, 32]⟩ (by rw [hsz]; omega) w);rw [show (V.str (S.text 6 s)).data.toList = S.lines 6 s ++ S.sumText (S.lines 6 s) from V.bl_str _, show (⟨#[115, 117, 109, 32]⟩ : ByteArray).data.toList = [115, 117, 109, 32] from rfl, S.last_sum] at HLI;have HSL : Hid (∀ W, Below w.heap.size w W -> Calls Tryz.prog 34 #[.string (V.str (S.lines 6 s))] W fun e w' => e = .returned (.string (V.str (S.sumText (S.lines 6 s)))) /\ Below w.heap.size w w' /\ Below W.heap.size W w') := fun W hW => by
  refine (sumLine_any (V.str (S.lines 6 s)) W (by rw [S.size_str]; omega) (tab_below htab hW)).mono ?_;rintro e w' ⟨rfl, hb⟩;refine ⟨by rw [V.bl_str], hW.trans (hb.mono hW.size), hb⟩
 have HRL := hide (fun W => readLines_any s W h6.fit (by omega) h6.few h6.ser);have HTX : Hid (∀ W c0 c1 c2 c3, Below w.heap.size w W -> S.Mem 6 W s [c0, c1, c2, c3] -> Calls Tryz.prog 15 #[.agg #[c0, c1, c2, c3]] W fun o w' => o = .returned (.tuple #[.string (V.str (S.text 6 s)), .nilIface]) /\ Below W.heap.size W w') := fun W c0 c1 c2 c3 hW hM => by
  refine (stateText_any 6 W s c0 c1 c2 c3 hM h6.bulk (tab_below htab hW)).mono ?_;rintro o w' ⟨rfl, hb⟩;refine ⟨?_, hb⟩;rw [h6.fault];unfold S.textOr;rw [if_pos h6.fault];rfl
 have hsl : (V.str (S.text 6 s)).size <= 4000 := by rw [hsz]; exact hlen
 have hle : (S.lines 6 s).length <= (V.str (S.text 6 s)).size := by omega
 generalize V.str (S.text 6 s) = tt at *;generalize V.str (S.sumText (S.lines 6 s)) = ts at *;generalize V.str (S.lines 6 s) = tl at *;generalize (S.lines 6 s).length = n at *;obtain ⟨HB0, HA0⟩ := hd2 hb0 hA0;have c1 : (0 : Int) <= ↑n := by omega
 have c2 : (↑n : Int) <= ↑tt.size := by omega
 have c3 : ¬ (4000 : Int) < ↑tt.size := by omega
 have c4 : ¬ (↑n : Int) < 0 := by omega
 have c5 : ¬ 4000 < tt.size := by omega
 clear hb0 hA0 hll hsz hlen htab h6;go_enter Tryz.func20, Tryz.ntmps20;go_wp2_with fail;generalize (w.alloc _) = w0 at *;refine (HLI.out w0).mono ?_;rintro e w1 ⟨rfl, hw1⟩;rw [hw1];clear hw1 HLI;go_wp2_with fail;have hB0 : Below w0.heap.size w0 w0.drew := below_drewN (Below.refl _ _) 1;have HSL2 : Hid (∀ W', Below w0.heap.size w0 W' -> Calls Tryz.prog 34 #[.string tl] W' fun e w' => e = .returned (.string ts) /\ Below w0.heap.size w0 w') := fun W' hW => by
  refine (HSL.out W' (HB0.out.trans (hW.mono HB0.out.size))).mono ?_;rintro e w' ⟨he, _, hb⟩;exact ⟨he, hW.trans (hb.mono hW.size)⟩
 clear HSL;go_region_held3 (fun W' => Below w0.heap.size w0 W') (first | exact hB0 | exact t8 | go_keep)
  (first | (go_at_call 34; (with_reducible refine Calls.mono (HSL2.out _ ?_) ?_); exact hB0; rintro e w3 ⟨rfl, t8⟩))
 have HT8 := hide t8;clear t8 hB0 HSL2;go_wp2_with fail;refine (HRL.out w3).mono ?_;rintro e w4 ⟨⟨cs, rfl, ⟨a1, n1, q1, a2, n2, q2, a3, n3, q3, rfl⟩, hK⟩, hb4⟩;have hbx : Below w4.heap.size w4 (w4.alloc (.cells #[.int .i64 s.serial, .slice a1 n1 q1, .slice a2 n2 q2, .slice a3 n3 q3] 26)) := ba;have hX := heap_alloc_new w4 (.cells #[.int .i64 s.serial, .slice a1 n1 q1, .slice a2 n2 q2, .slice a3 n3 q3] 26);have hsx : (w4.alloc (.cells #[.int .i64 s.serial, .slice a1 n1 q1, .slice a2 n2 q2, .slice a3 n3 q3] 26)).heap.size = w4.heap.size + 1 := by simp
 have hb04 : Below w.heap.size w w4 := (HB0.out.trans (HT8.out.mono HB0.out.size)).trans (hb4.mono (by have := HB0.out.size; have := HT8.out.size; omega));have hb05 := hb04.trans (hbx.mono hb04.size);have HTX5 := hide (HTX.out (w4.alloc (.cells #[.int .i64 s.serial, .slice a1 n1 q1, .slice a2 n2 q2, .slice a3 n3 q3] 26)) _ _ _ _ hb05 (hK.mem.kept hbx));have hK5 : P.KM P.BS (P.New w3 w4) (w4.alloc (.cells #[.int .i64 s.serial, .slice a1 n1 q1, .slice a2 n2 q2, .slice a3 n3 q3] 26)) s [.int .i64 s.serial, .slice a1 n1 q1, .slice a2 n2 q2, .slice a3 n3 q3] := hK.to (fun c hc => hbx.block c hc.2) (fun _ h => h);obtain ⟨HK5, HB5, HX⟩ := hd3 hK5 hb05 hX;have HSX : Hid (w.heap.size + 1 <= w3.heap.size /\ w3.heap.size <= w4.heap.size /\ (w4.alloc (.cells #[.int .i64 s.serial, .slice a1 n1 q1, .slice a2 n2 q2, .slice a3 n3 q3] 26)).heap.size = w4.heap.size + 1) := ⟨by have := HT8.out.size; have := HS0.out; omega, hb4.size, hsx⟩
 have hA3 := (HT8.out.block w.heap.size (by have := HS0.out; omega)).trans HA0.out;have hA4 := (hb4.block w.heap.size (blt hA3)).trans hA3;have HA5 := hide ((hbx.block w.heap.size (blt hA4)).trans hA4);obtain ⟨x0, x1, x2, x3⟩ := cl4 hX;clear hK hb4 hbx hX hsx hb04 hb05 hK5 hA3 hA4 HRL HTX;go_wp2_with fail;generalize (w4.alloc _) = w5 at *;refine HTX5.out.mono ?_;rintro o w6 ⟨rfl, hb6⟩;have hsx := HSX.out;have hX6 := (hb6.block w4.heap.size (blt HX.out)).trans HX.out;have hA6 := (hb6.block w.heap.size (blt HA5.out)).trans HA5.out;have HA6 := hide hA6;have HB6 := bt HB5 hb6;have hK6 := HK5.out.to (D2 := P.New w3 w4) (fun c hc => hb6.block c (by have := hc.2; omega)) (fun _ h => h);have HK6 := hide hK6;have HS6 : Hid (w5.heap.size <= w6.heap.size) := hb6.size;clear x0 x1 x2 x3 hsx hK6 hb6 HTX5;obtain ⟨x0, x1, x2, x3⟩ := cl4 hX6;obtain ⟨m0, m1, m2, m3⟩ := cl4 hA6;obtain ⟨f0, f1, f2, f3⟩ := fl4 hA6;clear hX6 hA6;go_wp2_with fail;have hF : Fr w6 ((((w6.setCell ⟨w.heap.size, 0, none⟩ (.int .i64 s.serial)).setCell ⟨w.heap.size, 1, none⟩ (.slice a1 n1 q1)).setCell ⟨w.heap.size, 2, none⟩ (.slice a2 n2 q2)).setCell ⟨w.heap.size, 3, none⟩ (.slice a3 n3 q3)) (fun c => c = w.heap.size) := ((((Fr.refl w6 (fun c => c = w.heap.size)).set ⟨w.heap.size, 0, none⟩ _ (fun _ => rfl)).set ⟨w.heap.size, 1, none⟩ _ (fun _ => rfl)).set ⟨w.heap.size, 2, none⟩ _ (fun _ => rfl)).set ⟨w.heap.size, 3, none⟩ _ (fun _ => rfl);have hB : ((((w6.setCell ⟨w.heap.size, 0, none⟩ (.int .i64 s.serial)).setCell ⟨w.heap.size, 1, none⟩ (.slice a1 n1 q1)).setCell ⟨w.heap.size, 2, none⟩ (.slice a2 n2 q2)).setCell ⟨w.heap.size, 3, none⟩ (.slice a3 n3 q3)).heap[w.heap.size]? = some (.cells #[.int .i64 s.serial, .slice a1 n1 q1, .slice a2 n2 q2, .slice a3 n3 q3] 26 (0, 0)) := by
  have bq0 : (w6.setCell ⟨w.heap.size, 0, none⟩ (.int .i64 s.serial)).heap[w.heap.size]? = _ := block_set (i := 0) HA6.out (.int .i64 s.serial);have bq1 := block_set (i := 1) bq0 (.slice a1 n1 q1);have bq2 := block_set (i := 2) bq1 (.slice a2 n2 q2);exact block_set (i := 3) bq2 (.slice a3 n3 q3)
 generalize ((((w6.setCell _ _).setCell _ _).setCell _ _).setCell _ _) = wz at *;obtain ⟨r0, r1, r2, r3⟩ := cl4 hB;have hsx := HSX.out;have hs6 := HS6.out;refine bodyPost_ret (v := .tuple #[.agg #[.int .i64 s.serial, .slice a1 n1 q1, .slice a2 n2 q2, .slice a3 n3 q3], .nilIface]) (by simp [results, Tryz.results20, go_sem, r0, r1, r2, r3]) rfl ⟨⟨[.int .i64 s.serial, .slice a1 n1 q1, .slice a2 n2 q2, .slice a3 n3 q3], rfl, ⟨_, _, _, _, _, _, _, _, _, rfl⟩, ?_⟩, HB6.out.trans (hF.below HB6.out.size (fun c e => by omega))⟩;refine HK6.out.to (fun c hc => ?_) (fun c hc => ?_)
 ·have h1 := hc.1;have h2 := hc.2;exact hF.block c (by omega) (by omega)
 ·have h1 := hc.1;have h2 := hc.2;have h3 := hF.size;exact ⟨by omega, by omega⟩
end Go.Proofs.YtcekcfjabhlheaaGreatDoor.Vx
namespace Go.Proofs.YtcekcfjabhlheaaGreatDoor.Dx
open Go.RowKit
attribute [local go_sem ↓] Go.wp_at_zero Go.wp_at_succ
theorem write5 (w : World) (B : Nat -> Prop) (g : Nat) (D : Dk) (n d : ByteArray) (h : Disk w B g D) (hB : ∀ x, B x -> x < w.heap.size) (hn : n.size <= maxLen) (hF : D.files.length <= 1000000) (hs : 0 <= D.steps /\ D.steps <= 1000000) (hl : -9223372036854775808 <= D.left /\ D.left <= 9223372036854775807) (hlen : ((M.get D.files n).getD ⟨#[]⟩).size <= 1000000) (hch : D.chg.length <= 100000) :
  Calls Tryz.prog 48 #[.pointer (some ⟨g, 0, none⟩), .string n, .string d] w fun o w' => Changed w w' B g D (D.did4 ⟨0, n, ⟨#[]⟩, d⟩) (D.fit n d.size) o := by
 have hfi := fits_any w B g D n d.size h hn hF;have K : Hid (D.fit n d.size = 0 -> ∀ w1, Fr w w1 (fun _ => False) -> Calls Tryz.prog 77 #[.pointer (some ⟨g, 0, none⟩), .agg #[.int .i64 0, .string n, .string ⟨#[]⟩, .string d]] w1 fun o w' => Doing w w' B g D (D.did4 ⟨0, n, ⟨#[]⟩, d⟩) o) := by
  intro hz w1 hf;have hd : d.size <= 1000000 := by
   unfold Dk.fit at hz;split at hz
   ·cases hz
   ·split at hz
    ·cases hz
    ·rename_i h2;omega
  exact (do4 w1 B g D ⟨0, n, ⟨#[]⟩, d⟩ (h.fr hf (fun _ _ h => h)) (fun x hx => Nat.lt_of_lt_of_le (hB x hx) hf.size) hs hl (.inl rfl) ⟨hd, hlen⟩ hch).mono (fun o w' hh => hh.up hf)
 have HFI := hide hfi;clear hfi h hB hF hs hl hlen hch;go_enter Tryz.func48, Tryz.ntmps48;go_wp2_with fail;refine HFI.out.mono ?_;rintro o w1 ⟨rfl, hf1⟩;by_cases hk : D.fit n d.size = 0
 ·rw [show errV (D.fit n d.size) = .nilIface by rw [hk]; rfl];obtain ⟨HK, HF1⟩ := hd2 hk hf1;clear hk hf1;go_wp2_with fail;refine (K.out HK.out w1 HF1.out).mono ?_;rintro o w2 hd;obtain ⟨u, hu⟩ : ∃ u, o = .returned u /\ (u = .nilIface \/ u = .iface 54 (.int .i64 10)) := by
   rcases hd.1 with ⟨_, e, _⟩ | ⟨_, e, _⟩
   ·exact ⟨_, e, .inr rfl⟩
   ·exact ⟨_, e, .inl rfl⟩
  obtain ⟨rfl, hu⟩ := hu;have HD := hide hd;clear hd;rcases hu with rfl | rfl
  ·go_wp2_with fail;go_ret;exact .inr ⟨HK.out, HD.out⟩
  ·go_wp2_with fail;go_ret;exact .inr ⟨HK.out, HD.out⟩
 ·rw [errV_ne hk];obtain ⟨HK, HF1⟩ := hd2 hk hf1;clear hk hf1;obtain ⟨G, hG⟩ : ∃ G, G = D.fit n d.size := ⟨_, rfl⟩
  have HG := hide hG;rw [<- hG];clear hG;go_wp2_with fail;go_ret;exact .inl ⟨HK.out, by rw [errV_ne HK.out, <- HG.out]; rfl, HF1.out⟩
def draftN : ByteArray := ⟨#[100, 114, 97, 102, 116]⟩
def fileN (n : ByteArray) : ByteArray := (⟨#[115, 116, 97, 116, 101, 46]⟩ : ByteArray) ++ n
theorem bl_file (n : ByteArray) : N.bl (fileN n) = [115, 116, 97, 116, 101, 46] ++ N.bl n := by simp [N.bl, fileN]
theorem from_name : ∀ (l : List UInt8) (i : Nat), Vx.V.nameFrom i l = true -> N.from_ l = true
 | [], _, _ => rfl
 | c :: r, i, h => by
  rw [Vx.V.nameFrom, Bool.and_eq_true] at h;rw [N.from_, from_name r (i + 1) h.2, Bool.and_true];have h1 := h.1;unfold Vx.V.nameByte Vx.V.letter Vx.V.digit at h1;unfold N.byte N.letter N.digit;simp only [Bool.or_eq_true, Bool.and_eq_true, decide_eq_true_eq] at h1 ⊢;omega
theorem may_file {n : ByteArray} (h : Vx.V.name (Vx.V.bl n) = true) : N.may (fileN n) = true := by
 unfold Vx.V.name at h;simp only [Bool.and_eq_true, decide_eq_true_eq] at h;have hs : (fileN n).size = 6 + n.size := by rw [<- N.length_bl, bl_file, List.length_append, N.length_bl]; rfl
 have hl : (Vx.V.bl n).length = n.size := Vx.V.length_bl n;unfold N.may;rw [bl_file];have hf := from_name _ 0 h.2;have hf2 : N.from_ ([115, 116, 97, 116, 101, 46] ++ N.bl n) = N.from_ (N.bl n) := by
  simp only [List.cons_append, List.nil_append, N.from_];rfl
 rw [hf2];simp only [Bool.and_eq_true, decide_eq_true_eq];exact ⟨⟨by omega, by omega⟩, hf⟩
theorem draft_ne (n : ByteArray) : draftN ≠ fileN n := fun e => by
 have h := congrArg N.bl e;rw [bl_file] at h;have h2 : N.bl draftN = [100, 114, 97, 102, 116] := rfl;rw [h2] at h;simp at h
theorem may_draft : N.may draftN = true := by decide
def Dk.sv (D : Dk) (f d : ByteArray) : Nat -> Dk
 | 0 => D
 | 1 => D.did4 ⟨0, draftN, ⟨#[]⟩, d⟩
 | 2 => (D.did4 ⟨0, draftN, ⟨#[]⟩, d⟩).did4 ⟨2, draftN, f, ⟨#[]⟩⟩
 | _ => ((D.did4 ⟨0, draftN, ⟨#[]⟩, d⟩).did4 ⟨2, draftN, f, ⟨#[]⟩⟩).synced4
def Dk.Saved (D : Dk) (f d : ByteArray) (D' : Dk) (k : Nat) : Prop :=
 (k ≠ 0 /\ k = D.fit draftN d.size /\ D' = D) \/ (D.fit draftN d.size = 0 /\ k = 10 /\ ∃ j, j < 3 /\ (∀ i, i < j -> ¬ (D.sv f d i).fails) /\ (D.sv f d j).fails /\ D' = (D.sv f d j).fell) \/ (D.fit draftN d.size = 0 /\ k = 0 /\ (∀ i, i < 3 -> ¬ (D.sv f d i).fails) /\ D' = D.sv f d 3)
structure Dk.Easy (D : Dk) : Prop where
 steps : 0 <= D.steps /\ D.steps <= 900000
 left : -9223372036854775808 <= D.left /\ D.left <= 9223372036854775807
 files : D.files.length <= 900000
 chg : D.chg = []
 small : ∀ n, ((M.get D.files n).getD ⟨#[]⟩).size <= 1000000
 kept : ∀ n, ((M.get D.kept n).getD ⟨#[]⟩).size <= 1000000
theorem Disk.shrink2 {w : World} {B : Nat -> Prop} {g : Nat} {D : Dk} (h : Disk w B g D) : ∃ B', Disk w B' g D /\ (∀ x, B' x -> B x) /\ ∀ x, B' x -> x < w.heap.size := by
 obtain ⟨bk, bf, cv, h1, h2, h3, h4, h5, h6, h7, h8, h9⟩ := h;refine ⟨fun x => B x /\ x < w.heap.size, ⟨bk, bf, cv, h1, h2, h3, h4, h5, ⟨h6, (blt h1)⟩, ⟨h7, h2.lt⟩, ⟨h8, h3.lt⟩, fun c hc => ⟨h9 c hc, (h4.lt c hc).2⟩⟩, fun x hx => hx.1, fun x hx => hx.2⟩
theorem Changed.val {w w' : World} {B : Nat -> Prop} {g : Nat} {D D' : Dk} {k : Nat} {o : Ending} (h : Changed w w' B g D D' k o) : ∃ v, o = .returned v := by
 rcases h with ⟨_, h, _⟩ | ⟨_, ⟨⟨_, h, _⟩ | ⟨_, h, _⟩, _⟩⟩
 ·exact ⟨_, h⟩
 ·exact ⟨_, h⟩
 ·exact ⟨_, h⟩
theorem fileOf_any (n : ByteArray) (w : World) (hn : n.size <= 1000) : Calls Tryz.prog 23 #[.string n] w fun o w' => o = .returned (.string (fileN n)) /\ w' = w := by
 go_enter Tryz.func23, Tryz.ntmps23;go_wp2_with fail;go_ret;exact ⟨rfl, rfl⟩
theorem step1_any (w : World) (B : Nat -> Prop) (g b3 b5 : Nat) (D : Dk) (d : ByteArray) (h : Disk w B g D) (hB : ∀ x, B x -> x < w.heap.size) (hE : D.Easy) (c3 : w.cell? ⟨b3, 0, none⟩ = some (.pointer (some ⟨g, 0, none⟩))) (c5 : w.cell? ⟨b5, 0, none⟩ = some (.string d)) :
  Calls Tryz.prog 47 #[.pointer (some ⟨b3, 0, none⟩), .pointer (some ⟨b5, 0, none⟩)] w fun o w' => Changed w w' B g D (D.did4 ⟨0, draftN, ⟨#[]⟩, d⟩) (D.fit draftN d.size) o := by
 have HW := hide (write5 w B g D draftN d h hB (by decide) (by have := hE.files; omega) ⟨hE.steps.1, by have := hE.steps.2; omega⟩ hE.left (hE.small _) (by rw [hE.chg]; decide));clear h hB hE;go_enter Tryz.func47, Tryz.ntmps47;go_wp2_with fail;refine HW.out.mono ?_;rintro o w1 hc;obtain ⟨v, rfl⟩ := hc.val;have HC := hide hc;clear hc;go_wp2_with fail;go_ret;exact HC.out
theorem did_get {D : Dk} {d : ByteArray} : M.get (D.did4 ⟨0, draftN, ⟨#[]⟩, d⟩).files draftN = some d := by
 show M.get (Ch.act ⟨0, draftN, ⟨#[]⟩, d⟩ D.files) draftN = _;unfold Ch.act;rw [if_pos rfl, M.get_put, if_pos (M.beq_self _)]
theorem step2_any (w : World) (B : Nat -> Prop) (g b3 b4 : Nat) (D : Dk) (d n : ByteArray) (h : Disk w B g (D.sv (fileN n) d 1)) (hB : ∀ x, B x -> x < w.heap.size) (hE : D.Easy) (hn : Vx.V.name (Vx.V.bl n) = true) (hd : d.size <= 1000000) (c3 : w.cell? ⟨b3, 0, none⟩ = some (.pointer (some ⟨g, 0, none⟩))) (c4 : w.cell? ⟨b4, 0, none⟩ = some (.string (fileN n))) :
  Calls Tryz.prog 49 #[.pointer (some ⟨b3, 0, none⟩), .pointer (some ⟨b4, 0, none⟩)] w fun o w' => Doing w w' B g (D.sv (fileN n) d 1) (D.sv (fileN n) d 2) o := by
 have hm := may_file hn;have hsz : (fileN n).size <= maxLen := by
  unfold N.may at hm;simp only [Bool.and_eq_true, decide_eq_true_eq] at hm;unfold maxLen;omega
 have hk : (D.did4 ⟨0, draftN, ⟨#[]⟩, d⟩).may4 draftN (fileN n) = 0 := by
  unfold Dk.may4 Dk.gone;rw [may_draft, hm, did_get];rfl
 have hmv : (D.did4 ⟨0, draftN, ⟨#[]⟩, d⟩).moved draftN (fileN n) = D.sv (fileN n) d 2 := by
  unfold Dk.moved;rw [if_neg]
  ·rfl
  ·intro e;exact draft_ne n (Vx.V.toList_inj (eq_of_beq e))
 have hst : 0 <= (D.did4 ⟨0, draftN, ⟨#[]⟩, d⟩).steps /\ (D.did4 ⟨0, draftN, ⟨#[]⟩, d⟩).steps <= 1000000 := by
  show 0 <= D.steps + 1 /\ D.steps + 1 <= 1000000;have := hE.steps;omega
 have hlf : -9223372036854775808 <= (D.did4 ⟨0, draftN, ⟨#[]⟩, d⟩).left /\ (D.did4 ⟨0, draftN, ⟨#[]⟩, d⟩).left <= 9223372036854775807 := by
  show -9223372036854775808 <= (if 0 < D.left then D.left - 1 else D.left) /\ (if 0 < D.left then D.left - 1 else D.left) <= 9223372036854775807;have := hE.left;split <;> omega
 have HW := hide (move4 w B g (D.did4 ⟨0, draftN, ⟨#[]⟩, d⟩) draftN (fileN n) h hB (by decide) hsz hst hlf (by rw [did_get]; exact hd) (by show (D.chg ++ [_]).length <= _; rw [hE.chg]; simp));rw [hk, hmv] at HW;clear h hB hE hm hsz hk hmv hst hlf;go_enter Tryz.func49, Tryz.ntmps49;go_wp2_with fail;refine HW.out.mono ?_;rintro o w1 hc;obtain ⟨v, rfl⟩ := hc.val;have HC := hide hc;clear hc;go_wp2_with fail;go_ret;rcases HC.out with ⟨e, _⟩ | ⟨_, h⟩
 ·exact absurd rfl e
 ·exact h
theorem step3_any (w : World) (B : Nat -> Prop) (g b3 : Nat) (D : Dk) (d n : ByteArray) (h : Disk w B g (D.sv (fileN n) d 2)) (hE : D.Easy) (hd : d.size <= 1000000) (c3 : w.cell? ⟨b3, 0, none⟩ = some (.pointer (some ⟨g, 0, none⟩))) :
  Calls Tryz.prog 51 #[.pointer (some ⟨b3, 0, none⟩)] w fun o w' => Doing w w' B g (D.sv (fileN n) d 2) (D.sv (fileN n) d 3) o := by
 have hst : 0 <= (D.sv (fileN n) d 2).steps /\ (D.sv (fileN n) d 2).steps <= 1000000 := by
  show 0 <= D.steps + 1 + 1 /\ D.steps + 1 + 1 <= 1000000;have := hE.steps;omega
 have hlf : -9223372036854775808 <= (D.sv (fileN n) d 2).left /\ (D.sv (fileN n) d 2).left <= 9223372036854775807 := by
  have h1 : ∀ x : Int, -9223372036854775808 <= x /\ x <= 9223372036854775807 -> -9223372036854775808 <= (if 0 < x then x - 1 else x) /\ (if 0 < x then x - 1 else x) <= 9223372036854775807 := fun x hx => by split <;> omega
  exact h1 _ (h1 _ hE.left)
 have hcg : (D.sv (fileN n) d 2).chg = [⟨0, draftN, ⟨#[]⟩, d⟩, ⟨2, draftN, fileN n, ⟨#[]⟩⟩] := by
  show (D.chg ++ [_]) ++ [_] = _;rw [hE.chg];rfl
 have hkd : ∀ c ∈ (D.sv (fileN n) d 2).chg, c.kinds := by
  rw [hcg];intro c hc;rcases List.mem_cons.1 hc with rfl | hc
  ·exact .inl rfl
  ·rcases List.mem_cons.1 hc with rfl | hc
   ·exact .inr (.inr (.inl rfl))
   ·cases hc
 have hsz : ∀ k c, k < (D.sv (fileN n) d 2).chg.length -> (D.sv (fileN n) d 2).chg[k]? = some c -> c.data.size <= 1000000 /\ ((M.get ((D.sv (fileN n) d 2).keep4 k) c.name).getD ⟨#[]⟩).size <= 1000000 := by
  intro k c hk hc;unfold Dk.keep4;rw [hcg] at hk hc ⊢
  match k, hk, hc with
  | 0, _, hc =>
   cases hc;exact ⟨hd, hE.kept _⟩
  | 1, _, hc =>
   cases hc;refine ⟨Nat.zero_le _, ?_⟩;show ((M.get (Ch.act ⟨0, draftN, ⟨#[]⟩, d⟩ D.kept) draftN).getD ⟨#[]⟩).size <= 1000000;unfold Ch.act;rw [if_pos rfl, M.get_put, if_pos (M.beq_self _)];exact hd
  | k + 2, hk, _ => exact absurd hk (by simp)
 have HW := hide (sync4 w B g (D.sv (fileN n) d 2) h hst hlf (by rw [hcg]; simp) hkd hsz);clear h hE hst hlf hcg hkd hsz;go_enter Tryz.func51, Tryz.ntmps51;go_wp2_with fail;refine HW.out.mono ?_;rintro o w1 hc;obtain ⟨v, rfl⟩ : ∃ v, o = .returned v := by
  rcases hc.1 with ⟨_, e, _⟩ | ⟨_, e, _⟩
  ·exact ⟨_, e⟩
  ·exact ⟨_, e⟩
 have HC := hide hc;clear hc;go_wp2_with fail;go_ret;refine ⟨?_, HC.out.2⟩;rcases HC.out.1 with h | ⟨h1, h2, h3⟩
 ·exact .inl h
 ·exact .inr ⟨h1, h2, B, h3, fun x hx => .inl hx⟩
theorem steps_any (g : Nat) (f d : ByteArray) (w : World) : Calls Tryz.prog 22 #[.pointer (some ⟨g, 0, none⟩), .string f, .string d] w fun o w' => o = .returned (.slice (some ⟨w.heap.size + 3, 0, none⟩) 3 3) /\ w'.heap[w.heap.size]? = some (.cells #[.pointer (some ⟨g, 0, none⟩)] 27 (0, 0)) /\ w'.heap[w.heap.size + 1]? = some (.cells #[.string f] 9 (0, 0)) /\ w'.heap[w.heap.size + 2]? = some (.cells #[.string d] 9 (0, 0)) /\
  w'.heap[w.heap.size + 3]? = some (.cells #[.func (.func 47) #[] #[.pointer (some ⟨w.heap.size, 0, none⟩), .pointer (some ⟨w.heap.size + 2, 0, none⟩)], .func (.func 49) #[] #[.pointer (some ⟨w.heap.size, 0, none⟩), .pointer (some ⟨w.heap.size + 1, 0, none⟩)], .func (.func 51) #[] #[.pointer (some ⟨w.heap.size, 0, none⟩)]] 58 (0, 0)) /\ Fr w w' (fun _ => False) /\ w'.heap.size = w.heap.size + 4 := by
 go_enter Tryz.func22, Tryz.ntmps22;go_wp2_with fail;have hs : ∀ (w : World) (o : Obj), (w.alloc o).heap.size = w.heap.size + 1 := fun w o => World.size_alloc w o
 refine bodyPost_ret (v := .slice (some ⟨w.heap.size + 3, 0, none⟩) 3 3) (by simp [results, Tryz.results22, go_sem]) rfl ⟨rfl, ?_, ?_, ?_, ?_, (((((Fr.refl w _).alloc _).alloc _).alloc _).alloc _), by rw [hs, hs, hs, hs]⟩
 ·rw [heap_alloc_old _ _ (by rw [hs, hs, hs]; omega), heap_alloc_old _ _ (by rw [hs, hs]; omega), heap_alloc_old _ _ (by rw [hs]; omega)];exact heap_alloc_new _ _
 ·rw [heap_alloc_old _ _ (by rw [hs, hs, hs]; omega), heap_alloc_old _ _ (by rw [hs, hs]; omega), <- hs w (.cells #[.pointer (some ⟨g, 0, none⟩)] 27)];exact heap_alloc_new _ _
 ·rw [heap_alloc_old _ _ (by rw [hs, hs, hs]; omega)];have := heap_alloc_new ((w.alloc (.cells #[.pointer (some ⟨g, 0, none⟩)] 27)).alloc (.cells #[.string f] 9)) (.cells #[.string d] 9);rwa [hs, hs] at this
 ·have := heap_alloc_new (((w.alloc (.cells #[.pointer (some ⟨g, 0, none⟩)] 27)).alloc (.cells #[.string f] 9)).alloc (.cells #[.string d] 9)) (.cells #[.func (.func 47) #[] #[.pointer (some ⟨w.heap.size, 0, none⟩), .pointer (some ⟨w.heap.size + 2, 0, none⟩)], .func (.func 49) #[] #[.pointer (some ⟨w.heap.size, 0, none⟩), .pointer (some ⟨w.heap.size + 1, 0, none⟩)], .func (.func 51) #[] #[.pointer (some ⟨w.heap.size, 0, none⟩)]] 58);rwa [hs, hs, hs] at this
def SaveSays (w w' : World) (B : Nat -> Prop) (g : Nat) (D : Dk) (F : Nat) (f d : ByteArray) (o : Ending) : Prop :=
 ∃ k D' B', o = .returned (errV k) /\ Disk w' B' g D' /\ (∀ x, B' x -> B x \/ w.heap.size <= x) /\ (∀ x, B' x -> x < w'.heap.size) /\ Fr w w' B /\ ((F ≠ 0 /\ k = F /\ D' = D) \/ (F = 0 /\ D.Saved f d D' k))
theorem errOf_errV (k : Nat) : Vx.V.errOf k = errV k := by
 unfold Vx.V.errOf errV;rfl
theorem save_bad (n : ByteArray) (m : Nat) (s : Vx.St) (c0 c1 c2 c3 : Value) (w : World) (B : Nat -> Prop) (g : Nat) (D : Dk) (hn : Vx.V.name (Vx.V.bl n) = true) (hM : Vx.S.Mem m w s [c0, c1, c2, c3]) (hbk : Vx.S.bulk m s <= 2000000) (htab : Lib.TabIs Tryz.prog w "internal/strconv.uint64pow10" .u64 Lib.pow10Tab) (h : Disk w B g D) (hB : ∀ x, B x -> x < w.heap.size) (hbad : Vx.S.fault m s ≠ 0) :
  Calls Tryz.prog 6 #[.pointer (some ⟨g, 0, none⟩), .string n, .agg #[c0, c1, c2, c3]] w fun o w' => SaveSays w w' B g D (Vx.S.fault m s) (fileN n) (Vx.V.str (Vx.S.text m s)) o := by
 have hbx : Below w.heap.size w (w.alloc (.cells #[c0, c1, c2, c3] 26)) := ba;have hX := heap_alloc_new w (.cells #[c0, c1, c2, c3] 26);have hsn : n.size <= 12 := by
  unfold Vx.V.name at hn;simp only [Bool.and_eq_true, decide_eq_true_eq] at hn;have := Vx.V.length_bl n;omega
 have HN := hide (fun w => Vx.name_any n w (by unfold maxLen; omega));rw [hn] at HN;have HT := hide (Vx.stateText_any m (w.alloc (.cells #[c0, c1, c2, c3] 26)) s c0 c1 c2 c3 (hM.kept hbx) hbk (Vx.tab_below htab hbx));rw [errOf_errV, errV_ne hbad] at HT;obtain ⟨hv, iv, ov, hcs, hh, hi, ho, h64⟩ := hM;simp only [List.cons.injEq, and_true] at hcs;obtain ⟨rfl, rfl, rfl, rfl⟩ := hcs;obtain ⟨ah, ch, rfl⟩ := Vx.V.Row.shape hh;obtain ⟨ai, ci, rfl⟩ := Vx.V.Row.shape hi;obtain ⟨ao, co, rfl⟩ := Vx.V.Row.shape ho;have HEND : Hid (∀ w', Below (w.alloc (.cells #[.int .i64 s.serial, .slice ah s.held.length ch, .slice ai s.its.length ci, .slice ao s.outs.length co] 26)).heap.size (w.alloc (.cells #[.int .i64 s.serial, .slice ah s.held.length ch, .slice ai s.its.length ci, .slice ao s.outs.length co] 26)) w' -> SaveSays w w' B g D (Vx.S.fault m s) (fileN n) (Vx.V.str (Vx.S.text m s)) (.returned (.iface 54 (.int .i64 (Vx.S.fault m s))))) := fun w' hb => by
  have hB2 := hbx.trans (hb.mono hbx.size);have hF : Fr w w' (fun _ => False) := ⟨hB2.os, hB2.tape, hB2.output, hB2.size, fun c hc _ => hB2.block c hc⟩
  exact ⟨_, D, B, by rw [errV_ne hbad], h.fr hF (fun _ _ h => h), fun x hx => .inl hx, fun x hx => Nat.lt_of_lt_of_le (hB x hx) hF.size, hF.weak (fun _ _ h => h.elim), .inl ⟨hbad, rfl, rfl⟩⟩
 obtain ⟨x0, x1, x2, x3⟩ := cl4 hX;generalize Vx.S.fault m s = F at *;generalize Vx.S.textOr m s = tx at *;clear hbx hX hbad hbk htab h hB hh hi ho h64 hn hsn;go_enter Tryz.func6, Tryz.ntmps6;go_wp2_with fail;generalize (w.alloc _) = w0 at *;refine (HN.out w0).mono ?_;rintro o w1 ⟨rfl, hw1⟩;rw [hw1];clear hw1 HN;go_wp2_with fail;refine HT.out.mono ?_;rintro o w2 ⟨rfl, hb2⟩;have HR := hide (HEND.out w2 hb2);clear hb2 HT HEND x0 x1 x2 x3;go_wp2_with fail;go_ret;exact HR.out
end Go.Proofs.YtcekcfjabhlheaaGreatDoor.Dx
