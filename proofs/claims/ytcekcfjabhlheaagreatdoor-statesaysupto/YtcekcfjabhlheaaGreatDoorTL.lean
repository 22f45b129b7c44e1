/- StateSays: TF TK TL. -/
import Derived.Test.YtcekcfjabhlheaaGreatDoorSK
set_option maxRecDepth 100000
set_option maxHeartbeats 4000000
namespace Go.Proofs.YtcekcfjabhlheaaGreatDoor.Vx
open Go.RowKit
theorem same_nil (k : Int) (w : World) : Calls Tryz.prog 16 #[.nilIface, .int .i64 k] w fun e w' => e = .returned (.bool (decide (k = 0))) /\ w' = w := by
 by_cases hk : k = 0
 ·subst hk;go_enter Tryz.func16, Tryz.ntmps16;go_wp2_with fail;go_ret;exact ⟨rfl, rfl⟩
 ·have hb : (k == 0) = false := by simp [hk]
  have hd : decide (k = 0) = false := by simp [hk]
  rw [hd];go_enter Tryz.func16, Tryz.ntmps16;go_wp2_with fail;go_ret;exact ⟨rfl, rfl⟩
theorem same_err (n k : Int) (w : World) (hk : 0 < k) : Calls Tryz.prog 16 #[.iface 54 (.int .i64 n), .int .i64 k] w fun e w' => e = .returned (.bool (n == k)) /\ w' = w := by
 have hta := ta_errno n w;go_enter Tryz.func16, Tryz.ntmps16;go_wp2_with fail;go_ret;exact ⟨rfl, rfl⟩
theorem same_any (f : Nat) (w : World) : Calls Tryz.prog 16 #[V.errOf f, .int .i64 f] w fun e w' => e = .returned (.bool true) /\ w' = w := by
 by_cases h : f = 0
 ·subst h;exact same_nil 0 w
 ·have he : V.errOf f = .iface 54 (.int .i64 f) := by
   unfold V.errOf;rw [if_neg h]
  rw [he];refine (same_err f f w (by omega)).mono ?_;rintro e w' ⟨rfl, rfl⟩;exact ⟨by simp, rfl⟩
theorem eq_err7 (w : World) : (binOp BinOp.eql 30 (.iface 54 (.int .i64 7)) (.iface 54 (.int .i64 7))).run Tryz.prog w = .ok (.bool true) w := by kernel_rfl
theorem zero4 (w : World) (b : Nat) (h : w.heap[b]? = some (.cells #[.int .i64 0, .slice none 0 0, .slice none 0 0, .slice none 0 0] 26 (0, 0))) : (∃ wz : World, ((((w.setCell ⟨b, 0, none⟩ (.int .i64 0)).setCell ⟨b, 1, none⟩ (.slice none 0 0)).setCell ⟨b, 2, none⟩ (.slice none 0 0)).setCell ⟨b, 3, none⟩ (.slice none 0 0)) = wz /\ wz.cell? ⟨b, 0, none⟩ = some (.int .i64 0) /\ wz.cell? ⟨b, 1, none⟩ = some (.slice none 0 0) /\ wz.cell? ⟨b, 2, none⟩ = some (.slice none 0 0) /\ wz.cell? ⟨b, 3, none⟩ = some (.slice none 0 0) /\ Fr w wz (fun c => c = b)) := by
 have b0 : (w.setCell ⟨b, 0, none⟩ (.int .i64 0)).heap[b]? = _ := block_set (i := 0) h (.int .i64 0);have b1 := block_set (i := 1) b0 (.slice none 0 0);have b2 := block_set (i := 2) b1 (.slice none 0 0);have b3 := block_set (i := 3) b2 (.slice none 0 0);exact ⟨_, rfl, cell_of_block b3 0 _ rfl, cell_of_block b3 1 _ rfl, cell_of_block b3 2 _ rfl, cell_of_block b3 3 _ rfl, ((((Fr.refl w (fun c => c = b)).set ⟨b, 0, none⟩ _ (fun _ => rfl)).set ⟨b, 1, none⟩ _ (fun _ => rfl)).set ⟨b, 2, none⟩ _ (fun _ => rfl)).set ⟨b, 3, none⟩ _ (fun _ => rfl)⟩
theorem load_name (n : ByteArray) (w : World) (g : Nat) (hn : V.name (V.bl n) = false) (hs : n.size <= 1000) :
  Calls Tryz.prog 10 #[.pointer (some ⟨g, 0, none⟩), .string n] w fun o w' => o = .returned (.tuple #[.agg #[.int .i64 0, .slice none 0 0, .slice none 0 0, .slice none 0 0], .iface 54 (.int .i64 3)]) /\ Below w.heap.size w w' := by
 have hb0 : Below w.heap.size w (w.alloc (.cells #[.int .i64 0, .slice none 0 0, .slice none 0 0, .slice none 0 0] 26)) := ba;have hA0 := heap_alloc_new w (.cells #[.int .i64 0, .slice none 0 0, .slice none 0 0, .slice none 0 0] 26);obtain ⟨HB0, HA0⟩ := hd2 hb0 hA0;have HN := hide (fun w => name_any n w (by unfold maxLen; omega));rw [hn] at HN;obtain ⟨m0, m1, m2, m3⟩ := cl4 hA0;obtain ⟨f0, f1, f2, f3⟩ := fl4 hA0;clear hb0 hA0 hn hs;go_enter Tryz.func10, Tryz.ntmps10;go_wp2_with fail;generalize (w.alloc _) = w0 at *;refine (HN.out w0).mono ?_;rintro o w1 ⟨rfl, hw1⟩;rw [hw1];clear hw1 HN;go_wp2_with fail;obtain ⟨wz, hwz, r0, r1, r2, r3, hF⟩ := zero4 w0 w.heap.size HA0.out;rw [hwz];exact bodyPost_ret (v := .tuple #[.agg #[.int .i64 0, .slice none 0 0, .slice none 0 0, .slice none 0 0], .iface 54 (.int .i64 3)]) (by simp [results, Tryz.results10, go_sem, r0, r1, r2, r3]) rfl ⟨rfl, HB0.out.trans (hF.below HB0.out.size (fun c e => by omega))⟩
theorem load_none (n : ByteArray) (w : World) (B : Nat -> Prop) (g : Nat) (D : Dx.Dk) (hn : V.name (V.bl n) = true) (h : Dx.Disk w B g D) (hdn : D.down = false) (hget : Dx.M.get D.files (Dx.fileN n) = none) :
  Calls Tryz.prog 10 #[.pointer (some ⟨g, 0, none⟩), .string n] w fun o w' => o = .returned (.tuple #[.agg #[.int .i64 0, .slice none 0 0, .slice none 0 0, .slice none 0 0], .nilIface]) /\ Below w.heap.size w w' := by
 have hb0 : Below w.heap.size w (w.alloc (.cells #[.int .i64 0, .slice none 0 0, .slice none 0 0, .slice none 0 0] 26)) := ba;have hA0 := heap_alloc_new w (.cells #[.int .i64 0, .slice none 0 0, .slice none 0 0, .slice none 0 0] 26);have HS0 : Hid ((w.alloc (.cells #[.int .i64 0, .slice none 0 0, .slice none 0 0, .slice none 0 0] 26)).heap.size = w.heap.size + 1) := by
  show _ = _;simp
 have hsn : n.size <= 12 := by
  unfold V.name at hn;simp only [Bool.and_eq_true, decide_eq_true_eq] at hn;have := V.length_bl n;omega
 have HN := hide (fun w => name_any n w (by unfold maxLen; omega));rw [hn] at HN;have HFO := hide (fun w => Dx.fileOf_any n w (by omega));have HRD : Hid (Calls Tryz.prog 25 #[.pointer (some ⟨g, 0, none⟩), .string (Dx.fileN n)] (w.alloc (.cells #[.int .i64 0, .slice none 0 0, .slice none 0 0, .slice none 0 0] 26)) fun o w' => o = .returned (.tuple #[.string ⟨#[]⟩, .iface 54 (.int .i64 7)]) /\ Below (w.alloc (.cells #[.int .i64 0, .slice none 0 0, .slice none 0 0, .slice none 0 0] 26)).heap.size (w.alloc (.cells #[.int .i64 0, .slice none 0 0, .slice none 0 0, .slice none 0 0] 26)) w') := by
  refine (Dx.read_any (w.alloc (.cells #[.int .i64 0, .slice none 0 0, .slice none 0 0, .slice none 0 0] 26)) B g D (Dx.fileN n) (h.fr ((Dx.Fr.refl w (fun _ => False)).alloc _) (fun _ _ e => e))).mono ?_;rintro o w' ⟨rfl, hf⟩;refine ⟨?_, below_dx hf⟩;unfold Dx.Dk.read;rw [hdn, hget];rfl
 obtain ⟨HB0, HA0⟩ := hd2 hb0 hA0;clear hb0 hA0 hsn hn h hdn hget;go_enter Tryz.func10, Tryz.ntmps10;go_wp2_with fail;generalize (w.alloc _) = w0 at *;refine (HN.out w0).mono ?_;rintro o w1 ⟨rfl, hw1⟩;rw [hw1];clear hw1 HN;go_wp2_with fail;refine (HFO.out w0).mono ?_;rintro o w1' ⟨rfl, hw1⟩;rw [hw1];clear hw1 HFO;go_wp2_with fail;refine HRD.out.mono ?_;rintro o w3 ⟨rfl, hb3⟩;have HB3 := bt HB0 hb3;have hA3 := (hb3.block w.heap.size (by have := HS0.out; omega)).trans HA0.out;have HA3 := hide hA3;have hq7 := eq_err7;obtain ⟨m0, m1, m2, m3⟩ := cl4 hA3;obtain ⟨f0, f1, f2, f3⟩ := fl4 hA3;clear hb3 hA3 HRD HA0 HB0 HS0;go_wp2_with fail;obtain ⟨wz, hwz, r0, r1, r2, r3, hF⟩ := zero4 w3 w.heap.size HA3.out;rw [hwz];exact bodyPost_ret (v := .tuple #[.agg #[.int .i64 0, .slice none 0 0, .slice none 0 0, .slice none 0 0], .nilIface]) (by simp [results, Tryz.results10, go_sem, r0, r1, r2, r3]) rfl ⟨rfl, HB3.out.trans (hF.below HB3.out.size (fun c e => by omega))⟩
theorem save_name (n : ByteArray) (m : Nat) (s : St) (c0 c1 c2 c3 : Value) (w : World) (g : Nat) (hM : S.Mem m w s [c0, c1, c2, c3]) (hn : V.name (V.bl n) = false) (hs : n.size <= 1000) :
  Calls Tryz.prog 6 #[.pointer (some ⟨g, 0, none⟩), .string n, .agg #[c0, c1, c2, c3]] w fun o w' => o = .returned (.iface 54 (.int .i64 3)) /\ Below w.heap.size w w' := by
 obtain ⟨hv, iv, ov, hcs, hh, hi, ho, h64⟩ := hM;obtain ⟨rfl, rfl, rfl, rfl⟩ := ij4 hcs;obtain ⟨ah, ch, rfl⟩ := V.Row.shape hh;obtain ⟨ai, ci, rfl⟩ := V.Row.shape hi;obtain ⟨ao, co, rfl⟩ := V.Row.shape ho;have HN := hide (fun w => name_any n w (by unfold maxLen; omega));rw [hn] at HN;have HB0 : Hid (Below w.heap.size w (w.alloc (.cells #[.int .i64 s.serial, .slice ah s.held.length ch, .slice ai s.its.length ci, .slice ao s.outs.length co] 26))) := ba;clear hh hi ho h64 hn hs;go_enter Tryz.func6, Tryz.ntmps6;go_wp2_with fail;generalize (w.alloc _) = w0 at *;refine (HN.out w0).mono ?_;rintro o w1 ⟨rfl, hw1⟩;rw [hw1];clear hw1 HN;go_wp2_with fail;go_ret;exact ⟨rfl, HB0.out⟩
namespace S
def lone (n : Int) : St := ⟨n, [], [], []⟩
theorem lone_mem (n : Int) (hn : in64 n) (m : Nat) (w : World) : Mem m w (lone n) [.int .i64 n, .slice none 0 0, .slice none 0 0, .slice none 0 0] :=
 ⟨_, _, _, rfl, V.Row.zero _ _ _, V.Row.zero _ _ _, V.Row.zero _ _ _, hn⟩
theorem lone_bulk (n : Int) (m : Nat) : bulk m (lone n) <= 2000000 := Nat.zero_le _
theorem lone_fault (m : Nat) : fault m (lone 3) = 0 := by
 unfold fault;rw [if_neg (by decide), if_neg (by decide)];rfl
theorem lone_len (m : Nat) : (text m (lone 3)).length <= 4000 := by
 unfold text;rw [List.length_append];have h1 := sumText_len (lines m (lone 3));have h2 : lines m (lone 3) = serialLine 3 := by
  unfold lines lone;simp
 have h3 : (serialLine 3).length <= 60 := by
  unfold serialLine;rw [line2];have := itoa_len2 3 ⟨by decide, by decide⟩;simp only [kSerial, List.length_cons, List.length_nil];omega
 rw [h2] at h1 ⊢;omega
end S
def Saved1 (n d : ByteArray) (D' : Dx.Dk) (F k : Nat) : Prop :=
 (F ≠ 0 /\ k = F) \/ (F = 0 /\ 4000 < d.size /\ k = 2) \/ (F = 0 /\ d.size <= 4000 /\ k = 0 /\ D'.down = false /\ Dx.M.get D'.files (Dx.fileN n) = some d)
theorem saved1 {n d : ByteArray} {D' : Dx.Dk} {F k : Nat} (h : (F ≠ 0 /\ k = F /\ D' = Dx.Dk.new) \/ (F = 0 /\ Dx.Dk.new.Saved (Dx.fileN n) d D' k)) : Saved1 n d D' F k := by
 rcases h with ⟨h1, h2, _⟩ | ⟨h1, h2⟩
 ·exact .inl ⟨h1, h2⟩
 ·by_cases hd : d.size <= 4000
  ·obtain ⟨e1, e2⟩ := Dx.save_new hd h2;obtain ⟨k1, k2, k3⟩ := Dx.nice_sv3 Dx.nice_new n d hd (by decide) (by decide);rw [<- e2] at k1 k2;exact .inr (.inr ⟨h1, hd, e1, k1.down, k2⟩)
  ·have hf : Dx.Dk.new.fit Dx.draftN d.size = 2 := by
    unfold Dx.Dk.fit;rw [if_neg (by rw [Dx.may_draft]; decide), if_pos (.inl (by omega))]
   rcases h2 with ⟨_, h, _⟩ | ⟨h, _⟩ | ⟨h, _⟩
   ·exact .inr (.inl ⟨h1, by omega, h.trans hf⟩)
   ·rw [hf] at h; cases h
   ·rw [hf] at h; cases h
theorem law_save1 {wA W7 W : World} {g : Nat} (n : ByteArray) (hn : V.name (V.bl n) = true) (h : LawAt wA g Dx.Dk.new W7) (h7 : Below W7.heap.size W7 W) (m : Nat) (s : St) (c0 c1 c2 c3 : Value) (hM : S.Mem m W s [c0, c1, c2, c3]) (hbk : S.bulk m s <= 2000000) (htab : Lib.TabIs Tryz.prog wA "internal/strconv.uint64pow10" .u64 Lib.pow10Tab) :
  Calls Tryz.prog 6 #[.pointer (some ⟨g, 0, none⟩), .string n, .agg #[c0, c1, c2, c3]] W fun o W' => ∃ k D', o = .returned (Dx.errV k) /\ LawAt wA g D' W' /\ Saved1 n (V.str (S.text m s)) D' (S.fault m s) k /\ ∀ c, W7.heap.size <= c -> c < W.heap.size -> W'.heap[c]? = W.heap[c]? := by
 obtain ⟨B, hD, hB, hb⟩ := h;have hF7 : Dx.Fr W7 W (fun _ => False) := ⟨h7.os, h7.tape, h7.output, h7.size, fun c hc _ => h7.block c hc⟩
 have hb2 := hb.trans (h7.mono hb.size);refine (Dx.save_any n m s c0 c1 c2 c3 W B g Dx.Dk.new hn hM hbk (tab_below htab hb2) (hD.fr hF7 (fun _ _ e => e)) (fun x hx => Nat.lt_of_lt_of_le (hB x hx).2 h7.size) Dx.nice_new.easy).mono ?_;rintro o W' ⟨k, D', B', ho, hD', h1, h2, hF, hs⟩;refine ⟨k, D', ho, ⟨B', hD', fun x hx => ⟨?_, h2 x hx⟩, fr_law hb2 (fun x hx => (hB x hx).1) hF⟩, saved1 hs, fun c h3 h4 => hF.block c h4 (fun e => by have := (hB c e).2; omega)⟩;rcases h1 x hx with e | e
 ·exact (hB x e).1
 ·exact Nat.le_trans hb2.size e
theorem law_load1 {wA W : World} {g : Nat} {D : Dx.Dk} (n : ByteArray) (hn : V.name (V.bl n) = true) (h : LawAt wA g D W) (x : St) (hdn : D.down = false) (hget : Dx.M.get D.files (Dx.fileN n) = some (V.str (S.text 6 x))) (h6 : S.Six x) (hlen : (S.text 6 x).length <= 4000) (htab : Lib.TabIs Tryz.prog wA "internal/strconv.uint64pow10" .u64 Lib.pow10Tab) :
  Calls Tryz.prog 10 #[.pointer (some ⟨g, 0, none⟩), .string n] W fun o W' => (∃ cs, o = .returned (.tuple #[.agg cs.toArray, .nilIface]) /\ P.StR W W' x cs) /\ Below W.heap.size W W' := by
 obtain ⟨B, hD, hB, hb⟩ := h;exact load_there n x W B g D hn hD hdn hget h6 hlen (tab_below htab hb)
theorem law_none {wA W : World} {g : Nat} (n : ByteArray) (hn : V.name (V.bl n) = true) (h : LawAt wA g Dx.Dk.new W) :
  Calls Tryz.prog 10 #[.pointer (some ⟨g, 0, none⟩), .string n] W fun o W' => o = .returned (.tuple #[.agg #[.int .i64 0, .slice none 0 0, .slice none 0 0, .slice none 0 0], .nilIface]) /\ Below W.heap.size W W' := by
 obtain ⟨B, hD, hB, hb⟩ := h;exact load_none n W B g Dx.Dk.new hn hD rfl rfl
theorem same_pos (f : Nat) (hf : f ≠ 0) (w : World) : Calls Tryz.prog 16 #[.iface 54 (.int .i64 f), .int .i64 f] w fun e w' => e = .returned (.bool true) /\ w' = w := by
 have h := same_any f w;rw [err_ne f hf] at h;exact h
theorem stays_any (w : World) (htab : Lib.TabIs Tryz.prog w "internal/strconv.uint64pow10" .u64 Lib.pow10Tab) : Calls Tryz.prog 13 #[] w fun o w' => o = .returned (.bool true) /\ Below w.heap.size w w' := by
 have HTAB := hide htab;obtain ⟨h6, htx⟩ := S.Six.of (S.lone_mem 3 ⟨by decide, by decide⟩ 6 w) (S.lone_fault 6) (S.lone_bulk 3 6);have H6 := hide h6;clear htab h6 htx;go_enter Tryz.func13, Tryz.ntmps13;go_wp2_with fail;refine (law_new w).mono ?_;rintro o w1 ⟨g, rfl, hL1⟩;have HSV := hide (law_save1 ⟨#[97]⟩ (by decide) hL1 (Below.refl _ _) 6 (S.lone 3) _ _ _ _ (S.lone_mem 3 ⟨by decide, by decide⟩ 6 w1) (S.lone_bulk 3 6) HTAB.out);clear hL1;go_wp2_with fail;refine HSV.out.mono ?_;rintro o w2 ⟨k, D1, ho, hL2, hS, _⟩;obtain ⟨rfl, hdn, hget⟩ : k = 0 /\ D1.down = false /\ Dx.M.get D1.files (Dx.fileN ⟨#[97]⟩) = some (V.str (S.text 6 (S.lone 3))) := by
  rcases hS with ⟨h1, _⟩ | ⟨_, h2, _⟩ | ⟨_, _, h3, h4, h5⟩
  ·exact absurd (S.lone_fault 6) h1
  ·rw [S.size_str] at h2;have := S.lone_len 6;omega
  ·exact ⟨h3, h4, h5⟩
 have ho2 : o = .returned .nilIface := ho;subst ho2;have HLD := hide (law_load1 ⟨#[97]⟩ (by decide) hL2 (S.lone 3) hdn hget H6.out (S.lone_len 6) HTAB.out);have HB2 := hide hL2.below;clear ho hL2 hS hdn hget HSV;go_wp2_with fail;refine HLD.out.mono ?_;rintro o w3 ⟨⟨cs, rfl, ⟨a1, n1, q1, a2, n2, q2, a3, n3, q3, rfl⟩, _⟩, hb3⟩;have HB3 := bt HB2 hb3;have HB4 : Hid (Below w.heap.size w (w3.alloc (.cells #[.int .i64 (S.lone 3).serial, .slice a1 n1 q1, .slice a2 n2 q2, .slice a3 n3 q3] 26))) := HB3.out.alloc HB3.out.size _;have hX := heap_alloc_new w3 (.cells #[.int .i64 (S.lone 3).serial, .slice a1 n1 q1, .slice a2 n2 q2, .slice a3 n3 q3] 26);rw [show (S.lone 3).serial = 3 from rfl] at hX HB4 ⊢;have x0 := cell_of_block hX 0 _ rfl;clear hb3 HLD HB2 HB3 hX;go_wp2_with fail;generalize (w3.alloc _) = w4 at *;refine (same_nil 0 w4).mono ?_;rintro o w5 ⟨rfl, hw⟩;rw [hw, show decide ((0 : Int) = 0) = true from rfl];clear hw;go_wp2_with fail;refine (same_nil 0 w4).mono ?_;rintro o w5' ⟨rfl, hw⟩;rw [hw, show decide ((0 : Int) = 0) = true from rfl];clear hw;go_wp2_with fail;go_ret;exact ⟨rfl, HB4.out⟩
end Go.Proofs.YtcekcfjabhlheaaGreatDoor.Vx
