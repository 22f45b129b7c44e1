/- StateSays: TA TD TG. -/
import Derived.Test.YtcekcfjabhlheaaGreatDoorVJ
import Derived.Lib.ItoaNum
import Derived.Test.YtcekcfjabhlheaaGreatDoorVN
set_option maxRecDepth 100000
set_option maxHeartbeats 1600000
namespace Go.Proofs.YtcekcfjabhlheaaGreatDoor.Vx
open Go.RowKit
theorem wrap_i64 (i : Int) (h0 : -9223372036854775808 <= i) (h1 : i < 9223372036854775808) : IntKind.i64.wrap i = i := by
 rw [IntKind.wrap, show (2 : Int) ^ IntKind.i64.bits = 18446744073709551616 from rfl, show IntKind.i64.signed = true from rfl, show (2 : Int) ^ (IntKind.i64.bits - 1) = 9223372036854775808 from rfl];simp;omega
theorem dig_lt (n : Nat) (h : n < 10) : ((UInt8.ofNat (48 + n)).toNat : Int) = 48 + n := by
 rw [UInt8.toNat_ofNat']; omega
theorem dig_conv (d : Nat) (h : d < 10) (x : Int) (hx : x = 48 + d) : ∃ t : ByteArray, t = V.str [UInt8.ofNat (48 + d)] /\ t.size = 1 /\
  (∀ (W : World) (g : Nat), W.heap[g]? = some (.cells #[.int .u8 x] 5 (0, 0)) -> (convert 99 9 (.slice (some ⟨g, 0, none⟩) 1 1)).run Tryz.prog W = .ok (.string t) W) :=
 ⟨_, rfl, rfl, fun W g hg => conv_at W g _ _ 1 rfl (by rw [hx, <- dig_lt d h]; rfl) hg⟩
theorem decNat_any (n : Nat) : ∀ (w : World), n <= 4000000000 ->
  Calls Tryz.prog 38 #[.int .i64 n] w fun e w' => (∃ s : ByteArray, e = .returned (.string s) /\ s = V.str (Lib.decDigits n) /\ s.size <= n + 1) /\ Below w.heap.size w w' := by
 induction n using Nat.strongRecOn with
 | ind n ih =>
  intro w hn;by_cases h10 : n < 10
  ·obtain ⟨t, ht, htz, hc⟩ := dig_conv n h10 (48 + n) rfl;have HT : Hid _ := ht;have HE : Hid (Lib.decDigits n = [UInt8.ofNat (48 + n)]) := by show _ = _; rw [Lib.decDigits, dif_pos h10]
   have ha := hc _ _ (heap_alloc_new w (.cells #[.int .u8 (48 + n)] 5));clear ht hc ih;go_enter Tryz.func38, Tryz.ntmps38;go_wp2_with fail;go_ret;exact ⟨⟨t, rfl, by rw [HE.out, HT.out], by omega⟩, ba⟩
  ·obtain ⟨q, hq⟩ : ∃ q : Nat, q = n / 10 := ⟨_, rfl⟩
   obtain ⟨d, hd⟩ : ∃ d : Nat, d = n % 10 := ⟨_, rfl⟩
   have hw : IntKind.i64.wrap ((n : Int) / 10) = q := by rw [wrap_i64 _ (by omega) (by omega)]; omega
   have hm : (n : Int).tmod 10 = d := by rw [Int.tmod_eq_emod_of_nonneg (by omega)]; omega
   obtain ⟨t, ht, htz, hc⟩ := dig_conv d (by omega) (IntKind.u8.wrap (IntKind.i64.wrap (48 + (d : Int)))) (by rw [wrap_i64 _ (by omega) (by omega), wrap_u8 _ (by omega) (by omega)]);have HT : Hid _ := ht;have HE : Hid (Lib.decDigits n = Lib.decDigits q ++ [UInt8.ofNat (48 + d)]) := by show _ = _; rw [Lib.decDigits, dif_neg h10, hq, hd]
   have hI : ∀ W : World, _ := fun W => ih q (by omega) W (by omega)
   have HI : Hid _ := hI;have HC : Hid _ := hc;have hdd : d < 10 := by omega
   have hqn : q + 2 <= n := by omega
   have hqm : q <= 4000000000 := by omega
   have k1 : ∀ W : World, (convert 99 9 (.slice (some ⟨W.heap.size, 0, none⟩) 1 1)).run Tryz.prog (W.alloc (.cells #[.int .u8 (IntKind.u8.wrap (IntKind.i64.wrap (48 + (d : Int))))] 5)) = .ok (.string t) (W.alloc (.cells #[.int .u8 (IntKind.u8.wrap (IntKind.i64.wrap (48 + (d : Int))))] 5)) := fun W => hc _ _ (heap_alloc_new W _)
   have k2 : ∀ W : World, (convert 99 9 (.slice (some ⟨W.heap.size, 0, none⟩) 1 1)).run Tryz.prog (W.alloc (.cells #[.int .u8 (IntKind.u8.wrap (IntKind.i64.wrap (48 + (d : Int))))] 5)).drew = .ok (.string t) (W.alloc (.cells #[.int .u8 (IntKind.u8.wrap (IntKind.i64.wrap (48 + (d : Int))))] 5)).drew := fun W => hc _ _ (heap_alloc_new W _)
   have HK : Hid (∀ w3 : World, Below (w.heap.size + 1) (w.alloc (.cells #[.int .u8 (IntKind.u8.wrap (IntKind.i64.wrap (48 + (d : Int))))] 5)).drew w3 -> (convert 99 9 (.slice (some ⟨w.heap.size, 0, none⟩) 1 1)).run Tryz.prog w3 = .ok (.string t) w3) :=
    fun w3 hb => hc _ _ ((hb.block w.heap.size (by omega)).trans (heap_alloc_new w _))
   clear ht ih hI hq hd hc;go_enter Tryz.func38, Tryz.ntmps38;go_wp2_with fail;go_region_with (first | (go_at_call 38; refine (HI.out _).mono ?_; rintro e w3 ⟨⟨s3, rfl, hs3, hz3⟩, hb3⟩; have HS3 : Hid _ := hs3; clear hs3; try (have k3 := HK.out w3 (by simpa using hb3))))
   all_goals
    go_wp2_with fail;go_ret;refine ⟨⟨_, rfl, by rw [HS3.out, HT.out, HE.out, V.str_append], by rw [ByteArray.size_append]; omega⟩, ?_⟩
    first
     | exact ((below_drewN (Below.refl w.heap.size w) 1).trans hb3).alloc hb3.size _
     | exact (below_drewN ((Below.refl w.heap.size w).alloc (Nat.le_refl _) _) 1).trans (hb3.mono (by simp))
theorem decDigits_zero (u : Nat) (h : Lib.decDigits u = [48]) : u = 0 := by
 rw [Lib.decDigits] at h;split at h
 ·rename_i hu;have := congrArg (fun l : List UInt8 => l.map UInt8.toNat) h;simp [UInt8.toNat_ofNat'] at this;omega
 ·have hl := congrArg List.length h;rw [List.length_append] at hl;simp only [List.length_cons, List.length_nil] at hl;have h0 : Lib.decDigits (u / 10) = [] := List.length_eq_zero_iff.1 (by omega);rw [Lib.decDigits] at h0;split at h0 <;> simp at h0
theorem decimal_any (n : Int) (w : World) (h0 : -4000000000 <= n) (h1 : n <= 4000000000) :
  Calls Tryz.prog 38 #[.int .i64 n] w fun e w' => (∃ s : ByteArray, e = .returned (.string s) /\ s = V.str (Lib.itoa n) /\ s.size <= 4000000003) /\ Below w.heap.size w w' := by
 by_cases hneg : n < 0
 ·obtain ⟨u, hu⟩ : ∃ u : Nat, u = n.natAbs := ⟨_, rfl⟩
  obtain ⟨q, hq⟩ : ∃ q : Nat, q = u / 10 := ⟨_, rfl⟩
  obtain ⟨d, hd⟩ : ∃ d : Nat, d = u % 10 := ⟨_, rfl⟩
  have HE : Hid (Lib.itoa n = 45 :: Lib.decDigits u) := by show _ = _; rw [Lib.itoa, if_pos hneg, hu]
  obtain ⟨t, ht, htz, hc⟩ := dig_conv d (by omega) (48 + d) rfl;have hqm : q <= 400000000 := by omega
  have hw : wrap64 (-n.tdiv 10) = q := by
   have e1 : n.tdiv 10 = -(q : Int) := by
    have : n = -(u : Int) := by omega
    rw [this, Int.neg_tdiv, Int.tdiv_eq_ediv_of_nonneg (by omega)]; omega
   rw [e1, show (- -(q : Int)) = q by omega];unfold wrap64; omega
  have hm : n.tmod 10 = -(d : Int) := by
   have : n = -(u : Int) := by omega
   rw [this, Int.neg_tmod, Int.tmod_eq_emod_of_nonneg (by omega)]; omega
  have HT : Hid _ := ht;have hdd : d < 10 := by omega
  have HU : Hid (u = 10 * q + d) := by show _ = _; omega
  have k1 : ∀ W : World, (convert 99 9 (.slice (some ⟨W.heap.size, 0, none⟩) 1 1)).run Tryz.prog (W.alloc (.cells #[.int .u8 (48 + (d : Int))] 5)) = .ok (.string t) (W.alloc (.cells #[.int .u8 (48 + (d : Int))] 5)) := fun W => hc _ _ (heap_alloc_new W _)
  clear hc ht hq hd hu;go_enter Tryz.func38, Tryz.ntmps38;go_wp2_with fail;rw [hw];refine (decNat_any q w (by omega)).mono ?_;rintro e w3 ⟨⟨s3, rfl, hs3, hz3⟩, hb3⟩;by_cases hq0 : q = 0
  ·subst hq0;have e3 : s3 = ⟨#[48]⟩ := by rw [hs3, Lib.decDigits, dif_pos (by omega)]; rfl
   subst e3;clear hs3 hz3;go_wp2_with fail;go_ret;refine ⟨⟨_, rfl, ?_, ?_⟩, hb3.alloc hb3.size _⟩
   ·rw [HT.out, HE.out, HU.out, Lib.decDigits, dif_pos (by omega)];show V.str [45] ++ V.str [] ++ V.str _ = _;rw [V.str_append, V.str_append];simp
   ·rw [ByteArray.size_append, ByteArray.size_append, htz]; decide
  ·have HS3 : Hid _ := hs3;have g3 : (s3.toList == [48]) = false := beq_eq_false_iff_ne.2 (fun h => hq0 (decDigits_zero q (by rw [hs3, V.toList_bl, V.bl_str] at h; exact h)));clear hs3;go_wp2_with fail;go_ret;refine ⟨⟨_, rfl, ?_, ?_⟩, hb3.alloc hb3.size _⟩
   ·rw [HT.out, HE.out, HU.out, Lib.decDigits, dif_neg (by omega), HS3.out, show (10 * q + d) / 10 = q by omega, show (10 * q + d) % 10 = d by omega];show V.str [45] ++ V.str _ ++ V.str _ = _;rw [V.str_append, V.str_append];simp
   ·rw [ByteArray.size_append, ByteArray.size_append, htz];show 1 + s3.size + 1 <= _;omega
 ·obtain ⟨k, rfl⟩ : ∃ k : Nat, n = k := ⟨n.toNat, by omega⟩
  refine (decNat_any k w (by omega)).mono ?_;rintro e w' ⟨⟨s, rfl, hs, hz⟩, hb⟩;exact ⟨⟨s, rfl, by rw [hs, Lib.itoa, if_neg hneg]; rfl, by omega⟩, hb⟩
theorem unsigned_any (n : Nat) : ∀ (w : World), n < 18446744073709551616 ->
  Calls Tryz.prog 41 #[.int .u64 n] w fun e w' => (∃ s : ByteArray, e = .returned (.string s) /\ s = V.str (Lib.decDigits n) /\ s.size <= 21) /\ Below w.heap.size w w' := by
 induction n using Nat.strongRecOn with
 | ind n ih =>
  intro w hn;by_cases h10 : n < 10
  ·obtain ⟨t, ht, htz, hc⟩ := dig_conv n h10 (48 + n) rfl;have HT : Hid _ := ht;have HE : Hid (Lib.decDigits n = [UInt8.ofNat (48 + n)]) := by show _ = _; rw [Lib.decDigits, dif_pos h10]
   have ha := hc _ _ (heap_alloc_new w (.cells #[.int .u8 (48 + n)] 5));clear ht hc ih;have hw1 : IntKind.u64.wrap (48 + (n : Int)) = 48 + (n : Int) := by rw [IntKind.wrap_u64]; omega
   have hw2 : IntKind.u8.wrap (48 + (n : Int)) = 48 + (n : Int) := wrap_u8 _ (by omega) (by omega);go_enter Tryz.func41, Tryz.ntmps41;go_wp2_with fail;go_ret;exact ⟨⟨t, rfl, by rw [HE.out, HT.out], by omega⟩, ba⟩
  ·obtain ⟨q, hq⟩ : ∃ q : Nat, q = n / 10 := ⟨_, rfl⟩
   obtain ⟨d, hd⟩ : ∃ d : Nat, d = n % 10 := ⟨_, rfl⟩
   have hw : IntKind.u64.wrap ((n : Int) / 10) = q := by rw [IntKind.wrap_u64]; omega
   have hm : (n : Int).tmod 10 = d := by rw [Int.tmod_eq_emod_of_nonneg (by omega)]; omega
   obtain ⟨t, ht, htz, hc⟩ := dig_conv d (by omega) (IntKind.u8.wrap (IntKind.u64.wrap (48 + (d : Int)))) (by rw [show IntKind.u64.wrap (48 + (d : Int)) = 48 + (d : Int) by rw [IntKind.wrap_u64]; omega, wrap_u8 _ (by omega) (by omega)]);have HT : Hid _ := ht;have HE : Hid (Lib.decDigits n = Lib.decDigits q ++ [UInt8.ofNat (48 + d)]) := by show _ = _; rw [Lib.decDigits, dif_neg h10, hq, hd]
   have hI : ∀ W : World, _ := fun W => ih q (by omega) W (by omega)
   have HI : Hid _ := hI;have HC : Hid _ := hc;have hdd : d < 10 := by omega
   have HLN : Hid ((Lib.decDigits n).length <= 21) := V.decDigits_len 20 n (by omega);have hqm : q < 18446744073709551616 := by omega
   have k1 : ∀ W : World, (convert 99 9 (.slice (some ⟨W.heap.size, 0, none⟩) 1 1)).run Tryz.prog (W.alloc (.cells #[.int .u8 (IntKind.u8.wrap (IntKind.u64.wrap (48 + (d : Int))))] 5)) = .ok (.string t) (W.alloc (.cells #[.int .u8 (IntKind.u8.wrap (IntKind.u64.wrap (48 + (d : Int))))] 5)) := fun W => hc _ _ (heap_alloc_new W _)
   have k2 : ∀ W : World, (convert 99 9 (.slice (some ⟨W.heap.size, 0, none⟩) 1 1)).run Tryz.prog (W.alloc (.cells #[.int .u8 (IntKind.u8.wrap (IntKind.u64.wrap (48 + (d : Int))))] 5)).drew = .ok (.string t) (W.alloc (.cells #[.int .u8 (IntKind.u8.wrap (IntKind.u64.wrap (48 + (d : Int))))] 5)).drew := fun W => hc _ _ (heap_alloc_new W _)
   have HK : Hid (∀ w3 : World, Below (w.heap.size + 1) (w.alloc (.cells #[.int .u8 (IntKind.u8.wrap (IntKind.u64.wrap (48 + (d : Int))))] 5)).drew w3 -> (convert 99 9 (.slice (some ⟨w.heap.size, 0, none⟩) 1 1)).run Tryz.prog w3 = .ok (.string t) w3) :=
    fun w3 hb => hc _ _ ((hb.block w.heap.size (by omega)).trans (heap_alloc_new w _))
   clear ht ih hI hq hd hc;go_enter Tryz.func41, Tryz.ntmps41;go_wp2_with fail;go_region_with (first | (go_at_call 41; refine (HI.out _).mono ?_; rintro e w3 ⟨⟨s3, rfl, hs3, hz3⟩, hb3⟩; have HS3 : Hid _ := hs3; clear hs3; try (have k3 := HK.out w3 (by simpa using hb3))))
   all_goals
    go_wp2_with fail;go_ret;refine ⟨⟨_, rfl, by rw [HS3.out, HT.out, HE.out, V.str_append], by rw [show s3 ++ t = V.str (Lib.decDigits n) by rw [HS3.out, HT.out, HE.out, V.str_append], str_size]; exact HLN.out⟩, ?_⟩
    first
     | exact ((below_drewN (Below.refl w.heap.size w) 1).trans hb3).alloc hb3.size _
     | exact (below_drewN ((Below.refl w.heap.size w).alloc (Nat.le_refl _) _) 1).trans (hb3.mono (by simp))
theorem decAll_any (n : Nat) : ∀ (w : World), n < 9223372036854775808 ->
  Calls Tryz.prog 38 #[.int .i64 n] w fun e w' => (∃ s : ByteArray, e = .returned (.string s) /\ s = V.str (Lib.decDigits n) /\ s.size <= 21) /\ Below w.heap.size w w' := by
 induction n using Nat.strongRecOn with
 | ind n ih =>
  intro w hn;by_cases h10 : n < 10
  ·obtain ⟨t, ht, htz, hc⟩ := dig_conv n h10 (48 + n) rfl;have HT : Hid _ := ht;have HE : Hid (Lib.decDigits n = [UInt8.ofNat (48 + n)]) := by show _ = _; rw [Lib.decDigits, dif_pos h10]
   have ha := hc _ _ (heap_alloc_new w (.cells #[.int .u8 (48 + n)] 5));clear ht hc ih;go_enter Tryz.func38, Tryz.ntmps38;go_wp2_with fail;go_ret;exact ⟨⟨t, rfl, by rw [HE.out, HT.out], by omega⟩, ba⟩
  ·obtain ⟨q, hq⟩ : ∃ q : Nat, q = n / 10 := ⟨_, rfl⟩
   obtain ⟨d, hd⟩ : ∃ d : Nat, d = n % 10 := ⟨_, rfl⟩
   have hw : IntKind.i64.wrap ((n : Int) / 10) = q := by rw [wrap_i64 _ (by omega) (by omega)]; omega
   have hm : (n : Int).tmod 10 = d := by rw [Int.tmod_eq_emod_of_nonneg (by omega)]; omega
   obtain ⟨t, ht, htz, hc⟩ := dig_conv d (by omega) (IntKind.u8.wrap (IntKind.i64.wrap (48 + (d : Int)))) (by rw [wrap_i64 _ (by omega) (by omega), wrap_u8 _ (by omega) (by omega)]);have HT : Hid _ := ht;have HE : Hid (Lib.decDigits n = Lib.decDigits q ++ [UInt8.ofNat (48 + d)]) := by show _ = _; rw [Lib.decDigits, dif_neg h10, hq, hd]
   have hI : ∀ W : World, _ := fun W => ih q (by omega) W (by omega)
   have HI : Hid _ := hI;have HC : Hid _ := hc;have hdd : d < 10 := by omega
   have HLN : Hid ((Lib.decDigits n).length <= 21) := V.decDigits_len 20 n (by omega);have hqm : q < 9223372036854775808 := by omega
   have k1 : ∀ W : World, (convert 99 9 (.slice (some ⟨W.heap.size, 0, none⟩) 1 1)).run Tryz.prog (W.alloc (.cells #[.int .u8 (IntKind.u8.wrap (IntKind.i64.wrap (48 + (d : Int))))] 5)) = .ok (.string t) (W.alloc (.cells #[.int .u8 (IntKind.u8.wrap (IntKind.i64.wrap (48 + (d : Int))))] 5)) := fun W => hc _ _ (heap_alloc_new W _)
   have k2 : ∀ W : World, (convert 99 9 (.slice (some ⟨W.heap.size, 0, none⟩) 1 1)).run Tryz.prog (W.alloc (.cells #[.int .u8 (IntKind.u8.wrap (IntKind.i64.wrap (48 + (d : Int))))] 5)).drew = .ok (.string t) (W.alloc (.cells #[.int .u8 (IntKind.u8.wrap (IntKind.i64.wrap (48 + (d : Int))))] 5)).drew := fun W => hc _ _ (heap_alloc_new W _)
   have HK : Hid (∀ w3 : World, Below (w.heap.size + 1) (w.alloc (.cells #[.int .u8 (IntKind.u8.wrap (IntKind.i64.wrap (48 + (d : Int))))] 5)).drew w3 -> (convert 99 9 (.slice (some ⟨w.heap.size, 0, none⟩) 1 1)).run Tryz.prog w3 = .ok (.string t) w3) :=
    fun w3 hb => hc _ _ ((hb.block w.heap.size (by omega)).trans (heap_alloc_new w _))
   clear ht ih hI hq hd hc;go_enter Tryz.func38, Tryz.ntmps38;go_wp2_with fail;go_region_with (first | (go_at_call 38; refine (HI.out _).mono ?_; rintro e w3 ⟨⟨s3, rfl, hs3, hz3⟩, hb3⟩; have HS3 : Hid _ := hs3; clear hs3; try (have k3 := HK.out w3 (by simpa using hb3))))
   all_goals
    go_wp2_with fail;go_ret;refine ⟨⟨_, rfl, by rw [HS3.out, HT.out, HE.out, V.str_append], by rw [show s3 ++ t = V.str (Lib.decDigits n) by rw [HS3.out, HT.out, HE.out, V.str_append], str_size]; exact HLN.out⟩, ?_⟩
    first
     | exact ((below_drewN (Below.refl w.heap.size w) 1).trans hb3).alloc hb3.size _
     | exact (below_drewN ((Below.refl w.heap.size w).alloc (Nat.le_refl _) _) 1).trans (hb3.mono (by simp))
end Go.Proofs.YtcekcfjabhlheaaGreatDoor.Vx
