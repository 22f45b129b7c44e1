/- StateSays: UD. -/
import Derived.Test.YtcekcfjabhlheaaGreatDoorUC
import Derived.Test.YtcekcfjabhlheaaGreatDoorVV
set_option maxRecDepth 100000
set_option maxHeartbeats 1600000
namespace Go.Proofs.YtcekcfjabhlheaaGreatDoor.Vx
open Go.RowKit
theorem holds_new (w : World) (T : TypeId) (nd : Nat) (hs : nd <= 24) : Go.Sort.Holds (fun (b : UInt8) => Value.int .u8 (b.toNat : Int)) (w.alloc (.cells Lib.zeros24 T)) w.heap.size 0 (Array.replicate nd (0 : UInt8)) := fun j hj => by
 have hj' : j < nd := by simpa using hj
 refine ⟨?_, World.frozen?_alloc_new _ _ _ _⟩;rw [World.cell?_alloc_new, Lib.zeros24_at _ (by omega), getElem!_pos _ j hj];simp
theorem small_any (i : Nat) (h : i < 100) (w : World) : Calls Tryz.prog 100 #[.int .i64 i] w fun e w' => e = .returned (.string ⟨(Lib.decDigits i).toArray⟩) /\ w' = w := Any.internal_strconv_small { sh_laysM171 with } i h w
theorem numDigits_any (u : Nat) (h1 : 1 <= u) (h2 : u < 18446744073709551616) (w : World) (htab : Lib.TabIs Tryz.prog w "internal/strconv.uint64pow10" .u64 Lib.pow10Tab) :
  Calls Tryz.prog 101 #[.int .u64 u] w fun e w' => e = .returned (.int .i64 (Lib.nDigits u)) /\ w' = w := Any.internal_strconv_numDigits { sh_laysM171 with } u h1 h2 w htab
theorem formatBase_any (blk off cap : Nat) (u : Nat) (d : Array UInt8) (w : World) (hH : Go.Sort.Holds (fun (b : UInt8) => Value.int .u8 (b.toNat : Int)) w blk off d) (hu : u < 10 ^ d.size) (hu64 : u < 18446744073709551616) (hsz : d.size < 4611686018427387904) :
  Calls Tryz.prog 102 #[.slice (some ⟨blk, off, none⟩) d.size cap, .int .u64 u] w fun e w' =>
   e = .returned (.tuple #[]) /\ ∃ (n v' : Nat) (dk : Array UInt8), w' = (Go.Sort.putRow (fun (b : UInt8) => Value.int .u8 (b.toNat : Int)) w blk off dk).drewN n /\ Lib.FmtInv d.size u 0 v' dk := Any.internal_strconv_formatBase10 { sh_laysM171 with } blk off cap u d w hH hu hu64 hsz
theorem fin_new (w : World) (o : Obj) (dk : Array UInt8) (k : Nat) : ∃ os, (Go.Sort.putRow (fun (b : UInt8) => Value.int .u8 (b.toNat : Int)) (w.alloc o) w.heap.size 0 dk).drewN k = Go.Sort.grow (w.drewN k) os := by
 rw [Go.Sort.alloc_eq_grow];obtain ⟨os', _, e⟩ := Go.Sort.putRow_grow_new (fun (b : UInt8) => Value.int .u8 (b.toNat : Int)) w #[o] w.heap.size 0 dk (Nat.le_refl _);exact ⟨os', by rw [e]; rfl⟩
theorem formatUint84 (u : Nat) (hu64 : u < 18446744073709551616) (w : World) (htab : Lib.TabIs Tryz.prog w "internal/strconv.uint64pow10" .u64 Lib.pow10Tab) :
  Calls Tryz.prog 84 #[.int .u64 u, .int .i64 10] w fun e w' => e = .returned (.string (V.str (Lib.decDigits u))) /\ Below w.heap.size w w' := by
 by_cases hs : u < 100
 ·have hw : IntKind.i64.wrap (u : Int) = (u : Int) := by rw [IntKind.wrap_i64]; omega
  have hd : decide ((u : Int) < 100) = true := decide_eq_true (by omega);have HS := hide (fun w => small_any u hs w);clear htab;go_enter Tryz.func84, Tryz.ntmps84;go_wp2_with fail;refine (HS.out _).mono ?_;rintro e w' ⟨rfl, hw⟩;rw [hw];clear hw;go_wp2_with fail;go_ret;exact ⟨rfl, Below.refl _ _⟩
 ·have hu1 : 1 <= u := by omega
  have hd : decide ((u : Int) < 100) = false := decide_eq_false (by omega);have hnd20 : Lib.nDigits u <= 20 := by have := Lib.numDigits_eq u hu1 hu64; split at this <;> omega
  have hal : Tryz.prog.arrayLen 139 = 24 := by kernel_rfl
  have hsl1 : ∀ W, (Instr.sliceAt 139 (.pointer (some ⟨w.heap.size, 0, none⟩)) none (some (.int .i64 (Lib.nDigits u : Int))) none).run Tryz.prog W = .ok (.slice (some ⟨w.heap.size, 0, none⟩) (Lib.nDigits u) 24) W := fun W => by
   rw [run_sliceAt_array_h W 139 ⟨w.heap.size, 0, none⟩ (by kernel_rfl) .i64 (Lib.nDigits u : Int) (by omega) (by rw [hal]; omega)];go_simp
  have hH0 := holds_new w 139 (Lib.nDigits u) (by omega);have hfmt := formatBase_any w.heap.size 0 24 u (Array.replicate (Lib.nDigits u) 0) (w.alloc (.cells Lib.zeros24 139)) hH0 (by rw [Array.size_replicate]; exact Lib.lt_pow_nDigits u) hu64 (by rw [Array.size_replicate]; omega);rw [Array.size_replicate] at hfmt;have HH0 := Lib.hid hH0;have HND := hide (numDigits_any u hu1 hu64 (w.alloc (.cells Lib.zeros24 139)) (Lib.tabIs_alloc htab _));clear hH0 hal htab;go_enter Tryz.func84, Tryz.ntmps84;go_wp2_with fail;refine HND.out.mono ?_;rintro e w' ⟨rfl, hw⟩;rw [hw];clear hw HND;go_wp2_with fail;refine hfmt.mono ?_;rintro e w' ⟨rfl, k, v', dk, rfl, hF⟩;have hcv : (convert 99 9 (.slice (some ⟨w.heap.size, 0, none⟩) (Lib.nDigits u) 24)).run Tryz.prog ((Go.Sort.putRow (fun (b : UInt8) => Value.int .u8 (b.toNat : Int)) (w.alloc (.cells Lib.zeros24 139)) w.heap.size 0 dk).drewN k) = .ok (.string (V.str (Lib.decDigits u))) ((Go.Sort.putRow (fun (b : UInt8) => Value.int .u8 (b.toNat : Int)) (w.alloc (.cells Lib.zeros24 139)) w.heap.size 0 dk).drewN k) := by
   have h := run_convert_bytes_back (P := Tryz.prog) ((Go.Sort.putRow (fun (b : UInt8) => Value.int .u8 (b.toNat : Int)) (w.alloc (.cells Lib.zeros24 139)) w.heap.size 0 dk).drewN k) 99 9 5 ⟨w.heap.size, 0, none⟩ 24 (Lib.decDigits u) (by kernel_rfl) (by kernel_rfl) (by kernel_rfl) (fun j hj => by
    rw [Lib.row_is_numeral hF j hj, Lib.add_plain, World.cell?_drewN];exact Go.Sort.cell?_putRow (fun (b : UInt8) => Value.int .u8 (b.toNat : Int)) _ w.heap.size 0 _ dk HH0.out (by rw [hF.size, Array.size_replicate]) j (by rw [hF.size]; rw [Lib.decDigits_length] at hj; exact hj))
   rw [Lib.decDigits_length] at h;exact h
  obtain ⟨os, eo⟩ := fin_new w (.cells Lib.zeros24 139) dk k;have HB : Hid (Below w.heap.size w ((Go.Sort.putRow (fun (b : UInt8) => Value.int .u8 (b.toNat : Int)) (w.alloc (.cells Lib.zeros24 139)) w.heap.size 0 dk).drewN k)) := by
   show Below _ _ _;rw [eo];exact below_grow w k os
  generalize ((Go.Sort.putRow (fun (b : UInt8) => Value.int .u8 (b.toNat : Int)) (w.alloc (.cells Lib.zeros24 139)) w.heap.size 0 dk).drewN k) = w2 at *;clear hF eo HH0 hfmt;go_wp2_with fail;go_ret;exact ⟨rfl, HB.out⟩
theorem formatUint_any (u : Nat) (hu64 : u < 18446744073709551616) (w : World) (htab : Lib.TabIs Tryz.prog w "internal/strconv.uint64pow10" .u64 Lib.pow10Tab) :
  Calls Tryz.prog 65 #[.int .u64 u, .int .i64 10] w fun e w' => e = .returned (.string (V.str (Lib.decDigits u))) /\ Below w.heap.size w w' := by
 have H := hide (formatUint84 u hu64 w htab);clear htab;go_enter Tryz.func65, Tryz.ntmps65;go_wp2_with fail;refine H.out.mono ?_;rintro e w' ⟨rfl, hb⟩;have HB := hide hb;clear hb;go_wp2_with fail;go_ret;exact ⟨rfl, HB.out⟩
namespace V
def sumStep (n : Int) (b : UInt8) : Int := IntKind.u64.wrap (bits BinOp.xor IntKind.u64 n (IntKind.u64.wrap (b.toNat : Int)) * 1099511628211)
def sum (l : List UInt8) : Int := l.foldl sumStep 14695981039346656037
end V
theorem sum_any (s : ByteArray) (w : World) (hs : s.size <= 1000000000) :
  Calls Tryz.prog 66 #[.string s] w fun e w' => e = .returned (.int .u64 (V.sum (V.bl s))) /\ w' = w := by
 go_enter Tryz.func66, Tryz.ntmps66;go_wp2_with fail;go_loop [3, 7, 4] (fun h i _ => ∃ (k : Nat) (n : Int), k <= s.size /\ i = .int .i64 k /\ h = .int .u64 n /\ n = ((V.bl s).take k).foldl V.sumStep 14695981039346656037) (fun _ i _ => s.size - (intOf i).toNat)
 case atStart => exact ⟨0, _, Nat.zero_le _, rfl, rfl, rfl⟩
 case round =>
  obtain ⟨k, n, hk, rfl, rfl, hn⟩ := hrel;have HN : Hid _ := hn;clear hn;by_cases hlt : k < s.size
  ·have HT : Hid (((V.bl s).take (k + 1)).foldl V.sumStep 14695981039346656037 = V.sumStep (((V.bl s).take k).foldl V.sumStep 14695981039346656037) s[k]) := by
    show _ = _;rw [List.take_add_one, V.bl_get s k hlt]; simp
   go_wp2_with fail;go_round
   case rel => exact ⟨k + 1, _, by omega, by go_num, rfl, by rw [HT.out, <- HN.out]; rfl⟩
   case measure => simp [intOf]; omega
  ·have hkk : k = s.size := by omega
   have HT : Hid (V.sum (V.bl s) = n) := by show _ = _; rw [HN.out, V.sum, List.take_of_length_le (by rw [V.length_bl]; omega)]
   clear hkk;go_wp2_with fail;go_ret;exact ⟨ret_int HT.out.symm, rfl⟩
theorem refSum_any (s : ByteArray) (w : World) (hs : s.size <= 1000000000) :
  Calls Tryz.prog 42 #[.string s] w fun e w' => e = .returned (.int .u64 (V.sum (V.bl s))) /\ w' = w := by
 go_enter Tryz.func42, Tryz.ntmps42;go_wp2_with fail;go_loop [3, 4] (fun h i => ∃ (k : Nat) (n : Int), k <= s.size /\ i = .int .i64 k /\ h = .int .u64 n /\ n = ((V.bl s).take k).foldl V.sumStep 14695981039346656037) (fun _ i => s.size - (intOf i).toNat)
 case atStart => exact ⟨0, _, Nat.zero_le _, rfl, rfl, rfl⟩
 case round =>
  obtain ⟨k, n, hk, rfl, rfl, hn⟩ := hrel;have HN : Hid _ := hn;clear hn;by_cases hlt : k < s.size
  ·have HT : Hid (((V.bl s).take (k + 1)).foldl V.sumStep 14695981039346656037 = V.sumStep (((V.bl s).take k).foldl V.sumStep 14695981039346656037) s[k]) := by
    show _ = _;rw [List.take_add_one, V.bl_get s k hlt]; simp
   go_wp2_with fail;go_round
   case rel => exact ⟨k + 1, _, by omega, by go_num, rfl, by rw [HT.out, <- HN.out]; rfl⟩
   case measure => simp [intOf]; omega
  ·have hkk : k = s.size := by omega
   have HT : Hid (V.sum (V.bl s) = n) := by show _ = _; rw [HN.out, V.sum, List.take_of_length_le (by rw [V.length_bl]; omega)]
   clear hkk;go_wp2_with fail;go_ret;exact ⟨ret_int HT.out.symm, rfl⟩
theorem told_any (m : Nat) (w : World) (v : Val) (c0 c1 c2 c3 c4 : Value) (h : V.Mem m w v [c0, c1, c2, c3, c4]) (hbk : V.bulk m v <= 2000000) (htab : Lib.TabIs Tryz.prog w "internal/strconv.uint64pow10" .u64 Lib.pow10Tab) :
  Calls Tryz.prog 63 #[.agg #[c0, c1, c2, c3, c4]] w fun e w' => e = .returned (.string (V.textOr m v)) /\ Below w.heap.size w w' := by
 obtain ⟨al, ll, cl, af, lf, cf, hcs⟩ := S.Mem.form h;obtain ⟨rfl, rfl, rfl, rfl, rfl⟩ := ij5 hcs;have hb0 : Below w.heap.size w (w.alloc (.cells #[.int .i64 v.kind, .int .i64 v.n, .string v.s, .slice al ll cl, .slice af lf cf] 61)) := ba;have hA := heap_alloc_new w (.cells #[.int .i64 v.kind, .int .i64 v.n, .string v.s, .slice al ll cl, .slice af lf cf] 61);have HT := hide (text_any m _ v _ _ _ _ _ (V.Mem.kept m h hb0) hbk (tab_below htab hb0));have HB0 := hide hb0;have f0 := free_of_block hA;obtain ⟨x0, x1, x2, x3, x4⟩ := cl5 hA;clear h htab hb0 hA;go_enter Tryz.func63, Tryz.ntmps63;go_wp2_with fail;refine HT.out.mono ?_;rintro e w1 ⟨rfl, hb1⟩;have HB1 := bt HB0 hb1;clear hb1;go_wp2_with fail;go_ret;exact ⟨rfl, HB1.out⟩
theorem V.textOr_ok {m : Nat} {v : Val} (h : V.fault m v = 0) : V.textOr m v = V.str (V.text m v) := by rw [V.textOr, if_pos h]
theorem str_size2 (l : List UInt8) : (V.str l).size = l.length := by rw [<- V.length_bl, V.bl_str]
theorem bl_append (a b : ByteArray) : V.bl (a ++ b) = V.bl a ++ V.bl b := by simp [V.bl]
theorem bl_ext {a b : ByteArray} (h : V.bl a = V.bl b) : a = b := by rw [<- V.str_bl a, h, V.str_bl]
theorem fault_text {m : Nat} {v : Val} (h : V.fault m v = 0) (hb : V.bulk m v <= 2000000) : (V.text m v).length <= 80000000 := by
 have := V.text_len m v (V.fault_ok m v h);omega
theorem itoa_len2 (n : Int) (h : S.in64 n) : (Lib.itoa n).length <= 25 := by
 unfold Lib.itoa;have h1 := h.1;have h2 := h.2;have := V.decDigits_len 20 n.natAbs (by omega);have h3 := V.decDigits_len 20 n.toNat (by omega);split <;> simp <;> omega
namespace S
def heldText (m : Nat) (h : Hd) : List UInt8 := V.bl h.kind ++ (32 :: (V.bl h.name ++ (32 :: (Lib.itoa h.id ++ (32 :: V.text m h.v)))))
end S
theorem heldText_any (m : Nat) (w : World) (h : Hd) (a0 a1 a2 a3 a4 : Value) (hm : V.Mem m w h.v [a0, a1, a2, a3, a4]) (hs : S.Small m h) (hid : S.in64 h.id) (hf : V.fault m h.v = 0) (htab : Lib.TabIs Tryz.prog w "internal/strconv.uint64pow10" .u64 Lib.pow10Tab) :
  Calls Tryz.prog 62 #[.agg #[.string h.name, .string h.kind, .int .i64 h.id, a0, a1, a2, a3, a4]] w fun o w' => o = .returned (.string (V.str (S.heldText m h))) /\ Below w.heap.size w w' := by
 obtain ⟨al, ll, cl, af, lf, cf, hcs⟩ := S.Mem.form hm;obtain ⟨rfl, rfl, rfl, rfl, rfl⟩ := ij5 hcs;obtain ⟨s1, s2, s3⟩ := hs;have hb0 : Below w.heap.size w (w.alloc (.cells #[.string h.name, .string h.kind, .int .i64 h.id, .int .i64 h.v.kind, .int .i64 h.v.n, .string h.v.s, .slice al ll cl, .slice af lf cf] 63)) := ba;have hA := heap_alloc_new w (.cells #[.string h.name, .string h.kind, .int .i64 h.id, .int .i64 h.v.kind, .int .i64 h.v.n, .string h.v.s, .slice al ll cl, .slice af lf cf] 63);have hlt := (blt hA)
 have hil := itoa_len2 h.id hid;have htl := fault_text hf s3;have hC1 : ∀ W : World, Below w.heap.size w W -> W.heap[w.heap.size]? = some (.cells #[.string h.name, .string h.kind, .int .i64 h.id, .int .i64 h.v.kind, .int .i64 h.v.n, .string h.v.s, .slice al ll cl, .slice af lf cf] 63 (0, 0)) -> Calls Tryz.prog 61 #[.int .i64 h.id] W fun e w3 =>
   (∃ t, e = .returned (.string t) /\ Hid (t = V.str (Lib.itoa h.id)) /\ t.size <= 25) /\ (w3.cell? ⟨w.heap.size, 0, none⟩ = some (.string h.name) /\ w3.cell? ⟨w.heap.size, 1, none⟩ = some (.string h.kind) /\ w3.cell? ⟨w.heap.size, 2, none⟩ = some (.int .i64 h.id) /\ w3.cell? ⟨w.heap.size, 3, none⟩ = some (.int .i64 h.v.kind) /\ w3.cell? ⟨w.heap.size, 4, none⟩ = some (.int .i64 h.v.n) /\ w3.cell? ⟨w.heap.size, 5, none⟩ = some (.string h.v.s) /\ w3.cell? ⟨w.heap.size, 6, none⟩ = some (.slice al ll cl) /\ w3.cell? ⟨w.heap.size, 7, none⟩ = some (.slice af lf cf)) /\ Hid (w3.heap[w.heap.size]? = some (.cells #[.string h.name, .string h.kind, .int .i64 h.id, .int .i64 h.v.kind, .int .i64 h.v.n, .string h.v.s, .slice al ll cl, .slice af lf cf] 63 (0, 0))) /\ Hid (Below w.heap.size w w3) := fun W hB hblk => by
  refine (sh_strconv_Itoa h.id hid.1 hid.2 W (tab_below htab hB)).mono ?_;rintro e w3 ⟨rfl, k, os, rfl⟩;have hb := below_grow W k os;have hblk3 := (hb.block w.heap.size (blt hblk)).trans hblk;exact ⟨⟨_, rfl, rfl, by rw [show (⟨(Lib.itoa h.id).toArray⟩ : ByteArray) = V.str (Lib.itoa h.id) from rfl, str_size2]; exact hil⟩, ⟨cell_of_block hblk3 0 _ rfl, cell_of_block hblk3 1 _ rfl, cell_of_block hblk3 2 _ rfl, cell_of_block hblk3 3 _ rfl, cell_of_block hblk3 4 _ rfl, cell_of_block hblk3 5 _ rfl, cell_of_block hblk3 6 _ rfl, cell_of_block hblk3 7 _ rfl⟩, hblk3, hB.trans (hb.mono hB.size)⟩
 have hC2 : ∀ W : World, Below w.heap.size w W -> W.heap[w.heap.size]? = some (.cells #[.string h.name, .string h.kind, .int .i64 h.id, .int .i64 h.v.kind, .int .i64 h.v.n, .string h.v.s, .slice al ll cl, .slice af lf cf] 63 (0, 0)) -> Calls Tryz.prog 63 #[.agg #[.int .i64 h.v.kind, .int .i64 h.v.n, .string h.v.s, .slice al ll cl, .slice af lf cf]] W fun e w3 =>
   (∃ t, e = .returned (.string t) /\ Hid (t = V.str (V.text m h.v)) /\ t.size <= 80000000) /\ (w3.cell? ⟨w.heap.size, 0, none⟩ = some (.string h.name) /\ w3.cell? ⟨w.heap.size, 1, none⟩ = some (.string h.kind) /\ w3.cell? ⟨w.heap.size, 2, none⟩ = some (.int .i64 h.id) /\ w3.cell? ⟨w.heap.size, 3, none⟩ = some (.int .i64 h.v.kind) /\ w3.cell? ⟨w.heap.size, 4, none⟩ = some (.int .i64 h.v.n) /\ w3.cell? ⟨w.heap.size, 5, none⟩ = some (.string h.v.s) /\ w3.cell? ⟨w.heap.size, 6, none⟩ = some (.slice al ll cl) /\ w3.cell? ⟨w.heap.size, 7, none⟩ = some (.slice af lf cf)) /\ Hid (w3.heap[w.heap.size]? = some (.cells #[.string h.name, .string h.kind, .int .i64 h.id, .int .i64 h.v.kind, .int .i64 h.v.n, .string h.v.s, .slice al ll cl, .slice af lf cf] 63 (0, 0))) /\ Hid (Below w.heap.size w w3) := fun W hB hblk => by
  refine (told_any m W h.v _ _ _ _ _ (V.Mem.kept m hm hB) s3 (tab_below htab hB)).mono ?_;rintro e w3 ⟨rfl, hb⟩;have hblk3 := (hb.block w.heap.size (blt hblk)).trans hblk;rw [V.textOr_ok hf];exact ⟨⟨_, rfl, rfl, by rw [str_size2]; exact htl⟩, ⟨cell_of_block hblk3 0 _ rfl, cell_of_block hblk3 1 _ rfl, cell_of_block hblk3 2 _ rfl, cell_of_block hblk3 3 _ rfl, cell_of_block hblk3 4 _ rfl, cell_of_block hblk3 5 _ rfl, cell_of_block hblk3 6 _ rfl, cell_of_block hblk3 7 _ rfl⟩, hblk3, hB.trans (hb.mono hB.size)⟩
 have HC1 := hide (fun k => hC1 ((w.alloc (.cells #[.string h.name, .string h.kind, .int .i64 h.id, .int .i64 h.v.kind, .int .i64 h.v.n, .string h.v.s, .slice al ll cl, .slice af lf cf] 63)).drewN k) (below_drewN hb0 k) hA);have HC2 := hide hC2;obtain ⟨x0, x1, x2, x3, x4, x5, x6, x7⟩ := cl8 hA;have q1 : ¬ 9223372036854775807 < h.kind.size + 1 := by omega
 have hs1 : (h.kind ++ (⟨#[32]⟩ : ByteArray)).size = h.kind.size + 1 := by rw [ByteArray.size_append]; rfl
 have q2 : ¬ 9223372036854775807 < h.kind.size + 1 + h.name.size := by omega
 have hs2 : (h.kind ++ (⟨#[32]⟩ : ByteArray) ++ h.name).size = h.kind.size + 1 + h.name.size := by rw [ByteArray.size_append, hs1]
 have q3 : ¬ 9223372036854775807 < h.kind.size + 1 + h.name.size + 1 := by omega
 have hs3 : (h.kind ++ (⟨#[32]⟩ : ByteArray) ++ h.name ++ (⟨#[32]⟩ : ByteArray)).size = h.kind.size + 1 + h.name.size + 1 := by rw [ByteArray.size_append, hs2]; rfl
 clear hC1 hC2 hA hb0 hm htab hf hid hil htl hlt;go_enter Tryz.func62, Tryz.ntmps62;go_wp2_with fail;generalize (w.alloc _) = wa at *;go_region_held3 (fun W => W.cell? ⟨w.heap.size, 0, none⟩ = some (.string h.name) /\ W.cell? ⟨w.heap.size, 1, none⟩ = some (.string h.kind) /\ W.cell? ⟨w.heap.size, 2, none⟩ = some (.int .i64 h.id) /\ W.cell? ⟨w.heap.size, 3, none⟩ = some (.int .i64 h.v.kind) /\ W.cell? ⟨w.heap.size, 4, none⟩ = some (.int .i64 h.v.n) /\ W.cell? ⟨w.heap.size, 5, none⟩ = some (.string h.v.s) /\ W.cell? ⟨w.heap.size, 6, none⟩ = some (.slice al ll cl) /\ W.cell? ⟨w.heap.size, 7, none⟩ = some (.slice af lf cf)) (go_keep)
  (first
   | (go_at_call 61; refine Calls.mono (HC1.out _) ?_; rintro e w3 ⟨⟨t, rfl, ht, htz⟩, ⟨t0, t1, t2, t3, t4, t5, t6, t7⟩, HK3', HB3⟩; have q4 : ¬ 9223372036854775807 < h.kind.size + 1 + h.name.size + 1 + t.size := (by omega); have hs4 : (h.kind ++ (⟨#[32]⟩ : ByteArray) ++ h.name ++ (⟨#[32]⟩ : ByteArray) ++ t).size = h.kind.size + 1 + h.name.size + 1 + t.size := (by rw [ByteArray.size_append, hs3]); have q5 : ¬ 9223372036854775807 < h.kind.size + 1 + h.name.size + 1 + t.size + 1 := (by omega); have hs5 : (h.kind ++ (⟨#[32]⟩ : ByteArray) ++ h.name ++ (⟨#[32]⟩ : ByteArray) ++ t ++ (⟨#[32]⟩ : ByteArray)).size = h.kind.size + 1 + h.name.size + 1 + t.size + 1 := (by rw [ByteArray.size_append, hs4]; rfl))
   | (go_at_call 63; refine Calls.mono (HC2.out _ HB3.out HK3'.out) ?_; rintro e w4 ⟨⟨u, rfl, hu, huz⟩, ⟨t0, t1, t2, t3, t4, t5, t6, t7⟩, HK4, HB4⟩; have q6 : ¬ 9223372036854775807 < h.kind.size + 1 + h.name.size + 1 + t.size + 1 + u.size := (by omega)))
 all_goals
  have E : Hid (h.kind ++ (⟨#[32]⟩ : ByteArray) ++ h.name ++ (⟨#[32]⟩ : ByteArray) ++ t ++ (⟨#[32]⟩ : ByteArray) ++ u = V.str (S.heldText m h)) := by
   show _ = _;refine bl_ext ?_;simp only [bl_append];rw [ht.out, hu.out, V.bl_str, V.bl_str, V.bl_str, S.heldText];simp [V.bl]
  have HB4' := hide HB4.out;clear t0 t1 t2 t3 t4 t5 t6 t7 q1 q2 q3 q4 q5 q6;go_wp2_with fail;go_ret;exact ⟨ret_val (by rw [<- E.out]; rfl), HB4'.out⟩
namespace S
def sumText (l : List UInt8) : List UInt8 := [115, 117, 109, 32] ++ (Lib.decDigits (V.sum l).toNat ++ [10])
theorem sum_fold : ∀ (l : List UInt8) (n : Int), 0 <= n /\ n < 18446744073709551616 -> 0 <= l.foldl V.sumStep n /\ l.foldl V.sumStep n < 18446744073709551616
 | [], _, h => h
 | b :: l, n, _ => sum_fold l _ (by unfold V.sumStep; rw [IntKind.wrap_u64]; omega)
theorem sum_in (l : List UInt8) : 0 <= V.sum l /\ V.sum l < 18446744073709551616 := sum_fold l _ (by decide)
theorem dig_len (u : Nat) (h : u < 18446744073709551616) : (Lib.decDigits u).length <= 21 := V.decDigits_len 20 u (by omega)
end S
theorem sumLine_any (s : ByteArray) (w : World) (hs : s.size <= 1000000000) (htab : Lib.TabIs Tryz.prog w "internal/strconv.uint64pow10" .u64 Lib.pow10Tab) :
  Calls Tryz.prog 34 #[.string s] w fun e w' => e = .returned (.string (V.str (S.sumText (V.bl s)))) /\ Below w.heap.size w w' := by
 have hin := S.sum_in (V.bl s);obtain ⟨u, hu⟩ : ∃ u : Nat, V.sum (V.bl s) = u := ⟨(V.sum (V.bl s)).toNat, by omega⟩
 have hu64 : u < 18446744073709551616 := by omega
 have HE : Hid (S.sumText (V.bl s) = [115, 117, 109, 32] ++ (Lib.decDigits u ++ [10])) := by
  show _ = _;rw [S.sumText, hu];rfl
 have HS := hide (sum_any s w hs);rw [hu] at HS;have HF := hide (formatUint_any u hu64 w htab);have hdl := S.dig_len u hu64;have hsz : (V.str (Lib.decDigits u)).size <= 21 := by rw [str_size2]; exact hdl
 clear hin hu htab hdl;generalize hD : V.str (Lib.decDigits u) = D at *;have HD := hide hD;clear hD;have q1 : ¬ 9223372036854775807 < 4 + D.size := by omega
 have hs1 : ((⟨#[115, 117, 109, 32]⟩ : ByteArray) ++ D).size = 4 + D.size := by rw [ByteArray.size_append]; rfl
 have q2 : ¬ 9223372036854775807 < 4 + D.size + 1 := by omega
 go_enter Tryz.func34, Tryz.ntmps34;go_wp2_with fail;refine HS.out.mono ?_;rintro e w1 ⟨rfl, hw⟩;rw [hw];clear hw;go_wp2_with fail;refine HF.out.mono ?_;rintro e w2 ⟨rfl, hb⟩;have HB := hide hb;clear hb;go_wp2_with fail;go_ret;refine ⟨ret_val ?_, HB.out⟩;have E : (⟨#[115, 117, 109, 32]⟩ : ByteArray) ++ D ++ (⟨#[10]⟩ : ByteArray) = V.str (S.sumText (V.bl s)) := by
  refine bl_ext ?_;simp only [bl_append];rw [V.bl_str, HE.out, <- HD.out, V.bl_str];simp [V.bl]
 rw [<- E];rfl
end Go.Proofs.YtcekcfjabhlheaaGreatDoor.Vx
