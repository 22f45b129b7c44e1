/- value.Sum; walog.lowFirst, head, framed. -/
import Derived.Test.YtmlbcdofogffkabDJ
namespace Go.Proofs.Ytmlbcdofogffkab
open Go.RowKit
attribute [local go_sem ↓] Go.wp_at_zero Go.wp_at_succ
theorem ret_int {k : IntKind} {a b : Int} (h : a = b) : Ending.returned (.int k a) = .returned (.int k b) := by rw [h]
namespace N
def sumStep (n : Int) (b : UInt8) : Int := IntKind.u64.wrap (bits BinOp.xor IntKind.u64 n (IntKind.u64.wrap (b.toNat : Int)) * 1099511628211)
def sum (l : List UInt8) : Int := l.foldl sumStep 14695981039346656037
def str (l : List UInt8) : ByteArray := ⟨l.toArray⟩
/-- A byte of a number. -/
def lowB (n : Int) (d : Int) : UInt8 := UInt8.ofNat (n / d % 256).toNat
theorem lowB_int (n d : Int) : ((lowB n d).toNat : Int) = n / d % 256 := by
  have h1 : 0 ≤ n / d % 256 := Int.emod_nonneg _ (by decide)
  have h2 : n / d % 256 < 256 := Int.emod_lt_of_pos _ (by decide)
  have h3 : (lowB n d).toNat = (n / d % 256).toNat := by
    unfold lowB
    rw [UInt8.toNat_ofNat']
    omega
  rw [h3]; omega
end N
set_option maxRecDepth 100000 in
set_option maxHeartbeats 400000 in
theorem sum_any (s : ByteArray) (w : World) (hs : s.size ≤ 2000000) :
    Calls Try.prog 147 #[.string s] w fun e w' => e = .returned (.int .u64 (N.sum (N.bl s))) ∧ w' = w := by
  go_enter Try.func147, Try.ntmps147
  go_wp2_with fail
  go_loop [3, 7, 4] (fun h i _ => ∃ (k : Nat) (n : Int), k ≤ s.size ∧ i = .int .i64 k ∧ h = .int .u64 n ∧ n = ((N.bl s).take k).foldl N.sumStep 14695981039346656037) (fun _ i _ => s.size - (intOf i).toNat)
  case atStart => exact ⟨0, _, Nat.zero_le _, rfl, rfl, rfl⟩
  case round =>
    obtain ⟨k, n, hk, rfl, rfl, hn⟩ := hrel
    have HN : Hid _ := hn
    clear hn
    by_cases hlt : k < s.size
    · have HT : Hid (((N.bl s).take (k + 1)).foldl N.sumStep 14695981039346656037 = N.sumStep (((N.bl s).take k).foldl N.sumStep 14695981039346656037) s[k]) := by
        show _ = _
        rw [List.take_add_one, N.bl_get s k hlt]; simp
      go_wp2_with fail
      go_round
      case rel => exact ⟨k + 1, _, by omega, by go_num, rfl, by rw [HT.out, ← HN.out]; rfl⟩
      case measure => simp [intOf]; omega
    · have hkk : k = s.size := by omega
      have HT : Hid (N.sum (N.bl s) = n) := by show _ = _; rw [HN.out, N.sum, List.take_of_length_le (by rw [N.length_bl]; omega)]
      clear hkk
      go_wp2_with fail
      go_ret
      exact ⟨ret_int HT.out.symm, rfl⟩
theorem strOfNums_bytes (l : List UInt8) : strOfNums (l.map fun b => (b.toNat : Int)) = N.str l := by
  unfold strOfNums N.str
  congr 1
  apply Array.toList_inj.1
  simp only [List.map_map]
  have : ((fun n : Int => UInt8.ofNat n.toNat) ∘ fun b : UInt8 => (b.toNat : Int)) = id := by funext b; simp
  rw [this]; simp
theorem u140 : Try.prog.underlying 166 = some (.slice 5) := by kernel_rfl
theorem u5 : Try.prog.underlying 5 = some (.int .u8) := by kernel_rfl
theorem conv_at (w : World) (g : Nat) (l : List UInt8) (cs : Array Value) (n : Nat) (hn : n = l.length) (h : cs = (l.map (fun b => Value.int .u8 b.toNat)).toArray) (hb : w.heap[g]? = some (.cells cs 5 (0, 0))) :
    (convert 166 9 (.slice (some ⟨g, 0, none⟩) n n)).run Try.prog w = .ok (.string (N.str l)) w := by
  subst hn h
  rw [run_convert_bytes_arg _ 166 5 u140 u5 g 0 l.length l.length (l.map fun b => (b.toNat : Int)) (by simp) ?_ 9 M.u9, strOfNums_bytes]
  intro i hi
  rw [Nat.zero_add, cell_of_row _ g i _ 5 (0, 0) hb]
  simp [List.getD, List.getElem?_eq_getElem hi]
theorem mk2 (w : World) : (Instr.makeSlice 166 (.int .i64 2) (.int .i64 2)).run Try.prog w = .ok (.slice (some ⟨w.heap.size, 0, none⟩) 2 2) (w.alloc (.cells #[.int .u8 0, .int .u8 0] 5)) := by kernel_rfl
theorem mk4 (w : World) : (Instr.makeSlice 166 (.int .i64 4) (.int .i64 4)).run Try.prog w = .ok (.slice (some ⟨w.heap.size, 0, none⟩) 4 4) (w.alloc (.cells #[.int .u8 0, .int .u8 0, .int .u8 0, .int .u8 0] 5)) := by kernel_rfl
set_option maxRecDepth 100000 in
set_option maxHeartbeats 400000 in
theorem low2_any (n : Int) (w : World) (_hn : 0 ≤ n ∧ n ≤ 4294967295) :
    Calls Try.prog 146 #[.int .u32 n, .int .i64 2] w fun e w' => e = .returned (.string (N.str [N.lowB n 1, N.lowB n 256])) ∧ Fr w w' (fun _ => False) := by
  have hmk := mk2 w
  go_enter Try.func146, Try.ntmps146
  go_wp2_with fail
  go_loopw [11, 6] (fun vi _ wx => ∃ x0 x1 : Int, ((vi = .int .i64 0) ∨ (vi = .int .i64 1 ∧ x0 = n % 256) ∨ (vi = .int .i64 2 ∧ x0 = n % 256 ∧ x1 = n / 256 % 256)) ∧ wx.heap[w.heap.size]? = some (.cells #[.int .u8 x0, .int .u8 x1] 5 (0, 0)) ∧ Fr w wx (fun _ => False)) (fun vi _ _ => 2 - (intOf vi).toNat)
  case atStart => exact ⟨0, 0, .inl rfl, heap_alloc_new _ _, (Fr.refl _ _).alloc _⟩
  case round =>
    obtain ⟨wx, hwx⟩ : ∃ z, z = wr := ⟨_, rfl⟩
    subst hwx
    obtain ⟨x0, x1, hj, hb, hf⟩ := hrel
    have HFS : Hid (∀ o u, Fr w (wx.setCell ⟨w.heap.size, o, none⟩ u) (fun _ => False)) := fun o u => hf.set ⟨w.heap.size, o, none⟩ u (fun h => absurd h (Nat.lt_irrefl _))
    have c0 := cell_of_block hb 0 _ rfl
    have f0 := free_of_block hb 0
    have c1 := cell_of_block hb 1 _ rfl
    have f1 := free_of_block hb 1
    have HB := hide hb
    have HF := hide hf
    clear hb hf
    rcases hj with rfl | ⟨rfl, rfl⟩ | ⟨rfl, rfl, rfl⟩
    · go_wp2_with fail
      refine ⟨⟨(n % 256), x1, .inr (.inl ⟨rfl, rfl⟩), block_set (i := 0) HB.out _, HFS.out _ _⟩, by simp [intOf]⟩
    · go_wp2_with fail
      refine ⟨⟨(n % 256), (n / 256 % 256), .inr (.inr ⟨rfl, rfl, rfl⟩), block_set (i := 1) HB.out _, HFS.out _ _⟩, by simp [intOf]⟩
    · have hcv := conv_at wx w.heap.size [N.lowB n 1, N.lowB n 256] _ 2 rfl (by simp [N.lowB_int]) HB.out
      go_wp2_with fail
      go_ret
      exact ⟨rfl, HF.out⟩
set_option maxRecDepth 100000 in
set_option maxHeartbeats 400000 in
theorem low4_any (n : Int) (w : World) (hn : 0 ≤ n ∧ n ≤ 4294967295) :
    Calls Try.prog 146 #[.int .u32 n, .int .i64 4] w fun e w' => e = .returned (.string (N.str [N.lowB n 1, N.lowB n 256, N.lowB n 65536, N.lowB n 16777216])) ∧ Fr w w' (fun _ => False) := by
  have hmk := mk4 w
  have h3 : n / 16777216 % 256 = n / 16777216 := by omega
  go_enter Try.func146, Try.ntmps146
  go_wp2_with fail
  go_loopw [11, 6] (fun vi _ wx => ∃ x0 x1 x2 x3 : Int, ((vi = .int .i64 0) ∨ (vi = .int .i64 1 ∧ x0 = n % 256) ∨ (vi = .int .i64 2 ∧ x0 = n % 256 ∧ x1 = n / 256 % 256) ∨ (vi = .int .i64 3 ∧ x0 = n % 256 ∧ x1 = n / 256 % 256 ∧ x2 = n / 65536 % 256) ∨ (vi = .int .i64 4 ∧ x0 = n % 256 ∧ x1 = n / 256 % 256 ∧ x2 = n / 65536 % 256 ∧ x3 = n / 16777216)) ∧ wx.heap[w.heap.size]? = some (.cells #[.int .u8 x0, .int .u8 x1, .int .u8 x2, .int .u8 x3] 5 (0, 0)) ∧ Fr w wx (fun _ => False)) (fun vi _ _ => 4 - (intOf vi).toNat)
  case atStart => exact ⟨0, 0, 0, 0, .inl rfl, heap_alloc_new _ _, (Fr.refl _ _).alloc _⟩
  case round =>
    obtain ⟨wx, hwx⟩ : ∃ z, z = wr := ⟨_, rfl⟩
    subst hwx
    obtain ⟨x0, x1, x2, x3, hj, hb, hf⟩ := hrel
    have HFS : Hid (∀ o u, Fr w (wx.setCell ⟨w.heap.size, o, none⟩ u) (fun _ => False)) := fun o u => hf.set ⟨w.heap.size, o, none⟩ u (fun h => absurd h (Nat.lt_irrefl _))
    have c0 := cell_of_block hb 0 _ rfl
    have f0 := free_of_block hb 0
    have c1 := cell_of_block hb 1 _ rfl
    have f1 := free_of_block hb 1
    have c2 := cell_of_block hb 2 _ rfl
    have f2 := free_of_block hb 2
    have c3 := cell_of_block hb 3 _ rfl
    have f3 := free_of_block hb 3
    have HB := hide hb
    have HF := hide hf
    clear hb hf
    rcases hj with rfl | ⟨rfl, rfl⟩ | ⟨rfl, rfl, rfl⟩ | ⟨rfl, rfl, rfl, rfl⟩ | ⟨rfl, rfl, rfl, rfl, rfl⟩
    · go_wp2_with fail
      refine ⟨⟨(n % 256), x1, x2, x3, .inr (.inl ⟨rfl, rfl⟩), block_set (i := 0) HB.out _, HFS.out _ _⟩, by simp [intOf]⟩
    · go_wp2_with fail
      refine ⟨⟨(n % 256), (n / 256 % 256), x2, x3, .inr (.inr (.inl ⟨rfl, rfl, rfl⟩)), block_set (i := 1) HB.out _, HFS.out _ _⟩, by simp [intOf]⟩
    · go_wp2_with fail
      refine ⟨⟨(n % 256), (n / 256 % 256), (n / 65536 % 256), x3, .inr (.inr (.inr (.inl ⟨rfl, rfl, rfl, rfl⟩))), block_set (i := 2) HB.out _, HFS.out _ _⟩, by simp [intOf]⟩
    · go_wp2_with fail
      refine ⟨⟨(n % 256), (n / 256 % 256), (n / 65536 % 256), (n / 16777216), .inr (.inr (.inr (.inr ⟨rfl, rfl, rfl, rfl, rfl⟩))), block_set (i := 3) HB.out _, HFS.out _ _⟩, by simp [intOf]⟩
    · have hcv := conv_at wx w.heap.size [N.lowB n 1, N.lowB n 256, N.lowB n 65536, N.lowB n 16777216] _ 4 rfl (by simp [N.lowB_int, h3]) HB.out
      go_wp2_with fail
      go_ret
      exact ⟨rfl, HF.out⟩
namespace N
/-- A frame's head. -/
def head (s : ByteArray) : ByteArray := str [lowB s.size 1, lowB s.size 256] ++ str [lowB (sum (bl s) % 4294967296) 1, lowB (sum (bl s) % 4294967296) 256, lowB (sum (bl s) % 4294967296) 65536, lowB (sum (bl s) % 4294967296) 16777216]
theorem head_size (s : ByteArray) : (head s).size = 6 := by unfold head; rw [ByteArray.size_append]; rfl
end N
set_option maxRecDepth 100000 in
set_option maxHeartbeats 400000 in
theorem head_any (s : ByteArray) (w : World) (hs : s.size ≤ 1000000) :
    Calls Try.prog 127 #[.string s] w fun e w' => e = .returned (.string (N.head s)) ∧ Fr w w' (fun _ => False) := by
  have hsm := fun w => sum_any s w (by omega)
  have hw : IntKind.u32.wrap (s.size : Int) = s.size := IntWalk.u32_in _ (by omega)
  have hq : 0 ≤ N.sum (N.bl s) % 4294967296 ∧ N.sum (N.bl s) % 4294967296 ≤ 4294967295 := by omega
  have h2 := fun w => low2_any (s.size : Int) w (by omega)
  have h4 := fun w => low4_any (N.sum (N.bl s) % 4294967296) w hq
  have HSM := hide hsm
  have H2 := hide h2
  have H4 := hide h4
  have HQ := hide hq
  clear hsm h2 h4 hq
  unfold N.head
  obtain ⟨A, hA⟩ : ∃ A, A = N.str [N.lowB s.size 1, N.lowB s.size 256] := ⟨_, rfl⟩
  rw [← hA] at H2 ⊢
  obtain ⟨q, hq⟩ : ∃ q, q = N.sum (N.bl s) := ⟨_, rfl⟩
  rw [← hq] at HSM H4 HQ ⊢
  obtain ⟨Z, hZ⟩ : ∃ Z, Z = N.str [N.lowB (q % 4294967296) 1, N.lowB (q % 4294967296) 256, N.lowB (q % 4294967296) 65536, N.lowB (q % 4294967296) 16777216] := ⟨_, rfl⟩
  rw [← hZ] at H4 ⊢
  have hAs : A.size = 2 := by rw [hA]; rfl
  have hZs : Z.size = 4 := by rw [hZ]; rfl
  clear hA hZ hq
  go_enter Try.func127, Try.ntmps127
  go_wp2_with fail
  refine (H2.out w).mono ?_
  rintro o w1 ⟨rfl, hf1⟩
  have HF1 := hide hf1
  clear hf1
  go_wp2_with fail
  refine (HSM.out w1).mono ?_
  rintro o w1' ⟨rfl, hw1⟩
  rw [hw1]
  clear hw1 w1'
  go_wp2_with fail
  refine (H4.out w1).mono ?_
  rintro o w2 ⟨rfl, hf2⟩
  have HF2 := hide hf2
  clear hf2
  go_wp2_with fail
  go_ret
  exact ⟨rfl, HF1.out.trans HF2.out (fun _ _ h => h)⟩
set_option maxRecDepth 100000 in
set_option maxHeartbeats 400000 in
theorem framed_any (s : ByteArray) (w : World) (hs : s.size ≤ 1000000) :
    Calls Try.prog 98 #[.string s] w fun e w' => e = .returned (.string (N.head s ++ s)) ∧ Fr w w' (fun _ => False) := by
  have hh := head_any s w hs
  have hz : (N.head s).size = 6 := N.head_size s
  have HH := hide hh
  clear hh
  generalize N.head s = A at *
  go_enter Try.func98, Try.ntmps98
  go_wp2_with fail
  refine HH.out.mono ?_
  rintro o w1 ⟨rfl, hf1⟩
  have HF1 := hide hf1
  clear hf1
  go_wp2_with fail
  go_ret
  exact ⟨rfl, HF1.out⟩
end Go.Proofs.Ytmlbcdofogffkab
