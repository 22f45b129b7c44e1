/- For WalogSays: the reference's Framed. -/
import Derived.Test.YtmlbcdofogffkabEA
import Derived.Test.YtmlbcdofogffkabDY
namespace Go.Proofs.Ytmlbcdofogffkab
open Go.RowKit
attribute [local go_sem ↓] Go.wp_at_zero Go.wp_at_succ
theorem info5 : (Try.prog.info? 5).map (fun i => (i.zero, i.size, i.bytes)) = some (some (.int .u8 0), 1, 1) := by kernel_rfl
namespace N
def bytesV (l : List UInt8) : List Value := l.map (fun b => Value.int .u8 b.toNat)
def lows (m : Int) (k : Nat) : List UInt8 := (List.range k).map (fun j => lowB m (256 ^ j))
theorem lows_next (m : Int) (k : Nat) : lows m (k + 1) = lows m k ++ [lowB m (256 ^ k)] := by unfold lows; rw [List.range_succ, List.map_append]; rfl
theorem sum_range (l : List UInt8) : 0 ≤ sum l ∧ sum l ≤ 18446744073709551615 := by
  have key : ∀ (l : List UInt8) (n : Int), 0 ≤ n ∧ n ≤ 18446744073709551615 → 0 ≤ l.foldl sumStep n ∧ l.foldl sumStep n ≤ 18446744073709551615 := by
    intro l
    induction l with
    | nil => intro n h; exact h
    | cons a t ih =>
      intro n _
      refine ih _ ?_
      unfold sumStep
      generalize bits BinOp.xor IntKind.u64 n (IntKind.u64.wrap (a.toNat : Int)) * 1099511628211 = z
      simp [IntKind.wrap, IntKind.bits, IntKind.signed]
      omega
  exact key l _ (by decide)
end N
theorem own_two (b0 : Nat) (w : World) (a b : UInt8) (x y : Int) (hx : x = a.toNat) (hy : y = b.toNat) (hb : b0 ≤ w.heap.size) : (w.alloc (.cells #[.int .u8 x, .int .u8 y] 5)).ownsRow b0 5 1 (.slice (some ⟨w.heap.size, 0, none⟩) 2 2) 2 (N.bytesV [a, b]) := by
  subst hx hy
  exact ⟨rfl, .inr ⟨w.heap.size, 2, #[.int .u8 a.toNat, .int .u8 b.toNat], rfl, hb, heap_alloc_new _ _, Nat.le_refl _, by unfold maxLen; omega, rfl, rfl⟩⟩
theorem N.low_mod (S : Int) : N.lows S 4 = [N.lowB (S % 4294967296) 1, N.lowB (S % 4294967296) 256, N.lowB (S % 4294967296) 65536, N.lowB (S % 4294967296) 16777216] := by
  have e : N.lows S 4 = [N.lowB S 1, N.lowB S 256, N.lowB S 65536, N.lowB S 16777216] := rfl
  rw [e]
  unfold N.lowB
  have e1 : S / 1 % 256 = S % 4294967296 / 1 % 256 := by omega
  have e2 : S / 256 % 256 = S % 4294967296 / 256 % 256 := by omega
  have e3 : S / 65536 % 256 = S % 4294967296 / 65536 % 256 := by omega
  have e4 : S / 16777216 % 256 = S % 4294967296 / 16777216 % 256 := by omega
  rw [e1, e2, e3, e4]
theorem conv_own {w : World} {base g n cap : Nat} {l : List UInt8} (hn : n = l.length) (h : w.ownsRow base 5 1 (.slice (some ⟨g, 0, none⟩) n cap) n (N.bytesV l)) :
    (convert 166 9 (.slice (some ⟨g, 0, none⟩) n cap)).run Try.prog w = .ok (.string (N.str l)) w := by
  subst hn
  rw [run_convert_bytes_arg _ 166 5 u140 u5 g 0 l.length cap (l.map fun b => (b.toNat : Int)) (by simp) ?_ 9 M.u9, strOfNums_bytes]
  intro i hi
  have h1 := h.cells (g := g) rfl i (.int .u8 (l[i]'hi).toNat) (by unfold N.bytesV; simp [List.getElem?_eq_getElem hi])
  have e : (⟨g, 0, none⟩ : Addr).add i = ⟨g, 0 + i, none⟩ := by unfold Addr.add; split <;> simp_all
  rw [e] at h1
  rw [h1]
  simp [List.getD, List.getElem?_eq_getElem hi]
theorem N.str_append (a b : List UInt8) : N.str a ++ N.str b = N.str (a ++ b) := by
  apply N.bext
  rw [N.bl_append]
  rfl
set_option maxRecDepth 100000 in
set_option maxHeartbeats 1000000 in
theorem refFramed_any (s : ByteArray) (w : World) (hs : s.size ≤ 100000) :
    Calls Try.prog 48 #[.string s] w fun e w' => e = .returned (.string (N.head s ++ s)) ∧ Fr w w' (fun _ => False) := by
  have HS := hide (refSum_any s w (by omega))
  obtain ⟨S, hS⟩ : ∃ S, S = N.sum (N.bl s) := ⟨_, rfl⟩
  have hr := N.sum_range (N.bl s)
  rw [← hS] at HS hr
  have HH := hide hS
  clear hS
  go_enter Try.func48, Try.ntmps48
  go_wp2_with fail
  refine HS.out.mono ?_
  rintro o w1 ⟨rfl, hw⟩
  rw [hw]
  clear hw
  go_wp2_with fail
  go_loopw [4, 5, 6] (fun vx vb vi wx => ∃ (k gb cap : Nat) (n : Int), k ≤ 4 ∧ vi = .int .i64 k ∧ vx = .int .u64 n ∧ n = S / 256 ^ k ∧ vb = .slice (some ⟨gb, 0, none⟩) (2 + k) cap ∧ wx.ownsRow w.heap.size 5 1 vb (2 + k) (N.bytesV ([N.lowB s.size 1, N.lowB s.size 256] ++ N.lows S k)) ∧ Fr w wx (fun _ => False)) (fun _ _ vi _ => 4 - (intOf vi).toNat)
  case atStart =>
    refine ⟨0, w.heap.size, 2, S, by omega, rfl, rfl, by simp, rfl, ?_, (Fr.refl _ _).alloc _⟩
    exact own_two _ _ _ _ _ _ (by rw [N.lowB_int]; omega) (by rw [N.lowB_int]) (Nat.le_refl _)
  case round =>
    obtain ⟨k, gb, cap, n, hk, rfl, rfl, hn, rfl, how, hf⟩ := hrel
    have hnr : 0 ≤ n ∧ n ≤ 18446744073709551615 := by
      rw [hn]
      refine ⟨Int.ediv_nonneg hr.1 (Int.pow_nonneg (by decide)), ?_⟩
      exact Int.le_trans (Int.ediv_le_self _ hr.1) hr.2
    have hgb := own_ge how
    by_cases hlt : k < 4
    · have HN := hide hn
      have HOW := hide how
      have HF := hide hf
      have hsz := hf.size
      have HB : Hid (n % 256 = ((N.lowB S (256 ^ k)).toNat : Int)) := by show _ = _; rw [N.lowB_int, hn]
      clear hn how hf
      obtain ⟨i0, hi0, hz0, hz1, hz2⟩ := info_parts info5
      go_wp2_with (at_builtin; go_must (refine wpList_append_lies _ rfl (.tmp 22) (.tmp 26) 166 rfl w.heap.size 5 i0 (.int .u8 0) 1 1 u140 hi0 hz0 hz1 hz2 rfl (by decide) (.slice (some ⟨gb, 0, none⟩) (2 + k) cap) (2 + k) (N.bytesV ([N.lowB s.size 1, N.lowB s.size 256] ++ N.lows S k)) rfl (HOW.out.alloc _) ⟨wr.heap.size, 0, none⟩ 1 1 [.int .u8 (n % 256)] rfl rfl (news_alloc _ #[.int .u8 (n % 256)] _ _ rfl) (by simp [Value.oneCell']) (by decide) (by unfold maxLen; omega) (by omega) (by simp; omega) _ rfl ?_); intro gA capA wA hownA hgrow hat hltA)
      have HFA := hide (HF.out.alloc (.cells #[.int .u8 (n % 256)] 5) |>.grown hgrow (fun c e hc => by simp [Value.ownBlock] at e; omega))
      have HOA : Hid (wA.ownsRow w.heap.size 5 1 (.slice (some ⟨gA, 0, none⟩) (2 + (k + 1)) capA) (2 + (k + 1)) (N.bytesV ([N.lowB s.size 1, N.lowB s.size 256] ++ N.lows S (k + 1)))) := by
        have e : N.bytesV ([N.lowB s.size 1, N.lowB s.size 256] ++ N.lows S (k + 1)) = N.bytesV ([N.lowB s.size 1, N.lowB s.size 256] ++ N.lows S k) ++ [.int .u8 (n % 256)] := by
          rw [N.lows_next, HB.out]; unfold N.bytesV; rw [← List.append_assoc, List.map_append]; rfl
        rw [e]; exact hownA
      clear hownA hgrow hat
      go_wp2_with fail
      go_roundw
      case rel => exact ⟨k + 1, gA, capA, n / 256, by omega, by go_num, rfl, by rw [HN.out, Int.pow_succ, Int.ediv_ediv_of_nonneg (Int.pow_nonneg (by decide))], rfl, HOA.out, HFA.out⟩
      case measure => simp [intOf]; omega
    · have HF := hide hf
      have hcv : (convert 166 9 (.slice (some ⟨gb, 0, none⟩) (2 + k) cap)).run Try.prog wr = .ok (.string (N.head s)) wr := by
        obtain rfl : k = 4 := by omega
        rw [conv_own (by rfl) how, N.low_mod, ← N.str_append, HH.out]; rfl
      have hhs := N.head_size s
      clear hn how hf
      go_wp2_with fail
      go_ret
      exact ⟨rfl, HF.out⟩
end Go.Proofs.Ytmlbcdofogffkab
