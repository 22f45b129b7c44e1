/- value.namesRise: names, each above the one ahead. -/
import Derived.Test.YtlmkpjdaoinmoaaVD
namespace Go.Proofs.Ytlmkpjdaoinmoaa
open Go.RowKit
theorem less_flip : ∀ (x y : List UInt8), (Op.bytesLess x y || x == y) = !Op.bytesLess y x
  | [], [] => rfl
  | [], _ :: _ => rfl
  | _ :: _, [] => rfl
  | a :: x, b :: y => by
    have ih := less_flip x y
    have h1 : (a :: x == b :: y) = (a == b && x == y) := rfl
    rw [h1, Op.bytesLess, Op.bytesLess]
    by_cases hab : a = b
    · subst hab
      have : ¬ a < a := UInt8.lt_irrefl a
      simp only [decide_eq_false this, Bool.false_or, beq_self_eq_true, Bool.true_and]; exact ih
    · have e1 : (a == b) = false := beq_eq_false_iff_ne.2 hab
      have e2 : (b == a) = false := beq_eq_false_iff_ne.2 (fun h => hab h.symm)
      rw [e1, e2]
      simp only [Bool.false_and, Bool.or_false]
      have : a.toNat ≠ b.toNat := fun h => hab (UInt8.toNat_inj.1 h)
      rw [Bool.eq_iff_iff]
      simp only [decide_eq_true_eq, Bool.not_eq_true', decide_eq_false_iff_not, UInt8.lt_iff_toNat_lt]
      omega
theorem below_drewN {B : Nat} {a w : World} (h : Below B a w) (n : Nat) : Below B a (w.drewN n) := ⟨h.os, h.tape, h.output, h.size, h.block⟩
theorem drewN_some (w : World) (a b : Nat) : ∃ n, (w.drewN a).drewN b = w.drewN n := ⟨_, World.drewN_drewN _ _ _⟩
namespace V
/-- Is the name at place k one, and above the one ahead? -/
def okAt (l : List (ByteArray × Val)) (k : Nat) : Bool :=
  match l[k]? with
  | none => true
  | some x => name (bl x.1) && (k == 0 || match l[k - 1]? with | none => true | some y => Op.bytesLess (bl y.1) (bl x.1))
def rise (l : List (ByteArray × Val)) : Bool := (List.range l.length).all (okAt l)
theorem rise_true (l : List (ByteArray × Val)) (h : ∀ k, k < l.length → okAt l k = true) : rise l = true := by
  rw [rise, List.all_eq_true]; intro k hk; exact h k (List.mem_range.1 hk)
theorem rise_false (l : List (ByteArray × Val)) (k : Nat) (hk : k < l.length) (h : okAt l k = false) : rise l = false := by
  rw [rise, List.all_eq_false]; exact ⟨k, List.mem_range.2 hk, by simp [h]⟩
theorem okAt_zero (l : List (ByteArray × Val)) (x : ByteArray × Val) (hx : l[0]? = some x) : okAt l 0 = name (bl x.1) := by
  rw [okAt, hx]; simp
theorem okAt_succ (l : List (ByteArray × Val)) (k : Nat) (x y : ByteArray × Val) (hx : l[k + 1]? = some x) (hy : l[k]? = some y) : okAt l (k + 1) = (name (bl x.1) && Op.bytesLess (bl y.1) (bl x.1)) := by
  rw [okAt, hx]; simp [hy]
end V
set_option maxRecDepth 100000 in
set_option maxHeartbeats 1600000 in
theorem namesRise_any (m : Nat) (w : World) (fv : Value) (l : List (ByteArray × Val)) (hf : V.Row w fv l.length 6 (fun i c => ∃ x c', l[i]? = some x ∧ c = .string x.1 :: c' ∧ V.Mem m w x.2 c'))
    (hn : ∀ x ∈ l, x.1.size ≤ 2000000) (hlen : l.length ≤ 2000000) :
    Calls Try.prog 87 #[fv] w fun e w' => e = .returned (.bool (V.rise l)) ∧ ∃ n, w' = w.drewN n := by
  obtain ⟨af, cf, rfl⟩ := hf.shape
  have HF : Hid _ := hf
  have HN : Hid _ := hn
  clear hf hn
  go_enter Try.func87, Try.ntmps87
  go_wp2_with fail
  go_loopw [6, 3] (fun i _ wr => ∃ k : Nat, k ≤ l.length ∧ i = .int .i64 k ∧ (∀ j, j < k → V.okAt l j = true) ∧ ∃ n, wr = w.drewN n) (fun i _ _ => l.length - (intOf i).toNat)
  case atStart => exact ⟨0, Nat.zero_le _, rfl, fun j hj => absurd hj (by omega), 0, rfl⟩
  case round =>
    obtain ⟨k, hk, rfl, hok, n0, hW⟩ := hrel
    have HW : Hid _ := hW
    have hcw : ∀ p, wr.cell? p = w.cell? p := fun p => by rw [hW]; rfl
    have HCW : Hid _ := hcw
    clear hW hcw
    have HOK : Hid _ := hok
    clear hok
    by_cases hlt : k < l.length
    · obtain ⟨b, off, cap, x, d0, d1, d2, d3, d4, e1, hx, hm, yn, y0, y1, y2, y3, y4⟩ := V.elemF HF.out k hlt
      simp only [Value.slice.injEq] at e1
      obtain ⟨rfl, _, rfl⟩ := e1
      have hxs := HN.out x (List.mem_of_getElem? hx)
      clear hm y0 y1 y2 y3 y4
      rw [← HCW.out] at yn
      have hn1 : x.1.size ≤ maxLen := by unfold maxLen; omega
      have HNC : Hid _ := fun w => name_any x.1 w hn1
      cases hnm : V.name (V.bl x.1) <;> rw [hnm] at HNC
      · have E : Hid (V.rise l = false) := V.rise_false l k hlt (by rw [V.okAt, hx]; simp [hnm])
        clear hx
        go_wp2_with fail
        go_quiet ((go_at_call 33; exact Calls.quiet_of_same (HNC.out _)))
        go_wp2_with fail
        go_ret
        exact ⟨ret_bool E.out.symm, by rw [HW.out]; exact drewN_some _ _ _⟩
      · by_cases hk0 : k = 0
        · have gk : decide (0 < (k : Int)) = false := by simp; omega
          have hok : V.okAt l k = true := by subst hk0; rw [V.okAt_zero l x hx]; exact hnm
          have HOK2 : Hid _ := hok
          clear hx hok gk
          subst hk0
          simp only [Nat.zero_mul, Nat.add_zero] at yn
          go_wp2_with fail
          go_quiet ((go_at_call 33; exact Calls.quiet_of_same (HNC.out _)))
          go_wp2_with fail
          go_roundw
          case rel => exact ⟨1, by omega, by go_num, fun j hj => by rw [show j = 0 by omega]; exact HOK2.out, by rw [HW.out]; exact drewN_some _ _ _⟩
          case measure => simp [intOf]; omega
        · obtain ⟨k', rfl⟩ : ∃ k', k = k' + 1 := ⟨k - 1, by omega⟩
          obtain ⟨b', off', cap', y, _, _, _, _, _, e1, hy, _, zn, _⟩ := V.elemF HF.out k' (by omega)
          simp only [Value.slice.injEq, Option.some.injEq, Addr.mk.injEq] at e1
          obtain ⟨⟨rfl, rfl, _⟩, _, rfl⟩ := e1
          rw [← HCW.out] at zn
          have hoe := V.okAt_succ l k' x y hx hy
          have gk : decide (0 < ((k' + 1 : Nat) : Int)) = true := decide_eq_true (by omega)
          rw [hnm, Bool.true_and] at hoe
          have hfl := less_flip (V.bl x.1) (V.bl y.1)
          clear hk0 hx hy
          cases hls : Op.bytesLess (V.bl y.1) (V.bl x.1)
          · have E : Hid (V.rise l = false) := V.rise_false l (k' + 1) hlt (by rw [hoe, hls])
            rw [hls, ← V.toList_bl, ← V.toList_bl] at hfl
            clear hls hoe
            go_wp2_with fail
            go_quiet ((go_at_call 33; exact Calls.quiet_of_same (HNC.out _)))
            go_wp2_with fail
            go_ret
            exact ⟨ret_bool E.out.symm, by rw [HW.out]; exact drewN_some _ _ _⟩
          · rw [hls] at hoe
            have HOK2 : Hid _ := hoe
            rw [hls, ← V.toList_bl, ← V.toList_bl] at hfl
            clear hls hoe
            go_wp2_with fail
            go_quiet ((go_at_call 33; exact Calls.quiet_of_same (HNC.out _)))
            go_wp2_with fail
            go_roundw
            case rel => exact ⟨k' + 1 + 1, by omega, by go_num, fun j hj => by rcases Nat.lt_or_ge j (k' + 1) with h | h; exact HOK.out j h; rw [show j = k' + 1 by omega]; exact HOK2.out, by rw [HW.out]; exact drewN_some _ _ _⟩
            case measure => simp [intOf]; omega
    · have E : Hid (V.rise l = true) := V.rise_true l (fun j hj => HOK.out j (by omega))
      go_wp2_with fail
      go_ret
      exact ⟨ret_bool E.out.symm, _, HW.out⟩
end Go.Proofs.Ytlmkpjdaoinmoaa
