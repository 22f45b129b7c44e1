/- walog.first. -/
import Derived.Test.YtmlbcdofogffkabDK
import Derived.Laws.BitsAllLaws
namespace Go.Proofs.Ytmlbcdofogffkab
open Go.RowKit
attribute [local go_sem ↓] Go.wp_at_zero Go.wp_at_succ
theorem or_mul (a b i m : Nat) (hm : m = 2 ^ i) (h : a < m) : a ||| (b * m) = b * m + a := by
  subst hm
  rw [Nat.or_comm, ← Nat.shiftLeft_eq, Nat.shiftLeft_add_eq_or_of_lt h]
theorem i64_or_nat (a b : Nat) (ha : a < 65536) (hb : b < 65536) : bits .or .i64 (a : Int) (b : Int) = ((a ||| b : Nat) : Int) := by
  have hlt : a ||| b < 2 ^ 16 := Nat.or_lt_two_pow ha hb
  have key : (BitVec.ofInt 64 (a : Int) ||| BitVec.ofInt 64 (b : Int)).toNat = a ||| b := by
    rw [BitVec.toNat_or, BitVec.toNat_ofInt, BitVec.toNat_ofInt]
    congr 1 <;> omega
  show IntKind.i64.wrap ((BitVec.ofInt 64 (a : Int) ||| BitVec.ofInt 64 (b : Int)).toNat : Nat) = _
  rw [key, IntKind.wrap_i64]
  omega
namespace N
/-- How many bytes the first record has. -/
def count (d : ByteArray) : Nat := (d.data.getD 0 0).toNat + 256 * (d.data.getD 1 0).toNat
/-- The first record, if it is whole. -/
def first (d : ByteArray) : Option ByteArray := if d.size < 6 ∨ 400 < count d ∨ d.size < 6 + count d then none else if d.extract 0 6 == head (d.extract 6 (6 + count d)) then some (d.extract 6 (6 + count d)) else none
end N
set_option maxRecDepth 100000 in
set_option maxHeartbeats 400000 in
theorem first_any (d : ByteArray) (w : World) (hs : d.size ≤ 1000000) :
    Calls Try.prog 126 #[.string d] w fun e w' => e = .returned (.tuple #[.string ((N.first d).getD ⟨#[]⟩), .bool (N.first d).isSome]) ∧ Fr w w' (fun _ => False) := by
  by_cases h6 : d.size < 6
  · have HF : Hid (N.first d = none) := by show _ = _; unfold N.first; rw [if_pos (.inl h6)]
    go_enter Try.func126, Try.ntmps126
    go_wp2_with fail
    go_ret2
    rw [HF.out]
    exact ⟨rfl, Fr.refl _ _⟩
  · have i0 : 0 < d.size := by omega
    have i1 : 1 < d.size := by omega
    have hb0 : d[0].toNat < 256 := d[0].toNat_lt
    have hb1 : d[1].toNat < 256 := d[1].toNat_lt
    have hcn : N.count d = d[0].toNat + 256 * d[1].toNat := by
      unfold N.count
      have e0 : d.data.getD 0 0 = d[0] := by
        have h0 : 0 < d.data.size := i0
        rw [Array.getD_eq_getD_getElem?, Array.getElem?_eq_getElem h0]; rfl
      have e1 : d.data.getD 1 0 = d[1] := by
        have h1 : 1 < d.data.size := i1
        rw [Array.getD_eq_getD_getElem?, Array.getElem?_eq_getElem h1]; rfl
      rw [e0, e1]
    have hor : bits BinOp.or IntKind.i64 (d[0].toNat : Int) ((d[1].toNat : Int) * 256) = (N.count d : Int) := by
      have e : ((d[1].toNat : Int) * (256 : Int)) = (((d[1].toNat * 256 : Nat)) : Int) := by omega
      rw [e, i64_or_nat d[0].toNat (d[1].toNat * 256) (by omega) (by omega), or_mul d[0].toNat d[1].toNat 8 256 (by decide) (by omega), hcn]
      omega
    have w0 : wrap64 (d[0].toNat : Int) = d[0].toNat := by unfold wrap64; omega
    have w1 : wrap64 (d[1].toNat : Int) = d[1].toNat := by unfold wrap64; omega
    have w2 : wrap64 ((d[1].toNat : Int) * 256) = d[1].toNat * 256 := by unfold wrap64; omega
    have hc6 : N.count d ≤ 65535 := by omega
    have hfst : N.first d = if 400 < N.count d ∨ d.size < 6 + N.count d then none else if d.extract 0 6 == N.head (d.extract 6 (6 + N.count d)) then some (d.extract 6 (6 + N.count d)) else none := by
      unfold N.first
      by_cases hx : 400 < N.count d ∨ d.size < 6 + N.count d
      · rw [if_pos (.inr hx), if_pos hx]
      · rw [if_neg (fun h => h.elim h6 hx), if_neg hx]
    have HF := hide hfst
    generalize N.count d = c at *
    clear hcn hfst
    by_cases h400 : 400 < c
    · have HN : Hid (N.first d = none) := by show _ = _; rw [HF.out, if_pos (.inl h400)]
      have g4 : (400 : Int) < c := by omega
      go_enter Try.func126, Try.ntmps126
      go_wp2_with fail
      go_region_held3 (fun _ => True) (trivial) (fail)
      all_goals
        go_wp2_with fail
        go_ret2
        rw [HN.out]
        exact ⟨rfl, (Fr.refl _ _).drew⟩
    · by_cases hsz : d.size < 6 + c
      · have HN : Hid (N.first d = none) := by show _ = _; rw [HF.out, if_pos (.inr hsz)]
        have g4 : ¬ (400 : Int) < c := by omega
        have g5 : (d.size : Int) - 6 < c := by omega
        go_enter Try.func126, Try.ntmps126
        go_wp2_with fail
        go_region_held3 (fun _ => True) (trivial) (fail)
        all_goals
          go_wp2_with fail
          go_ret2
          rw [HN.out]
          exact ⟨rfl, (Fr.refl _ _).drew⟩
      · have HN : Hid (N.first d = if d.extract 0 6 == N.head (d.extract 6 (6 + c)) then some (d.extract 6 (6 + c)) else none) := by show _ = _; rw [HF.out, if_neg (fun h => h.elim h400 hsz)]
        have g4 : ¬ (400 : Int) < c := by omega
        have g5 : ¬ (d.size : Int) - 6 < c := by omega
        have hh := fun w => head_any (d.extract 6 (6 + c)) w (by simp; omega)
        have HH := hide hh
        clear hh HF
        have g6 : (6 + (c : Int)).toNat = 6 + c := by omega
        obtain ⟨S, hS⟩ : ∃ S, S = d.extract 6 (6 + c) := ⟨_, rfl⟩
        rw [← hS] at HN HH
        have HSH := hide hS
        clear hS
        generalize N.head S = A at *
        go_enter Try.func126, Try.ntmps126
        go_wp2_with fail
        go_region_held3 (fun _ => True) (trivial) (fail)
        all_goals
          go_wp2_with fail
          rw [← HSH.out]
          have hd0 : Fr w w.drew (fun _ => False) := (Fr.refl _ _).drew
          have hd1 : Fr w w.drew.drew (fun _ => False) := (Fr.refl _ _).drew.drew
          have HTR : Hid (∀ W w2, Fr w W (fun _ => False) → Fr W w2 (fun _ => False) → Fr w w2 (fun _ => False)) := fun W w2 h k => h.trans k (fun _ _ h => h)
          cases he : d.extract 0 6 == A with
          | true =>
            rw [he] at HN
            have hl : ((d.extract 0 6).toList == A.toList) = true := by rw [(MapKept.bytes_beq _ _).1 he]; simp
            clear he
            go_region_held3 (fun W' => Fr w W' (fun _ => False)) (first | exact hd1 | exact hd0 | exact t1 | go_keep)
              (first | (go_at_call 127; (with_reducible refine Calls.mono (HH.out _) ?_); rintro o w2 ⟨rfl, hf2⟩; (first | have t1 := HTR.out _ _ hd1 hf2 | have t1 := HTR.out _ _ hd0 hf2)))
            all_goals
              have HT := hide t1
              clear t1 hf2
              go_wp2_with fail
              go_ret2
              rw [HN.out]
              exact ⟨rfl, HT.out⟩
          | false =>
            rw [he] at HN
            have hl : ((d.extract 0 6).toList == A.toList) = false := by
              rw [beq_eq_false_iff_ne]
              intro h
              have h2 : d.extract 0 6 = A := by rw [ByteArray.toList_eq, ByteArray.toList_eq] at h; exact ByteArray.ext (Array.toList_inj.1 h)
              rw [(MapKept.bytes_beq _ _).2 h2] at he; cases he
            clear he
            go_region_held3 (fun W' => Fr w W' (fun _ => False)) (first | exact hd1 | exact hd0 | exact t1 | go_keep)
              (first | (go_at_call 127; (with_reducible refine Calls.mono (HH.out _) ?_); rintro o w2 ⟨rfl, hf2⟩; (first | have t1 := HTR.out _ _ hd1 hf2 | have t1 := HTR.out _ _ hd0 hf2)))
            all_goals
              have HT := hide t1
              clear t1 hf2
              go_wp2_with fail
              go_ret2
              rw [HN.out]
              exact ⟨rfl, HT.out⟩
end Go.Proofs.Ytmlbcdofogffkab
