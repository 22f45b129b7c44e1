/- For LocksSays: the reference's map, by what it has; OwnerOf. -/
import Derived.Test.YtckbfjoffbnjeaaDoorRD
namespace Go.Proofs.YtckbfjoffbnjeaaDoor
open Go.RowKit
attribute [local go_sem ↓] Go.wp_at_zero Go.wp_at_succ
namespace J
theorem get_at (n : ByteArray) : ∀ F : List (ByteArray × ByteArray), (M.at_ n F 0).map (·.2) = K.get F n
  | [] => rfl
  | x :: F => by
    rw [M.at_, K.get_cons]
    cases h : (n == x.1) with
    | true => rfl
    | false =>
      rw [if_neg (by simp), if_neg (by simp), K.at_shift, Option.map_map, ← get_at n F]
      rfl
theorem get_put (n m d : ByteArray) : ∀ F : List (ByteArray × ByteArray), K.get (M.put F n d) m = if n == m then some d else K.get F m
  | [] => by
    show K.get [(n, d)] m = _
    rw [K.get_cons]
    by_cases e : n = m
    · subst e; rfl
    · rw [K.beq_no e, K.beq_no (fun q => e q.symm)]
  | x :: F => by
    rw [K.put_cons]
    by_cases hx : n = x.1
    · rw [if_pos ((K.beq_iff _ _).2 hx), K.get_cons, K.get_cons]
      by_cases e : n = m
      · subst e
        rw [if_pos ((K.beq_iff n n).2 rfl), if_pos ((K.beq_iff n n).2 rfl)]
      · rw [K.beq_no e, K.beq_no (fun q => e q.symm), K.beq_no (n := m) (m := x.1) (fun q => e (hx.trans q.symm))]; simp
    · rw [K.beq_no hx, if_neg (by simp), K.get_cons, K.get_cons, get_put n m d F]
      by_cases e : n = m
      · subst e
        rw [K.beq_no hx, if_neg (by simp)]; simp
      · rw [K.beq_no e]; simp
theorem get_del {n m : ByteArray} {F : List (ByteArray × ByteArray)} (h : (F.map (·.1)).Nodup) : K.get (M.del F n) m = if n == m then none else K.get F m := by
  rw [K.del_less h, K.get_less]
theorem put_keys {n d : ByteArray} {F : List (ByteArray × ByteArray)} (h : (F.map (·.1)).Nodup) : ((M.put F n d).map (·.1)).Nodup := by
  refine (((K.put_perm (n := n) (d := d) h).map (·.1)).nodup_iff).2 ?_
  rw [List.map_cons, List.nodup_cons]
  refine ⟨fun hm => ?_, h.sublist ((K.less_sub F n).map _)⟩
  obtain ⟨x, hx, e⟩ := List.mem_map.1 hm
  exact (K.less_mem hx).2 e.symm
theorem del_keys {n : ByteArray} {F : List (ByteArray × ByteArray)} (h : (F.map (·.1)).Nodup) : ((M.del F n).map (·.1)).Nodup := by
  rw [K.del_less h]; exact h.sublist ((K.less_sub F n).map _)
theorem mem_keys {n : ByteArray} : ∀ {F : List (ByteArray × ByteArray)}, n ∈ F.map (·.1) ↔ (K.get F n).isSome = true
  | [] => by simp [K.get]
  | x :: F => by
    rw [List.map_cons, List.mem_cons, K.get_cons]
    by_cases e : n = x.1
    · rw [if_pos ((K.beq_iff _ _).2 e)]; simp [e]
    · rw [K.beq_no e, if_neg (by simp), ← mem_keys (F := F)]
      exact ⟨fun h => h.resolve_left e, .inr⟩
theorem look2 {w : World} {b : Nat} {F : List (ByteArray × ByteArray)} (h : Is w b F) (n : ByteArray) :
    (Instr.lookup 27 (.map (some b)) (.string n) true).run Tryd.prog w = .ok (match K.get F n with | some t => .tuple #[.string t, .bool true] | none => .tuple #[.string ⟨#[]⟩, .bool false]) w := by
  rw [look h n true, ← get_at n F]
  cases M.at_ n F 0 <;> rfl
theorem look1 {w : World} {b : Nat} {F : List (ByteArray × ByteArray)} (h : Is w b F) (n : ByteArray) :
    (Instr.lookup 27 (.map (some b)) (.string n) false).run Tryd.prog w = .ok (.string ((K.get F n).getD ⟨#[]⟩)) w := by
  rw [look h n false, ← get_at n F]
  cases M.at_ n F 0 <;> rfl
/-- The reference's map and the locks on the disk agree. -/
structure Tied (F : List (ByteArray × ByteArray)) (L : K.Lo) : Prop where
  keys : (F.map (·.1)).Nodup
  same : ∀ n, K.get F n = K.get L n
theorem Tied.len {F : List (ByteArray × ByteArray)} {L : K.Lo} (h : Tied F L) (hL : (L.map (·.1)).Nodup) : F.length = L.length := by
  have hp : (F.map (·.1)).Perm (L.map (·.1)) := by
    rw [List.perm_ext_iff_of_nodup h.keys hL]
    intro n
    rw [mem_keys, mem_keys, h.same]
  simpa using hp.length_eq
end J
set_option maxRecDepth 100000 in
set_option maxHeartbeats 1000000 in
theorem refOwner_any (w : World) (b : Nat) (F : List (ByteArray × ByteArray)) (L : K.Lo) (n : ByteArray) (hI : J.Is w b F) (hT : J.Tied F L) (hn : n.size ≤ maxLen) :
    Calls Tryd.prog 16 #[.map (some b), .string n] w fun o w' => o = .returned (.tuple #[.int .i64 (K.own L n).1, .bool (K.own L n).2.1, .int .i64 ((K.own L n).2.2 : Int)]) ∧ Fr w w' (fun _ => False) := by
  have HN := hide (refName_any n w hn)
  have hlk := J.look2 hI n
  rw [hT.same] at hlk
  clear hI hT
  cases hm : N.name n with
  | false =>
    have HO : Hid (K.own L n = (0, false, 3)) := by show _ = _; unfold K.own; rw [if_pos hm]
    rw [hm] at HN
    clear hm hlk
    go_enter Tryd.func16, Tryd.ntmps16
    go_wp2_with fail
    refine HN.out.mono ?_
    rintro o w1 ⟨rfl, hw1⟩
    subst hw1
    go_wp2_with fail
    go_ret3
    rw [HO.out]
    exact ⟨rfl, Fr.refl _ _⟩
  | true =>
    rw [hm] at HN
    cases hgL : K.get L n with
    | none =>
      have HO : Hid (K.own L n = (0, false, 0)) := by show _ = _; unfold K.own; rw [if_neg (by rw [hm]; decide), hgL]
      rw [hgL] at hlk
      clear hm hgL
      go_enter Tryd.func16, Tryd.ntmps16
      go_wp2_with fail
      refine HN.out.mono ?_
      rintro o w1 ⟨rfl, hw1⟩
      subst hw1
      go_wp2_with fail
      go_ret3
      rw [HO.out]
      exact ⟨rfl, Fr.refl _ _⟩
    | some t =>
      rw [hgL] at hlk
      have HD : Hid (∀ j W, j < 4 → Calls Tryd.prog 29 #[.int .i64 (j : Nat)] W fun e w' => e = .returned (.string (K.num j)) ∧ Fr W w' (fun _ => False)) := fun j W hj => dec_any j W (by omega)
      cases hw : K.who t with
      | some k =>
        have HO : Hid (K.own L n = ((k : Int), true, 0)) := by show _ = _; unfold K.own; rw [if_neg (by rw [hm]; decide), hgL]; show (match K.who t with | some k => ((k : Int), true, 0) | none => (0, false, 5)) = _; rw [hw]
        have hk4 := (K.who_some hw).1
        have hkt := (K.who_some hw).2
        have HNE := hide (K.who_before hw)
        clear hm hgL hw
        go_enter Tryd.func16, Tryd.ntmps16
        go_wp2_with fail
        refine HN.out.mono ?_
        rintro o w1 ⟨rfl, hw1⟩
        subst hw1
        go_wp2_with fail
        go_loopw [10] (fun vi wz => ∃ (j : Nat) (wu : World), j ≤ k ∧ vi = .int .i64 j ∧ wu = wz ∧ Fr w1 wu (fun _ => False)) (fun vi _ => 4 - (intOf vi).toNat)
        case atStart => exact ⟨0, _, Nat.zero_le _, rfl, rfl, Fr.refl _ _⟩
        case round =>
          obtain ⟨j, wu, hj, rfl, hwu, hfu⟩ := hrel
          rw [← hwu]
          clear hwu
          have HFU := hide hfu
          have HDJ := hide (HD.out j wu (by omega))
          clear hfu
          by_cases hjk : j = k
          · subst hjk
            go_wp2_with (first | (go_at_call 29; (with_reducible refine Calls.mono HDJ.out ?_); rintro o w3 ⟨rfl, hf3⟩; have HF3 := hide (HFU.out.trans hf3 (fun _ _ e => e)); clear hf3))
            go_ret3
            rw [HO.out]
            exact ⟨rfl, HF3.out⟩
          · have hb := HNE.out j (by omega) hjk
            go_wp2_with (first | (go_at_call 29; (with_reducible refine Calls.mono HDJ.out ?_); rintro o w3 ⟨rfl, hf3⟩; have HF3 := hide (HFU.out.trans hf3 (fun _ _ e => e)); clear hf3))
            go_roundw
            case rel => exact ⟨j + 1, _, by omega, by go_num, rfl, HF3.out⟩
            case measure => simp [intOf]; omega
      | none =>
        have HO : Hid (K.own L n = (0, false, 5)) := by show _ = _; unfold K.own; rw [if_neg (by rw [hm]; decide), hgL]; show (match K.who t with | some k => ((k : Int), true, 0) | none => (0, false, 5)) = _; rw [hw]
        have HNE := hide (K.who_none hw)
        clear hm hgL hw
        go_enter Tryd.func16, Tryd.ntmps16
        go_wp2_with fail
        refine HN.out.mono ?_
        rintro o w1 ⟨rfl, hw1⟩
        subst hw1
        go_wp2_with fail
        go_loopw [10] (fun vi wz => ∃ (j : Nat) (wu : World), j ≤ 4 ∧ vi = .int .i64 j ∧ wu = wz ∧ Fr w1 wu (fun _ => False)) (fun vi _ => 4 - (intOf vi).toNat)
        case atStart => exact ⟨0, _, Nat.zero_le _, rfl, rfl, Fr.refl _ _⟩
        case round =>
          obtain ⟨j, wu, hj, rfl, hwu, hfu⟩ := hrel
          rw [← hwu]
          clear hwu
          have HFU := hide hfu
          clear hfu
          by_cases hjk : j < 4
          · have HDJ := hide (HD.out j wu hjk)
            have hb := HNE.out j hjk
            go_wp2_with (first | (go_at_call 29; (with_reducible refine Calls.mono HDJ.out ?_); rintro o w3 ⟨rfl, hf3⟩; have HF3 := hide (HFU.out.trans hf3 (fun _ _ e => e)); clear hf3))
            go_roundw
            case rel => exact ⟨j + 1, _, by omega, by go_num, rfl, HF3.out⟩
            case measure => simp [intOf]; omega
          · have hj4 : j = 4 := by omega
            subst hj4
            go_wp2_with fail
            go_ret3
            rw [HO.out]
            exact ⟨rfl, HFU.out⟩
end Go.Proofs.YtckbfjoffbnjeaaDoor
