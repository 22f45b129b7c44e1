/- For TopLocks: locks on a disk; Owner. -/
import Derived.Test.YtlglomjodbjbaaaDoorLA
namespace Go.Proofs.YtlglomjodbjbaaaDoor
open Go.RowKit
attribute [local go_sem ↓] Go.wp_at_zero Go.wp_at_succ
namespace K
/-- The file of a stack's lock. -/
def pre (n : ByteArray) : ByteArray := ⟨#[108, 111, 99, 107, 46]⟩ ++ n
/-- A number below ten, in digits. -/
def num (k : Nat) : ByteArray := ⟨(Lib.decDigits k).toArray⟩
theorem digits {k : Nat} (h : k < 10) : Lib.decDigits k = [UInt8.ofNat (48 + k)] := by rw [Lib.decDigits, dif_pos h]
theorem num_list {k : Nat} (h : k < 10) : (num k).toList = [UInt8.ofNat (48 + k)] := by
  unfold num
  rw [digits h, ByteArray.toList_eq]
theorem num_ne {j k : Nat} (hj : j < 4) (hk : k < 4) (h : j ≠ k) : ((num k).toList == (num j).toList) = false := by
  rw [num_list (by omega), num_list (by omega)]
  have h1 : j = 0 ∨ j = 1 ∨ j = 2 ∨ j = 3 := by omega
  have h2 : k = 0 ∨ k = 1 ∨ k = 2 ∨ k = 3 := by omega
  rcases h1 with rfl | rfl | rfl | rfl <;> rcases h2 with rfl | rfl | rfl | rfl <;> first | (exact absurd rfl h) | decide
theorem pre_inj {a b : ByteArray} (h : pre a = pre b) : a = b := by
  have h2 := congrArg (fun x : ByteArray => x.data.toList) h
  simp only [pre, ByteArray.data_append, Array.toList_append] at h2
  exact N.bext (List.append_cancel_left h2)
abbrev Lo := List (ByteArray × Nat)
def get (L : Lo) (n : ByteArray) : Option Nat := (L.find? (fun x => n == x.1)).map (·.2)
def file (x : ByteArray × Nat) : ByteArray × ByteArray := (pre x.1, num x.2)
/-- These locks, and no other file, are on the disk. -/
structure On (F : List (ByteArray × ByteArray)) (L : Lo) : Prop where
  perm : F.Perm (L.map file)
  nodup : (L.map (·.1)).Nodup
  fine : ∀ x ∈ L, N.name x.1 = true ∧ x.2 < 4
theorem mget_cons (x : ByteArray × ByteArray) (F : List (ByteArray × ByteArray)) (n : ByteArray) : M.get (x :: F) n = if n == x.1 then some x.2 else M.get F n := by
  unfold M.get
  rw [M.at_]
  split
  · rfl
  · have key : ∀ (F : List (ByteArray × ByteArray)) (i j : Nat), (M.at_ n F i).map (·.2) = (M.at_ n F j).map (·.2) := by
      intro F
      induction F with
      | nil => intro i j; rfl
      | cons y F ih =>
        intro i j
        rw [M.at_, M.at_]
        split
        · rfl
        · exact ih _ _
    exact key F _ _
theorem get_file (n : ByteArray) : ∀ L : Lo, M.get (L.map file) (pre n) = (get L n).map num
  | [] => rfl
  | x :: L => by
    rw [List.map_cons, mget_cons]
    unfold get
    rw [List.find?_cons]
    cases hb : (n == x.1) with
    | true =>
      have e : n = x.1 := (MapKept.bytes_beq _ _).1 hb
      rw [if_pos (show (pre n == (file x).1) = true from (MapKept.bytes_beq _ _).2 (by rw [e]; rfl))]
      rfl
    | false =>
      have e : (pre n == (file x).1) = false := by
        cases q : (pre n == (file x).1) with
        | false => rfl
        | true =>
          have := pre_inj ((MapKept.bytes_beq _ _).1 q)
          rw [(MapKept.bytes_beq _ _).2 this] at hb; cases hb
      rw [if_neg (by rw [e]; decide)]
      exact get_file n L
theorem file_nodup {L : Lo} (h : (L.map (·.1)).Nodup) : ((L.map file).map (·.1)).Nodup := by
  rw [List.map_map]
  have e : (fun x : ByteArray × Nat => (file x).1) = fun x => pre x.1 := rfl
  show (L.map (fun x => (file x).1)).Nodup
  rw [e]
  unfold List.Nodup at h ⊢
  rw [List.pairwise_map] at h ⊢
  exact h.imp (fun hab he => hab (pre_inj he))
theorem On.get {F : List (ByteArray × ByteArray)} {L : Lo} (h : On F L) (n : ByteArray) : M.get F (pre n) = (K.get L n).map num := by
  rw [M.get_perm h.perm (file_nodup h.nodup), get_file]
theorem get_mem {L : Lo} {n : ByteArray} {k : Nat} (h : get L n = some k) : (n, k) ∈ L := by
  unfold get at h
  cases hf : L.find? (fun x => n == x.1) with
  | none => rw [hf] at h; cases h
  | some x =>
    rw [hf] at h
    have h1 := List.find?_some hf
    have e : n = x.1 := (MapKept.bytes_beq _ _).1 h1
    have e2 : x.2 = k := by simpa using h
    rw [e, ← e2]
    exact List.mem_of_find?_eq_some hf
/-- What Owner answers. -/
def own (L : Lo) (n : ByteArray) : Int × Bool × Nat := if N.name n = false then (0, false, 3) else match get L n with | some k => (k, true, 0) | none => (0, false, 0)
end K
theorem eq_err7 (w : World) : (binOp .eql 26 (.iface 49 (.int .i64 7)) (.iface 49 (.int .i64 7))).run Tryd.prog w = .ok (.bool true) w := by kernel_rfl
theorem eq_nil7 (w : World) : (binOp .eql 26 .nilIface (.iface 49 (.int .i64 7))).run Tryd.prog w = .ok (.bool false) w := by kernel_rfl
theorem N.name_size {s : ByteArray} (h : N.name s = true) : s.size ≤ 12 := by
  unfold N.name at h
  simp only [Bool.and_eq_true, decide_eq_true_eq] at h
  exact h.1.2
set_option maxRecDepth 100000 in
set_option maxHeartbeats 1000000 in
theorem owner_any (w : World) (B : Nat → Prop) (g : Nat) (D : Dk) (L : K.Lo) (n : ByteArray) (h : Disk w B g D) (hd : D.down = false) (hL : K.On D.files L) (hn : n.size ≤ maxLen) :
    Calls Tryd.prog 11 #[.pointer (some ⟨g, 0, none⟩), .string n] w fun o w' => o = .returned (.tuple #[.int .i64 (K.own L n).1, .bool (K.own L n).2.1, errV (K.own L n).2.2]) ∧ Fr w w' (fun _ => False) := by
  have HN := hide (vname_any n w hn)
  cases hm : N.name n with
  | false =>
    have HO : Hid (K.own L n = (0, false, 3)) := by show _ = _; unfold K.own; rw [if_pos hm]
    rw [hm] at HN
    clear h hd hL hm
    go_enter Tryd.func11, Tryd.ntmps11
    go_wp2_with fail
    refine HN.out.mono ?_
    rintro o w1 ⟨rfl, hw1⟩
    subst hw1
    go_wp2_with fail
    go_ret3
    rw [HO.out]
    exact ⟨rfl, Fr.refl _ _⟩
  | true =>
    rw [hm] at HN
    have hsz := N.name_size hm
    have HRD := hide (read_any w B g D (K.pre n) h)
    have hg := hL.get n
    cases hgL : K.get L n with
    | none =>
      have HO : Hid (K.own L n = (0, false, 0)) := by show _ = _; unfold K.own; rw [if_neg (by rw [hm]; decide), hgL]
      have hr : D.read (K.pre n) = (⟨#[]⟩, 7) := by unfold Dk.read; rw [hd, if_neg (by decide), hg, hgL]; rfl
      rw [hr] at HRD
      clear h hd hL hm hg hgL hr
      go_enter Tryd.func11, Tryd.ntmps11
      go_wp2_with fail
      refine HN.out.mono ?_
      rintro o w1 ⟨rfl, hw1⟩
      subst hw1
      go_wp2_with fail
      refine HRD.out.mono ?_
      rintro o w2 ⟨rfl, hf2⟩
      have HF2 := hide hf2
      clear hf2
      rw [show errV ((⟨#[]⟩, 7) : ByteArray × Nat).2 = .iface 49 (.int .i64 7) from rfl]
      have heq := fun w => eq_err7 w
      go_wp2_with fail
      go_ret3
      rw [HO.out]
      exact ⟨rfl, HF2.out⟩
    | some k =>
      have hk4 : k < 4 := (hL.fine _ (K.get_mem hgL)).2
      have HO : Hid (K.own L n = ((k : Int), true, 0)) := by show _ = _; unfold K.own; rw [if_neg (by rw [hm]; decide), hgL]
      have hr : D.read (K.pre n) = (K.num k, 0) := by unfold Dk.read; rw [hd, if_neg (by decide), hg, hgL]; rfl
      rw [hr] at HRD
      clear h hd hL hm hg hgL hr
      go_enter Tryd.func11, Tryd.ntmps11
      go_wp2_with fail
      refine HN.out.mono ?_
      rintro o w1 ⟨rfl, hw1⟩
      subst hw1
      go_wp2_with fail
      refine HRD.out.mono ?_
      rintro o w2 ⟨rfl, hf2⟩
      have HF2 := hide hf2
      clear hf2
      rw [show errV ((K.num k, 0) : ByteArray × Nat).2 = .nilIface from rfl]
      have heq := fun w => eq_nil7 w
      have HNE : Hid (∀ j, j < 4 → j ≠ k → ((K.num k).toList == (K.num j).toList) = false) := fun j hj h => K.num_ne hj hk4 h
      go_wp2_with fail
      go_loop [27, 9] (fun vi _ => ∃ j : Nat, j ≤ k ∧ vi = .int .i64 j) (fun vi _ => 4 - (intOf vi).toNat)
      case atStart => exact ⟨0, Nat.zero_le _, rfl⟩
      case round =>
        obtain ⟨j, hj, rfl⟩ := hrel
        have HI : Hid (Calls Tryd.prog 18 #[.int .i64 j] w2 fun e w' => e = .returned (.string (K.num j)) ∧ w' = w2) := sh_strconv_Itoa_small j (by omega) w2
        by_cases hjk : j = k
        · subst hjk
          have hb : ((K.num j).toList == (K.num j).toList) = true := by simp
          go_wp2_with (first | (go_at_call 18; (with_reducible refine Calls.mono HI.out ?_); rintro o w3 ⟨rfl, rfl⟩))
          go_ret3
          rw [HO.out]
          exact ⟨rfl, HF2.out⟩
        · have hb := HNE.out j (by omega) hjk
          go_wp2_with (first | (go_at_call 18; (with_reducible refine Calls.mono HI.out ?_); rintro o w3 ⟨rfl, rfl⟩))
          go_round
          case rel => exact ⟨j + 1, by omega, by go_num⟩
          case measure => simp [intOf]; omega
end Go.Proofs.YtlglomjodbjbaaaDoor
