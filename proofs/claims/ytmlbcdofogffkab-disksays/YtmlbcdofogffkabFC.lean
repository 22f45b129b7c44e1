/- disk: Make, Move, Remove. -/
import Derived.Test.YtmlbcdofogffkabFB
namespace Go.Proofs.Ytmlbcdofogffkab
open Go.RowKit
attribute [local go_sem ↓] Go.wp_at_zero Go.wp_at_succ
theorem disk_of {w : World} {B : Nat → Prop} {g : Nat} {D : Dk} (h : Disk w B g D) : B g := by
  obtain ⟨_, _, _, _, _, _, _, _, h6, _⟩ := h; exact h6
theorem Doing.ends {w w' : World} {B : Nat → Prop} {g : Nat} {D D' : Dk} {o : Ending} (hd : Doing w w' B g D D' o) : ∃ u, o = .returned u ∧ (u = .nilIface ∨ u = .iface 128 (.int .i64 10)) := by
  rcases hd.1 with ⟨_, e, _⟩ | ⟨_, e, _⟩
  · exact ⟨_, e, .inr rfl⟩
  · exact ⟨_, e, .inl rfl⟩
/-- May that file be made? -/
def Dk.makes (D : Dk) (n d : ByteArray) : Nat := if D.fit n d.size ≠ 0 then D.fit n d.size else if (M.get D.files n).isSome = true then 6 else 0
set_option maxRecDepth 100000 in
set_option maxHeartbeats 1000000 in
theorem make4 (w : World) (B : Nat → Prop) (g : Nat) (D : Dk) (n d : ByteArray) (h : Disk w B g D) (hB : ∀ x, B x → x < w.heap.size) (hn : n.size ≤ maxLen) (hF : D.files.length ≤ 1000000) (hs : 0 ≤ D.steps ∧ D.steps ≤ 1000000) (hl : -9223372036854775808 ≤ D.left ∧ D.left ≤ 9223372036854775807) (hlen : d.size ≤ 1000000 ∧ ((M.get D.files n).getD ⟨#[]⟩).size ≤ 1000000) (hch : D.chg.length ≤ 100000) :
    Calls Try.prog 26 #[.pointer (some ⟨g, 0, none⟩), .string n, .string d] w fun o w' => Changed w w' B g D (D.did4 ⟨0, n, ⟨#[]⟩, d⟩) (D.makes n d) o := by
  have hfi := fits_any w B g D n d.size h hn hF
  have K : Hid (∀ w1, Fr w w1 (fun _ => False) → Calls Try.prog 83 #[.pointer (some ⟨g, 0, none⟩), .agg #[.int .i64 0, .string n, .string ⟨#[]⟩, .string d]] w1 fun o w' => Doing w w' B g D (D.did4 ⟨0, n, ⟨#[]⟩, d⟩) o) := by
    intro w1 hf
    exact (do4 w1 B g D ⟨0, n, ⟨#[]⟩, d⟩ (h.fr hf (fun _ _ h => h)) (fun x hx => Nat.lt_of_lt_of_le (hB x hx) hf.size) hs hl (.inl rfl) hlen hch).mono (fun o w' hh => hh.up hf)
  have KH : Hid (∀ w1, Fr w w1 (fun _ => False) → Calls Try.prog 86 #[.pointer (some ⟨g, 0, none⟩), .string n] w1 fun o w' => o = .returned (.bool (M.get D.files n).isSome) ∧ Fr w w' (fun _ => False)) := by
    intro w1 hf
    exact (has_any w1 B g D n (h.fr hf (fun _ _ h => h))).mono (fun o w' hh => ⟨hh.1, hf.trans hh.2 (fun _ _ e => e)⟩)
  have HFI := hide hfi
  clear hfi h hB hF hs hl hlen hch
  go_enter Try.func26, Try.ntmps26
  go_wp2_with fail
  refine HFI.out.mono ?_
  rintro o w1 ⟨rfl, hf1⟩
  by_cases hk : D.fit n d.size = 0
  · rw [show errV (D.fit n d.size) = .nilIface by rw [hk]; rfl]
    have HK := hide hk
    have HH := hide (KH.out w1 hf1)
    clear hk hf1 KH
    go_wp2_with fail
    refine HH.out.mono ?_
    rintro o w2 ⟨rfl, hf2⟩
    cases hi : (M.get D.files n).isSome with
    | true =>
      have HF2 := hide hf2
      have HM : Hid (D.makes n d = 6) := by show _ = _; unfold Dk.makes; rw [if_neg (by rw [HK.out]; decide), if_pos hi]
      clear hf2 hi
      go_wp2_with fail
      go_ret
      exact .inl ⟨by rw [HM.out]; decide, by rw [HM.out]; rfl, HF2.out⟩
    | false =>
      have HM : Hid (D.makes n d = 0) := by show _ = _; unfold Dk.makes; rw [if_neg (by rw [HK.out]; decide), if_neg (by rw [hi]; decide)]
      have HD := hide (K.out w2 hf2)
      clear hf2 hi K
      go_wp2_with fail
      refine HD.out.mono ?_
      rintro o w3 hd
      obtain ⟨u, rfl, hu⟩ := hd.ends
      have HD3 := hide hd
      clear hd
      rcases hu with rfl | rfl
      all_goals
        go_wp2_with fail
        go_ret
        exact .inr ⟨HM.out, HD3.out⟩
  · rw [errV_ne hk]
    have HM : Hid (D.makes n d = D.fit n d.size) := by show _ = _; unfold Dk.makes; rw [if_pos hk]
    have HK := hide hk
    have HF1 := hide hf1
    clear hk hf1
    obtain ⟨G, hG⟩ : ∃ G, G = D.fit n d.size := ⟨_, rfl⟩
    have HG := hide hG
    rw [← hG]
    clear hG
    go_wp2_with fail
    go_ret
    exact .inl ⟨by rw [HM.out]; exact HK.out, by rw [HM.out, errV_ne HK.out, ← HG.out]; rfl, HF1.out⟩
/-- May that file be taken away? -/
def Dk.gone (D : Dk) (n : ByteArray) : Nat := if (M.get D.files n).isSome = true then 0 else 7
set_option maxRecDepth 100000 in
set_option maxHeartbeats 1000000 in
theorem remove4 (w : World) (B : Nat → Prop) (g : Nat) (D : Dk) (n : ByteArray) (h : Disk w B g D) (hB : ∀ x, B x → x < w.heap.size) (hs : 0 ≤ D.steps ∧ D.steps ≤ 1000000) (hl : -9223372036854775808 ≤ D.left ∧ D.left ≤ 9223372036854775807) (hlen : ((M.get D.files n).getD ⟨#[]⟩).size ≤ 1000000) (hch : D.chg.length ≤ 100000) :
    Calls Try.prog 29 #[.pointer (some ⟨g, 0, none⟩), .string n] w fun o w' => Changed w w' B g D (D.did4 ⟨3, n, ⟨#[]⟩, ⟨#[]⟩⟩) (D.gone n) o := by
  have K : Hid (∀ w1, Fr w w1 (fun _ => False) → Calls Try.prog 83 #[.pointer (some ⟨g, 0, none⟩), .agg #[.int .i64 3, .string n, .string ⟨#[]⟩, .string ⟨#[]⟩]] w1 fun o w' => Doing w w' B g D (D.did4 ⟨3, n, ⟨#[]⟩, ⟨#[]⟩⟩) o) := by
    intro w1 hf
    exact (do4 w1 B g D ⟨3, n, ⟨#[]⟩, ⟨#[]⟩⟩ (h.fr hf (fun _ _ h => h)) (fun x hx => Nat.lt_of_lt_of_le (hB x hx) hf.size) hs hl (.inr (.inr (.inr rfl))) ⟨Nat.zero_le _, hlen⟩ hch).mono (fun o w' hh => hh.up hf)
  have HH := hide (has_any w B g D n h)
  clear h hB hs hl hlen hch
  go_enter Try.func29, Try.ntmps29
  go_wp2_with fail
  refine HH.out.mono ?_
  rintro o w2 ⟨rfl, hf2⟩
  cases hi : (M.get D.files n).isSome with
  | false =>
    have HF2 := hide hf2
    have HM : Hid (D.gone n = 7) := by show _ = _; unfold Dk.gone; rw [if_neg (by rw [hi]; decide)]
    clear hf2 hi
    go_wp2_with fail
    go_ret
    exact .inl ⟨by rw [HM.out]; decide, by rw [HM.out]; rfl, HF2.out⟩
  | true =>
    have HM : Hid (D.gone n = 0) := by show _ = _; unfold Dk.gone; rw [if_pos hi]
    have HD := hide (K.out w2 hf2)
    clear hf2 hi K
    go_wp2_with fail
    refine HD.out.mono ?_
    rintro o w3 hd
    obtain ⟨u, rfl, hu⟩ := hd.ends
    have HD3 := hide hd
    clear hd
    rcases hu with rfl | rfl
    all_goals
      go_wp2_with fail
      go_ret
      exact .inr ⟨HM.out, HD3.out⟩
/-- May that file be moved? -/
def Dk.may4 (D : Dk) (n t : ByteArray) : Nat := if N.may n = false ∨ N.may t = false then 3 else D.gone n
/-- The disk behind Move. -/
def Dk.moved (D : Dk) (n t : ByteArray) : Dk := if (n.toList == t.toList) = true then D.step else D.did4 ⟨2, n, t, ⟨#[]⟩⟩
set_option maxRecDepth 100000 in
set_option maxHeartbeats 1000000 in
theorem move4 (w : World) (B : Nat → Prop) (g : Nat) (D : Dk) (n t : ByteArray) (h : Disk w B g D) (hB : ∀ x, B x → x < w.heap.size) (hn : n.size ≤ maxLen) (ht : t.size ≤ maxLen) (hs : 0 ≤ D.steps ∧ D.steps ≤ 1000000) (hl : -9223372036854775808 ≤ D.left ∧ D.left ≤ 9223372036854775807) (hlen : ((M.get D.files n).getD ⟨#[]⟩).size ≤ 1000000) (hch : D.chg.length ≤ 100000) :
    Calls Try.prog 27 #[.pointer (some ⟨g, 0, none⟩), .string n, .string t] w fun o w' => Changed w w' B g D (D.moved n t) (D.may4 n t) o := by
  have K : Hid (∀ w1, Fr w w1 (fun _ => False) → Calls Try.prog 83 #[.pointer (some ⟨g, 0, none⟩), .agg #[.int .i64 2, .string n, .string t, .string ⟨#[]⟩]] w1 fun o w' => Doing w w' B g D (D.did4 ⟨2, n, t, ⟨#[]⟩⟩) o) := by
    intro w1 hf
    exact (do4 w1 B g D ⟨2, n, t, ⟨#[]⟩⟩ (h.fr hf (fun _ _ h => h)) (fun x hx => Nat.lt_of_lt_of_le (hB x hx) hf.size) hs hl (.inr (.inr (.inl rfl))) ⟨Nat.zero_le _, hlen⟩ hch).mono (fun o w' hh => hh.up hf)
  have KS : Hid (∀ w1, Fr w w1 (fun _ => False) → Calls Try.prog 35 #[.pointer (some ⟨g, 0, none⟩)] w1 fun o w' => Doing w w' B g D D.step o) := by
    intro w1 hf
    have hBg : B g := disk_of h
    refine (step_any w1 B g D (h.fr hf (fun _ _ h => h)) hs hl).mono (fun o w' hh => ?_)
    refine ⟨?_, (hf.weak (fun _ _ e => e.elim)).trans hh.2 (fun c _ e => by rw [e]; exact hBg)⟩
    rcases hh.1 with ⟨a, b, c⟩ | ⟨a, b, c⟩
    · exact .inl ⟨a, b, c⟩
    · exact .inr ⟨a, b, B, c, fun x hx => .inl hx⟩
  have HN1 := hide (name_any n w hn)
  have HN2 := hide (name_any t w ht)
  have HH := hide (has_any w B g D n h)
  clear h hB hs hl hlen hch
  go_enter Try.func27, Try.ntmps27
  go_wp2_with fail
  refine HN1.out.mono ?_
  rintro o w1 ⟨rfl, hw⟩
  rw [hw]
  clear hw w1
  cases h1 : N.may n with
  | false =>
    have HM : Hid (D.may4 n t = 3) := by show _ = _; unfold Dk.may4; rw [if_pos (.inl h1)]
    clear h1
    go_wp2_with fail
    go_ret
    exact .inl ⟨by rw [HM.out]; decide, by rw [HM.out]; rfl, Fr.refl _ _⟩
  | true =>
    go_wp2_with fail
    refine HN2.out.mono ?_
    rintro o w1 ⟨rfl, hw⟩
    rw [hw]
    clear hw w1
    cases h2 : N.may t with
    | false =>
      have HM : Hid (D.may4 n t = 3) := by show _ = _; unfold Dk.may4; rw [if_pos (.inr h2)]
      clear h1 h2
      go_wp2_with fail
      go_ret
      exact .inl ⟨by rw [HM.out]; decide, by rw [HM.out]; rfl, Fr.refl _ _⟩
    | true =>
      have HG : Hid (D.may4 n t = D.gone n) := by show _ = _; unfold Dk.may4; rw [if_neg (by rw [h1, h2]; simp)]
      clear h1 h2
      go_wp2_with fail
      refine HH.out.mono ?_
      rintro o w2 ⟨rfl, hf2⟩
      cases hi : (M.get D.files n).isSome with
      | false =>
        have HF2 := hide hf2
        have HM : Hid (D.gone n = 7) := by show _ = _; unfold Dk.gone; rw [if_neg (by rw [hi]; decide)]
        clear hf2 hi
        go_wp2_with fail
        go_ret
        exact .inl ⟨by rw [HG.out, HM.out]; decide, by rw [HG.out, HM.out]; rfl, HF2.out⟩
      | true =>
        have HM : Hid (D.gone n = 0) := by show _ = _; unfold Dk.gone; rw [if_pos hi]
        cases he : (n.toList == t.toList) with
        | true =>
          have HMV : Hid (D.moved n t = D.step) := by show _ = _; unfold Dk.moved; rw [if_pos he]
          have HD := hide (KS.out w2 hf2)
          clear hf2 hi K KS
          go_wp2_with fail
          refine HD.out.mono ?_
          rintro o w3 hd
          obtain ⟨u, rfl, hu⟩ := hd.ends
          have HD3 := hide hd
          clear hd
          rcases hu with rfl | rfl
          all_goals
            go_wp2_with fail
            go_ret
            rw [HMV.out]
            exact .inr ⟨by rw [HG.out, HM.out], HD3.out⟩
        | false =>
          have HMV : Hid (D.moved n t = D.did4 ⟨2, n, t, ⟨#[]⟩⟩) := by show _ = _; unfold Dk.moved; rw [if_neg (by rw [he]; decide)]
          have HD := hide (K.out w2 hf2)
          clear hf2 hi K KS
          go_wp2_with fail
          refine HD.out.mono ?_
          rintro o w3 hd
          obtain ⟨u, rfl, hu⟩ := hd.ends
          have HD3 := hide hd
          clear hd
          rcases hu with rfl | rfl
          all_goals
            go_wp2_with fail
            go_ret
            rw [HMV.out]
            exact .inr ⟨by rw [HG.out, HM.out], HD3.out⟩
end Go.Proofs.Ytmlbcdofogffkab
