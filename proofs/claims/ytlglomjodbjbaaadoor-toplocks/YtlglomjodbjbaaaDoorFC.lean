/- disk: Make, Move, Remove. -/
import Derived.Test.YtlglomjodbjbaaaDoorFB
namespace Go.Proofs.YtlglomjodbjbaaaDoor
open Go.RowKit
attribute [local go_sem ↓] Go.wp_at_zero Go.wp_at_succ
theorem disk_of {w : World} {B : Nat → Prop} {g : Nat} {D : Dk} (h : Disk w B g D) : B g := by
  obtain ⟨_, _, _, _, _, _, _, _, h6, _⟩ := h; exact h6
theorem Doing.ends {w w' : World} {B : Nat → Prop} {g : Nat} {D D' : Dk} {o : Ending} (hd : Doing w w' B g D D' o) : ∃ u, o = .returned u ∧ (u = .nilIface ∨ u = .iface 49 (.int .i64 10)) := by
  rcases hd.1 with ⟨_, e, _⟩ | ⟨_, e, _⟩
  · exact ⟨_, e, .inr rfl⟩
  · exact ⟨_, e, .inl rfl⟩
/-- May that file be made? -/
def Dk.makes (D : Dk) (n d : ByteArray) : Nat := if D.fit n d.size ≠ 0 then D.fit n d.size else if (M.get D.files n).isSome = true then 6 else 0

/-- May that file be taken away? -/
def Dk.gone (D : Dk) (n : ByteArray) : Nat := if (M.get D.files n).isSome = true then 0 else 7
set_option maxRecDepth 100000 in
set_option maxHeartbeats 1000000 in
theorem remove4 (w : World) (B : Nat → Prop) (g : Nat) (D : Dk) (n : ByteArray) (h : Disk w B g D) (hB : ∀ x, B x → x < w.heap.size) (hs : 0 ≤ D.steps ∧ D.steps ≤ 1000000) (hl : -9223372036854775808 ≤ D.left ∧ D.left ≤ 9223372036854775807) (hlen : ((M.get D.files n).getD ⟨#[]⟩).size ≤ 1000000) (hch : D.chg.length ≤ 100000) :
    Calls Tryd.prog 22 #[.pointer (some ⟨g, 0, none⟩), .string n] w fun o w' => Changed w w' B g D (D.did4 ⟨3, n, ⟨#[]⟩, ⟨#[]⟩⟩) (D.gone n) o := by
  have K : Hid (∀ w1, Fr w w1 (fun _ => False) → Calls Tryd.prog 29 #[.pointer (some ⟨g, 0, none⟩), .agg #[.int .i64 3, .string n, .string ⟨#[]⟩, .string ⟨#[]⟩]] w1 fun o w' => Doing w w' B g D (D.did4 ⟨3, n, ⟨#[]⟩, ⟨#[]⟩⟩) o) := by
    intro w1 hf
    exact (do4 w1 B g D ⟨3, n, ⟨#[]⟩, ⟨#[]⟩⟩ (h.fr hf (fun _ _ h => h)) (fun x hx => Nat.lt_of_lt_of_le (hB x hx) hf.size) hs hl (.inr (.inr (.inr rfl))) ⟨Nat.zero_le _, hlen⟩ hch).mono (fun o w' hh => hh.up hf)
  have HH := hide (has_any w B g D n h)
  clear h hB hs hl hlen hch
  go_enter Tryd.func22, Tryd.ntmps22
  go_wp2_with fail
  refine HH.out.mono ?_
  rintro o w2 ⟨rfl, hf2⟩
  cases hi : (M.get D.files n).isSome with
  | false =>
    have HF2 := hide hf2
    have HM : Hid (D.gone n = 7) := by show _ = _; unfold Dk.gone; rw [if_neg (by rw [hi]; decide)]
    clear hf2 hi
    go_wp2_with fail
    go_ret
    exact .inl ⟨by rw [HM.out]; decide, by rw [HM.out]; rfl, HF2.out⟩
  | true =>
    have HM : Hid (D.gone n = 0) := by show _ = _; unfold Dk.gone; rw [if_pos hi]
    have HD := hide (K.out w2 hf2)
    clear hf2 hi K
    go_wp2_with fail
    refine HD.out.mono ?_
    rintro o w3 hd
    obtain ⟨u, rfl, hu⟩ := hd.ends
    have HD3 := hide hd
    clear hd
    rcases hu with rfl | rfl
    all_goals
      go_wp2_with fail
      go_ret
      exact .inr ⟨HM.out, HD3.out⟩
/-- May that file be moved? -/
def Dk.may4 (D : Dk) (n t : ByteArray) : Nat := if N.may n = false ∨ N.may t = false then 3 else D.gone n
/-- The disk behind Move. -/
def Dk.moved (D : Dk) (n t : ByteArray) : Dk := if (n.toList == t.toList) = true then D.step else D.did4 ⟨2, n, t, ⟨#[]⟩⟩

end Go.Proofs.YtlglomjodbjbaaaDoor
