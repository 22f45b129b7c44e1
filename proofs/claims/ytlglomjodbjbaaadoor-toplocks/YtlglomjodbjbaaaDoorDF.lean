/- disk: fits, Write, Append, Read. -/
import Derived.Test.YtlglomjodbjbaaaDoorDE
namespace Go.Proofs.YtlglomjodbjbaaaDoor
open Go.RowKit
attribute [local go_sem ↓] Go.wp_at_zero Go.wp_at_succ
/-- An error, by its number. -/
def errV (k : Nat) : Value := if k = 0 then .nilIface else .iface 49 (.int .i64 k)
/-- May a file have that name, and so many bytes? -/
def Dk.fit (D : Dk) (n : ByteArray) (b : Int) : Nat := if N.may n = false then 3 else if 4000 < b ∨ ((M.get D.files n).isSome = false ∧ 40 ≤ D.files.length) then 2 else 0
theorem is_len {w : World} {b : Nat} {F : List (ByteArray × ByteArray)} (h : M.Is w b F) : ∃ es c, w.heap[b]? = some (.map es c) ∧ es.size = F.length := by
  obtain ⟨es, c, hb, hF, _⟩ := h
  have h5 := congrArg List.length hF
  simp at h5
  exact ⟨es, c, hb, h5⟩
theorem len_run {w : World} {b : Nat} {F : List (ByteArray × ByteArray)} (h : M.Is w b F) : (Builtin.len_ #[45] 3 #[.map (some b)]).run Tryd.prog w = .ok (.int .i64 F.length) w := by
  obtain ⟨es, c, hb, hl⟩ := is_len h
  simp [Builtin.len_, run_underlying M.u112, MapKept.run_getObj_map hb, Result.andThen, goInt, hl]
set_option maxRecDepth 100000 in
set_option maxHeartbeats 1000000 in
theorem fits_any (w : World) (B : Nat → Prop) (g : Nat) (D : Dk) (n : ByteArray) (b : Int) (h : Disk w B g D) (hn : n.size ≤ maxLen) (hF : D.files.length ≤ 1000000) :
    Calls Tryd.prog 28 #[.pointer (some ⟨g, 0, none⟩), .string n, .int .i64 b] w fun o w' => o = .returned (errV (D.fit n b)) ∧ Fr w w' (fun _ => False) := by
  have hnm := name_any n w hn
  have hha := has_any w B g D n h
  have HNM := hide hnm
  have HHA := hide hha
  have H := hide h
  clear hnm hha h hn
  cases hm : N.may n with
  | false =>
    rw [show errV (D.fit n b) = .iface 49 (.int .i64 3) by unfold Dk.fit; rw [if_pos hm]; rfl]
    rw [hm] at HNM
    go_enter Tryd.func28, Tryd.ntmps28
    go_wp2_with fail
    refine HNM.out.mono ?_
    rintro o w' ⟨rfl, hw⟩
    rw [hw]
    clear hw w'
    go_wp2_with fail
    go_ret
    exact ⟨rfl, Fr.refl _ _⟩
  | true =>
    rw [hm] at HNM
    by_cases hb : 4000 < b
    · rw [show errV (D.fit n b) = .iface 49 (.int .i64 2) by unfold Dk.fit; rw [if_neg (by rw [hm]; decide), if_pos (.inl hb)]; rfl]
      go_enter Tryd.func28, Tryd.ntmps28
      go_wp2_with fail
      refine HNM.out.mono ?_
      rintro o w' ⟨rfl, hw⟩
      rw [hw]
      clear hw w'
      go_wp2_with fail
      go_ret
      exact ⟨rfl, Fr.refl _ _⟩
    · cases hh : (M.get D.files n).isSome with
      | true =>
        rw [show errV (D.fit n b) = .nilIface by unfold Dk.fit; rw [if_neg (by rw [hm]; decide), if_neg (fun hx => hx.elim hb (fun hx => by rw [hh] at hx; exact absurd hx.1 (by decide)))]; rfl]
        rw [hh] at HHA
        go_enter Tryd.func28, Tryd.ntmps28
        go_wp2_with fail
        refine HNM.out.mono ?_
        rintro o w' ⟨rfl, hw⟩
        rw [hw]
        clear hw w'
        go_wp2_with fail
        refine HHA.out.mono ?_
        rintro o w1 ⟨rfl, hf1⟩
        have HF1 := hide hf1
        clear hf1
        go_wp2_with fail
        go_ret
        exact ⟨rfl, HF1.out⟩
      | false =>
        rw [hh] at HHA
        go_enter Tryd.func28, Tryd.ntmps28
        go_wp2_with fail
        refine HNM.out.mono ?_
        rintro o w' ⟨rfl, hw⟩
        rw [hw]
        clear hw w'
        go_wp2_with fail
        refine HHA.out.mono ?_
        rintro o w1 ⟨rfl, hf1⟩
        have hD1 := H.out.fr hf1 (fun _ _ h => h)
        obtain ⟨bk, bf, cv, h1, h2, h3, h4, h5, h6, h7, h8, h9⟩ := hD1
        have hln := len_run h3
        have c1 := cell_of_block h1 1 _ rfl
        have HF1 := hide hf1
        clear hf1 h1 h2 h3 h4 h5 h6 h7 h8 h9
        by_cases h40 : 40 ≤ D.files.length
        · have HE : Hid (errV (D.fit n b) = .iface 49 (.int .i64 2)) := by show _ = _; unfold Dk.fit; rw [if_neg (by rw [hm]; decide), if_pos (.inr ⟨hh, h40⟩)]; rfl
          go_wp2_with fail
          go_ret
          rw [HE.out]
          exact ⟨rfl, HF1.out⟩
        · have HE : Hid (errV (D.fit n b) = .nilIface) := by show _ = _; unfold Dk.fit; rw [if_neg (by rw [hm]; decide), if_neg (fun hx => hx.elim (fun hx => by omega) (fun hx => h40 hx.2))]; rfl
          go_wp2_with fail
          go_ret
          rw [HE.out]
          exact ⟨rfl, HF1.out⟩
theorem Doing.up {w w1 w' : World} {B : Nat → Prop} {g : Nat} {D D' : Dk} {o : Ending} (h : Doing w1 w' B g D D' o) (hf : Fr w w1 (fun _ => False)) : Doing w w' B g D D' o := by
  obtain ⟨h1, h2⟩ := h
  refine ⟨?_, (hf.weak (fun _ _ h => h.elim)).trans h2 (fun _ _ h => h)⟩
  rcases h1 with h1 | ⟨a, b, B', c, d⟩
  · exact .inl h1
  · exact .inr ⟨a, b, B', c, fun x hx => (d x hx).imp id (fun h => Nat.le_trans hf.size h)⟩
/-- What a change of a file answers: it may not be; or it is done, if the disk doesn't fall. -/
def Changed (w w' : World) (B : Nat → Prop) (g : Nat) (D D' : Dk) (k : Nat) (o : Ending) : Prop := (k ≠ 0 ∧ o = .returned (errV k) ∧ Fr w w' (fun _ => False)) ∨ (k = 0 ∧ Doing w w' B g D D' o)
theorem errV_ne {k : Nat} (h : k ≠ 0) : errV k = .iface 49 (.int .i64 k) := by unfold errV; rw [if_neg h]
set_option maxRecDepth 100000 in
set_option maxHeartbeats 1000000 in
theorem write_any (w : World) (B : Nat → Prop) (g : Nat) (D : Dk) (n d : ByteArray) (h : Disk w B g D) (hB : ∀ x, B x → x < w.heap.size) (hn : n.size ≤ maxLen) (hF : D.files.length ≤ 1000000) (hs : 0 ≤ D.steps ∧ D.steps ≤ 1000000) (hl : -9223372036854775808 ≤ D.left ∧ D.left ≤ 9223372036854775807) (hlen : d.size ≤ 1000000 ∧ ((M.get D.files n).getD ⟨#[]⟩).size ≤ 1000000) (hch : D.chg.length ≤ 100000) :
    Calls Tryd.prog 17 #[.pointer (some ⟨g, 0, none⟩), .string n, .string d] w fun o w' => Changed w w' B g D (D.did ⟨0, n, ⟨#[]⟩, d⟩) (D.fit n d.size) o := by
  have hfi := fits_any w B g D n d.size h hn hF
  have K : Hid (∀ w1, Fr w w1 (fun _ => False) → Calls Tryd.prog 29 #[.pointer (some ⟨g, 0, none⟩), .agg #[.int .i64 0, .string n, .string ⟨#[]⟩, .string d]] w1 fun o w' => Doing w w' B g D (D.did ⟨0, n, ⟨#[]⟩, d⟩) o) := by
    intro w1 hf
    exact (do_any w1 B g D ⟨0, n, ⟨#[]⟩, d⟩ (h.fr hf (fun _ _ h => h)) (fun x hx => Nat.lt_of_lt_of_le (hB x hx) hf.size) hs hl (.inl rfl) hlen hch).mono (fun o w' hh => hh.up hf)
  have HFI := hide hfi
  clear hfi h hB hF hs hl hlen hch
  go_enter Tryd.func17, Tryd.ntmps17
  go_wp2_with fail
  refine HFI.out.mono ?_
  rintro o w1 ⟨rfl, hf1⟩
  by_cases hk : D.fit n d.size = 0
  · rw [show errV (D.fit n d.size) = .nilIface by rw [hk]; rfl]
    have HK := hide hk
    have HF1 := hide hf1
    clear hk hf1
    go_wp2_with fail
    refine (K.out w1 HF1.out).mono ?_
    rintro o w2 hd
    obtain ⟨u, hu⟩ : ∃ u, o = .returned u ∧ (u = .nilIface ∨ u = .iface 49 (.int .i64 10)) := by
      rcases hd.1 with ⟨_, e, _⟩ | ⟨_, e, _⟩
      · exact ⟨_, e, .inr rfl⟩
      · exact ⟨_, e, .inl rfl⟩
    obtain ⟨rfl, hu⟩ := hu
    have HD := hide hd
    clear hd
    rcases hu with rfl | rfl
    · go_wp2_with fail
      go_ret
      exact .inr ⟨HK.out, HD.out⟩
    · go_wp2_with fail
      go_ret
      exact .inr ⟨HK.out, HD.out⟩
  · rw [errV_ne hk]
    have HK := hide hk
    have HF1 := hide hf1
    clear hk hf1
    obtain ⟨G, hG⟩ : ∃ G, G = D.fit n d.size := ⟨_, rfl⟩
    have HG := hide hG
    rw [← hG]
    clear hG
    go_wp2_with fail
    go_ret
    exact .inl ⟨HK.out, by rw [errV_ne HK.out, ← HG.out]; rfl, HF1.out⟩
/-- May that be appended? -/
def Dk.more (D : Dk) (n d : ByteArray) : Nat := if 4000 < d.size then 2 else D.fit n ((((M.get D.files n).getD ⟨#[]⟩).size : Int) + d.size)

end Go.Proofs.YtlglomjodbjbaaaDoor
