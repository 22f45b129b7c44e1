/- For TopDisk: an act on a disk. -/
import Derived.Test.YtmlbcdofogffkabFK
namespace Go.Proofs.Ytmlbcdofogffkab
open Go.RowKit
attribute [local go_sem ↓] Go.wp_at_zero Go.wp_at_succ
/-- What an act is refused by (0: it is not). -/
def Dk.code (D : Dk) (x : Ac) : Nat :=
  if (x.kind.toList == [119, 114, 105, 116, 101]) = true then D.fit x.s x.t.size
  else if (x.kind.toList == [97, 112, 112, 101, 110, 100]) = true then D.more x.s x.t
  else if (x.kind.toList == [109, 97, 107, 101]) = true then D.makes x.s x.t
  else if (x.kind.toList == [109, 111, 118, 101]) = true then D.may4 x.s x.t
  else if (x.kind.toList == [114, 101, 109, 111, 118, 101]) = true then D.gone x.s
  else 0
/-- The disk behind an act that is not refused. -/
def Dk.after (D : Dk) (x : Ac) : Dk :=
  if (x.kind.toList == [119, 114, 105, 116, 101]) = true then D.did4 ⟨0, x.s, ⟨#[]⟩, x.t⟩
  else if (x.kind.toList == [97, 112, 112, 101, 110, 100]) = true then D.did4 ⟨1, x.s, ⟨#[]⟩, x.t⟩
  else if (x.kind.toList == [109, 97, 107, 101]) = true then D.did4 ⟨0, x.s, ⟨#[]⟩, x.t⟩
  else if (x.kind.toList == [109, 111, 118, 101]) = true then D.moved x.s x.t
  else if (x.kind.toList == [114, 101, 109, 111, 118, 101]) = true then D.did4 ⟨3, x.s, ⟨#[]⟩, ⟨#[]⟩⟩
  else if (x.kind.toList == [115, 121, 110, 99]) = true then D.synced4
  else D
theorem may_size {n : ByteArray} (h : N.may n = true) : n.size ≤ 24 := by
  unfold N.may at h
  simp at h
  exact h.1.2
theorem fit_facts {D : Dk} {n : ByteArray} {b : Int} (h : D.fit n b = 0) : n.size ≤ 24 ∧ b ≤ 4000 ∧ ((M.get D.files n).isSome = true ∨ D.files.length < 40) := by
  unfold Dk.fit at h
  by_cases h1 : N.may n = false
  · rw [if_pos h1] at h; cases h
  · rw [if_neg h1] at h
    by_cases h2 : 4000 < b ∨ ((M.get D.files n).isSome = false ∧ 40 ≤ D.files.length)
    · rw [if_pos h2] at h; cases h
    · refine ⟨may_size (by simpa using h1), by omega, ?_⟩
      cases hs : (M.get D.files n).isSome with
      | true => exact .inl rfl
      | false =>
        right
        have : ¬ (40 ≤ D.files.length) := fun e => h2 (.inr ⟨hs, e⟩)
        omega
theorem Inv.write {D : Dk} {b : Int} {m : Nat} (h : Inv D b m) {n d : ByteArray} (hf : D.fit n d.size = 0) : Inv (D.did4 ⟨0, n, ⟨#[]⟩, d⟩) (b + 1) (m + 1) := by
  obtain ⟨h1, h2, h3⟩ := fit_facts hf
  exact h.did (.inl rfl) (by show d.size ≤ 4000; omega) (h.goodF.put h1 (by show d.size ≤ 4000; omega) h3)
theorem Inv.more {D : Dk} {b : Int} {m : Nat} (h : Inv D b m) {n d : ByteArray} (hf : D.more n d = 0) : Inv (D.did4 ⟨1, n, ⟨#[]⟩, d⟩) (b + 1) (m + 1) := by
  unfold Dk.more at hf
  by_cases h4 : 4000 < d.size
  · rw [if_pos h4] at hf; cases hf
  · rw [if_neg h4] at hf
    obtain ⟨h1, h2, h3⟩ := fit_facts hf
    refine h.did (.inr (.inl rfl)) (by show d.size ≤ 4000; omega) (h.goodF.put h1 ?_ h3)
    show ((M.get D.files n).getD ⟨#[]⟩ ++ d).size ≤ 4000
    rw [ByteArray.size_append]; omega
theorem makes_fit {D : Dk} {n d : ByteArray} (h : D.makes n d = 0) : D.fit n d.size = 0 := by
  unfold Dk.makes at h
  by_cases h1 : D.fit n d.size ≠ 0
  · rw [if_pos h1] at h; exact absurd h h1
  · omega
theorem gone_some {D : Dk} {n : ByteArray} (h : D.gone n = 0) : (M.get D.files n).isSome = true := by
  unfold Dk.gone at h
  by_cases h1 : (M.get D.files n).isSome = true
  · exact h1
  · rw [if_neg h1] at h; cases h
theorem may4_facts {D : Dk} {n t : ByteArray} (h : D.may4 n t = 0) : t.size ≤ 24 ∧ (M.get D.files n).isSome = true := by
  unfold Dk.may4 at h
  by_cases h1 : N.may n = false ∨ N.may t = false
  · rw [if_pos h1] at h; cases h
  · rw [if_neg h1] at h
    exact ⟨may_size (by simpa using fun e => h1 (.inr e)), gone_some h⟩
theorem Inv.remove {D : Dk} {b : Int} {m : Nat} (h : Inv D b m) {n : ByteArray} : Inv (D.did4 ⟨3, n, ⟨#[]⟩, ⟨#[]⟩⟩) (b + 1) (m + 1) :=
  h.did (.inr (.inr (.inr rfl))) (by show (0 : Nat) ≤ 4000; omega) (h.goodF.del n)
theorem Inv.move {D : Dk} {b : Int} {m : Nat} (h : Inv D b m) {n t : ByteArray} (hf : D.may4 n t = 0) : Inv (D.moved n t) (b + 1) (m + 1) := by
  obtain ⟨h1, h2⟩ := may4_facts hf
  unfold Dk.moved
  split
  · exact h.step.up (Int.le_refl _) (Nat.le_succ m)
  · exact h.did (.inr (.inr (.inl rfl))) (by show (0 : Nat) ≤ 4000; omega) (h.goodF.move h1 (h.goodF.get n) h2)
theorem Inv.after {D : Dk} {b : Int} {m : Nat} (h : Inv D b m) {x : Ac} (hk : D.code x = 0) : Inv (D.after x) (b + 1) (m + 1) := by
  unfold Dk.code at hk
  unfold Dk.after
  by_cases h1 : (x.kind.toList == [119, 114, 105, 116, 101]) = true
  · rw [if_pos h1] at hk ⊢; exact h.write hk
  rw [if_neg h1] at hk ⊢
  by_cases h2 : (x.kind.toList == [97, 112, 112, 101, 110, 100]) = true
  · rw [if_pos h2] at hk ⊢; exact h.more hk
  rw [if_neg h2] at hk ⊢
  by_cases h3 : (x.kind.toList == [109, 97, 107, 101]) = true
  · rw [if_pos h3] at hk ⊢; exact h.write (makes_fit hk)
  rw [if_neg h3] at hk ⊢
  by_cases h4 : (x.kind.toList == [109, 111, 118, 101]) = true
  · rw [if_pos h4] at hk ⊢; exact h.move hk
  rw [if_neg h4] at hk ⊢
  by_cases h5 : (x.kind.toList == [114, 101, 109, 111, 118, 101]) = true
  · rw [if_pos h5]; exact h.remove
  rw [if_neg h5]
  by_cases h6 : (x.kind.toList == [115, 121, 110, 99]) = true
  · rw [if_pos h6]; exact h.sync.up (Int.le_refl _) (Nat.zero_le _)
  · rw [if_neg h6]; exact h.up (by omega) (Nat.le_succ m)
/- Writes of any length that are refused. -/
set_option maxRecDepth 100000 in
set_option maxHeartbeats 400000 in
theorem write_no (w : World) (B : Nat → Prop) (g : Nat) (D : Dk) (n d : ByteArray) (h : Disk w B g D) (hn : n.size ≤ maxLen) (hF : D.files.length ≤ 1000000) (hk : D.fit n d.size ≠ 0) :
    Calls Try.prog 23 #[.pointer (some ⟨g, 0, none⟩), .string n, .string d] w fun o w' => o = .returned (errV (D.fit n d.size)) ∧ Fr w w' (fun _ => False) := by
  have HFI := hide (fits_any w B g D n d.size h hn hF)
  clear h hF
  have HE := hide (errV_ne hk)
  obtain ⟨G, hG⟩ : ∃ G, G = D.fit n d.size := ⟨_, rfl⟩
  rw [← hG] at HFI HE ⊢
  rw [HE.out] at HFI ⊢
  clear hG hk HE
  go_enter Try.func23, Try.ntmps23
  go_wp2_with fail
  refine HFI.out.mono ?_
  rintro o w1 ⟨rfl, hf1⟩
  have HF1 := hide hf1
  clear hf1
  go_wp2_with fail
  go_ret
  exact ⟨rfl, HF1.out⟩
set_option maxRecDepth 100000 in
set_option maxHeartbeats 400000 in
theorem make_no (w : World) (B : Nat → Prop) (g : Nat) (D : Dk) (n d : ByteArray) (h : Disk w B g D) (hn : n.size ≤ maxLen) (hF : D.files.length ≤ 1000000) (hk : D.fit n d.size ≠ 0) :
    Calls Try.prog 26 #[.pointer (some ⟨g, 0, none⟩), .string n, .string d] w fun o w' => o = .returned (errV (D.fit n d.size)) ∧ Fr w w' (fun _ => False) := by
  have HFI := hide (fits_any w B g D n d.size h hn hF)
  clear h hF
  have HE := hide (errV_ne hk)
  obtain ⟨G, hG⟩ : ∃ G, G = D.fit n d.size := ⟨_, rfl⟩
  rw [← hG] at HFI HE ⊢
  rw [HE.out] at HFI ⊢
  clear hG hk HE
  go_enter Try.func26, Try.ntmps26
  go_wp2_with fail
  refine HFI.out.mono ?_
  rintro o w1 ⟨rfl, hf1⟩
  have HF1 := hide hf1
  clear hf1
  go_wp2_with fail
  go_ret
  exact ⟨rfl, HF1.out⟩
set_option maxRecDepth 100000 in
set_option maxHeartbeats 400000 in
theorem append_no (w : World) (g : Nat) (n d : ByteArray) (hd : 4000 < d.size) :
    Calls Try.prog 25 #[.pointer (some ⟨g, 0, none⟩), .string n, .string d] w fun o w' => o = .returned (.iface 128 (.int .i64 2)) ∧ w' = w := by
  have g4 : (4000 : Int) < d.size := by omega
  go_enter Try.func25, Try.ntmps25
  go_wp2_with fail
  go_ret
  exact ⟨rfl, rfl⟩
/-- What an act makes of the disk. -/
def Acted (w w2 : World) (g : Nat) (vw : Value) (G : List ByteArray) (D : Dk) (b : Int) (m k : Nat) (D' : Dk) (o : Ending) : Prop :=
  (k ≠ 0 → o = .returned (.iface 128 (.int .i64 k)) ∧ Dsk w w2 g vw G D b m) ∧ (k = 0 → o = .returned .nilIface ∧ Dsk w w2 g vw G D' (b + 1) (m + 1))
theorem acted_of {w wx w2 : World} {B : Nat → Prop} {g : Nat} {vw : Value} {G : List ByteArray} {D D' : Dk} {k : Nat} {o : Ending} {b : Int} {m : Nat} (h1 : Disk wx B g D) (h2 : Inv D b m) (h3 : ∀ x, B x → w.heap.size ≤ x ∧ x < wx.heap.size) (h4 : Beside w.heap.size wx B vw G) (h5 : Fr w wx (fun _ => False))
    (hI : k = 0 → Inv D' (b + 1) (m + 1)) (hc : Changed wx w2 B g D D' k o) : Acted w w2 g vw G D b m k D' o := by
  refine ⟨fun hk => ?_, fun hk => ?_⟩
  · rcases hc with ⟨_, rfl, hf⟩ | ⟨h0, _⟩
    · exact ⟨by rw [errV_ne hk], Dsk.kept ⟨B, h1, h2, h3, h4, h5⟩ hf⟩
    · exact absurd h0 hk
  · rcases dsk_changed h1 h2 h3 h4 h5 hI hc with ⟨e, rfl, hd⟩ | ⟨_, rfl, hd⟩
    · exfalso
      rcases hc with ⟨h0, _⟩ | ⟨_, hdo, _⟩
      · exact h0 hk
      · rcases hdo with ⟨hfa, _⟩ | ⟨_, ho, _⟩
        · exact h2.not_fails hfa
        · cases ho
    · exact ⟨rfl, hd⟩
theorem Acted.ends {w w2 : World} {g : Nat} {vw : Value} {G : List ByteArray} {D D' : Dk} {k : Nat} {o : Ending} {b : Int} {m : Nat} (h : Acted w w2 g vw G D b m k D' o) : ∃ u, o = .returned u ∧ (u = .nilIface ∨ ∃ e : Int, u = .iface 128 (.int .i64 e)) := by
  by_cases hk : k = 0
  · exact ⟨_, (h.2 hk).1, .inl rfl⟩
  · exact ⟨_, (h.1 hk).1, .inr ⟨_, rfl⟩⟩
theorem acted_no {w wx w2 : World} {g : Nat} {vw : Value} {G : List ByteArray} {D D' : Dk} {k : Nat} {o : Ending} {b : Int} {m : Nat} (h : Dsk w wx g vw G D b m) (hk : k ≠ 0) (ho : o = .returned (errV k)) (hf : Fr wx w2 (fun _ => False)) : Acted w w2 g vw G D b m k D' o :=
  ⟨fun _ => ⟨by rw [ho, errV_ne hk], h.kept hf⟩, fun e => absurd e hk⟩
theorem Dsk.syncs {w wx : World} {g : Nat} {vw : Value} {G : List ByteArray} {D : Dk} {b : Int} {m : Nat} (h : Dsk w wx g vw G D b m) (hb : b ≤ 1000) (hm : m ≤ 1000) :
    Calls Try.prog 33 #[.pointer (some ⟨g, 0, none⟩)] wx fun o w2 => o = .returned .nilIface ∧ Dsk w w2 g vw G D.synced4 (b + 1) 0 := by
  obtain ⟨B, h1, h2, h3, h4, h5⟩ := h
  have hlen := h2.len
  refine (sync4 wx B g D h1 ⟨h2.steps.1, by have := h2.steps.2; omega⟩ (by rw [h2.left]; decide) (by omega) h2.kinds (fun k c _ hc => h2.sizes k c hc)).mono ?_
  rintro o w2 ⟨hd, hf⟩
  have hs := hf.size
  rcases hd with ⟨hfa, _⟩ | ⟨_, rfl, hD⟩
  · exact absurd hfa h2.not_fails
  · exact ⟨rfl, B, hD, h2.sync, fun x hx => ⟨(h3 x hx).1, by have := (h3 x hx).2; omega⟩, h4.fr hf (fun c e => .inl e) (fun c e => .inl e), h5.trans hf (fun c hc e => by have := (h3 c e).1; omega)⟩
set_option maxRecDepth 100000 in
set_option maxHeartbeats 2000000 in
theorem acts_any {w wx : World} {g : Nat} {vw : Value} {G : List ByteArray} {D : Dk} {b : Int} {m : Nat} (h : Dsk w wx g vw G D b m) (hb : b ≤ 1000) (hm : m ≤ 1000) (x : Ac) (hxs : x.s.size ≤ maxLen) (hxt : x.t.size ≤ maxLen) (k5 k6 : Int) (s7 : ByteArray) (a8 a9 an : Option Addr) (n8 p8 n9 p9 cn : Nat) :
    Calls Try.prog 54 #[.pointer (some ⟨g, 0, none⟩), .agg #[.string x.kind, .string x.s, .string x.t, .int .i64 x.a, .int .i64 x.b, .int .i64 k5, .int .i64 k6, .string s7, .slice a8 n8 p8, .slice a9 n9 p9, .slice an x.nn cn]] wx fun o w2 => Acted w w2 g vw G D b m (D.code x) (D.after x) o := by
  have hA : Fr wx (wx.alloc (.cells #[.string x.kind, .string x.s, .string x.t, .int .i64 x.a, .int .i64 x.b, .int .i64 k5, .int .i64 k6, .string s7, .slice a8 n8 p8, .slice a9 n9 p9, .slice an x.nn cn] 58)) (fun _ => False) := (Fr.refl _ _).alloc _
  have hk := h.kept hA
  have hsy := hk.syncs hb hm
  obtain ⟨B, h1, h2, h3, h4, h5⟩ := id hk
  have hin := fun hc => h2.after (x := x) hc
  have hst : 0 ≤ D.steps ∧ D.steps ≤ 1000000 := ⟨h2.steps.1, by have := h2.steps.2; omega⟩
  have hlf : -9223372036854775808 ≤ D.left ∧ D.left ≤ 9223372036854775807 := by rw [h2.left]; decide
  have hF : D.files.length ≤ 1000000 := by have := h2.goodF.len; omega
  have hch : D.chg.length ≤ 100000 := by have := h2.len; omega
  have hgt := h2.goodF.get x.s
  have hB : ∀ y, B y → y < (wx.alloc (.cells #[.string x.kind, .string x.s, .string x.t, .int .i64 x.a, .int .i64 x.b, .int .i64 k5, .int .i64 k6, .string s7, .slice a8 n8 p8, .slice a9 n9 p9, .slice an x.nn cn] 58)).heap.size := fun y hy => (h3 y hy).2
  have HK := hide hk
  clear hk hA
  have K0 : Hid ((x.kind.toList == [119, 114, 105, 116, 101]) = true → Calls Try.prog 23 #[.pointer (some ⟨g, 0, none⟩), .string x.s, .string x.t] (wx.alloc (.cells #[.string x.kind, .string x.s, .string x.t, .int .i64 x.a, .int .i64 x.b, .int .i64 k5, .int .i64 k6, .string s7, .slice a8 n8 p8, .slice a9 n9 p9, .slice an x.nn cn] 58)) fun o w2 => Acted w w2 g vw G D b m (D.code x) (D.after x) o) := by
    intro  e
    have ec : D.code x = D.fit x.s x.t.size := by unfold Dk.code; rw [if_pos e]
    have ea : D.after x = D.did4 ⟨0, x.s, ⟨#[]⟩, x.t⟩ := by unfold Dk.after; rw [if_pos e]
    rw [ec, ea] at hin
    rw [ec, ea]
    by_cases hf : D.fit x.s x.t.size = 0
    · have h4k := (fit_facts hf).2.1
      refine (write4 _ B g D x.s x.t h1 hB hxs hF hst hlf ⟨by omega, by omega⟩ hch).mono (fun o w2 hc => acted_of h1 h2 h3 h4 h5 hin hc)
    · refine (write_no _ B g D x.s x.t h1 hxs hF hf).mono (fun o w2 hc => acted_no HK.out hf hc.1 hc.2)
  have K1 : Hid ((x.kind.toList == [119, 114, 105, 116, 101]) = false → (x.kind.toList == [97, 112, 112, 101, 110, 100]) = true → Calls Try.prog 25 #[.pointer (some ⟨g, 0, none⟩), .string x.s, .string x.t] (wx.alloc (.cells #[.string x.kind, .string x.s, .string x.t, .int .i64 x.a, .int .i64 x.b, .int .i64 k5, .int .i64 k6, .string s7, .slice a8 n8 p8, .slice a9 n9 p9, .slice an x.nn cn] 58)) fun o w2 => Acted w w2 g vw G D b m (D.code x) (D.after x) o) := by
    intro f0 e
    have ec : D.code x = D.more x.s x.t := by unfold Dk.code; rw [if_neg (by rw [f0]; decide), if_pos e]
    have ea : D.after x = D.did4 ⟨1, x.s, ⟨#[]⟩, x.t⟩ := by unfold Dk.after; rw [if_neg (by rw [f0]; decide), if_pos e]
    rw [ec, ea] at hin
    rw [ec, ea]
    by_cases hf : 4000 < x.t.size
    · have hm2 : D.more x.s x.t = 2 := by unfold Dk.more; rw [if_pos hf]
      refine (append_no _ g x.s x.t hf).mono (fun o w2 hc => ?_)
      obtain ⟨rfl, rfl⟩ := hc
      exact acted_no HK.out (by rw [hm2]; decide) (by rw [hm2]; rfl) (Fr.refl _ _)
    · refine (append4 _ B g D x.s x.t h1 hB hxs hF hst hlf ⟨by omega, by omega⟩ hch).mono (fun o w2 hc => acted_of h1 h2 h3 h4 h5 hin hc)
  have K2 : Hid ((x.kind.toList == [119, 114, 105, 116, 101]) = false → (x.kind.toList == [97, 112, 112, 101, 110, 100]) = false → (x.kind.toList == [109, 97, 107, 101]) = true → Calls Try.prog 26 #[.pointer (some ⟨g, 0, none⟩), .string x.s, .string x.t] (wx.alloc (.cells #[.string x.kind, .string x.s, .string x.t, .int .i64 x.a, .int .i64 x.b, .int .i64 k5, .int .i64 k6, .string s7, .slice a8 n8 p8, .slice a9 n9 p9, .slice an x.nn cn] 58)) fun o w2 => Acted w w2 g vw G D b m (D.code x) (D.after x) o) := by
    intro f0 f1 e
    have ec : D.code x = D.makes x.s x.t := by unfold Dk.code; rw [if_neg (by rw [f0]; decide), if_neg (by rw [f1]; decide), if_pos e]
    have ea : D.after x = D.did4 ⟨0, x.s, ⟨#[]⟩, x.t⟩ := by unfold Dk.after; rw [if_neg (by rw [f0]; decide), if_neg (by rw [f1]; decide), if_pos e]
    rw [ec, ea] at hin
    rw [ec, ea]
    by_cases hf : D.fit x.s x.t.size = 0
    · have h4k := (fit_facts hf).2.1
      refine (make4 _ B g D x.s x.t h1 hB hxs hF hst hlf ⟨by omega, by omega⟩ hch).mono (fun o w2 hc => acted_of h1 h2 h3 h4 h5 hin hc)
    · have hmk : D.makes x.s x.t = D.fit x.s x.t.size := by unfold Dk.makes; rw [if_pos hf]
      refine (make_no _ B g D x.s x.t h1 hxs hF hf).mono (fun o w2 hc => acted_no HK.out (by rw [hmk]; exact hf) (by rw [hmk]; exact hc.1) hc.2)
  have K3 : Hid ((x.kind.toList == [119, 114, 105, 116, 101]) = false → (x.kind.toList == [97, 112, 112, 101, 110, 100]) = false → (x.kind.toList == [109, 97, 107, 101]) = false → (x.kind.toList == [109, 111, 118, 101]) = true → Calls Try.prog 27 #[.pointer (some ⟨g, 0, none⟩), .string x.s, .string x.t] (wx.alloc (.cells #[.string x.kind, .string x.s, .string x.t, .int .i64 x.a, .int .i64 x.b, .int .i64 k5, .int .i64 k6, .string s7, .slice a8 n8 p8, .slice a9 n9 p9, .slice an x.nn cn] 58)) fun o w2 => Acted w w2 g vw G D b m (D.code x) (D.after x) o) := by
    intro f0 f1 f2 e
    have ec : D.code x = D.may4 x.s x.t := by unfold Dk.code; rw [if_neg (by rw [f0]; decide), if_neg (by rw [f1]; decide), if_neg (by rw [f2]; decide), if_pos e]
    have ea : D.after x = D.moved x.s x.t := by unfold Dk.after; rw [if_neg (by rw [f0]; decide), if_neg (by rw [f1]; decide), if_neg (by rw [f2]; decide), if_pos e]
    rw [ec, ea] at hin
    rw [ec, ea]
    exact (move4 _ B g D x.s x.t h1 hB hxs hxt hst hlf (by omega) hch).mono (fun o w2 hc => acted_of h1 h2 h3 h4 h5 hin hc)
  have K4 : Hid ((x.kind.toList == [119, 114, 105, 116, 101]) = false → (x.kind.toList == [97, 112, 112, 101, 110, 100]) = false → (x.kind.toList == [109, 97, 107, 101]) = false → (x.kind.toList == [109, 111, 118, 101]) = false → (x.kind.toList == [114, 101, 109, 111, 118, 101]) = true → Calls Try.prog 29 #[.pointer (some ⟨g, 0, none⟩), .string x.s] (wx.alloc (.cells #[.string x.kind, .string x.s, .string x.t, .int .i64 x.a, .int .i64 x.b, .int .i64 k5, .int .i64 k6, .string s7, .slice a8 n8 p8, .slice a9 n9 p9, .slice an x.nn cn] 58)) fun o w2 => Acted w w2 g vw G D b m (D.code x) (D.after x) o) := by
    intro f0 f1 f2 f3 e
    have ec : D.code x = D.gone x.s := by unfold Dk.code; rw [if_neg (by rw [f0]; decide), if_neg (by rw [f1]; decide), if_neg (by rw [f2]; decide), if_neg (by rw [f3]; decide), if_pos e]
    have ea : D.after x = D.did4 ⟨3, x.s, ⟨#[]⟩, ⟨#[]⟩⟩ := by unfold Dk.after; rw [if_neg (by rw [f0]; decide), if_neg (by rw [f1]; decide), if_neg (by rw [f2]; decide), if_neg (by rw [f3]; decide), if_pos e]
    rw [ec, ea] at hin
    rw [ec, ea]
    exact (remove4 _ B g D x.s h1 hB hst hlf (by omega) hch).mono (fun o w2 hc => acted_of h1 h2 h3 h4 h5 hin hc)
  have K5 : Hid ((x.kind.toList == [119, 114, 105, 116, 101]) = false → (x.kind.toList == [97, 112, 112, 101, 110, 100]) = false → (x.kind.toList == [109, 97, 107, 101]) = false → (x.kind.toList == [109, 111, 118, 101]) = false → (x.kind.toList == [114, 101, 109, 111, 118, 101]) = false → (x.kind.toList == [115, 121, 110, 99]) = true → Calls Try.prog 33 #[.pointer (some ⟨g, 0, none⟩)] (wx.alloc (.cells #[.string x.kind, .string x.s, .string x.t, .int .i64 x.a, .int .i64 x.b, .int .i64 k5, .int .i64 k6, .string s7, .slice a8 n8 p8, .slice a9 n9 p9, .slice an x.nn cn] 58)) fun o w2 => Acted w w2 g vw G D b m (D.code x) (D.after x) o) := by
    intro f0 f1 f2 f3 f4 e
    have ec : D.code x = 0 := by unfold Dk.code; rw [if_neg (by rw [f0]; decide), if_neg (by rw [f1]; decide), if_neg (by rw [f2]; decide), if_neg (by rw [f3]; decide), if_neg (by rw [f4]; decide)]
    have ea : D.after x = D.synced4 := by unfold Dk.after; rw [if_neg (by rw [f0]; decide), if_neg (by rw [f1]; decide), if_neg (by rw [f2]; decide), if_neg (by rw [f3]; decide), if_neg (by rw [f4]; decide), if_pos e]
    rw [ec, ea] at hin
    rw [ec, ea]
    exact hsy.mono (fun o w2 hc => ⟨fun e => absurd rfl e, fun _ => ⟨hc.1, hc.2.up (Int.le_refl _) (Nat.zero_le _)⟩⟩)
  have K6 : Hid ((x.kind.toList == [119, 114, 105, 116, 101]) = false → (x.kind.toList == [97, 112, 112, 101, 110, 100]) = false → (x.kind.toList == [109, 97, 107, 101]) = false → (x.kind.toList == [109, 111, 118, 101]) = false → (x.kind.toList == [114, 101, 109, 111, 118, 101]) = false → (x.kind.toList == [115, 121, 110, 99]) = false → Acted w (wx.alloc (.cells #[.string x.kind, .string x.s, .string x.t, .int .i64 x.a, .int .i64 x.b, .int .i64 k5, .int .i64 k6, .string s7, .slice a8 n8 p8, .slice a9 n9 p9, .slice an x.nn cn] 58)) g vw G D b m (D.code x) (D.after x) (.returned .nilIface)) := by
    intro f0 f1 f2 f3 f4 f5
    have ec : D.code x = 0 := by unfold Dk.code; rw [if_neg (by rw [f0]; decide), if_neg (by rw [f1]; decide), if_neg (by rw [f2]; decide), if_neg (by rw [f3]; decide), if_neg (by rw [f4]; decide)]
    have ea : D.after x = D := by unfold Dk.after; rw [if_neg (by rw [f0]; decide), if_neg (by rw [f1]; decide), if_neg (by rw [f2]; decide), if_neg (by rw [f3]; decide), if_neg (by rw [f4]; decide), if_neg (by rw [f5]; decide)]
    rw [ec, ea]
    exact ⟨fun e => absurd rfl e, fun _ => ⟨rfl, HK.out.up (by omega) (Nat.le_succ m)⟩⟩
  clear h hsy h1 h2 h3 h4 h5 hin hst hlf hF hch hgt hB HK
  cases q0 : (x.kind.toList == [119, 114, 105, 116, 101]) with
  | true =>
    have HC := hide (K0.out q0)
    clear K0 K1 K2 K3 K4 K5 K6
    go_enter Try.func54, Try.ntmps54
    go_wp2_with fail
    refine HC.out.mono ?_
    rintro o w2 hact
    obtain ⟨u, rfl, hu⟩ := hact.ends
    have HACT := hide hact
    clear hact
    rcases hu with rfl | ⟨e, rfl⟩
    all_goals
      go_wp2_with fail
      go_ret
      exact HACT.out
  | false =>
    cases q1 : (x.kind.toList == [97, 112, 112, 101, 110, 100]) with
    | true =>
      have HC := hide (K1.out q0 q1)
      clear K0 K1 K2 K3 K4 K5 K6
      go_enter Try.func54, Try.ntmps54
      go_wp2_with fail
      refine HC.out.mono ?_
      rintro o w2 hact
      obtain ⟨u, rfl, hu⟩ := hact.ends
      have HACT := hide hact
      clear hact
      rcases hu with rfl | ⟨e, rfl⟩
      all_goals
        go_wp2_with fail
        go_ret
        exact HACT.out
    | false =>
      cases q2 : (x.kind.toList == [109, 97, 107, 101]) with
      | true =>
        have HC := hide (K2.out q0 q1 q2)
        clear K0 K1 K2 K3 K4 K5 K6
        go_enter Try.func54, Try.ntmps54
        go_wp2_with fail
        refine HC.out.mono ?_
        rintro o w2 hact
        obtain ⟨u, rfl, hu⟩ := hact.ends
        have HACT := hide hact
        clear hact
        rcases hu with rfl | ⟨e, rfl⟩
        all_goals
          go_wp2_with fail
          go_ret
          exact HACT.out
      | false =>
        cases q3 : (x.kind.toList == [109, 111, 118, 101]) with
        | true =>
          have HC := hide (K3.out q0 q1 q2 q3)
          clear K0 K1 K2 K3 K4 K5 K6
          go_enter Try.func54, Try.ntmps54
          go_wp2_with fail
          refine HC.out.mono ?_
          rintro o w2 hact
          obtain ⟨u, rfl, hu⟩ := hact.ends
          have HACT := hide hact
          clear hact
          rcases hu with rfl | ⟨e, rfl⟩
          all_goals
            go_wp2_with fail
            go_ret
            exact HACT.out
        | false =>
          cases q4 : (x.kind.toList == [114, 101, 109, 111, 118, 101]) with
          | true =>
            have HC := hide (K4.out q0 q1 q2 q3 q4)
            clear K0 K1 K2 K3 K4 K5 K6
            go_enter Try.func54, Try.ntmps54
            go_wp2_with fail
            refine HC.out.mono ?_
            rintro o w2 hact
            obtain ⟨u, rfl, hu⟩ := hact.ends
            have HACT := hide hact
            clear hact
            rcases hu with rfl | ⟨e, rfl⟩
            all_goals
              go_wp2_with fail
              go_ret
              exact HACT.out
          | false =>
            cases q5 : (x.kind.toList == [115, 121, 110, 99]) with
            | true =>
              have HC := hide (K5.out q0 q1 q2 q3 q4 q5)
              clear K0 K1 K2 K3 K4 K5 K6
              go_enter Try.func54, Try.ntmps54
              go_wp2_with fail
              refine HC.out.mono ?_
              rintro o w2 hact
              obtain ⟨u, rfl, hu⟩ := hact.ends
              have HACT := hide hact
              clear hact
              rcases hu with rfl | ⟨e, rfl⟩
              all_goals
                go_wp2_with fail
                go_ret
                exact HACT.out
            | false =>
              have HA := hide (K6.out q0 q1 q2 q3 q4 q5)
              clear K0 K1 K2 K3 K4 K5 K6
              go_enter Try.func54, Try.ntmps54
              go_wp2_with fail
              go_ret
              exact HA.out
end Go.Proofs.Ytmlbcdofogffkab
