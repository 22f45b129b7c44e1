/- For WalogSays: the state that its loop keeps, and what each call makes of it. -/
import Derived.Test.YtmlbcdofogffkabEF
import Derived.Deep.Upon
namespace Go.Proofs.Ytmlbcdofogffkab
open Go.RowKit
attribute [local go_sem ↓] Go.wp_at_zero Go.wp_at_succ
/-- The file's name. -/
def nj : ByteArray := ⟨#[106]⟩
theorem may_nj : N.may nj = true := by decide
/-- A disk with a log of the records L in its one file, and a row that holds the texts G, in blocks that are new since w. -/
def Lp (w wx : World) (g q : Nat) (vw : Value) (L G : List ByteArray) (b : Int) : Prop :=
  ∃ B B2 D, Disk wx B g D ∧ Logs wx B2 q g nj L ∧ Fil nj D (N.frames L) b ∧ (∀ x, B x → w.heap.size ≤ x ∧ x < wx.heap.size) ∧ (∀ x, B2 x → w.heap.size ≤ x ∧ x < wx.heap.size) ∧ (∀ x, B2 x → ¬ B x) ∧
    Beside w.heap.size wx (fun x => B x ∨ B2 x) vw G ∧ Fr w wx (fun _ => False) ∧ (∀ r ∈ L, r.size ≤ 400) ∧ N.size L ≤ 4000
theorem Lp.fr {w wx : World} {g q : Nat} {vw : Value} {L G : List ByteArray} {b : Int} (h : Lp w wx g q vw L G b) : Fr w wx (fun _ => False) := by
  obtain ⟨B, B2, D, _, _, _, _, _, _, _, h8, _⟩ := h; exact h8
theorem Lp.kept {w wx w2 : World} {g q : Nat} {vw : Value} {L G : List ByteArray} {b : Int} (h : Lp w wx g q vw L G b) (hf : Fr wx w2 (fun _ => False)) : Lp w w2 g q vw L G b := by
  obtain ⟨B, B2, D, h1, h2, h3, h4, h5, h6, h7, h8, h9⟩ := h
  have hs := hf.size
  exact ⟨B, B2, D, h1.fr hf (fun _ _ e => e), h2.fr hf (fun _ _ e => e), h3, fun x hx => ⟨(h4 x hx).1, by have := (h4 x hx).2; omega⟩, fun x hx => ⟨(h5 x hx).1, by have := (h5 x hx).2; omega⟩, h6, h7.fr hf (fun c e => e.elim) (fun c e => .inl e), h8.trans hf (fun _ _ e => e), h9⟩
theorem Lp.len {w wx : World} {g q : Nat} {vw : Value} {L G : List ByteArray} {b : Int} (h : Lp w wx g q vw L G b) : L.length ≤ 4000 := by
  obtain ⟨B, B2, D, _, _, _, _, _, _, _, _, _, h10⟩ := h
  exact Nat.le_trans (N.size_ge L) h10
/-- Another row, in new blocks. -/
theorem Lp.turn {w wx w2 : World} {g q : Nat} {vw v2 : Value} {L G G2 : List ByteArray} {b : Int} (h : Lp w wx g q vw L G b) (hf : Fr wx w2 (fun _ => False)) (ho : w2.ownsRow wx.heap.size 9 1 v2 G2.length (strs G2)) : Lp w w2 g q v2 L G2 b := by
  obtain ⟨B, B2, D, h1, h2, h3, h4, h5, h6, h7, h8, h9⟩ := h
  have hs := hf.size
  have h0 := h8.size
  refine ⟨B, B2, D, h1.fr hf (fun _ _ e => e), h2.fr hf (fun _ _ e => e), h3, fun x hx => ⟨(h4 x hx).1, by have := (h4 x hx).2; omega⟩, fun x hx => ⟨(h5 x hx).1, by have := (h5 x hx).2; omega⟩, h6, ⟨⟨ho.1, ?_⟩, ?_⟩, h8.trans hf (fun _ _ e => e), h9⟩
  · rcases ho.2 with a | ⟨gr, cap, cur, a1, a2, a3⟩
    · exact .inl a
    · exact .inr ⟨gr, cap, cur, a1, by omega, a3⟩
  · intro c hc
    rcases ho.2 with ⟨a, _⟩ | ⟨gr, cap, cur, a1, a2, a3, _⟩
    · rw [a] at hc; cases hc
    · rw [a1] at hc
      have : c = gr := by simp [Value.ownBlock] at hc; omega
      subst this
      exact ⟨(Array.getElem?_eq_some_iff.1 a3).1, fun e => by
        rcases e with e | e
        · have := (h4 c e).2; omega
        · have := (h5 c e).2; omega⟩
/-- The row is let go. -/
theorem Lp.letgo {w wx : World} {g q : Nat} {vw : Value} {L G : List ByteArray} {b : Int} (h : Lp w wx g q vw L G b) : Lp w wx g q (.slice none 0 0) L [] b := h.turn (Fr.refl _ _) (World.ownsRow_nil ..)
theorem Lp.up {w wx : World} {g q : Nat} {vw : Value} {L G : List ByteArray} {b b2 : Int} (h : Lp w wx g q vw L G b) (hb : b ≤ b2) : Lp w wx g q vw L G b2 := by
  obtain ⟨B, B2, D, h1, h2, h3, h4⟩ := h
  exact ⟨B, B2, D, h1, h2, ⟨h3.files, h3.chg, h3.down, ⟨h3.steps.1, by have := h3.steps.2; omega⟩, h3.left⟩, h4⟩
theorem Lp.strs {w wx : World} {g q : Nat} {vw : Value} {L G : List ByteArray} {b : Int} (h : Lp w wx g q vw L G b) : Strs wx vw G := by
  obtain ⟨B, B2, D, _, _, _, _, _, _, h7, _⟩ := h
  exact h7.strs
theorem Lp.reads {w wx : World} {g q : Nat} {vw : Value} {L G : List ByteArray} {b : Int} (h : Lp w wx g q vw L G b) :
    Calls Try.prog 31 #[.pointer (some ⟨g, 0, none⟩), .string nj] wx fun o w2 => o = .returned (.tuple #[.string (N.frames L), .nilIface]) ∧ Lp w w2 g q vw L G b := by
  obtain ⟨B, B2, D, h1, h2, h3, h4⟩ := id h
  refine (read_any wx B g D nj h1).mono ?_
  rintro o w2 ⟨rfl, hf⟩
  have e : D.read nj = (N.frames L, 0) := by unfold Dk.read; rw [if_neg (by rw [h3.down]; decide), h3.files, get_oneN]
  rw [e]
  exact ⟨rfl, h.kept hf⟩
theorem Lp.frames {w wx : World} {g q : Nat} {vw : Value} {L G : List ByteArray} {b : Int} (h : Lp w wx g q vw L G b) (s : ByteArray) (hs : s.size ≤ 400) :
    Calls Try.prog 48 #[.string s] wx fun o w2 => o = .returned (.string (N.frame s)) ∧ Lp w w2 g q vw L G b := by
  refine (refFramed_any s wx (by omega)).mono ?_
  rintro o w2 ⟨rfl, hf⟩
  exact ⟨rfl, h.kept hf⟩
theorem Lp.size {w wx : World} {g q : Nat} {vw : Value} {L G : List ByteArray} {b : Int} (h : Lp w wx g q vw L G b) :
    Calls Try.prog 49 #[.pointer (some ⟨q, 0, none⟩)] wx fun o w2 => o = .returned (.int .i64 (N.size L)) ∧ w2 = wx := by
  obtain ⟨B, B2, D, h1, h2, h3, h4⟩ := h
  exact size_any wx B2 q g nj L h2
set_option maxRecDepth 100000 in
set_option maxHeartbeats 400000 in
theorem clone_none (w : World) : Calls Try.prog 97 #[.slice none 0 0] w fun o w' => o = .returned (.slice none 0 0) ∧ w' = w := by
  have hen : (binOp BinOp.eql 27 (.slice none 0 0) (.slice none 0 0)).run Try.prog w = .ok (.bool true) w := by kernel_rfl
  go_enter Try.func97, Try.ntmps97
  go_wp2_with fail
  go_ret
  exact ⟨rfl, rfl⟩
set_option maxRecDepth 100000 in
set_option maxHeartbeats 400000 in
theorem clone_empty (w : World) (gr cap : Nat) : Calls Try.prog 97 #[.slice (some ⟨gr, 0, none⟩) 0 cap] w fun o w' => (∃ u, o = .returned u ∧ Strs w' u []) ∧ Fr w w' (fun _ => False) := by
  have hen := eq_nil gr 0 cap w
  obtain ⟨i0, hi0, hz0, hz1, hz2⟩ := info_parts info9
  have hrun : ∀ W : World, (Builtin.append_ #[27, 27] 27 #[.slice (some ⟨w.heap.size, 0, none⟩) 0 0, .slice (some ⟨gr, 0, none⟩) 0 cap]).run Try.prog W = .ok (.slice (some ⟨w.heap.size, 0, none⟩) 0 0) W := by
    intro W
    exact run_append_nothing W 27 27 27 9 i0 u27 hi0 (some ⟨w.heap.size, 0, none⟩) 0 0 (Nat.le_refl _) _ (Src.ofSlice W u27 ⟨gr, 0, none⟩ 0 cap [] (by simp) (fun j u h => by simp at h) (fun u h => by cases h))
  go_enter Try.func97, Try.ntmps97
  go_wp2_with fail
  go_ret
  exact ⟨⟨_, rfl, some ⟨w.heap.size, 0, none⟩, 0, rfl, .inl rfl⟩, (Fr.refl _ _).alloc _⟩
set_option maxRecDepth 100000 in
theorem records_none (w : World) (B : Nat → Prop) (q g : Nat) (n : ByteArray) (h : Logs w B q g n []) :
    Calls Try.prog 51 #[.pointer (some ⟨q, 0, none⟩)] w fun o w' => (∃ u, o = .returned u ∧ Strs w' u []) ∧ Fr w w' (fun _ => False) := by
  obtain ⟨rv, h1, h2, h3, h4⟩ := h
  have c2 := cell_of_block h1 2 _ rfl
  have hc : Calls Try.prog 97 #[rv] w fun o w' => (∃ u, o = .returned u ∧ Strs w' u []) ∧ Fr w w' (fun _ => False) := by
    rcases h2.2 with ⟨rfl, _⟩ | ⟨gr, cap, cur, rfl, _⟩
    · refine (clone_none w).mono ?_
      rintro o w' ⟨rfl, rfl⟩
      exact ⟨⟨_, rfl, none, 0, rfl, .inl rfl⟩, Fr.refl _ _⟩
    · exact clone_empty w gr cap
  obtain ⟨av, cp, rfl⟩ := owns_shape h2
  have HC := hide hc
  clear hc h1 h2 h3 h4
  go_enter Try.func51, Try.ntmps51
  go_wp2_with fail
  refine HC.out.mono ?_
  rintro o w1 ⟨⟨u, rfl, ho⟩, hf⟩
  obtain ⟨a2, c3, rfl, _⟩ := id ho
  have HO := hide ho
  have HF := hide hf
  clear ho hf
  go_wp2_with fail
  go_ret
  exact ⟨⟨_, rfl, HO.out⟩, HF.out⟩
theorem Lp.records {w wx : World} {g q : Nat} {vw : Value} {L G : List ByteArray} {b : Int} (h : Lp w wx g q vw L G b) :
    Calls Try.prog 51 #[.pointer (some ⟨q, 0, none⟩)] wx fun o w2 => ∃ u, o = .returned u ∧ Strs w2 u L ∧ Lp w w2 g q vw L G b := by
  have hl := h.len
  obtain ⟨B, B2, D, h1, h2, h3, h4⟩ := id h
  cases hL : L with
  | nil =>
    rw [hL] at h2
    refine (records_none wx B2 q g nj h2).mono ?_
    rintro o w2 ⟨⟨u, ho, hs⟩, hf⟩
    exact ⟨u, ho, hs, by rw [← hL]; exact h.kept hf⟩
  | cons a t =>
    refine (records_any wx B2 q g nj L h2 (by rw [hL]; simp) (by omega)).mono ?_
    rintro o w2 ⟨u, ho, hown, hf⟩
    exact ⟨u, ho, by rw [← hL]; exact Strs.of_owns hown, by rw [← hL]; exact h.kept hf⟩
theorem Lp.same {w wx : World} {g q : Nat} {vw u : Value} {L : List ByteArray} {b : Int} (h : Lp w wx g q vw L L b) (hu : Strs wx u L) :
    Calls Try.prog 50 #[u, vw] wx fun o w2 => o = .returned (.bool true) ∧ Lp w w2 g q vw L L b := by
  have hl := h.len
  refine (sameTexts_any L L u vw wx (by omega) hu h.strs).mono ?_
  rintro o w2 ⟨⟨c, rfl, hc⟩, hB⟩
  exact ⟨by rw [hc rfl], h.kept (fr_below hB)⟩
theorem Lp.cut {w wx w2 : World} {B B2 : Nat → Prop} {g q : Nat} {vw : Value} {L2 G : List ByteArray} {D2 : Dk} {b2 : Int} (h4 : ∀ x, B x → w.heap.size ≤ x ∧ x < wx.heap.size) (h5 : ∀ x, B2 x → w.heap.size ≤ x ∧ x < wx.heap.size) (h7 : Beside w.heap.size wx (fun x => B x ∨ B2 x) vw G) (h8 : Fr w wx (fun _ => False))
    (hb : Both wx w2 B B2 q g nj D2 L2) (hf : Fr wx w2 (fun x => B x ∨ B2 x)) (hfil : Fil nj D2 (N.frames L2) b2) (hL : ∀ r ∈ L2, r.size ≤ 400) (hz : N.size L2 ≤ 4000) : Lp w w2 g q vw L2 G b2 := by
  obtain ⟨B', B2', d1, d2, d3, d4, d5⟩ := hb
  have hs := h8.size
  refine ⟨B', B2', D2, d1, d2, hfil, fun x hx => ⟨?_, (d3 x hx).2⟩, fun x hx => ⟨?_, (d4 x hx).2⟩, d5, h7.fr hf (fun c e => .inl e) (fun c e => ?_), h8.trans hf (fun c hc e => ?_), hL, hz⟩
  · rcases (d3 x hx).1 with h | h
    · exact (h4 x h).1
    · omega
  · rcases (d4 x hx).1 with h | h
    · exact (h5 x h).1
    · omega
  · rcases e with e | e
    · rcases (d3 c e).1 with h | h
      · exact .inl (.inl h)
      · exact .inr h
    · rcases (d4 c e).1 with h | h
      · exact .inl (.inr h)
      · exact .inr h
  · rcases e with e | e
    · have := (h4 c e).1; omega
    · have := (h5 c e).1; omega
theorem Lp.adds {w wx : World} {g q : Nat} {vw : Value} {L G : List ByteArray} {b : Int} (h : Lp w wx g q vw L G b) (s : ByteArray) (hs : s.size ≤ 400) (hz : N.size L + s.size + 6 ≤ 4000) (hb : b ≤ 9000) :
    Calls Try.prog 52 #[.pointer (some ⟨q, 0, none⟩), .string s] wx fun o w2 => o = .returned .nilIface ∧ Lp w w2 g q vw (L ++ [s]) G (b + 2) := by
  have hlen := h.len
  obtain ⟨B, B2, D, h1, h2, h3, h4, h5, h6, h7, h8, h9, h10⟩ := h
  have hc : (⟨1, nj, ⟨#[]⟩, N.head s ++ s⟩ : Ch).byte (N.frames L) = N.frames (L ++ [s]) := by rw [N.frames_append]; rfl
  have hcs : (N.head s ++ s).size = 6 + s.size := by rw [ByteArray.size_append, N.head_size]
  have hfs : (N.frames L).size = N.size L := N.frames_size L
  have hfs2 : (N.frames (L ++ [s])).size = N.size L + (6 + s.size) := by rw [N.frames_size, N.size_append]
  have hm : D.more nj (N.head s ++ s) = 0 := by
    unfold Dk.more
    rw [hcs, if_neg (by omega)]
    refine fitN may_nj ?_ (by rw [h3.files]; simp)
    rw [h3.files, get_oneN, Option.getD_some, hfs]; omega
  refine (add_any wx B B2 q g nj s L D h1 h2 (fun x hx => (h4 x hx).2) (fun x hx => (h5 x hx).2) h6 (h3.fits (by omega) (by omega)) (by decide) hs ⟨by omega, by omega⟩ (h3.did_fits _ rfl (.inr rfl) hb (by omega) (by show (N.head s ++ s).size ≤ _; omega) (by rw [hc]; omega))).mono ?_
  rintro o w2 ⟨ha, hf⟩
  rcases ha with ⟨k, _⟩ | ⟨_, ⟨k, _⟩ | ⟨_, k, _⟩ | ⟨_, _, rfl, hB⟩⟩
  · exact absurd hm k
  · exact absurd k h3.not_fails
  · exact absurd k (h3.did_not _)
  · refine ⟨rfl, Lp.cut h4 h5 h7 h8 hB hf ?_ ?_ ?_⟩
    · rw [← hc]; exact h3.wrote _ rfl
    · intro r hr
      rcases List.mem_append.1 hr with hr | hr
      · exact h9 r hr
      · have : r = s := by simpa using hr
        rw [this]; exact hs
    · rw [N.size_append]; omega
set_option maxRecDepth 100000 in
theorem add_long (w : World) (q : Nat) (s : ByteArray) (hs : 400 < s.size) :
    Calls Try.prog 52 #[.pointer (some ⟨q, 0, none⟩), .string s] w fun o w2 => o = .returned (.iface 128 (.int .i64 2)) ∧ w2 = w := by
  have g4 : (400 : Int) < s.size := by omega
  go_enter Try.func52, Try.ntmps52
  go_wp2_with fail
  go_ret
  exact ⟨rfl, rfl⟩
theorem Lp.refuses {w wx : World} {g q : Nat} {vw : Value} {L G : List ByteArray} {b : Int} (h : Lp w wx g q vw L G b) (s : ByteArray) (hz : 400 < s.size ∨ 4000 < N.size L + s.size + 6) (hb : b ≤ 9000) :
    Calls Try.prog 52 #[.pointer (some ⟨q, 0, none⟩), .string s] wx fun o w2 => o = .returned (.iface 128 (.int .i64 2)) ∧ Lp w w2 g q vw L G b := by
  have hlen := h.len
  by_cases hs : 400 < s.size
  · refine (add_long wx q s hs).mono ?_
    rintro o w2 ⟨ho, rfl⟩
    exact ⟨ho, h⟩
  · have hz2 : 4000 < N.size L + s.size + 6 := by omega
    obtain ⟨B, B2, D, h1, h2, h3, h4, h5, h6, h7, h8, h9, h10⟩ := h
    have hc : (⟨1, nj, ⟨#[]⟩, N.head s ++ s⟩ : Ch).byte (N.frames L) = N.frames (L ++ [s]) := by rw [N.frames_append]; rfl
    have hcs : (N.head s ++ s).size = 6 + s.size := by rw [ByteArray.size_append, N.head_size]
    have hfs : (N.frames L).size = N.size L := N.frames_size L
    have hfs2 : (N.frames (L ++ [s])).size = N.size L + (6 + s.size) := by rw [N.frames_size, N.size_append]
    have hm : D.more nj (N.head s ++ s) = 2 := by
      unfold Dk.more
      rw [hcs, if_neg (by omega)]
      unfold Dk.fit
      rw [if_neg (by rw [may_nj]; decide), if_pos]
      rw [h3.files, get_oneN, Option.getD_some, hfs]
      exact .inl (by omega)
    refine (add_any wx B B2 q g nj s L D h1 h2 (fun x hx => (h4 x hx).2) (fun x hx => (h5 x hx).2) h6 (h3.fits (by omega) (by omega)) (by decide) (by omega) ⟨by omega, by omega⟩ (h3.did_fits _ rfl (.inr rfl) hb (by omega) (by show (N.head s ++ s).size ≤ _; omega) (by rw [hc]; omega))).mono ?_
    rintro o w2 ⟨ha, hf⟩
    rw [hm] at ha
    rcases ha with ⟨_, rfl, hB⟩ | ⟨k, _⟩
    · exact ⟨rfl, Lp.cut h4 h5 h7 h8 hB hf h3 h9 h10⟩
    · cases k
theorem Lp.clears {w wx : World} {g q : Nat} {vw : Value} {L G : List ByteArray} {b : Int} (h : Lp w wx g q vw L G b) (hb : b ≤ 9000) :
    Calls Try.prog 53 #[.pointer (some ⟨q, 0, none⟩)] wx fun o w2 => o = .returned .nilIface ∧ Lp w w2 g q vw [] G (b + 2) := by
  obtain ⟨B, B2, D, h1, h2, h3, h4, h5, h6, h7, h8, h9, h10⟩ := h
  have hfs : (N.frames L).size = N.size L := N.frames_size L
  refine (clear_any wx B B2 q g nj L D h1 h2 (fun x hx => (h4 x hx).2) (fun x hx => (h5 x hx).2) h6 (h3.fits (by omega) (by omega)) (by decide) (h3.did_fits _ rfl (.inl rfl) hb (by omega) (by show (0 : Nat) ≤ _; omega) (by show (0 : Nat) ≤ _; omega)) (fitN may_nj (by omega) (by rw [h3.files]; simp)) h3.not_fails (h3.did_not _)).mono ?_
  rintro o w2 ⟨rfl, hB, hf⟩
  exact ⟨rfl, Lp.cut h4 h5 h7 h8 hB hf (h3.wrote (clrCh nj) rfl) (fun r hr => by cases hr) (by show (0 : Nat) ≤ _; omega)⟩
theorem Lp.opens {w wx : World} {g q : Nat} {vw : Value} {L G : List ByteArray} {b : Int} (h : Lp w wx g q vw L G b) (hb : b ≤ 9000) :
    Calls Try.prog 46 #[.pointer (some ⟨g, 0, none⟩), .string nj] wx fun o w2 => ∃ q2, o = .returned (.tuple #[.pointer (some ⟨q2, 0, none⟩), .nilIface]) ∧ Lp w w2 g q2 vw L G (b + 2) := by
  obtain ⟨B, B2, D, h1, h2, h3, h4, h5, h6, h7, h8, h9, h10⟩ := h
  have hfs : (N.frames L).size = N.size L := N.frames_size L
  have hall : N.all (N.frames L) = L := N.all_whole L h9
  obtain ⟨hcut, hop⟩ := h3.opens may_nj hb (by omega) (by rw [hall]; omega)
  rw [hall] at hop
  refine (open_any wx B g nj D h1 (fun x hx => (h4 x hx).2) (h3.fits (by omega) (by omega)) (by decide) may_nj h3.down hcut).mono ?_
  rintro o w2 ⟨⟨q2, rfl, hB⟩, hf⟩
  rw [h3.bytes, hall] at hB
  refine ⟨q2, rfl, ?_⟩
  have h7b : Beside w.heap.size wx (fun x => B x ∨ (fun _ => False) x) vw G := ⟨h7.1, fun c hc => ⟨(h7.2 c hc).1, fun e => (h7.2 c hc).2 (e.elim .inl False.elim)⟩⟩
  exact Lp.cut (B2 := fun _ => False) h4 (fun x hx => hx.elim) h7b h8 hB (hf.weak (fun _ _ e => .inl e)) hop h9 h10
/-- The disk with a file of any bytes. -/
def Writ (w wx : World) (g : Nat) (X : ByteArray) : Prop := ∃ B D, Disk wx B g D ∧ Fil nj D X 1 ∧ (∀ x, B x → w.heap.size ≤ x ∧ x < wx.heap.size) ∧ Fr w wx (fun _ => False) ∧ X.size ≤ 4000
theorem Writ.kept {w wx w2 : World} {g : Nat} {X : ByteArray} (h : Writ w wx g X) (hf : Fr wx w2 (fun _ => False)) : Writ w w2 g X := by
  obtain ⟨B, D, h1, h2, h3, h4, h5⟩ := h
  have hs := hf.size
  exact ⟨B, D, h1.fr hf (fun _ _ e => e), h2, fun x hx => ⟨(h3 x hx).1, by have := (h3 x hx).2; omega⟩, h4.trans hf (fun _ _ e => e), h5⟩
theorem new_writes {w w1 : World} {g : Nat} {X : ByteArray} (hD : Disk w1 (fun c => w.heap.size ≤ c) g Dk.new) (hf : Fr w w1 (fun _ => False)) (hX : X.size ≤ 4000) :
    Calls Try.prog 23 #[.pointer (some ⟨g, 0, none⟩), .string nj, .string X] w1 fun o w2 => o = .returned .nilIface ∧ Writ w w2 g X := by
  have hD2 := hD.shrink
  refine (write_any w1 _ g Dk.new nj X hD2 (fun x hx => hx.2) (by decide) (by decide) (by decide) (by decide) ⟨by omega, by decide⟩ (by decide)).mono ?_
  rintro o w2 hch
  have hk : Dk.new.fit nj X.size = 0 := fitN may_nj (by omega) (by decide)
  rcases hch with ⟨k, _⟩ | ⟨_, hdo, hfr⟩
  · exact absurd hk k
  · rcases hdo with ⟨k, _⟩ | ⟨_, rfl, B', hD', hB'⟩
    · exact absurd k new_not
    · have hs := hf.size
      have hs2 := hfr.size
      refine ⟨rfl, _, _, hD'.shrink, new_fil nj X, fun x hx => ⟨?_, hx.2⟩, hf.trans hfr (fun c hc e => by have := e.1; omega), hX⟩
      rcases hB' x hx.1 with h | h
      · exact h.1
      · omega
theorem Writ.opens {w wx : World} {g : Nat} {X : ByteArray} (h : Writ w wx g X) (hz : N.size (N.all X) ≤ X.size) :
    Calls Try.prog 46 #[.pointer (some ⟨g, 0, none⟩), .string nj] wx fun o w2 => ∃ q, o = .returned (.tuple #[.pointer (some ⟨q, 0, none⟩), .nilIface]) ∧ Lp w w2 g q (.slice none 0 0) (N.all X) [] 3 := by
  obtain ⟨B, D, h1, h2, h3, h4, h5⟩ := h
  obtain ⟨hcut, hop⟩ := h2.opens may_nj (by omega) (by omega) hz
  refine (open_any wx B g nj D h1 (fun x hx => (h3 x hx).2) (h2.fits (by omega) (by omega)) (by decide) may_nj h2.down hcut).mono ?_
  rintro o w2 ⟨⟨q, rfl, hB⟩, hf⟩
  rw [h2.bytes] at hB
  refine ⟨q, rfl, ?_⟩
  exact Lp.cut (B2 := fun _ => False) (b2 := 3) h3 (fun x hx => hx.elim) ⟨World.ownsRow_nil .., fun c hc => by cases hc⟩ h4 hB (hf.weak (fun _ _ e => .inl e)) hop (N.all_small X) (by omega)
set_option maxRecDepth 100000 in
theorem open_no (w : World) (g : Nat) :
    Calls Try.prog 46 #[.pointer (some ⟨g, 0, none⟩), .string ⟨#[74]⟩] w fun o w2 => o = .returned (.tuple #[.pointer none, .iface 128 (.int .i64 3)]) ∧ w2 = w := by
  have hnm := name_any ⟨#[74]⟩ w (by decide)
  rw [show N.may ⟨#[74]⟩ = false by decide] at hnm
  have HNM := hide hnm
  clear hnm
  go_enter Try.func46, Try.ntmps46
  go_wp2_with fail
  refine HNM.out.mono ?_
  rintro o w' ⟨rfl, hw⟩
  rw [hw]
  clear hw w'
  go_wp2_with fail
  go_ret2
  exact ⟨rfl, rfl⟩
end Go.Proofs.Ytmlbcdofogffkab
