/- For WalogSays: notes. -/
import Derived.Test.YtmlbcdofogffkabEJ
namespace Go.Proofs.Ytmlbcdofogffkab
open Go.RowKit
attribute [local go_sem ↓] Go.wp_at_zero Go.wp_at_succ
/-- The change that Add makes. -/
def addJ (s : ByteArray) : Ch := ⟨1, nj, ⟨#[]⟩, N.head s ++ s⟩
theorem newj_fits : Dk.new.Fits nj := ⟨by decide, by decide, by decide, by decide, by decide, fun c hc => (by cases hc), fun k c hc => (by cases hc)⟩
theorem newj_opened : N.all (Dk.new.bytes nj) = [] ∧ ¬ N.size (N.all (Dk.new.bytes nj)) < (Dk.new.bytes nj).size ∧ Dk.new.opened nj = Dk.new := by
  have hb : Dk.new.bytes nj = ⟨#[]⟩ := rfl
  have hall : N.all (Dk.new.bytes nj) = [] := by rw [hb]; exact N.all_whole [] (fun r hr => by cases hr)
  have hn : ¬ N.size (N.all (Dk.new.bytes nj)) < (Dk.new.bytes nj).size := by rw [hall, hb]; decide
  exact ⟨hall, hn, by unfold Dk.opened; rw [if_neg hn]⟩
theorem newj_more (s : ByteArray) (hs : s.size ≤ 400) : Dk.new.more nj (N.head s ++ s) = 0 := by
  unfold Dk.more
  have e : (N.head s ++ s).size = 6 + s.size := by rw [ByteArray.size_append, N.head_size]
  rw [e, if_neg (by omega)]
  refine fitN may_nj ?_ (by decide)
  show ((0 : Nat) : Int) + _ ≤ _
  omega
theorem newj_did (s : ByteArray) : (Dk.new.did (addJ s)).files = [(nj, N.frames [s])] := by
  show M.put [] nj (⟨#[]⟩ ++ (N.head s ++ s)) = _
  rw [N.empty_append]
  show _ = [(nj, N.frame s ++ ⟨#[]⟩)]
  rw [N.append_empty]; rfl
theorem newj_did_fits (s : ByteArray) (hs : s.size ≤ 400) : (Dk.new.did (addJ s)).Fits nj := by
  have e : (N.head s ++ s).size = 6 + s.size := by rw [ByteArray.size_append, N.head_size]
  refine ⟨(show (0 : Int) ≤ 0 + 1 ∧ (0 : Int) + 1 ≤ 100000 by decide), (show -9223372036854775808 ≤ (if (0 : Int) < -1 then (-1 : Int) - 1 else -1) ∧ (if (0 : Int) < -1 then (-1 : Int) - 1 else -1) ≤ 9223372036854775807 by decide), by rw [newj_did]; simp, ?_, (show 1 ≤ 1000 by decide), ?_, ?_⟩
  · rw [newj_did, get_oneN, Option.getD_some, N.frames_size]
    show 6 + s.size + 0 ≤ _
    omega
  · intro c hc
    have hc2 : c ∈ [addJ s] := hc
    have : c = addJ s := by simpa using hc2
    rw [this]; exact .inr rfl
  · intro k c hc
    have hc2 : [addJ s][k]? = some c := hc
    have hk : k = 0 := by have := (List.getElem?_eq_some_iff.1 hc2).1; simp at this; omega
    subst hk
    have hcc : addJ s = c := by simpa using hc2
    subst hcc
    refine ⟨?_, ?_⟩
    · show (N.head s ++ s).size ≤ _
      omega
    · show (0 : Nat) ≤ _
      omega
theorem newj_wrote (s : ByteArray) : Fil nj (Dk.new.wrote (addJ s)) (N.frames [s]) 2 := by
  have hf := newj_did s
  exact ⟨hf, .inl ⟨hf, rfl⟩, rfl, (show (0 : Int) ≤ 0 + 1 + 1 ∧ (0 : Int) + 1 + 1 ≤ 2 by decide), step_m1 (D := Dk.new.did (addJ s)) (step_m1 (D := Dk.new) rfl)⟩
theorem newj_did_not (s : ByteArray) : ¬ (Dk.new.did (addJ s)).fails := fun h => by
  rcases h with h | h
  · have : (Dk.new.did (addJ s)).left = -1 := step_m1 (D := Dk.new) rfl
    rw [this] at h; cases h
  · cases h
/-- The new disk, and an empty log on it. -/
def Nwj (w wx : World) (g q : Nat) : Prop := ∃ B B2, Disk wx B g Dk.new ∧ Logs wx B2 q g nj [] ∧ (∀ x, B x → w.heap.size ≤ x ∧ x < wx.heap.size) ∧ (∀ x, B2 x → w.heap.size ≤ x ∧ x < wx.heap.size) ∧ (∀ x, B2 x → ¬ B x) ∧ Fr w wx (fun _ => False)
theorem new_opens {w w1 : World} {g : Nat} (hD : Disk w1 (fun c => w.heap.size ≤ c) g Dk.new) (hf : Fr w w1 (fun _ => False)) :
    Calls Try.prog 46 #[.pointer (some ⟨g, 0, none⟩), .string nj] w1 fun o w2 => ∃ q, o = .returned (.tuple #[.pointer (some ⟨q, 0, none⟩), .nilIface]) ∧ Nwj w w2 g q := by
  have hop := open_any w1 _ g nj Dk.new hD.shrink (fun x hx => hx.2) newj_fits (by decide) may_nj rfl (fun h => absurd h newj_opened.2.1)
  rw [newj_opened.1, newj_opened.2.2] at hop
  refine hop.mono ?_
  rintro o w2 ⟨⟨q, rfl, B', B2', hD2, hL2, hB2, hBl2, hdis2⟩, hf2⟩
  have hs := hf.size
  refine ⟨q, rfl, B', B2', hD2, hL2, fun x hx => ⟨?_, (hB2 x hx).2⟩, fun x hx => ⟨?_, (hBl2 x hx).2⟩, hdis2, hf.trans hf2 (fun x hx e => by omega)⟩
  · rcases (hB2 x hx).1 with h | h
    · exact h.1
    · omega
  · rcases (hBl2 x hx).1 with h | h
    · exact h.elim
    · omega
theorem Nwj.adds {w wx : World} {g q : Nat} (h : Nwj w wx g q) (s : ByteArray) (hs : s.size ≤ 400) :
    Calls Try.prog 52 #[.pointer (some ⟨q, 0, none⟩), .string s] wx fun o w2 => o = .returned .nilIface ∧ Lp w w2 g q (.slice none 0 0) [s] [] 2 := by
  obtain ⟨B, B2, h1, h2, h4, h5, h6, h8⟩ := h
  refine (add_any wx B B2 q g nj s [] Dk.new h1 h2 (fun x hx => (h4 x hx).2) (fun x hx => (h5 x hx).2) h6 newj_fits (by decide) hs (by decide) (newj_did_fits s hs)).mono ?_
  rintro o w2 ⟨ha, hf⟩
  rcases ha with ⟨k, _⟩ | ⟨_, ⟨k, _⟩ | ⟨_, k, _⟩ | ⟨_, _, rfl, hB⟩⟩
  · exact absurd (newj_more s hs) k
  · exact absurd k new_not
  · exact absurd k (newj_did_not s)
  · refine ⟨rfl, Lp.cut h4 h5 ⟨World.ownsRow_nil .., fun c hc => by cases hc⟩ h8 hB hf (newj_wrote s) ?_ ?_⟩
    · intro r hr
      have : r = s := by simpa using hr
      rw [this]; exact hs
    · show 6 + s.size + 0 ≤ _
      omega
theorem own_str (b0 : Nat) (w : World) (s : ByteArray) (hb : b0 ≤ w.heap.size) : (w.alloc (.cells #[.string s] 9)).ownsRow b0 9 1 (.slice (some ⟨w.heap.size, 0, none⟩) 1 1) 1 (strs [s]) :=
  ⟨rfl, .inr ⟨w.heap.size, 1, #[.string s], rfl, hb, heap_alloc_new _ _, Nat.le_refl _, by unfold maxLen; omega, rfl, rfl⟩⟩
theorem Lp.same_one {w wx : World} {g q : Nat} {vw u : Value} {s : ByteArray} {G : List ByteArray} {b : Int} (h : Lp w wx g q vw [s] G b) (hu : Strs wx u [s]) :
    Calls Try.prog 50 #[u, .slice (some ⟨wx.heap.size, 0, none⟩) 1 1] (wx.alloc (.cells #[.string s] 9)) fun o w2 => o = .returned (.bool true) ∧ Fr w w2 (fun _ => False) := by
  have hb : Below wx.heap.size wx (wx.alloc (.cells #[.string s] 9)) := (Below.refl _ _).alloc (Nat.le_refl _) _
  refine (sameTexts_any [s] [s] u _ _ (by simp) (hu.kept hb (Nat.le_refl _)) (Strs.of_owns (own_str 0 wx s (Nat.zero_le _)))).mono ?_
  rintro o w2 ⟨⟨c, rfl, hc⟩, hB⟩
  exact ⟨by rw [hc rfl], (h.fr.alloc _).trans (fr_below hB) (fun _ _ e => e)⟩
/-- The closed fact. -/
def oneJ : ByteArray := ⟨#[111, 110, 101]⟩
set_option maxRecDepth 100000 in
set_option maxHeartbeats 1000000 in
theorem notes_any (w : World) : Calls Try.prog 45 #[] w fun o w' => o = .returned (.bool true) ∧ Fr w w' (fun _ => False) := by
  have HNEW := hide (new_any w)
  go_enter Try.func45, Try.ntmps45
  go_wp2_with fail
  refine HNEW.out.mono ?_
  rintro o w1 ⟨g, rfl, hD1, hf1⟩
  have HOP := hide (new_opens hD1 hf1)
  clear hD1 hf1
  go_wp2_with fail
  refine HOP.out.mono ?_
  rintro o w2 ⟨q, rfl, hn⟩
  have HAD := hide (hn.adds oneJ (by decide))
  clear hn
  go_wp2_with fail
  refine HAD.out.mono ?_
  rintro o w3 ⟨rfl, hl⟩
  have HSN := hide (same_nil 0 w3)
  have HSZ := hide hl.size
  have HRC := hide hl.records
  clear hl
  go_wp2_with fail
  refine HSN.out.mono ?_
  rintro o w4 ⟨rfl, hw⟩
  rw [hw]
  clear hw
  go_wp2_with fail
  refine HSZ.out.mono ?_
  rintro o w5 ⟨rfl, hw⟩
  rw [hw]
  clear hw
  have hz : N.size [oneJ] = 9 := by decide
  rw [hz]
  go_wp2_with fail
  refine HRC.out.mono ?_
  rintro o w6 ⟨u, rfl, hu, hl6⟩
  have HSO := hide (hl6.same_one hu)
  obtain ⟨ua, uc, rfl, _⟩ := hu
  clear hl6
  go_wp2_with fail
  refine HSO.out.mono ?_
  rintro o w7 ⟨rfl, hf7⟩
  have HF7 := hide hf7
  clear hf7
  go_wp2_with fail
  go_ret
  exact ⟨rfl, HF7.out⟩
end Go.Proofs.Ytmlbcdofogffkab
