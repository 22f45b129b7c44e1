/- TopLog's states: inside the loop, and behind it. -/
import Derived.Test.YtmlbcdofogffkabDV
namespace Go.Proofs.Ytmlbcdofogffkab
open Go.RowKit
/-- The first record. -/
def one : ByteArray := ⟨#[102, 105, 114, 115, 116]⟩
theorem new_not : ¬ Dk.new.fails := fun h => by rcases h with h | h <;> cases h
theorem new_did_not (s : ByteArray) : ¬ (Dk.new.did (addCh s)).fails := fun h => by
  rcases h with h | h
  · have : (Dk.new.did (addCh s)).left = -1 := step_m1 (D := Dk.new) rfl
    rw [this] at h; cases h
  · cases h
/-- A row of texts that lies beside some blocks. -/
def Beside (b0 : Nat) (w : World) (B : Nat → Prop) (v : Value) (L : List ByteArray) : Prop := w.ownsRow b0 9 1 v L.length (strs L) ∧ ∀ c, v.ownBlock = some c → c < w.heap.size ∧ ¬ B c
theorem Beside.fr {b0 : Nat} {w w' : World} {B B' ex : Nat → Prop} {v : Value} {L : List ByteArray} (h : Beside b0 w B v L) (hf : Fr w w' ex) (hx : ∀ c, ex c → B c ∨ w.heap.size ≤ c) (hB : ∀ c, B' c → B c ∨ w.heap.size ≤ c) : Beside b0 w' B' v L := by
  refine ⟨owns_fr h.1 hf (fun c hc e => ?_), fun c hc => ⟨Nat.lt_of_lt_of_le (h.2 c hc).1 hf.size, fun e => ?_⟩⟩
  · rcases hx c e with h1 | h1
    · exact (h.2 c hc).2 h1
    · have := (h.2 c hc).1; omega
  · rcases hB c e with h1 | h1
    · exact (h.2 c hc).2 h1
    · have := (h.2 c hc).1; omega
theorem Beside.strs {b0 : Nat} {w : World} {B : Nat → Prop} {v : Value} {L : List ByteArray} (h : Beside b0 w B v L) : Strs w v L := Strs.of_owns h.1
/-- What the loop over l holds, i texts of it added. -/
def Adding (w wx : World) (q g : Nat) (l : List ByteArray) (vw vl : Value) (i : Nat) : Prop :=
  ∃ B B2 D, Disk wx B g D ∧ Logs wx B2 q g nl (one :: l.take i) ∧ (∀ x, B x → w.heap.size ≤ x ∧ x < wx.heap.size) ∧ (∀ x, B2 x → w.heap.size ≤ x ∧ x < wx.heap.size) ∧ (∀ x, B2 x → ¬ B x) ∧ Std D (one :: l.take i) (2 + 2 * i) ∧
    Beside w.heap.size wx (fun x => B x ∨ B2 x) vw (one :: l.take i) ∧ Beside w.heap.size wx (fun x => B x ∨ B2 x) vl (one :: l.take i) ∧ Fr w wx (fun _ => False)
/-- What Restart finds. -/
def Falls (w wx : World) (g : Nat) (keep torn : Int) (vw vl : Value) : Prop :=
  ∃ B D L P G T, Disk wx B g D ∧ (∀ x, B x → w.heap.size ≤ x ∧ x < wx.heap.size) ∧ Fr w wx (fun _ => False) ∧ Beside w.heap.size wx B vw L ∧ Beside w.heap.size wx B vl P ∧ (G = L ∨ G = P) ∧ L.length ≤ 20 ∧ P.length ≤ 20 ∧ D.stays keep torn = [(nl, N.frames G ++ T)] ∧ N.first T = none ∧ G ≠ [] ∧ (∀ r ∈ G, r.size ≤ 400) ∧ N.size G ≤ 4000 ∧ (N.frames G ++ T).size ≤ 9000 ∧ (0 ≤ D.steps ∧ D.steps ≤ 1000) ∧
    D.chg.length ≤ 1000 ∧ (∀ c ∈ D.chg, c.kind = 0 ∨ c.kind = 1) ∧ (∀ k c, D.chg[k]? = some c → c.data.size ≤ 1000000 ∧ ((M.get (D.keepTo k) c.name).getD ⟨#[]⟩).size ≤ 1000000)
theorem size_le : ∀ (L : List ByteArray) (m : Nat), (∀ r ∈ L, r.size ≤ m) → N.size L ≤ L.length * (6 + m)
  | [], _, _ => Nat.zero_le _
  | a :: t, m, h => by
    have h1 := size_le t m (fun r hr => h r (List.mem_cons_of_mem _ hr))
    have h2 := h a List.mem_cons_self
    show 6 + a.size + N.size t ≤ (t.length + 1) * (6 + m)
    rw [Nat.add_mul]; omega
theorem upto_le {l : List ByteArray} (h : ∀ r ∈ l, r.size ≤ 300) (i : Nat) : ∀ r ∈ one :: l.take i, r.size ≤ 300 := by
  intro r hr
  rcases List.mem_cons.1 hr with rfl | hr
  · decide
  · exact h r (List.mem_of_mem_take hr)
theorem upto_size {l : List ByteArray} (h : ∀ r ∈ l, r.size ≤ 300) {i : Nat} : N.size (one :: l.take i) ≤ 11 + 306 * i := by
  have h1 := size_le (l.take i) 300 (fun r hr => h r (List.mem_of_mem_take hr))
  have h2 : (l.take i).length ≤ i := by rw [List.length_take]; omega
  have h3 : (l.take i).length * (6 + 300) ≤ i * (6 + 300) := Nat.mul_le_mul_right _ h2
  show 6 + 5 + N.size (l.take i) ≤ _
  omega
/-- The loop is through: every text was added. -/
theorem Adding.falls {w wx : World} {q g : Nat} {l : List ByteArray} {vw vl : Value} {i : Nat} (h : Adding w wx q g l vw vl i) (hl : ∀ r ∈ l, r.size ≤ 300) (hi : i ≤ 12) (keep torn : Int) : Falls w wx g keep torn vw vl := by
  obtain ⟨B, B2, D, hD, hL, hB, hB2, hdis, hst, hw, hla, hf⟩ := h
  have hz := upto_size hl (i := i)
  have hlen : (one :: l.take i).length ≤ 13 := by rw [List.length_cons, List.length_take]; omega
  have hF := hst.fits (by omega) (by omega)
  refine ⟨B, D, _, _, one :: l.take i, ⟨#[]⟩, hD, hB, hf, hw.fr (Fr.refl _ (fun _ => False)) (fun c e => e.elim) (fun c e => .inl (.inl e)), hla.fr (Fr.refl _ (fun _ => False)) (fun c e => e.elim) (fun c e => .inl (.inl e)), .inl rfl, by omega, by omega, ?_, N.first_empty, by simp, ?_, by omega, ?_, ⟨hst.steps.1, by have := hst.steps.2; omega⟩, hF.chg, hF.kinds, hF.sizes⟩
  · rw [N.append_empty]; exact stay1 hst.kept hst.chg keep torn
  · intro r hr; have := upto_le hl i r hr; omega
  · rw [N.append_empty, N.frames_size]; omega
/-- Add fell ahead of its change. -/
theorem fell_stays {D : Dk} {L : List ByteArray} {b : Int} (h : Std D L b) (keep torn : Int) : D.fell.stays keep torn = [(nl, N.frames L ++ ⟨#[]⟩)] := by
  rw [N.append_empty]; exact stay1 (D := D.fell) h.kept h.chg keep torn
theorem did_fell_stays {D : Dk} {L : List ByteArray} {b : Int} (h : Std D L b) (s : ByteArray) (hs : s.size ≤ 400) (keep torn : Int) : ∃ G T, (D.did (addCh s)).fell.stays keep torn = [(nl, N.frames G ++ T)] ∧ N.first T = none ∧ (G = L ∨ G = L ++ [s]) ∧ T.size ≤ 6 + s.size := by
  obtain ⟨T, h1, h2, h3⟩ := stay2 (D := (D.did (addCh s)).fell) (L := L) hs (h.did_kept s) (h.did_chg s) keep torn
  rcases h2 with rfl | h2
  · exact ⟨L ++ [s], ⟨#[]⟩, by rw [h1, N.append_empty, N.frames_append], N.first_empty, .inr rfl, Nat.zero_le _⟩
  · exact ⟨L, T, h1, h2, .inl rfl, h3⟩
/-- What a failed Add leaves: the disk fell. -/
def Fallen (D : Dk) (L : List ByteArray) (s : ByteArray) (D' : Dk) : Prop := (∃ b, b ≤ 100 ∧ Std D L b) ∧ (D' = D.fell ∨ D' = (D.did (addCh s)).fell)
theorem Fallen.falls {w wx : World} {g : Nat} {l : List ByteArray} {s : ByteArray} {i : Nat} {vw vl : Value} {B : Nat → Prop} {D D' : Dk} (h : Fallen D (one :: l.take i) s D') (hl : ∀ r ∈ l, r.size ≤ 300) (hi : i < 12) (hs : s.size ≤ 300) (hD : Disk wx B g D') (hB : ∀ x, B x → w.heap.size ≤ x ∧ x < wx.heap.size) (hf : Fr w wx (fun _ => False)) (hw : Beside w.heap.size wx B vw (one :: l.take i)) (hv : Beside w.heap.size wx B vl (one :: l.take i ++ [s])) (keep torn : Int) : Falls w wx g keep torn vw vl := by
  obtain ⟨⟨b, hb, hst⟩, hD'⟩ := h
  have hz := upto_size hl (i := i)
  have hlen : (one :: l.take i).length ≤ 13 := by rw [List.length_cons, List.length_take]; omega
  have hle := upto_le hl i
  have hF := hst.fits (by omega) (by omega)
  have hF2 := hst.did_fits s (by omega) (by omega) (by omega)
  have hsteps := hst.steps
  have hlen2 : (one :: l.take i ++ [s]).length ≤ 20 := by rw [List.length_append, List.length_singleton]; omega
  rcases hD' with rfl | rfl
  · refine ⟨B, _, _, _, one :: l.take i, ⟨#[]⟩, hD, hB, hf, hw, hv, .inl rfl, by omega, hlen2, fell_stays hst keep torn, N.first_empty, by simp, fun r hr => by have := hle r hr; omega, by omega, ?_, ⟨hsteps.1, (show D.steps ≤ 1000 by omega)⟩, hF.chg, hF.kinds, hF.sizes⟩
    rw [N.append_empty, N.frames_size]; omega
  · obtain ⟨G, T, h1, h2, h3, h4⟩ := did_fell_stays hst s (by omega) keep torn
    have hGz : N.size G ≤ N.size (one :: l.take i) + (6 + s.size) := by
      rcases h3 with rfl | rfl
      · omega
      · rw [N.size_append]; omega
    refine ⟨B, _, _, _, G, T, hD, hB, hf, hw, hv, h3, by omega, hlen2, h1, h2, ?_, ?_, by omega, ?_, ⟨?_, ?_⟩, hF2.chg, hF2.kinds, hF2.sizes⟩
    · rcases h3 with rfl | rfl <;> simp
    · intro r hr
      rcases h3 with rfl | rfl
      · have := hle r hr; omega
      · rcases List.mem_append.1 hr with hr | hr
        · have := hle r hr; omega
        · have : r = s := by simpa using hr
          subst this; omega
    · rw [ByteArray.size_append, N.frames_size]; omega
    · show 0 ≤ D.steps + 1; omega
    · show D.steps + 1 ≤ 1000; omega
end Go.Proofs.Ytmlbcdofogffkab
