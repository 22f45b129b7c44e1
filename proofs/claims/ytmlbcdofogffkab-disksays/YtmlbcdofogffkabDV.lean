/- The disk behind a restart, and behind Open. -/
import Derived.Test.YtmlbcdofogffkabDU
namespace Go.Proofs.Ytmlbcdofogffkab
open Go.RowKit
theorem stay1 {D : Dk} {Y : ByteArray} (hk : D.kept = [(nl, Y)]) (hc : D.chg = []) (keep torn : Int) : D.stays keep torn = [(nl, Y)] := by
  unfold Dk.stays
  rw [hc]
  show D.keepTo _ = _
  unfold Dk.keepTo
  rw [hc]
  simp [hk]
theorem stay2 {D : Dk} {L : List ByteArray} {s : ByteArray} (hs : s.size ≤ 400) (hk : D.kept = [(nl, N.frames L)]) (hc : D.chg = [addCh s]) (keep torn : Int) : ∃ T, D.stays keep torn = [(nl, N.frames L ++ T)] ∧ (T = N.frame s ∨ N.first T = none) ∧ T.size ≤ 6 + s.size := by
  have hm : D.many keep = 0 ∨ D.many keep = 1 := by
    unfold Dk.many
    rw [hc]
    simp
    omega
  have hfs : (N.head s ++ s).size = 6 + s.size := by rw [ByteArray.size_append, N.head_size]
  unfold Dk.stays
  rcases hm with h0 | h1
  · rw [h0]
    have e0 : D.keepTo 0 = [(nl, N.frames L)] := hk
    have e1 : D.chg[0]? = some (addCh s) := by rw [hc]; rfl
    rw [e0, e1]
    show ∃ T, (addCh s).first torn [(nl, N.frames L)] = _ ∧ _
    unfold Ch.first
    by_cases h1 : min torn ((addCh s).data.size : Int) < 1
    · rw [if_pos h1]
      exact ⟨⟨#[]⟩, by rw [N.append_empty], .inr N.first_empty, Nat.zero_le _⟩
    · rw [if_neg h1]
      obtain ⟨m, hmm⟩ : ∃ m : Nat, m = (min torn ((addCh s).data.size : Int)).toNat := ⟨_, rfl⟩
      rw [← hmm]
      have hms : m ≤ 6 + s.size := by
        have : ((addCh s).data.size : Int) = 6 + s.size := by show (((N.head s ++ s).size : Nat) : Int) = _; omega
        omega
      refine ⟨(N.frame s).extract 0 m, ?_, ?_, by rw [ByteArray.size_extract]; omega⟩
      · show M.put [(nl, N.frames L)] nl ((M.get [(nl, N.frames L)] nl).getD ⟨#[]⟩ ++ (N.frame s).extract 0 m) = _
        rw [get_one, put_one]; rfl
      · by_cases hlt : m < 6 + s.size
        · exact .inr (N.first_torn s m hs hlt)
        · have : m = (N.frame s).size := by rw [N.frame_size]; omega
          rw [this, ByteArray.extract_zero_size]
          exact .inl rfl
  · rw [h1]
    have e1 : D.chg[1]? = none := by rw [hc]; rfl
    rw [e1]
    refine ⟨N.frame s, ?_, .inl rfl, by rw [N.frame_size]; omega⟩
    show D.keepTo 1 = _
    unfold Dk.keepTo
    rw [hc, hk]
    exact on_add _ _
/-- A disk that was started again: the log's file, and nothing else. -/
structure Ready (D : Dk) (X : ByteArray) (b : Int) : Prop where
  kept : D.kept = [(nl, X)]
  files : D.files = [(nl, X)]
  chg : D.chg = []
  down : D.down = false
  steps : 0 ≤ D.steps ∧ D.steps ≤ b
  left : D.left = -1
theorem ready_of {D : Dk} {X : ByteArray} {b keep torn : Int} (hs : D.stays keep torn = [(nl, X)]) (hb : 0 ≤ D.steps ∧ D.steps ≤ b) : Ready (D.again keep torn) X b := ⟨hs, hs, rfl, rfl, hb, rfl⟩
theorem Ready.fits {D : Dk} {X : ByteArray} {b : Int} (h : Ready D X b) (hb : b ≤ 10000) (hz : X.size ≤ 9000) : D.Fits nl := by
  refine ⟨⟨h.steps.1, by have := h.steps.2; omega⟩, by rw [h.left]; decide, by rw [h.files]; simp, ?_, by rw [h.chg]; simp, fun c hc => (by rw [h.chg] at hc; cases hc), fun k c hc => (by rw [h.chg] at hc; cases hc)⟩
  rw [h.files, get_one, Option.getD_some]; omega
theorem Ready.bytes {D : Dk} {X : ByteArray} {b : Int} (h : Ready D X b) : D.bytes nl = X := by unfold Dk.bytes; rw [h.files, get_one]; rfl
theorem Ready.not_fails {D : Dk} {X : ByteArray} {b : Int} (h : Ready D X b) : ¬ D.fails := fun hf => by
  rcases hf with hf | hf
  · rw [h.left] at hf; cases hf
  · rw [h.down] at hf; cases hf
theorem on_write (X Y : ByteArray) : (⟨0, nl, ⟨#[]⟩, Y⟩ : Ch).on [(nl, X)] = [(nl, Y)] := by
  show M.put [(nl, X)] nl Y = _
  rw [put_one]
theorem step_m1 {D : Dk} (h : D.left = -1) : D.step.left = -1 := by
  show (if 0 < D.left then D.left - 1 else D.left) = -1
  rw [h]; decide
theorem Ready.cut {D : Dk} {G : List ByteArray} {T : ByteArray} {b : Int} (h : Ready D (N.frames G ++ T) b) (hG : ∀ r ∈ G, r.size ≤ 400) (hT : N.first T = none) (hb : b ≤ 9000) (hz : N.size G ≤ 4000) (hX : (N.frames G ++ T).size ≤ 9000) :
    N.all (D.bytes nl) = G ∧ (N.size (N.all (D.bytes nl)) < (D.bytes nl).size → (D.did (D.cutCh nl)).Fits nl ∧ D.fit nl (D.cutCh nl).data.size = 0 ∧ ¬ D.fails ∧ ¬ (D.did (D.cutCh nl)).fails) ∧ Std (D.opened nl) G (b + 2) := by
  have hall : N.all (D.bytes nl) = G := by rw [h.bytes]; exact N.all_frames G T hG hT
  have hcd : D.cutCh nl = ⟨0, nl, ⟨#[]⟩, N.frames G⟩ := by
    unfold Dk.cutCh
    rw [hall, h.bytes, ← N.frames_size, N.ex_left]
  have hdf : (D.did (D.cutCh nl)).files = [(nl, N.frames G)] := by
    rw [hcd]
    show (⟨0, nl, ⟨#[]⟩, N.frames G⟩ : Ch).on D.files = _
    rw [h.files, on_write]
  have hdc : (D.did (D.cutCh nl)).chg = [⟨0, nl, ⟨#[]⟩, N.frames G⟩] := by
    rw [hcd]
    show D.chg ++ [_] = _
    rw [h.chg]; rfl
  have hdk : (D.did (D.cutCh nl)).kept = [(nl, N.frames G ++ T)] := h.kept
  have hsl := step_m1 h.left
  refine ⟨hall, fun _ => ⟨?_, ?_, h.not_fails, ?_⟩, ?_⟩
  · refine ⟨⟨?_, ?_⟩, ?_, by rw [hdf]; simp, ?_, by rw [hdc]; simp, ?_, ?_⟩
    · show 0 ≤ D.steps + 1; have := h.steps; omega
    · show D.steps + 1 ≤ 100000; have := h.steps; omega
    · show _ ≤ D.step.left ∧ D.step.left ≤ _
      rw [hsl]; decide
    · rw [hdf, get_one, Option.getD_some, N.frames_size]; omega
    · intro c hc
      rw [hdc] at hc
      have : c = ⟨0, nl, ⟨#[]⟩, N.frames G⟩ := by simpa using hc
      rw [this]; exact .inl rfl
    · intro k c hc
      rw [hdc] at hc
      have hk : k = 0 := by have := (List.getElem?_eq_some_iff.1 hc).1; simp at this; omega
      subst hk
      have hcc : (⟨0, nl, ⟨#[]⟩, N.frames G⟩ : Ch) = c := by simpa using hc
      subst hcc
      refine ⟨?_, ?_⟩
      · show (N.frames G).size ≤ _
        rw [N.frames_size]; omega
      · have e : (D.did (D.cutCh nl)).keepTo 0 = [(nl, N.frames G ++ T)] := h.kept
        rw [e]
        show ((M.get [(nl, N.frames G ++ T)] nl).getD ⟨#[]⟩).size ≤ _
        rw [get_one, Option.getD_some]; omega
  · refine fit_zero ?_ (by rw [h.files]; simp)
    rw [hcd]
    show ((N.frames G).size : Int) ≤ _
    rw [N.frames_size]; omega
  · intro hf
    rcases hf with hf | hf
    · have : (D.did (D.cutCh nl)).left = -1 := hsl
      rw [this] at hf; cases hf
    · have : (D.did (D.cutCh nl)).down = D.down := rfl
      rw [this, h.down] at hf; cases hf
  · unfold Dk.opened
    by_cases hlt : N.size (N.all (D.bytes nl)) < (D.bytes nl).size
    · rw [if_pos hlt]
      have hk : (D.did (D.cutCh nl)).keepTo (D.did (D.cutCh nl)).chg.length = [(nl, N.frames G)] := by
        rw [hdc]
        unfold Dk.keepTo
        rw [hdc, hdk]
        exact on_write (N.frames G ++ T) (N.frames G)
      have hl2 := step_m1 (D := D.did (D.cutCh nl)) hsl
      refine ⟨hk, hdf, rfl, h.down, ⟨?_, ?_⟩, ?_⟩
      · show 0 ≤ D.steps + 1 + 1; have := h.steps; omega
      · show D.steps + 1 + 1 ≤ b + 2; have := h.steps; omega
      · show -1 ≤ (D.did (D.cutCh nl)).step.left ∧ (D.did (D.cutCh nl)).step.left ≤ 100
        rw [hl2]; decide
    · rw [if_neg hlt]
      have hTe : N.frames G ++ T = N.frames G := by
        rw [hall, h.bytes, ByteArray.size_append, N.frames_size] at hlt
        have h0 : T.size = 0 := by omega
        have : T = ⟨#[]⟩ := N.bext (List.eq_nil_of_length_eq_zero (by rw [← N.bl_size]; exact h0))
        rw [this, N.append_empty]
      exact ⟨by rw [h.kept, hTe], by rw [h.files, hTe], h.chg, h.down, ⟨h.steps.1, by have := h.steps.2; omega⟩, by rw [h.left]; decide⟩
theorem Std.opened {D : Dk} {G : List ByteArray} {b : Int} (h : Std D G b) (hG : ∀ r ∈ G, r.size ≤ 400) : N.all (D.bytes nl) = G ∧ ¬ N.size (N.all (D.bytes nl)) < (D.bytes nl).size ∧ D.opened nl = D := by
  have hb : D.bytes nl = N.frames G := by unfold Dk.bytes; rw [h.files, get_one]; rfl
  have hall : N.all (D.bytes nl) = G := by rw [hb]; exact N.all_whole G hG
  have hn : ¬ N.size (N.all (D.bytes nl)) < (D.bytes nl).size := by rw [hall, hb, N.frames_size]; omega
  exact ⟨hall, hn, by unfold Dk.opened; rw [if_neg hn]⟩
theorem new_opened : N.all (Dk.new.bytes nl) = [] ∧ ¬ N.size (N.all (Dk.new.bytes nl)) < (Dk.new.bytes nl).size ∧ Dk.new.opened nl = Dk.new := by
  have hb : Dk.new.bytes nl = ⟨#[]⟩ := rfl
  have hall : N.all (Dk.new.bytes nl) = [] := by rw [hb]; exact N.all_whole [] (fun r hr => by cases hr)
  have hn : ¬ N.size (N.all (Dk.new.bytes nl)) < (Dk.new.bytes nl).size := by rw [hall, hb]; decide
  exact ⟨hall, hn, by unfold Dk.opened; rw [if_neg hn]⟩
end Go.Proofs.Ytmlbcdofogffkab
