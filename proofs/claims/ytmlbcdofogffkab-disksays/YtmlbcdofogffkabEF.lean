/- For WalogSays: a file of any bytes, cut behind its records; the disk's states. -/
import Derived.Test.YtmlbcdofogffkabED
namespace Go.Proofs.Ytmlbcdofogffkab
open Go.RowKit
namespace N
/-- A record that is whole stands there as it is framed. -/
theorem first_framed {t x : ByteArray} (h : first t = some x) : t.extract 0 (6 + x.size) = frame x := by
  unfold first at h
  by_cases hc : t.size < 6 ∨ 400 < count t ∨ t.size < 6 + count t
  · rw [if_pos hc] at h; cases h
  · rw [if_neg hc] at h
    by_cases he : (t.extract 0 6 == head (t.extract 6 (6 + count t))) = true
    · rw [if_pos he] at h
      have hx : t.extract 6 (6 + count t) = x := by simpa using h
      have hn : t.size ≥ 6 + count t := by omega
      have hxs : x.size = count t := by rw [← hx, ByteArray.size_extract]; omega
      have h2 := (MapKept.bytes_beq _ _).1 he
      rw [hx] at h2
      unfold frame
      rw [← h2, hxs]
      conv => rhs; rw [← hx]
      apply bext
      rw [bl_append, bl_extract, bl_extract, bl_extract]
      simp only [List.drop_zero]
      have e2 : (t.data.toList.take 6) = (t.data.toList.take (6 + count t)).take 6 := by rw [List.take_take]; congr 1; omega
      rw [e2]
      exact (List.take_append_drop 6 _).symm
    · rw [if_neg he] at h; cases h
theorem ex_cat (d : ByteArray) (i j k : Nat) (h1 : i ≤ j) (h2 : j ≤ k) : d.extract i j ++ d.extract j k = d.extract i k := by
  apply bext
  rw [bl_append, bl_extract, bl_extract, bl_extract]
  have e2 : d.data.toList.take j = (d.data.toList.take k).take j := by rw [List.take_take]; congr 1; omega
  rw [e2]
  generalize d.data.toList.take k = l
  rw [List.drop_take]
  have e4 := (List.take_append_drop (j - i) (l.drop i)).symm
  rw [List.drop_drop, show i + (j - i) = j by omega] at e4
  exact e4.symm
theorem parse_framed (d : ByteArray) : ∀ (k o : Nat), d.extract o (o + size (parse k d o)) = frames (parse k d o) ∧ ∀ r ∈ parse k d o, r.size ≤ 400
  | 0, o => by
    rw [parse]
    refine ⟨?_, fun r hr => by cases hr⟩
    show d.extract o (o + 0) = ⟨#[]⟩
    apply bext
    rw [bl_extract]
    simp
  | k + 1, o => by
    rw [parse]
    cases h : first (d.extract o d.size) with
    | none =>
      refine ⟨?_, fun r hr => by cases hr⟩
      show d.extract o (o + 0) = ⟨#[]⟩
      apply bext
      rw [bl_extract]
      simp
    | some x =>
      obtain ⟨ih1, ih2⟩ := parse_framed d k (o + (6 + x.size))
      have h1 := first_framed h
      have h2 := first_size h
      rw [ex_ex, Nat.add_zero] at h1
      refine ⟨?_, ?_⟩
      · show d.extract o (o + ((6 + x.size) + size (parse k d (o + (6 + x.size))))) = frame x ++ frames (parse k d (o + (6 + x.size)))
        rw [← h1, ← ih1, ex_cat _ _ _ _ (by omega) (by omega), Nat.add_assoc o]
      · intro r hr
        rcases List.mem_cons.1 hr with rfl | hr
        · exact h2.2
        · exact ih2 r hr
theorem all_cut (d : ByteArray) : d.extract 0 (size (all d)) = frames (all d) := by
  have h := (parse_framed d (d.size + 1) 0).1
  rw [Nat.zero_add] at h
  exact h
theorem all_small (d : ByteArray) : ∀ r ∈ all d, r.size ≤ 400 := (parse_framed d (d.size + 1) 0).2
theorem ex_all (d : ByteArray) : d.extract 0 d.size = d := by
  apply bext
  rw [bl_extract, List.drop_zero]
  exact List.take_of_length_le (by rw [← bl_size]; exact Nat.le_refl _)
end N
theorem beq_self (n : ByteArray) : (n == n) = true := (MapKept.bytes_beq _ _).2 rfl
theorem at_oneN (n X : ByteArray) : M.at_ n [(n, X)] 0 = some (0, X) := by rw [M.at_]; simp only [beq_self, if_true]
theorem get_oneN (n X : ByteArray) : M.get [(n, X)] n = some X := by unfold M.get; rw [at_oneN]; rfl
theorem put_oneN (n X Y : ByteArray) : M.put [(n, X)] n Y = [(n, Y)] := by unfold M.put; rw [at_oneN]; rfl
/-- A file behind a change of it. -/
def Ch.byte (c : Ch) (X : ByteArray) : ByteArray := if c.kind = 0 then c.data else X ++ c.data
theorem Ch.on_one (c : Ch) (X : ByteArray) : c.on [(c.name, X)] = [(c.name, c.byte X)] := by
  unfold Ch.on Ch.byte
  split
  · rw [put_oneN]
  · rw [get_oneN, put_oneN]; rfl
/-- A disk with one file, n, of these bytes; it was kept, or written just now. -/
structure Fil (n : ByteArray) (D : Dk) (X : ByteArray) (b : Int) : Prop where
  files : D.files = [(n, X)]
  chg : (D.kept = [(n, X)] ∧ D.chg = []) ∨ (D.kept = [] ∧ D.chg = [⟨0, n, ⟨#[]⟩, X⟩])
  down : D.down = false
  steps : 0 ≤ D.steps ∧ D.steps ≤ b
  left : D.left = -1
theorem Fil.bytes {n X : ByteArray} {D : Dk} {b : Int} (h : Fil n D X b) : D.bytes n = X := by unfold Dk.bytes; rw [h.files, get_oneN]; rfl
theorem Fil.not_fails {n X : ByteArray} {D : Dk} {b : Int} (h : Fil n D X b) : ¬ D.fails := fun hf => by
  rcases hf with hf | hf
  · rw [h.left] at hf; cases hf
  · rw [h.down] at hf; cases hf
theorem Fil.keeps {n X : ByteArray} {D : Dk} {b : Int} (h : Fil n D X b) : D.keepTo D.chg.length = [(n, X)] := by
  unfold Dk.keepTo
  rcases h.chg with ⟨h1, h2⟩ | ⟨h1, h2⟩
  · rw [h2, h1]; rfl
  · rw [h2, h1]; rfl
theorem Fil.sizes {n X : ByteArray} {D : Dk} {b : Int} (h : Fil n D X b) (hz : X.size ≤ 9000) : ∀ k c, D.chg[k]? = some c → c.data.size ≤ 1000000 ∧ ((M.get (D.keepTo k) c.name).getD ⟨#[]⟩).size ≤ 1000000 := by
  intro k c hc
  rcases h.chg with ⟨h1, h2⟩ | ⟨h1, h2⟩
  · rw [h2] at hc; cases hc
  · rw [h2] at hc
    have hk : k = 0 := by have := (List.getElem?_eq_some_iff.1 hc).1; simp at this; omega
    subst hk
    have hcc : (⟨0, n, ⟨#[]⟩, X⟩ : Ch) = c := by simpa using hc
    subst hcc
    refine ⟨(show X.size ≤ _ by omega), ?_⟩
    have e : D.keepTo 0 = [] := h1
    rw [e]
    show (0 : Nat) ≤ _
    omega
theorem Fil.fits {n X : ByteArray} {D : Dk} {b : Int} (h : Fil n D X b) (hb : b ≤ 10000) (hz : X.size ≤ 9000) : D.Fits n := by
  refine ⟨⟨h.steps.1, by have := h.steps.2; omega⟩, by rw [h.left]; decide, by rw [h.files]; simp, ?_, ?_, ?_, h.sizes hz⟩
  · rw [h.files, get_oneN, Option.getD_some]; omega
  · rcases h.chg with ⟨_, h2⟩ | ⟨_, h2⟩ <;> rw [h2] <;> simp
  · intro c hc
    rcases h.chg with ⟨_, h2⟩ | ⟨_, h2⟩
    · rw [h2] at hc; cases hc
    · rw [h2] at hc
      have : c = ⟨0, n, ⟨#[]⟩, X⟩ := by simpa using hc
      rw [this]; exact .inl rfl
theorem Fil.did_files {n X : ByteArray} {D : Dk} {b : Int} (h : Fil n D X b) (c : Ch) (hc : c.name = n) : (D.did c).files = [(n, c.byte X)] := by
  show c.on D.files = _
  rw [h.files, ← hc, Ch.on_one]
theorem keep_did (D : Dk) (c : Ch) : (D.did c).keepTo D.chg.length = D.keepTo D.chg.length := by
  unfold Dk.keepTo
  have e : (D.did c).chg = D.chg ++ [c] := rfl
  rw [e, List.take_left' rfl, List.take_length]
  rfl
theorem Fil.did_fits {n X : ByteArray} {D : Dk} {b : Int} (h : Fil n D X b) (c : Ch) (hc : c.name = n) (hk : c.kind = 0 ∨ c.kind = 1) (hb : b ≤ 9000) (hz : X.size ≤ 9000) (hd : c.data.size ≤ 9000) (hz2 : (c.byte X).size ≤ 9000) : (D.did c).Fits n := by
  have hsl := step_m1 h.left
  have hF := h.fits (by omega) hz
  have e : (D.did c).chg = D.chg ++ [c] := rfl
  refine ⟨⟨?_, ?_⟩, ?_, by rw [h.did_files c hc]; simp, ?_, ?_, ?_, ?_⟩
  · show 0 ≤ D.steps + 1; have := h.steps; omega
  · show D.steps + 1 ≤ 100000; have := h.steps; omega
  · show _ ≤ D.step.left ∧ D.step.left ≤ _
    rw [hsl]; decide
  · rw [h.did_files c hc, get_oneN, Option.getD_some]; omega
  · rw [e, List.length_append]
    have : D.chg.length ≤ 1 := by rcases h.chg with ⟨_, h2⟩ | ⟨_, h2⟩ <;> rw [h2] <;> simp
    simp; omega
  · intro x hx
    rw [e, List.mem_append] at hx
    rcases hx with hx | hx
    · exact hF.kinds x hx
    · have : x = c := by simpa using hx
      rw [this]; exact hk
  · intro k x hx
    rw [e] at hx
    by_cases hkl : k < D.chg.length
    · rw [List.getElem?_append_left hkl] at hx
      have h2 := h.sizes hz k x hx
      have e2 : (D.did c).keepTo k = D.keepTo k := by
        unfold Dk.keepTo
        rw [e, List.take_append_of_le_length (by omega)]
        rfl
      rw [e2]; exact h2
    · have hke : k = D.chg.length := by
        have := (List.getElem?_eq_some_iff.1 hx).1
        simp at this; omega
      subst hke
      have hxc : c = x := by simpa using hx
      subst hxc
      rw [keep_did, h.keeps, hc, get_oneN, Option.getD_some]
      omega
theorem Fil.did_not {n X : ByteArray} {D : Dk} {b : Int} (h : Fil n D X b) (c : Ch) : ¬ (D.did c).fails := by
  intro hf
  rcases hf with hf | hf
  · have : (D.did c).left = -1 := step_m1 h.left
    rw [this] at hf; cases hf
  · have : (D.did c).down = D.down := rfl
    rw [this, h.down] at hf; cases hf
theorem Fil.wrote {n X : ByteArray} {D : Dk} {b : Int} (h : Fil n D X b) (c : Ch) (hc : c.name = n) : Fil n (D.wrote c) (c.byte X) (b + 2) := by
  have hsl := step_m1 h.left
  have hf := h.did_files c hc
  have hk : (D.did c).keepTo (D.did c).chg.length = [(n, c.byte X)] := by
    have e : (D.did c).chg.length = D.chg.length + 1 := by show (D.chg ++ [c]).length = _; simp
    have e2 : (D.did c).chg[D.chg.length]? = some c := by show (D.chg ++ [c])[D.chg.length]? = _; simp
    rw [e, Dk.keep_next e2, keep_did, h.keeps, ← hc, Ch.on_one]
  refine ⟨hf, .inl ⟨hk, rfl⟩, h.down, ⟨?_, ?_⟩, ?_⟩
  · show 0 ≤ D.steps + 1 + 1; have := h.steps; omega
  · show D.steps + 1 + 1 ≤ b + 2; have := h.steps; omega
  · exact step_m1 (D := D.did c) hsl
theorem fitN {D : Dk} {n : ByteArray} {b : Int} (hn : N.may n = true) (hb : b ≤ 4000) (hF : D.files.length < 40) : D.fit n b = 0 := by
  unfold Dk.fit
  rw [if_neg (by rw [hn]; decide), if_neg (by omega)]
/-- What Open asks of such a disk, and what it leaves. -/
theorem Fil.opens {n X : ByteArray} {D : Dk} {b : Int} (h : Fil n D X b) (hn : N.may n = true) (hb : b ≤ 9000) (hz : X.size ≤ 4000) (hz2 : N.size (N.all X) ≤ X.size) :
    (N.size (N.all (D.bytes n)) < (D.bytes n).size → (D.did (D.cutCh n)).Fits n ∧ D.fit n (D.cutCh n).data.size = 0 ∧ ¬ D.fails ∧ ¬ (D.did (D.cutCh n)).fails) ∧ Fil n (D.opened n) (N.frames (N.all X)) (b + 2) := by
  have hcd : D.cutCh n = ⟨0, n, ⟨#[]⟩, N.frames (N.all X)⟩ := by
    unfold Dk.cutCh
    rw [h.bytes, N.all_cut]
  have hds : (D.cutCh n).data.size = N.size (N.all X) := by rw [hcd]; exact N.frames_size _
  refine ⟨fun _ => ⟨?_, ?_, h.not_fails, h.did_not _⟩, ?_⟩
  · refine h.did_fits _ (by rw [hcd]) (by rw [hcd]; exact .inl rfl) hb (by omega) (by omega) ?_
    rw [hcd]
    show (N.frames (N.all X)).size ≤ _
    rw [N.frames_size]; omega
  · refine fitN hn ?_ (by rw [h.files]; simp)
    rw [hds]; omega
  · unfold Dk.opened
    rw [h.bytes]
    by_cases hlt : N.size (N.all X) < X.size
    · rw [if_pos hlt]
      have hw := h.wrote (D.cutCh n) (by rw [hcd])
      have e : (D.cutCh n).byte X = N.frames (N.all X) := by rw [hcd]; rfl
      rw [e] at hw
      exact hw
    · rw [if_neg hlt]
      have e : N.frames (N.all X) = X := by
        rw [← N.all_cut, show N.size (N.all X) = X.size by omega, N.ex_all]
      rw [e]
      exact ⟨h.files, h.chg, h.down, ⟨h.steps.1, by have := h.steps.2; omega⟩, h.left⟩
/-- The new disk with a file that was written. -/
theorem new_fil (n X : ByteArray) : Fil n (Dk.new.did ⟨0, n, ⟨#[]⟩, X⟩) X 1 := ⟨rfl, .inr ⟨rfl, rfl⟩, rfl, (show (0 : Int) ≤ 0 + 1 ∧ (0 : Int) + 1 ≤ 1 by decide), step_m1 (D := Dk.new) rfl⟩
end Go.Proofs.Ytmlbcdofogffkab
