/- What needs what, as plain numbers: waves, levels, searches, rounds. -/
import Derived.Test.YtienhelohfhhfaaProg
import Derived.WalkKit
namespace Go.Proofs.Ytienhelohfhhfaa

namespace Gr
/-- The needs of each. -/
abbrev Net := Nat → List Nat
/-- Is i done behind k waves? -/
def D (N : Net) : Nat → Nat → Bool
  | 0, _ => false
  | k + 1, i => (N i).all (D N k)
theorem D_succ (N : Net) (k i : Nat) : D N (k + 1) i = (N i).all (D N k) := rfl
theorem D_up (N : Net) : ∀ (k i : Nat), D N k i = true → D N (k + 1) i = true
  | 0, i, h => by simp [D] at h
  | k + 1, i, h => by
    rw [D_succ, List.all_eq_true] at h ⊢
    exact fun j hj => D_up N k j (h j hj)
theorem D_le (N : Net) {k m : Nat} (hkm : k ≤ m) {i : Nat} (h : D N k i = true) : D N m i = true := by
  induction hkm with
  | refl => exact h
  | step _ ih => exact D_up N _ _ ih
/-- Wave k (from 0 on), of n things. -/
def wave (N : Net) (n k : Nat) : List Nat := (List.range n).filter (fun i => !D N k i && D N (k + 1) i)
/-- How many are left behind k waves. -/
def left (N : Net) (n k : Nat) : Nat := ((List.range n).filter (fun i => !D N k i)).length
theorem filter_split (l : List Nat) (p q : Nat → Bool) (h : ∀ i, q i = true → p i = true) :
    (l.filter p).length = (l.filter (fun i => p i && !q i)).length + (l.filter q).length := by
  induction l with
  | nil => rfl
  | cons a t ih =>
    by_cases hp : p a = true
    · by_cases hq : q a = true
      · simp [hp, hq, ih]; omega
      · simp [hp, hq, ih]; omega
    · have hq : ¬ q a = true := fun hq => hp (h a hq)
      simp [hp, hq, ih]
theorem left_split (N : Net) (n k : Nat) : left N n k = (wave N n k).length + left N n (k + 1) := by
  unfold left wave
  have := filter_split (List.range n) (fun i => !D N k i) (fun i => !D N (k + 1) i) (by
    intro i hi
    cases hd : D N k i with
    | false => rfl
    | true => rw [D_up N k i hd] at hi; exact hi)
  rw [this]
  congr 2
  apply List.filter_congr
  intro i _
  cases D N k i <;> cases D N (k + 1) i <;> rfl
theorem left_zero (N : Net) (n : Nat) : left N n 0 = n := by
  unfold left
  have : (List.range n).filter (fun i => !D N 0 i) = List.range n := by
    apply List.filter_eq_self.2; intro a _; rfl
  rw [this, List.length_range]
theorem left_done (N : Net) (n k : Nat) (h : left N n k = 0) (i : Nat) (hi : i < n) : D N k i = true := by
  unfold left at h
  have h2 := List.eq_nil_of_length_eq_zero h
  rw [List.filter_eq_nil_iff] at h2
  have := h2 i (List.mem_range.2 hi)
  cases hd : D N k i with
  | true => rfl
  | false => rw [hd] at this; exact absurd rfl this
theorem left_some (N : Net) (n k : Nat) (h : left N n k ≠ 0) : ∃ i, i < n ∧ D N k i = false := by
  unfold left at h
  have : (List.range n).filter (fun i => !D N k i) ≠ [] := fun h2 => h (by rw [h2]; rfl)
  obtain ⟨a, ha⟩ := List.exists_mem_of_ne_nil _ this
  rw [List.mem_filter, List.mem_range] at ha
  exact ⟨a, ha.1, by simpa using ha.2⟩
/-- Behind an empty wave nothing more is done. -/
theorem stable (N : Net) (n k : Nat) (hN : ∀ i, i < n → ∀ j ∈ N i, j < n) (h : wave N n k = []) :
    ∀ (m i : Nat), i < n → D N (k + m) i = D N k i := by
  have h1 : ∀ i, i < n → D N (k + 1) i = D N k i := by
    intro i hi
    unfold wave at h
    rw [List.filter_eq_nil_iff] at h
    have := h i (List.mem_range.2 hi)
    cases hd : D N k i with
    | true => exact D_up N k i hd
    | false =>
      rw [hd] at this
      simpa using this
  intro m
  induction m with
  | zero => intro i _; rfl
  | succ m ih =>
    intro i hi
    rw [show k + (m + 1) = (k + m) + 1 from rfl, D_succ, ← h1 i hi, D_succ]
    apply Bool.eq_iff_iff.2
    simp only [List.all_eq_true]
    constructor
    · intro a j hj; rw [← ih j (hN i hi j hj)]; exact a j hj
    · intro a j hj; rw [ih j (hN i hi j hj)]; exact a j hj
/-- The waves below k, one behind the other. -/
def flat (N : Net) (n k : Nat) : List Nat := ((List.range k).map (wave N n)).flatten
theorem flat_succ (N : Net) (n k : Nat) : flat N n (k + 1) = flat N n k ++ wave N n k := by
  unfold flat
  rw [List.range_succ, List.map_append, List.flatten_append]; simp
theorem mem_wave {N : Net} {n k i : Nat} : i ∈ wave N n k ↔ i < n ∧ D N k i = false ∧ D N (k + 1) i = true := by
  unfold wave
  rw [List.mem_filter, List.mem_range]
  cases D N k i <;> simp
theorem mem_flat {N : Net} {n : Nat} : ∀ {k i : Nat}, i ∈ flat N n k ↔ i < n ∧ D N k i = true
  | 0, i => by simp [flat, D]
  | k + 1, i => by
    rw [flat_succ, List.mem_append, mem_flat, mem_wave]
    constructor
    · rintro (⟨a, b⟩ | ⟨a, _, b⟩)
      · exact ⟨a, D_up N k i b⟩
      · exact ⟨a, b⟩
    · rintro ⟨a, b⟩
      cases h : D N k i with
      | true => exact .inl ⟨a, rfl⟩
      | false => exact .inr ⟨a, rfl, b⟩
theorem nodup_flat (N : Net) (n : Nat) : ∀ k, (flat N n k).Nodup
  | 0 => by simp [flat]
  | k + 1 => by
    rw [flat_succ, List.nodup_append]
    refine ⟨nodup_flat N n k, List.Pairwise.filter _ List.nodup_range, ?_⟩
    intro a ha b hb hab
    rw [mem_flat] at ha
    rw [mem_wave] at hb
    rw [hab] at ha
    rw [ha.2] at hb
    exact absurd hb.2.1 (by decide)
theorem length_flat (N : Net) (n : Nat) : ∀ k, (flat N n k).length + left N n k = n
  | 0 => by rw [left_zero]; simp [flat]
  | k + 1 => by
    have := length_flat N n k
    rw [flat_succ, List.length_append]
    rw [left_split] at this
    omega
/-- Each stands behind what it needs. -/
theorem flat_order (N : Net) (n : Nat) (hN : ∀ i, i < n → ∀ j ∈ N i, j < n) :
    ∀ (k i : Nat), i ∈ flat N n k → ∀ j ∈ N i, j ∈ flat N n k ∧ (flat N n k).idxOf j < (flat N n k).idxOf i
  | 0, i, h, _, _ => by simp [flat] at h
  | k + 1, i, h, j, hj => by
    rw [flat_succ] at h ⊢
    by_cases hk : i ∈ flat N n k
    · obtain ⟨a, b⟩ := flat_order N n hN k i hk j hj
      refine ⟨List.mem_append_left _ a, ?_⟩
      rw [List.idxOf_append, List.idxOf_append, if_pos a, if_pos hk]; exact b
    · have hw : i ∈ wave N n k := (List.mem_append.1 h).resolve_left hk
      rw [mem_wave] at hw
      obtain ⟨hi, _, hd⟩ := hw
      rw [D_succ, List.all_eq_true] at hd
      have hjk : j ∈ flat N n k := mem_flat.2 ⟨hN i hi j hj, hd j hj⟩
      refine ⟨List.mem_append_left _ hjk, ?_⟩
      rw [List.idxOf_append, List.idxOf_append, if_pos hjk, if_neg hk]
      have := List.idxOf_lt_length_of_mem hjk
      omega
/-- What is reached: each set that has a, and what its own need, has b. -/
def Rch (N : Net) (a b : Nat) : Prop := ∀ S : Nat → Prop, S a → (∀ i, S i → ∀ j ∈ N i, S j) → S b
theorem Rch.refl {N : Net} (a : Nat) : Rch N a a := fun _ h _ => h
theorem Rch.step {N : Net} {a b c : Nat} (h : Rch N a b) (hc : c ∈ N b) : Rch N a c := fun S ha hS => hS b (h S ha hS) c hc
theorem Rch.trans {N : Net} {a b c : Nat} (h : Rch N a b) (h2 : Rch N b c) : Rch N a c := fun S ha hS => h2 S (h S ha hS) hS
theorem Rch.lt {N : Net} {n a b : Nat} (hN : ∀ i, i < n → ∀ j ∈ N i, j < n) (ha : a < n) (h : Rch N a b) : b < n := h (· < n) ha hN
theorem filter_lt (l : List Nat) (p q : Nat → Prop) [DecidablePred p] [DecidablePred q] (h : ∀ i, p i → q i) (x : Nat) (hx : x ∈ l)
    (hq : q x) (hp : ¬ p x) : (l.filter (fun i => decide (p i))).length < (l.filter (fun i => decide (q i))).length := by
  induction l with
  | nil => exact absurd hx List.not_mem_nil
  | cons a t ih =>
    have hle : (t.filter (fun i => decide (p i))).length ≤ (t.filter (fun i => decide (q i))).length := by
      clear ih hx
      induction t with
      | nil => exact Nat.le_refl _
      | cons b u ih =>
        by_cases hb : p b
        · simp [hb, h b hb]; exact ih
        · by_cases hb2 : q b
          · simp [hb, hb2]; omega
          · simp [hb, hb2]; exact ih
    rcases List.mem_cons.1 hx with rfl | hx
    · simp [hp, hq]; omega
    · have := ih hx
      by_cases ha : p a
      · simp [ha, h a ha]; exact this
      · by_cases ha2 : q a
        · simp [ha, ha2]; omega
        · simp [ha, ha2]; exact this
/-- Where each of some has one of them that it needs, one of them is reached from what it needs. -/
theorem cycle (N : Net) (n : Nat) (U : Nat → Prop) (hU : ∀ i, U i → i < n) (hS : ∀ i, U i → ∃ j ∈ N i, U j) (i : Nat) (hi : U i) :
    ∃ c, U c ∧ ∃ j ∈ N c, Rch N j c := by
  classical
  let P : Nat → Nat → Prop := fun a b => U b ∧ ∃ j ∈ N a, Rch N j b
  suffices H : ∀ (m i : Nat), U i → ((List.range n).filter (fun b => decide (P i b))).length < m → ∃ c, U c ∧ ∃ j ∈ N c, Rch N j c from
    H _ i hi (Nat.lt_succ_self _)
  intro m
  induction m with
  | zero => intro i _ h; exact absurd h (Nat.not_lt_zero _)
  | succ m ih =>
    intro i hi h
    obtain ⟨j, hj, hUj⟩ := hS i hi
    by_cases hc : ∃ x ∈ N j, Rch N x j
    · exact ⟨j, hUj, hc⟩
    · refine ih j hUj ?_
      have hlt := filter_lt (List.range n) (P j) (P i) (by
        rintro b ⟨hb, x, hx, hr⟩
        exact ⟨hb, j, hj, (Rch.step (Rch.refl j) hx).trans hr⟩) j (List.mem_range.2 (hU j hUj)) ⟨hUj, j, hj, Rch.refl j⟩
        (fun hp => hc hp.2)
      have e1 : ((List.range n).filter (fun b => decide (P j b))).length < ((List.range n).filter (fun b => decide (P i b))).length := hlt
      omega
/-- Where a wave is empty and some are left, one is reached from what it needs. -/
theorem cyc_of_left (N : Net) (n k : Nat) (hN : ∀ i, i < n → ∀ j ∈ N i, j < n) (hl : left N n k ≠ 0) (hw : wave N n k = []) :
    ∃ c, c < n ∧ ∃ j ∈ N c, Rch N j c := by
  obtain ⟨i, hi, hd⟩ := left_some N n k hl
  obtain ⟨c, hc, r⟩ := cycle N n (fun i => i < n ∧ D N k i = false) (fun i h => h.1) (by
    rintro i ⟨hi, hd⟩
    have h1 := stable N n k hN hw 1 i hi
    rw [hd, D_succ, List.all_eq_false] at h1
    obtain ⟨j, hj, hx⟩ := h1
    exact ⟨j, hj, hN i hi j hj, by simpa using hx⟩) i ⟨hi, hd⟩
  exact ⟨c, hc.1, r⟩
end Gr

namespace Gr
/-- One above all that are needed. -/
def up (lev : Nat → Nat) (l : List Nat) : Nat := l.foldl (fun u j => max u (1 + lev j)) 1
theorem up_fold_le (lev : Nat → Nat) (b : Nat) : ∀ (l : List Nat) (u : Nat), u ≤ b → (∀ j ∈ l, 1 + lev j ≤ b) →
    l.foldl (fun u j => max u (1 + lev j)) u ≤ b
  | [], u, hu, _ => hu
  | a :: t, u, hu, h => by
    refine up_fold_le lev b t _ ?_ (fun j hj => h j (List.mem_cons_of_mem _ hj))
    have := h a (List.mem_cons_self ..)
    show max u (1 + lev a) ≤ b
    omega
theorem up_fold_ge (lev : Nat → Nat) : ∀ (l : List Nat) (u : Nat), u ≤ l.foldl (fun u j => max u (1 + lev j)) u ∧
    ∀ j ∈ l, 1 + lev j ≤ l.foldl (fun u j => max u (1 + lev j)) u
  | [], u => ⟨Nat.le_refl _, fun _ h => absurd h List.not_mem_nil⟩
  | a :: t, u => by
    obtain ⟨h1, h2⟩ := up_fold_ge lev t (max u (1 + lev a))
    refine ⟨Nat.le_trans (Nat.le_max_left ..) h1, ?_⟩
    intro j hj
    rcases List.mem_cons.1 hj with rfl | hj
    · exact Nat.le_trans (Nat.le_max_right ..) h1
    · exact h2 j hj
def Low (N : Net) (lev : Nat → Nat) (r i : Nat) : Prop := ∀ k, k < r → D N k i = false → k < lev i
def Hi (N : Net) (lev : Nat → Nat) (i : Nat) : Prop := ∀ k, D N k i = true → lev i ≤ k
theorem up_hi (N : Net) (n : Nat) (lev : Nat → Nat) (h : ∀ j, j < n → Hi N lev j) (i : Nat) (hN : ∀ j ∈ N i, j < n) (k : Nat)
    (hd : D N k i = true) : up lev (N i) ≤ k := by
  cases k with
  | zero => exact absurd hd (by simp [D])
  | succ k =>
    rw [D_succ, List.all_eq_true] at hd
    refine up_fold_le lev _ _ _ (by omega) ?_
    intro j hj
    have := h j (hN j hj) k (hd j hj)
    omega
theorem up_low (N : Net) (n : Nat) (lev : Nat → Nat) (r : Nat) (h : ∀ j, j < n → Low N lev r j) (i : Nat) (hN : ∀ j ∈ N i, j < n) (k : Nat)
    (hk : k < r + 1) (hd : D N k i = false) : k < up lev (N i) := by
  cases k with
  | zero => exact (up_fold_ge lev (N i) 1).1
  | succ k =>
    rw [D_succ, List.all_eq_false] at hd
    obtain ⟨j, hj, hx⟩ := hd
    have h1 := h j (hN j hj) k (by omega) (by simpa using hx)
    have h2 := (up_fold_ge lev (N i) 1).2 j hj
    unfold up
    omega
theorem lev_wave (N : Net) (n : Nat) (lev : Nat → Nat) (hl : ∀ j, j < n → Low N lev (n + 1) j) (hh : ∀ j, j < n → Hi N lev j) (w : Nat)
    (hw : w < n) : (List.range n).filter (fun i => lev i == w + 1) = wave N n w := by
  unfold wave
  apply List.filter_congr
  intro i hi
  rw [List.mem_range] at hi
  have a := hl i hi
  have b := hh i hi
  apply Bool.eq_iff_iff.2
  rw [beq_iff_eq, Bool.and_eq_true, Bool.not_eq_true']
  constructor
  · intro e
    constructor
    · cases hd : D N w i with
      | false => rfl
      | true => have := b w hd; omega
    · cases hd : D N (w + 1) i with
      | true => rfl
      | false => have := a (w + 1) (by omega) hd; omega
  · rintro ⟨h1, h2⟩
    have := b _ h2
    have := a w (by omega) h1
    omega
/-- The document's waves: none where some are never done. -/
theorem all_done (N : Net) (n : Nat) (lev : Nat → Nat) (hl : ∀ j, j < n → Low N lev (n + 1) j) (hn : ∀ j, j < n → lev j ≤ n) :
    ∀ i, i < n → D N n i = true := by
  intro i hi
  cases hd : D N n i with
  | true => rfl
  | false => have := hl i hi n (by omega) hd; have := hn i hi; omega
/-- How the waves of the program end. -/
def Ends (N : Net) (n k : Nat) : Prop := (∀ j, j < k → wave N n j ≠ []) ∧ (left N n k = 0 ∨ (left N n k ≠ 0 ∧ wave N n k = []))
theorem le_flat (N : Net) (n : Nat) : ∀ k, (∀ j, j < k → wave N n j ≠ []) → k ≤ (flat N n k).length
  | 0, _ => Nat.zero_le _
  | k + 1, h => by
    rw [flat_succ, List.length_append]
    have h1 := le_flat N n k (fun j hj => h j (by omega))
    have h2 := List.length_pos_iff.2 (h k (by omega))
    omega
theorem ends_le (N : Net) (n k : Nat) (h : Ends N n k) : k ≤ n := by
  have h1 := le_flat N n k h.1
  have h2 := length_flat N n k
  omega
/-- The waves that are not empty. -/
theorem waves_some (N : Net) (n k : Nat) (h : Ends N n k) (hl : left N n k = 0) :
    ((List.range n).map (wave N n)).filter (fun l => !l.isEmpty) = (List.range k).map (wave N n) := by
  have hk := ends_le N n k h
  obtain ⟨m, rfl⟩ := Nat.le.dest hk
  rw [List.range_add, List.map_append, List.filter_append]
  have e1 : ((List.range k).map (wave N (k + m))).filter (fun l => !l.isEmpty) = (List.range k).map (wave N (k + m)) := by
    apply List.filter_eq_self.2
    intro a ha
    obtain ⟨j, hj, rfl⟩ := List.mem_map.1 ha
    have := h.1 j (List.mem_range.1 hj)
    simpa using this
  have e2 : (((List.range m).map (fun x => k + x)).map (wave N (k + m))).filter (fun l => !l.isEmpty) = [] := by
    rw [List.filter_eq_nil_iff]
    intro a ha
    obtain ⟨j, hj, rfl⟩ := List.mem_map.1 ha
    obtain ⟨x, hx, rfl⟩ := List.mem_map.1 hj
    have : wave N (k + m) (k + x) = [] := by
      apply List.eq_nil_iff_forall_not_mem.2
      intro i hi
      rw [mem_wave] at hi
      have := D_le N (show k ≤ k + x by omega) (left_done N (k + m) k hl i hi.1)
      rw [this] at hi
      exact absurd hi.2.1 (by decide)
    rw [this]; decide
  rw [e1, e2, List.append_nil]
theorem ends_all (N : Net) (n k : Nat) (hN : ∀ i, i < n → ∀ j ∈ N i, j < n) (h : Ends N n k) :
    left N n k = 0 ↔ ∀ i, i < n → D N n i = true := by
  have hk := ends_le N n k h
  constructor
  · intro hl i hi; exact D_le N hk (left_done N n k hl i hi)
  · intro ha
    rcases h.2 with h2 | ⟨h2, h3⟩
    · exact h2
    · exfalso
      obtain ⟨i, hi, hd⟩ := left_some N n k h2
      have := stable N n k hN h3 (n - k) i hi
      rw [show k + (n - k) = n by omega, ha i hi, hd] at this
      exact absurd this (by decide)
/-- How many of n are in. -/
def card (n : Nat) (S : Nat → Bool) : Nat := ((List.range n).filter S).length
theorem card_le (n : Nat) (S : Nat → Bool) : card n S ≤ n := by
  have := List.length_filter_le S (List.range n)
  rwa [List.length_range] at this
theorem card_lt (n : Nat) (S T : Nat → Bool) (h : ∀ i, S i = true → T i = true) (x : Nat) (hx : x < n) (hS : S x = false) (hT : T x = true) :
    card n S < card n T := by
  have := filter_lt (List.range n) (fun i => S i = true) (fun i => T i = true) h x (List.mem_range.2 hx) hT (by rw [hS]; decide)
  simpa [card] using this
theorem card_mono (n : Nat) (S T : Nat → Bool) (h : ∀ i, S i = true → T i = true) : card n S ≤ card n T := by
  by_cases hx : ∃ x, x < n ∧ S x = false ∧ T x = true
  · obtain ⟨x, a, b, c⟩ := hx
    exact Nat.le_of_lt (card_lt n S T h x a b c)
  · unfold card
    have : (List.range n).filter S = (List.range n).filter T := by
      apply List.filter_congr
      intro i hi
      rw [List.mem_range] at hi
      cases hs : S i with
      | true => rw [h i hs]
      | false =>
        cases ht : T i with
        | false => rfl
        | true => exact absurd ⟨i, hi, hs, ht⟩ hx
    rw [this]; exact Nat.le_refl _
theorem card_all (n : Nat) (S : Nat → Bool) (h : n ≤ card n S) (i : Nat) (hi : i < n) : S i = true := by
  cases hs : S i with
  | true => rfl
  | false =>
    have := card_lt n S (fun _ => true) (fun _ _ => rfl) i hi hs rfl
    have := card_le n (fun _ => true)
    omega
end Gr

namespace Gr
/-- Flag i is set. -/
def On (S : List Bool) (i : Nat) : Prop := S[i]? = some true
/-- How many are not set. -/
def un (S : List Bool) : Nat := (S.filter (fun b => !b)).length
theorem On.lt {S : List Bool} {i : Nat} (h : On S i) : i < S.length := (List.getElem?_eq_some_iff.1 h).1
theorem un_le : ∀ (S T : List Bool), T.length = S.length → (∀ i, On S i → On T i) → un T ≤ un S
  | [], [], _, _ => Nat.le_refl _
  | [], _ :: _, h, _ => by simp at h
  | _ :: _, [], h, _ => by simp at h
  | a :: S, b :: T, h, hm => by
    have ih := un_le S T (by simpa using h) (fun i hi => by simpa [On] using hm (i + 1) (by simpa [On] using hi))
    have h0 := hm 0
    unfold un at *
    cases a <;> cases b <;> simp_all [On] <;> omega
theorem un_set : ∀ (S : List Bool) (n : Nat), S[n]? = some false → un (S.set n true) < un S
  | [], n, h => by simp at h
  | a :: S, 0, h => by
    have : a = false := by simpa using h
    subst this
    unfold un; simp
  | a :: S, n + 1, h => by
    have ih := un_set S n (by simpa using h)
    unfold un at *
    cases a <;> simp_all
theorem on_set {S : List Bool} {n i : Nat} : On (S.set n true) i ↔ (On S i ∨ (i = n ∧ n < S.length)) := by
  unfold On
  by_cases h : n = i
  · subst h
    by_cases hn : n < S.length
    · rw [List.getElem?_set_self hn]; simp [hn]
    · rw [List.getElem?_eq_none (by simpa using hn)]; simp [hn]
  · rw [List.getElem?_set_ne h]
    constructor
    · exact fun a => .inl a
    · rintro (a | ⟨a, _⟩)
      · exact a
      · exact absurd a.symm h
/-- One search from n. -/
structure Dfs (N : Net) (S T : List Bool) (n : Nat) : Prop where
  len : T.length = S.length
  mono : ∀ i, On S i → On T i
  self : On T n
  sound : ∀ i, On T i → On S i ∨ Rch N n i
  closed : ∀ i, On T i → On S i ∨ ∀ j ∈ N i, On T j
theorem Dfs.seen {N : Net} {S : List Bool} {n : Nat} (h : On S n) : Dfs N S S n :=
  ⟨rfl, fun _ h => h, h, fun _ h => .inl h, fun _ h => .inl h⟩
/-- Midway: k of those that n needs were searched. -/
structure Mid (N : Net) (S T : List Bool) (n k : Nat) : Prop where
  len : T.length = S.length
  mono : ∀ i, On S i → On T i
  self : On T n
  done : ∀ m ∈ (N n).take k, On T m
  sound : ∀ i, On T i → On S i ∨ Rch N n i
  closed : ∀ i, On T i → On S i ∨ i = n ∨ ∀ j ∈ N i, On T j
theorem Mid.start {N : Net} {S : List Bool} {n : Nat} (hn : n < S.length) : Mid N S (S.set n true) n 0 :=
  ⟨by simp, fun i h => on_set.2 (.inl h), on_set.2 (.inr ⟨rfl, hn⟩), fun m h => by simp at h,
   fun i h => (on_set.1 h).elim .inl (fun e => .inr (by rw [e.1]; exact Rch.refl n)), fun i h => (on_set.1 h).elim .inl (fun e => .inr (.inl e.1))⟩
theorem Mid.step {N : Net} {S T U : List Bool} {n k m : Nat} (h : Mid N S T n k) (hm : (N n)[k]? = some m) (d : Dfs N T U m) : Mid N S U n (k + 1) := by
  have hmem : m ∈ N n := List.mem_of_getElem? hm
  refine ⟨d.len.trans h.len, fun i hi => d.mono i (h.mono i hi), d.mono n h.self, ?_, ?_, ?_⟩
  · intro x hx
    rw [List.take_add_one, hm] at hx
    rcases List.mem_append.1 hx with hx | hx
    · exact d.mono x (h.done x hx)
    · have : x = m := by simpa using hx
      rw [this]; exact d.self
  · intro i hi
    rcases d.sound i hi with a | a
    · exact h.sound i a
    · exact .inr ((Rch.step (Rch.refl n) hmem).trans a)
  · intro i hi
    rcases d.closed i hi with a | a
    · rcases h.closed i a with b | b | b
      · exact .inl b
      · exact .inr (.inl b)
      · exact .inr (.inr (fun j hj => d.mono j (b j hj)))
    · exact .inr (.inr a)
theorem Mid.end {N : Net} {S T : List Bool} {n k : Nat} (h : Mid N S T n k) (hk : (N n).length ≤ k) : Dfs N S T n := by
  refine ⟨h.len, h.mono, h.self, h.sound, ?_⟩
  intro i hi
  rcases h.closed i hi with a | a | a
  · exact .inl a
  · right
    intro j hj
    rw [a] at hj
    exact h.done j (by rw [List.take_of_length_le hk]; exact hj)
  · exact .inr a
/-- What is reached from a list's first k. -/
structure Got (N : Net) (S : List Bool) (l : List Nat) (n : Nat) : Prop where
  len : S.length = n
  has : ∀ x ∈ l, On S x
  sound : ∀ i, On S i → ∃ x ∈ l, Rch N x i
  closed : ∀ i, On S i → ∀ j ∈ N i, On S j
theorem Got.start (N : Net) (n : Nat) : Got N (List.replicate n false) [] n := by
  have : ∀ i, ¬ On (List.replicate n false) i := by
    intro i h
    unfold On at h
    rw [List.getElem?_replicate] at h
    split at h <;> simp at h
  exact ⟨by simp, fun x h => by simp at h, fun i h => absurd h (this i), fun i h => absurd h (this i)⟩
theorem Got.step {N : Net} {S T : List Bool} {l : List Nat} {n m : Nat} (h : Got N S l n) (d : Dfs N S T m) : Got N T (l ++ [m]) n := by
  refine ⟨d.len.trans h.len, ?_, ?_, ?_⟩
  · intro x hx
    rcases List.mem_append.1 hx with hx | hx
    · exact d.mono x (h.has x hx)
    · have : x = m := by simpa using hx
      rw [this]; exact d.self
  · intro i hi
    rcases d.sound i hi with a | a
    · obtain ⟨x, hx, r⟩ := h.sound i a
      exact ⟨x, List.mem_append_left _ hx, r⟩
    · exact ⟨m, by simp, a⟩
  · intro i hi
    rcases d.closed i hi with a | a
    · exact fun j hj => d.mono j (h.closed i a j hj)
    · exact a
theorem Got.iff {N : Net} {S : List Bool} {l : List Nat} {n : Nat} (h : Got N S l n) (i : Nat) : On S i ↔ ∃ x ∈ l, Rch N x i := by
  constructor
  · exact h.sound i
  · rintro ⟨x, hx, r⟩
    exact r (On S) (h.has x hx) h.closed
/-- Two that come to the same flags. -/
theorem Got.same {N : Net} {S T : List Bool} {l : List Nat} {n : Nat} (h : Got N S l n) (g : Got N T l n) : S = T := by
  apply List.ext_getElem?
  intro i
  by_cases hi : i < n
  · have a : i < S.length := by rw [h.len]; exact hi
    have b : i < T.length := by rw [g.len]; exact hi
    have e := (h.iff i).trans (g.iff i).symm
    unfold On at e
    rw [List.getElem?_eq_getElem a, List.getElem?_eq_getElem b] at e ⊢
    congr 1
    apply Bool.eq_iff_iff.2
    simpa using e
  · rw [List.getElem?_eq_none (by rw [h.len]; omega), List.getElem?_eq_none (by rw [g.len]; omega)]
/-- The numbers whose flags are set, rising. -/
def nums (S : List Bool) : List Nat := (List.range S.length).filter (fun i => S[i]? == some true)
theorem mem_nums {S : List Bool} {i : Nat} : i ∈ nums S ↔ On S i := by
  unfold nums On
  rw [List.mem_filter, List.mem_range, beq_iff_eq]
  constructor
  · exact fun h => h.2
  · exact fun h => ⟨(List.getElem?_eq_some_iff.1 h).1, h⟩
/-- The first k of them. -/
def numsTo (S : List Bool) (k : Nat) : List Nat := (List.range k).filter (fun i => S[i]? == some true)
theorem numsTo_succ (S : List Bool) (k : Nat) : numsTo S (k + 1) = if S[k]? = some true then numsTo S k ++ [k] else numsTo S k := by
  unfold numsTo
  rw [List.range_succ, List.filter_append]
  by_cases h : S[k]? = some true
  · rw [if_pos h]; simp [h]
  · rw [if_neg h]; simp [h]
theorem numsTo_le (S : List Bool) (k : Nat) : (numsTo S k).length ≤ k := by
  have := List.length_filter_le (fun i => S[i]? == some true) (List.range k)
  rwa [List.length_range] at this
end Gr

namespace Gr
/-- From where, and to where, what i needs is gone over. -/
def src (over : Bool) (i c : Nat) : Nat := if over then c else i
def dst (over : Bool) (i c : Nat) : Nat := if over then i else c
/-- M has each of these ways, and no others. -/
def Ways (N : Net) (n : Nat) (over : Bool) (M : Net) : Prop := ∀ b c, c ∈ M b ↔ ∃ (i k d : Nat), i < n ∧ (N i)[k]? = some d ∧ b = src over i d ∧ c = dst over i d
/-- Inside a round: S0 at its start, S now; gone over: all below i, and k of those that i needs. -/
structure Rnd (N : Net) (n : Nat) (over : Bool) (M : Net) (S0 S : List Bool) (i k : Nat) : Prop where
  len : S.length = S0.length
  mono : ∀ x, On S0 x → On S x
  least : ∀ C : Nat → Prop, (∀ x, C x → ∀ j ∈ M x, C j) → (∀ x, On S0 x → C x) → ∀ x, On S x → C x
  quiet : (∀ x, On S x → On S0 x) → ∀ a q d, a < n → (a < i ∨ (a = i ∧ q < k)) → (N a)[q]? = some d → On S0 (src over a d) → On S0 (dst over a d)
theorem Rnd.start (N : Net) (n : Nat) (over : Bool) (M : Net) (S : List Bool) : Rnd N n over M S S 0 0 :=
  ⟨rfl, fun _ h => h, fun _ _ h => h, fun _ a q d _ h => by omega⟩
theorem Rnd.next {N : Net} {n : Nat} {over : Bool} {M : Net} {S0 S : List Bool} {i k : Nat} (h : Rnd N n over M S0 S i k) (hk : (N i).length ≤ k) : Rnd N n over M S0 S (i + 1) 0 := by
  refine ⟨h.len, h.mono, h.least, fun hs a q d ha hq hd => h.quiet hs a q d ha ?_ hd⟩
  by_cases e : a = i
  · subst e
    have := (List.getElem?_eq_some_iff.1 hd).1
    omega
  · omega
theorem Rnd.skip {N : Net} {n : Nat} {over : Bool} {M : Net} {S0 S : List Bool} {i k d : Nat} (h : Rnd N n over M S0 S i k) (hd : (N i)[k]? = some d) (hs : ¬ On S (src over i d)) : Rnd N n over M S0 S i (k + 1) := by
  refine ⟨h.len, h.mono, h.least, fun hq a q x ha hlt hx => ?_⟩
  by_cases e : a = i ∧ q = k
  · obtain ⟨rfl, rfl⟩ := e
    rw [hd] at hx
    cases hx
    exact fun hc => absurd (h.mono _ hc) hs
  · exact h.quiet hq a q x ha (by omega) hx
theorem Rnd.put {N : Net} {n : Nat} {over : Bool} {M : Net} {S0 S : List Bool} {i k d : Nat} (hM : Ways N n over M) (hi : i < n) (h : Rnd N n over M S0 S i k) (hd : (N i)[k]? = some d)
    (hs : On S (src over i d)) (hl : dst over i d < S.length) : Rnd N n over M S0 (S.set (dst over i d) true) i (k + 1) := by
  refine ⟨by simp [h.len], fun x hx => on_set.2 (.inl (h.mono x hx)), ?_, ?_⟩
  · intro C hC h0 x hx
    rcases on_set.1 hx with hx | ⟨rfl, _⟩
    · exact h.least C hC h0 x hx
    · exact hC _ (h.least C hC h0 _ hs) _ ((hM _ _).2 ⟨i, k, d, hi, hd, rfl, rfl⟩)
  · intro hq a q x ha hlt hx
    have hq' : ∀ x, On S x → On S0 x := fun x hx => hq x (on_set.2 (.inl hx))
    by_cases e : a = i ∧ q = k
    · obtain ⟨rfl, rfl⟩ := e
      rw [hd] at hx
      cases hx
      exact fun _ => hq _ (on_set.2 (.inr ⟨rfl, hl⟩))
    · exact h.quiet hq' a q x ha (by omega) hx
theorem un_lt (S T : List Bool) (hl : T.length = S.length) (hm : ∀ i, On S i → On T i) (x : Nat) (hx : On T x) (hn : ¬ On S x) : un T < un S := by
  have hxl : x < S.length := by rw [← hl]; exact hx.lt
  have h1 : S[x]? = some false := by
    unfold On at hn
    rw [List.getElem?_eq_getElem hxl] at hn ⊢
    cases h : S[x]
    · rfl
    · rw [h] at hn; exact absurd rfl hn
  have h2 := un_set S x h1
  have h3 := un_le (S.set x true) T (by simp [hl]) (fun i hi => by
    rcases on_set.1 hi with a | ⟨rfl, _⟩
    · exact hm i a
    · exact hx)
  omega
theorem un_zero {S : List Bool} (h : un S = 0) (i : Nat) (hi : i < S.length) : On S i := by
  unfold un at h
  have h2 := List.eq_nil_of_length_eq_zero h
  rw [List.filter_eq_nil_iff] at h2
  have := h2 S[i] (List.getElem_mem hi)
  unfold On
  rw [List.getElem?_eq_getElem hi]
  cases hs : S[i]
  · rw [hs] at this; exact absurd rfl this
  · rfl
theorem un_len (S : List Bool) : un S ≤ S.length := List.length_filter_le _ _
def Shut (M : Net) (S : List Bool) : Prop := ∀ x, On S x → ∀ j ∈ M x, On S j
/-- Behind r rounds. -/
structure Rds (M : Net) (l : List Nat) (n : Nat) (S : List Bool) (r : Nat) : Prop where
  len : S.length = n
  has : ∀ x ∈ l, On S x
  least : ∀ C : Nat → Prop, (∀ x, C x → ∀ j ∈ M x, C j) → (∀ x ∈ l, C x) → ∀ x, On S x → C x
  far : Shut M S ∨ un S + r ≤ n
theorem Rds.start {M : Net} {l : List Nat} {n : Nat} {S : List Bool} (hlen : S.length = n) (h : ∀ x, On S x ↔ x ∈ l) : Rds M l n S 0 :=
  ⟨hlen, fun x hx => (h x).2 hx, fun C _ h0 x hx => h0 x ((h x).1 hx), .inr (by have := un_len S; omega)⟩
theorem Rds.step {N M : Net} {over : Bool} {l : List Nat} {n r : Nat} {S0 S : List Bool} (hM : Ways N n over M) (h : Rds M l n S0 r) (hr : Rnd N n over M S0 S n 0) : Rds M l n S (r + 1) := by
  refine ⟨hr.len.trans h.len, fun x hx => hr.mono x (h.has x hx), fun C hC h0 x hx => hr.least C hC (h.least C hC h0) x hx, ?_⟩
  by_cases hq : ∀ x, On S x → On S0 x
  · left
    intro x hx j hj
    obtain ⟨a, q, d, ha, hd, rfl, rfl⟩ := (hM x j).1 hj
    exact hr.mono _ (hr.quiet hq a q d ha (by omega) hd (hq _ hx))
  · by_cases hx : ∃ x, On S x ∧ ¬ On S0 x
    · obtain ⟨x, h1, h2⟩ := hx
      rcases h.far with hf | hf
      · exact absurd (hr.least (On S0) hf (fun _ h => h)) hq
      · right
        have := un_lt S0 S hr.len hr.mono x h1 h2
        omega
    · exfalso
      apply hq
      intro x h1
      by_cases h2 : On S0 x
      · exact h2
      · exact absurd ⟨x, h1, h2⟩ hx
theorem Rds.end {M : Net} {l : List Nat} {n : Nat} {S : List Bool} (hM : ∀ i, ∀ j ∈ M i, j < n) (h : Rds M l n S n) : Got M S l n := by
  refine ⟨h.len, h.has, ?_, ?_⟩
  · refine h.least (fun i => ∃ x ∈ l, Rch M x i) ?_ (fun x hx => ⟨x, hx, Rch.refl x⟩)
    rintro i ⟨x, hx, hr⟩ j hj
    exact ⟨x, hx, hr.step hj⟩
  · rcases h.far with hf | hf
    · exact hf
    · intro i _ j hj
      exact un_zero (by omega) j (by rw [h.len]; exact hM i j hj)
end Gr
end Go.Proofs.Ytienhelohfhhfaa
