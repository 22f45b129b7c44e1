/- Needs that are put into a graph, as plain lists. -/
import Derived.Test.YtienhelohfhhfaaGK
namespace Go.Proofs.Ytienhelohfhhfaa
open Go.RowKit
open Gr (hide ofN lists putN putU tot)
namespace Gr
/-- What has been gone over: all below i, and k of the i-th. -/
def Past (i k a q : Nat) : Prop := a < i ∨ (a = i ∧ q < k)
/-- A list of lists, at one place. -/
def row (L : List (List Int)) (i : Nat) : List Int := L.getD i []
theorem row_some {L : List (List Int)} {i : Nat} {l : List Int} (h : L[i]? = some l) : row L i = l := by
  unfold row; rw [List.getD_eq_getElem?_getD, h]; rfl
theorem row_set_self {L : List (List Int)} {i : Nat} {l : List Int} (h : i < L.length) : row (L.set i l) i = l := row_some (List.getElem?_set_self h)
theorem row_set_ne {L : List (List Int)} {i j : Nat} {l : List Int} (h : i ≠ j) : row (L.set i l) j = row L j := by
  unfold row; rw [List.getD_eq_getElem?_getD, List.getD_eq_getElem?_getD, List.getElem?_set_ne h]
/-- Needs that are being put in. -/
structure Ins (NZ : List (List Int)) (n i k : Nat) (LN LU : List (List Int)) : Prop where
  ln : LN.length = n
  lu : LU.length = n
  ok : ∀ (a q : Nat) x, Past i k a q → (row NZ a)[q]? = some x → 0 ≤ x ∧ x < n
  mn : ∀ a, a < n → ∀ y, y ∈ row LN a ↔ ∃ q, Past i k a q ∧ (row NZ a)[q]? = some y
  mu : ∀ b, b < n → ∀ y, y ∈ row LU b ↔ ∃ a : Nat, y = a ∧ a < n ∧ (b : Int) ∈ row LN a
  sn : ∀ a, a < n → (row LN a).length ≤ (row NZ a).length
  sn' : (row LN i).length ≤ k
  su : ∀ b, b < n → (row LU b).length ≤ tot (NZ.take i) + k
theorem row_rep (n i : Nat) : row (List.replicate n []) i = [] := by
  unfold row; rw [List.getD_eq_getElem?_getD, List.getElem?_replicate]; split <;> rfl
theorem Ins.start (NZ : List (List Int)) (n : Nat) : Ins NZ n 0 0 (List.replicate n []) (List.replicate n []) := by
  refine ⟨by simp, by simp, ?_, ?_, ?_, ?_, ?_, ?_⟩
  · intro a q x h; unfold Past at h; omega
  · intro a _ y
    rw [row_rep]
    constructor
    · intro h; simp at h
    · rintro ⟨q, h, _⟩; unfold Past at h; omega
  · intro b _ y
    rw [row_rep]
    constructor
    · intro h; simp at h
    · rintro ⟨a, _, _, h⟩; rw [row_rep] at h; simp at h
  · intro a _; rw [row_rep]; simp
  · rw [row_rep]; simp
  · intro b _; rw [row_rep]; simp
theorem Ins.next {NZ : List (List Int)} {n i k : Nat} {LN LU : List (List Int)} (h : Ins NZ n i k LN LU) (hi : i < NZ.length) (hk : (row NZ i).length ≤ k) (hk2 : k ≤ (row NZ i).length) (hin : i + 1 ≤ n) : Ins NZ n (i + 1) 0 LN LU := by
  have key : ∀ a q x, (row NZ a)[q]? = some x → (Past (i + 1) 0 a q ↔ Past i k a q) := by
    intro a q x hx
    have := (List.getElem?_eq_some_iff.1 hx).1
    unfold Past
    by_cases e : a = i
    · subst e; omega
    · omega
  refine ⟨h.ln, h.lu, ?_, ?_, h.mu, h.sn, ?_, ?_⟩
  · intro a q x hp hx; exact h.ok a q x ((key a q x hx).1 hp) hx
  · intro a ha y
    rw [h.mn a ha y]
    constructor
    · rintro ⟨q, h1, h2⟩; exact ⟨q, (key a q y h2).2 h1, h2⟩
    · rintro ⟨q, h1, h2⟩; exact ⟨q, (key a q y h2).1 h1, h2⟩
  · by_cases hn : i + 1 < n
    · have : row LN (i + 1) = [] := by
        apply List.eq_nil_iff_forall_not_mem.2
        intro y hy
        obtain ⟨q, hp, _⟩ := (h.mn (i + 1) hn y).1 hy
        unfold Past at hp; omega
      rw [this]; simp
    · have : row LN (i + 1) = [] := by
        unfold row; rw [List.getD_eq_getElem?_getD, List.getElem?_eq_none (by rw [h.ln]; omega)]; rfl
      rw [this]; simp
  · intro b hb
    have h1 := h.su b hb
    obtain ⟨l, hl⟩ := getElem_some hi
    rw [tot_take hl]
    have : row NZ i = l := row_some hl
    rw [this] at hk hk2
    omega
theorem Ins.put {NZ : List (List Int)} {n i k x : Nat} {LN LU : List (List Int)} (h : Ins NZ n i k LN LU) (hi : i < n) (hxn : x < n) (hx : (row NZ i)[k]? = some (x : Int)) : Ins NZ n i (k + 1) (putN LN i x) (putU LN LU i x) := by
  have hkl := (List.getElem?_eq_some_iff.1 hx).1
  have past : ∀ a q, Past i (k + 1) a q ↔ (Past i k a q ∨ (a = i ∧ q = k)) := by intro a q; unfold Past; omega
  have hok : ∀ (a q : Nat) y, Past i (k + 1) a q → (row NZ a)[q]? = some y → 0 ≤ y ∧ y < n := by
    intro a q y hp hy
    rcases (past a q).1 hp with hp | ⟨rfl, rfl⟩
    · exact h.ok a q y hp hy
    · rw [hx] at hy; cases hy; omega
  unfold putN putU
  by_cases hm : (x : Int) ∈ row LN i
  · have e1 : (x : Int) ∈ LN.getD i [] := hm
    rw [if_pos e1, if_pos e1]
    refine ⟨h.ln, h.lu, hok, ?_, h.mu, h.sn, by have := h.sn'; omega, fun b hb => by have := h.su b hb; omega⟩
    intro a ha y
    rw [h.mn a ha y]
    constructor
    · rintro ⟨q, h1, h2⟩; exact ⟨q, (past a q).2 (.inl h1), h2⟩
    · rintro ⟨q, h1, h2⟩
      rcases (past a q).1 h1 with h1 | ⟨rfl, rfl⟩
      · exact ⟨q, h1, h2⟩
      · rw [hx] at h2; cases h2
        exact (h.mn a ha _).1 hm
  · have e1 : ¬ (x : Int) ∈ LN.getD i [] := hm
    rw [if_neg e1, if_neg e1]
    show Ins NZ n i (k + 1) (LN.set i (row LN i ++ [(x : Int)])) (LU.set x (row LU x ++ [(i : Int)]))
    have hiL : i < LN.length := by rw [h.ln]; exact hi
    have hxL : x < LU.length := by rw [h.lu]; exact hxn
    have rN : ∀ a, row (LN.set i (row LN i ++ [(x : Int)])) a = if a = i then row LN i ++ [(x : Int)] else row LN a := by
      intro a
      by_cases e : a = i
      · subst e; rw [if_pos rfl, row_set_self hiL]
      · rw [if_neg e, row_set_ne (Ne.symm e)]
    have rU : ∀ b, row (LU.set x (row LU x ++ [(i : Int)])) b = if b = x then row LU x ++ [(i : Int)] else row LU b := by
      intro b
      by_cases e : b = x
      · subst e; rw [if_pos rfl, row_set_self hxL]
      · rw [if_neg e, row_set_ne (Ne.symm e)]
    refine ⟨by simp [h.ln], by simp [h.lu], hok, ?_, ?_, ?_, ?_, ?_⟩
    · intro a ha y
      rw [rN]
      by_cases e : a = i
      · subst e
        rw [if_pos rfl, List.mem_append, List.mem_singleton, h.mn a ha y]
        constructor
        · rintro (⟨q, h1, h2⟩ | rfl)
          · exact ⟨q, (past a q).2 (.inl h1), h2⟩
          · exact ⟨k, (past a k).2 (.inr ⟨rfl, rfl⟩), hx⟩
        · rintro ⟨q, h1, h2⟩
          rcases (past a q).1 h1 with h1 | ⟨_, rfl⟩
          · exact .inl ⟨q, h1, h2⟩
          · rw [hx] at h2; cases h2; exact .inr rfl
      · rw [if_neg e, h.mn a ha y]
        constructor
        · rintro ⟨q, h1, h2⟩; exact ⟨q, (past a q).2 (.inl h1), h2⟩
        · rintro ⟨q, h1, h2⟩
          rcases (past a q).1 h1 with h1 | ⟨h1, _⟩
          · exact ⟨q, h1, h2⟩
          · exact absurd h1 e
    · intro b hb y
      rw [rU]
      by_cases e : b = x
      · subst e
        rw [if_pos rfl, List.mem_append, List.mem_singleton, h.mu b hb y]
        constructor
        · rintro (⟨a, rfl, h1, h2⟩ | rfl)
          · refine ⟨a, rfl, h1, ?_⟩
            rw [rN]
            by_cases e2 : a = i
            · rw [if_pos e2]; simp
            · rw [if_neg e2]; exact h2
          · refine ⟨i, rfl, hi, ?_⟩
            rw [rN, if_pos rfl]; simp
        · rintro ⟨a, rfl, h1, h2⟩
          rw [rN] at h2
          by_cases e2 : a = i
          · subst e2; exact .inr rfl
          · rw [if_neg e2] at h2; exact .inl ⟨a, rfl, h1, h2⟩
      · rw [if_neg e, h.mu b hb y]
        constructor
        · rintro ⟨a, rfl, h1, h2⟩
          refine ⟨a, rfl, h1, ?_⟩
          rw [rN]
          by_cases e2 : a = i
          · subst e2; rw [if_pos rfl]; exact List.mem_append_left _ h2
          · rw [if_neg e2]; exact h2
        · rintro ⟨a, rfl, h1, h2⟩
          refine ⟨a, rfl, h1, ?_⟩
          rw [rN] at h2
          by_cases e2 : a = i
          · subst e2
            rw [if_pos rfl, List.mem_append, List.mem_singleton] at h2
            rcases h2 with h2 | h2
            · exact h2
            · exfalso; omega
          · rw [if_neg e2] at h2; exact h2
    · intro a ha
      rw [rN]
      by_cases e : a = i
      · subst e
        rw [if_pos rfl, List.length_append]
        have := h.sn'
        simp
        omega
      · rw [if_neg e]; exact h.sn a ha
    · rw [rN, if_pos rfl, List.length_append]
      have := h.sn'
      simp
      omega
    · intro b hb
      rw [rU]
      by_cases e : b = x
      · rw [if_pos e, List.length_append]
        have := h.su x hxn
        simp
        omega
      · rw [if_neg e]
        have := h.su b hb
        omega
/-- The net of lists of numbers that are not below nought. -/
def netOf (L : List (List Int)) : Net := fun i => (row L i).map Int.toNat
theorem lists_netOf (L : List (List Int)) (n : Nat) (hL : L.length = n) (h : ∀ i, i < n → ∀ y ∈ row L i, 0 ≤ y) : lists (netOf L) n = L := by
  subst hL
  apply List.ext_getElem?
  intro i
  by_cases hi : i < L.length
  · rw [lists_get _ _ _ hi]
    obtain ⟨l, hl⟩ := getElem_some hi
    rw [hl]
    unfold netOf ofN
    rw [List.map_map, row_some hl]
    congr 1
    have : ∀ y ∈ l, (Int.ofNat ∘ Int.toNat) y = id y := by
      intro y hy
      have := h i hi y (by rw [row_some hl]; exact hy)
      show ((y.toNat : Nat) : Int) = y
      omega
    rw [List.map_congr_left this, List.map_id]
  · rw [List.getElem?_eq_none (by rw [lists_length]; omega), List.getElem?_eq_none (by omega)]
theorem mem_netOf {L : List (List Int)} {i j : Nat} (h : ∀ y ∈ row L i, 0 ≤ y) : j ∈ netOf L i ↔ (j : Int) ∈ row L i := by
  unfold netOf
  rw [List.mem_map]
  constructor
  · rintro ⟨y, hy, rfl⟩
    have := h y hy
    rw [show ((y.toNat : Nat) : Int) = y by omega]; exact hy
  · intro hj; exact ⟨(j : Int), hj, by simp⟩
/-- What a graph of these needs is. -/
structure Net2 (NZ : List (List Int)) (n : Nat) (N U : Net) : Prop where
  mn : ∀ i, i < n → ∀ j, j ∈ N i ↔ (j : Int) ∈ row NZ i
  mu : ∀ j, j < n → ∀ i, i ∈ U j ↔ i < n ∧ j ∈ N i
  bn : ∀ i, i < n → ∀ j ∈ N i, j < n
  bu : ∀ i, i < n → ∀ j ∈ U i, j < n
  ln : ∀ i, i < n → (N i).length ≤ (row NZ i).length
  lu : ∀ i, i < n → (U i).length ≤ tot NZ
theorem Ins.end {NZ : List (List Int)} {n : Nat} {LN LU : List (List Int)} (h : Ins NZ n n 0 LN LU) : LN = lists (netOf LN) n ∧ LU = lists (netOf LU) n ∧ Net2 NZ n (netOf LN) (netOf LU) ∧ ∀ a, a < n → ∀ x ∈ row NZ a, 0 ≤ x ∧ x < n := by
  have hok : ∀ a, a < n → ∀ x ∈ row NZ a, 0 ≤ x ∧ x < n := by
    intro a ha x hx
    obtain ⟨q, hq, rfl⟩ := List.getElem_of_mem hx
    exact h.ok a q _ (.inl ha) (List.getElem?_eq_getElem hq)
  have hmn : ∀ a, a < n → ∀ y, y ∈ row LN a ↔ y ∈ row NZ a := by
    intro a ha y
    rw [h.mn a ha y]
    constructor
    · rintro ⟨q, _, h2⟩; exact List.mem_of_getElem? h2
    · intro hy
      obtain ⟨q, hq, rfl⟩ := List.getElem_of_mem hy
      exact ⟨q, .inl ha, List.getElem?_eq_getElem hq⟩
  have pn : ∀ i, i < n → ∀ y ∈ row LN i, 0 ≤ y := fun i hi y hy => (hok i hi y ((hmn i hi y).1 hy)).1
  have pu : ∀ i, i < n → ∀ y ∈ row LU i, 0 ≤ y := by
    intro i hi y hy
    obtain ⟨a, rfl, _⟩ := (h.mu i hi y).1 hy
    omega
  refine ⟨(lists_netOf LN n h.ln pn).symm, (lists_netOf LU n h.lu pu).symm, ⟨?_, ?_, ?_, ?_, ?_, ?_⟩, hok⟩
  · intro i hi j; rw [mem_netOf (pn i hi), hmn i hi]
  · intro j hj i
    rw [mem_netOf (pu j hj), h.mu j hj]
    constructor
    · rintro ⟨a, e, h1, h2⟩
      have : i = a := by omega
      subst this
      exact ⟨h1, (mem_netOf (pn i h1)).2 h2⟩
    · rintro ⟨h1, h2⟩; exact ⟨i, rfl, h1, (mem_netOf (pn i h1)).1 h2⟩
  · intro i hi j hj
    have := hok i hi (j : Int) ((hmn i hi _).1 ((mem_netOf (pn i hi)).1 hj))
    omega
  · intro i hi j hj
    obtain ⟨a, e, h1, _⟩ := (h.mu i hi (j : Int)).1 ((mem_netOf (pu i hi)).1 hj)
    omega
  · intro i hi; unfold netOf; rw [List.length_map]; exact h.sn i hi
  · intro i hi
    unfold netOf
    rw [List.length_map]
    have h1 := h.su i hi
    have h2 := tot_le NZ n
    omega
end Gr
end Go.Proofs.Ytienhelohfhhfaa
