/- Stacks turned round: what they need, and whether they fit. -/
import Derived.Test.YtienhelohfhhfaaXVc
namespace Go.Proofs.Ytienhelohfhhfaa.Vx
open Go.RowKit
theorem info66 : (Try.prog.info? 66).map (fun i => (i.zero, i.size, i.bytes)) = some (some (.agg #[.string ⟨#[]⟩, .slice none 0 0, .slice none 0 0, .slice none 0 0]), 4, 88) := by kernel_rfl
namespace X
theorem firstErr_zero {l : List Nat} (h : firstErr l = 0) : ∀ n ∈ l, n = 0 := by
  intro n hn
  refine Classical.byContradiction (fun h0 => ?_)
  unfold firstErr at h
  cases hf : l.find? (fun n => n ≠ 0) with
  | none =>
    rw [List.find?_eq_none] at hf
    have := hf n hn
    simp at this
    exact h0 this
  | some k =>
    rw [hf] at h
    have h1 := List.find?_some hf
    simp at h1
    exact h1 h
theorem sk_small {sm : Val → Val → Bool} {m : Nat} {s : Sk} (h : skFault sm m s = 0) : s.res.length ≤ 8 ∧ ∀ r : Rs, r ∈ s.res → r.parts.length ≤ 6 := by
  unfold skFault at h
  split at h
  · cases h
  · split at h
    · cases h
    · rename_i h8
      split at h
      · exact absurd h (by assumption)
      · split at h
        · exact absurd h (by assumption)
        · rename_i hr
          have hr0 : firstErr (s.res.map (resFault sm m)) = 0 := Classical.byContradiction hr
          refine ⟨by omega, fun r hrm => ?_⟩
          have h1 := firstErr_zero hr0 _ (List.mem_map_of_mem hrm)
          unfold resFault at h1
          split at h1
          · cases h1
          · split at h1
            · cases h1
            · omega
theorem alone_small {sm : Val → Val → Bool} {m : Nat} {l : List Sk} (h : aloneErr sm m l = 0) : l.length ≤ 8 ∧ ∀ x : Sk, x ∈ l → x.res.length ≤ 8 ∧ ∀ r : Rs, r ∈ x.res → r.parts.length ≤ 6 := by
  unfold aloneErr at h
  split at h
  · cases h
  · exact ⟨by omega, fun x hx => sk_small (firstErr_zero h _ (List.mem_map_of_mem hx))⟩
/-- Of each stack its own rows. -/
theorem an_get {all : List Sk} {m : Nat} : ∀ (l : List Sk) (q p : List (List (List Nat)) × List (List Nat)), q.1.length = q.2.length → l.foldl (fun o st => o.bind (an1 all m st)) (some q) = some p →
    p.1.length = q.1.length + l.length ∧ p.2.length = q.1.length + l.length ∧ (∀ i, i < q.1.length → p.1[i]? = q.1[i]? ∧ p.2[i]? = q.2[i]?) ∧ ∀ (i : Nat) (x : Sk), l[i]? = some x → ∃ z, la all x m = some z ∧ p.1[q.1.length + i]? = some z.1 ∧ p.2[q.1.length + i]? = some z.2
  | [], q, p, hq, h => by cases h; exact ⟨by simp, by simp [hq], fun i _ => ⟨rfl, rfl⟩, fun i x hx => by simp at hx⟩
  | s :: t, q, p, hq, h => by
    rw [List.foldl_cons, Option.bind_some] at h
    cases hx : an1 all m s q with
    | none => rw [hx, foldB_none] at h; cases h
    | some c =>
      rw [hx] at h
      unfold an1 at hx
      obtain ⟨z, hz, rfl⟩ := Option.map_eq_some_iff.1 hx
      obtain ⟨h1, h2, h3, h4⟩ := an_get t _ p (by simp [hq]) h
      simp only [List.length_append, List.length_singleton] at h1 h2 h3 h4
      refine ⟨by simp; omega, by simp; omega, fun i hi => ?_, fun i x hxi => ?_⟩
      · obtain ⟨a, b⟩ := h3 i (by omega)
        rw [a, b, List.getElem?_append_left hi, List.getElem?_append_left (by omega)]; exact ⟨rfl, rfl⟩
      · cases i with
        | zero =>
          have e : s = x := by simpa using hxi
          subst e
          obtain ⟨a, b⟩ := h3 q.1.length (by omega)
          refine ⟨z, hz, ?_, ?_⟩
          · rw [Nat.add_zero, a, List.getElem?_append_right (Nat.le_refl _)]; simp
          · rw [Nat.add_zero, b, List.getElem?_append_right (by omega), hq]; simp
        | succ i =>
          obtain ⟨z2, hz2, a, b⟩ := h4 i x (by simpa using hxi)
          refine ⟨z2, hz2, ?_, ?_⟩
          · rw [← a]; congr 1; omega
          · rw [← b]; congr 1; omega
theorem an_all {l : List Sk} {m : Nat} {p : List (List (List Nat)) × List (List Nat)} (h : anTo l m l = some p) : p.1.length = l.length ∧ p.2.length = l.length ∧ ∀ (i : Nat) (x : Sk), l[i]? = some x → ∃ z, la l x m = some z ∧ p.1[i]? = some z.1 ∧ p.2[i]? = some z.2 := by
  obtain ⟨h1, h2, _, h4⟩ := an_get l ([], []) p rfl h
  refine ⟨by simpa using h1, by simpa using h2, fun i x hx => ?_⟩
  obtain ⟨z, hz, a, b⟩ := h4 i x hx
  exact ⟨z, hz, by simpa using a, by simpa using b⟩
/-- Stacks that fit together, with what they need. -/
def Fit (sm : Val → Val → Bool) (m : Nat) (l : List Sk) (p : List (List (List Nat)) × List (List Nat)) : Prop := aloneErr sm m l = 0 ∧ dups l = false ∧ anTo l m l = some p ∧ (∀ R ∈ p.1, Fine R) ∧ Fine p.2
/-- What Check says. -/
def Checked (sm : Val → Val → Bool) (m : Nat) (l : List Sk) (w' : World) (o : Ending) : Prop :=
  ((∀ p, ¬ Fit sm m l p) ∧ ∃ n : Int, o = .returned (.tuple #[.agg #[.slice none 0 0, .slice none 0 0, .slice none 0 0], .iface 68 (.int .i64 n)])) ∨
  (∃ p, Fit sm m l p ∧ ∃ (a1 a2 a3 : Option Addr) (n1 n2 n3 d1 d2 d3 : Nat), o = .returned (.tuple #[.agg #[.slice a1 n1 d1, .slice a2 n2 d2, .slice a3 n3 d3], .nilIface]) ∧ Gr.Lists w' (.slice a2 n2 d2) (p.2.map Gr.ofN) ∧ Gr.Lists w' (.slice a3 n3 d3) (p.1.map (fun R => Gr.ofN (ord R))))
theorem owns_twoS {w : World} {base base2 n n2 z z2 : Nat} {s t : TypeId} {v u : Value} {xs ys : List Value} (h : w.ownsRow base s z v n xs) (k : w.ownsRow base2 t z2 u n2 ys) (ht : s ≠ t) : v.ownBlock = none ∨ v.ownBlock ≠ u.ownBlock := by
  rcases h.2 with ⟨rfl, _⟩ | ⟨g, cap, cur, rfl, _, hg, _⟩
  · exact .inl rfl
  · rcases k.2 with ⟨rfl, _⟩ | ⟨g2, cap2, cur2, rfl, _, hg2, _⟩
    · right; simp [Value.ownBlock]
    · right
      intro e
      have : g = g2 := by simpa [Value.ownBlock] using e
      subst this
      rw [hg] at hg2
      simp at hg2
      exact ht hg2.2
theorem ownsS_type {w : World} {base n B z : Nat} {s : TypeId} {v : Value} {xs : List Value} {cs : Array Value} {t : TypeId} (h : w.ownsRow base s z v n xs) (hB : w.heap[B]? = some (.cells cs t (0, 0))) (ht : t ≠ s) : v.ownBlock ≠ some B := by
  intro e
  rcases h.2 with ⟨rfl, _⟩ | ⟨g, cap, cur, rfl, _, hg, _⟩
  · simp [Value.ownBlock] at e
  · have : g = B := by simpa [Value.ownBlock] using e
    subst this
    rw [hB] at hg
    simp at hg
    exact ht hg.2
theorem ownsS_frame {w w' : World} {base n z : Nat} {t : TypeId} {v : Value} {xs : List Value} {ex : Nat → Prop} (h : w.ownsRow base t z v n xs) (hf : Frame w w' ex) (hne : ∀ c, v.ownBlock = some c → ¬ ex c) : w'.ownsRow base t z v n xs := by
  refine ⟨h.1, ?_⟩
  rcases h.2 with h1 | ⟨g, cap, cur, rfl, hb, hg, r⟩
  · exact .inl h1
  · exact .inr ⟨g, cap, cur, rfl, hb, by rw [hf.block g (Array.getElem?_eq_some_iff.1 hg).1 (hne g rfl)]; exact hg, r⟩
theorem ownsS_shape {w : World} {base n z : Nat} {t : TypeId} {v : Value} {xs : List Value} (h : w.ownsRow base t z v n xs) : ∃ a c, v = .slice a n c := by
  rcases h.2 with ⟨rfl, h0⟩ | ⟨g, cap, cur, rfl, _⟩
  · exact ⟨none, 0, by rw [h0]⟩
  · exact ⟨_, _, rfl⟩
/-- The work, while it is made. -/
structure CK (w : World) (base Bw : Nat) (nv st ov : Value) (k : Nat) (XS VO : List Value) (OR : List (List Nat)) : Prop where
  hb : w.heap[Bw]? = some (.cells #[st, nv, ov] 59 (0, 0))
  os : w.ownsRow base 66 4 st k XS
  oo : w.ownsRow base 37 1 ov VO.length VO
  len : VO.length = OR.length
  row : ∀ (i : Nat) v L, VO[i]? = some v → OR[i]? = some L → w.ownsRow base 3 1 v L.length (Gr.cells (Gr.ofN L))
  le : base ≤ w.heap.size
  lt : Bw < base
theorem CK.keep {w w' : World} {base Bw : Nat} {nv st ov : Value} {k : Nat} {XS VO : List Value} {OR : List (List Nat)} (h : CK w base Bw nv st ov k XS VO OR) (hb : Below w.heap.size w w') : CK w' base Bw nv st ov k XS VO OR := by
  have hf := Frame.of_below hb (fun _ => False)
  exact ⟨(hb.block Bw (Array.getElem?_eq_some_iff.1 h.hb).1).trans h.hb, ownsS_frame h.os hf (fun _ _ h => h), ownsS_frame h.oo hf (fun _ _ h => h), h.len, fun i v L hv hL => ownsS_frame (h.row i v L hv hL) hf (fun _ _ h => h), Nat.le_trans h.le hb.size, h.lt⟩
theorem set3 {w : World} {g : Nat} {t : TypeId} {z0 z1 z2 : Value} (h : w.heap[g]? = some (.cells #[z0, z1, z2] t (0, 0))) (y0 y1 y2 : Value) :
    (((w.setCell ⟨g, 0, none⟩ y0).setCell ⟨g, 1, none⟩ y1).setCell ⟨g, 2, none⟩ y2).heap[g]? = some (.cells #[y0, y1, y2] t (0, 0)) := by
  have h0 : (w.setCell ⟨g, 0, none⟩ y0).heap[g]? = some (.cells #[y0, z1, z2] t (0, 0)) := block_set (i := 0) h y0
  have h1 : ((w.setCell ⟨g, 0, none⟩ y0).setCell ⟨g, 1, none⟩ y1).heap[g]? = some (.cells #[y0, y1, z2] t (0, 0)) := block_set (i := 1) h0 y1
  exact block_set (i := 2) h1 y2
theorem below3 {w0 w : World} {B g : Nat} (hb : Below B w0 w) (hg : B ≤ g) (y0 y1 y2 : Value) : Below B w0 (((w.setCell ⟨g, 0, none⟩ y0).setCell ⟨g, 1, none⟩ y1).setCell ⟨g, 2, none⟩ y2) :=
  ((hb.setCell (p := ⟨g, 0, none⟩) hg _).setCell (p := ⟨g, 1, none⟩) hg _).setCell (p := ⟨g, 2, none⟩) hg _
end X
end Go.Proofs.Ytienhelohfhhfaa.Vx
namespace Go.Proofs.Ytienhelohfhhfaa.Vx
open Go.RowKit
namespace X
theorem pos_some {ns : List ByteArray} {s : ByteArray} {k : Nat} (h : pos ns s = some k) : ∃ x, ns[k]? = some x ∧ (x.toList == s.toList) = true ∧ ∀ (j : Nat) y, j < k → ns[j]? = some y → (y.toList == s.toList) = false := by
  unfold pos at h
  obtain ⟨hk, h1, h2⟩ := List.findIdx?_eq_some_iff_getElem.1 h
  refine ⟨ns[k], List.getElem?_eq_getElem hk, h1, fun j y hj hy => ?_⟩
  have h3 := h2 j hj
  obtain ⟨hj2, e⟩ := List.getElem?_eq_some_iff.1 hy
  rw [e] at h3
  exact Bool.not_eq_true _ ▸ h3
theorem pos_no {ns : List ByteArray} {s : ByteArray} (h : pos ns s = none) : ∀ (j : Nat) y, ns[j]? = some y → (y.toList == s.toList) = false := by
  intro j y hy
  unfold pos at h
  rw [List.findIdx?_eq_none_iff] at h
  exact h y (List.mem_of_getElem? hy)
/-- No two of these are the same. -/
def Apart (ns : List ByteArray) : Prop := ∀ (i j : Nat) (x y : ByteArray), i < j → ns[i]? = some x → ns[j]? = some y → (x.toList == y.toList) = false
theorem twice_apart {ns : List ByteArray} : twice ns = false ↔ Apart ns := by
  constructor
  · intro h i j x y hij hx hy
    refine Classical.byContradiction (fun hne => ?_)
    have hxy : (x.toList == y.toList) = true := by simpa using hne
    have h1 : posI ns y < j := by
      unfold posI
      cases hp : pos ns y with
      | none => simp only; omega
      | some k =>
        obtain ⟨z, hz, _, hmin⟩ := pos_some hp
        have : ¬ i < k := fun hik => by
          have := hmin i x hik hx
          rw [hxy] at this; exact absurd this (by decide)
        simp only; omega
    rw [twice_true hy h1] at h
    exact absurd h (by decide)
  · intro h
    refine twice_false (fun i x hx hlt => ?_)
    unfold posI at hlt
    cases hp : pos ns x with
    | none =>
      have := pos_no hp i x hx
      simp at this
    | some k =>
      rw [hp] at hlt
      obtain ⟨z, hz, hzx, _⟩ := pos_some hp
      have := h k i z x (by simp only at hlt; omega) hz hx
      rw [hzx] at this; exact absurd this (by decide)
theorem Apart.turn {ns : List ByteArray} (h : Apart ns) : Apart ns.reverse := by
  intro i j x y hij hx hy
  have hj : j < ns.length := by have := (List.getElem?_eq_some_iff.1 hy).1; simpa using this
  rw [List.getElem?_reverse (by omega)] at hx
  rw [List.getElem?_reverse hj] at hy
  have := h (ns.length - 1 - j) (ns.length - 1 - i) y x (by omega) hy hx
  rw [Bool.eq_false_iff] at this ⊢
  intro e
  apply this
  rw [beq_iff_eq] at e ⊢
  exact e.symm
theorem pos_turn {ns : List ByteArray} (h : Apart ns) (s : ByteArray) : pos ns.reverse s = (pos ns s).map (fun k => ns.length - 1 - k) := by
  cases hp : pos ns s with
  | none =>
    rw [Option.map_none]
    refine pos_none (fun j y hy => ?_)
    have hj : j < ns.length := by have := (List.getElem?_eq_some_iff.1 hy).1; simpa using this
    rw [List.getElem?_reverse hj] at hy
    exact pos_no hp _ y hy
  | some k =>
    obtain ⟨x, hx, hxs, _⟩ := pos_some hp
    have hk : k < ns.length := (List.getElem?_eq_some_iff.1 hx).1
    rw [Option.map_some]
    refine pos_at (x := x) (fun j y hj hy => ?_) ?_ hxs
    · rw [List.getElem?_reverse (by omega)] at hy
      have h1 := h k (ns.length - 1 - j) x y (by omega) hx hy
      rw [beq_iff_eq] at hxs
      rw [Bool.eq_false_iff] at h1 ⊢
      intro e
      apply h1
      rw [beq_iff_eq] at e ⊢
      rw [hxs, e]
    · rw [List.getElem?_reverse (by omega), ← hx]
      congr 1; omega
theorem twice_turn (ns : List ByteArray) : twice ns.reverse = twice ns := by
  have h1 : twice ns = false ↔ twice ns.reverse = false := by
    rw [twice_apart, twice_apart]
    exact ⟨Apart.turn, fun h => by have := h.turn; rwa [List.reverse_reverse] at this⟩
  cases h2 : twice ns with
  | true =>
    cases h3 : twice ns.reverse with
    | true => rfl
    | false => rw [h1.2 h3] at h2; cases h2
  | false => exact h1.1 h2
theorem dups_turn (l : List Sk) : dups l.reverse = dups l := by
  unfold dups
  rw [List.any_reverse, List.map_reverse, twice_turn]
theorem alone_turn {sm : Val → Val → Bool} {m : Nat} {l : List Sk} (h : aloneErr sm m l = 0) : aloneErr sm m l.reverse = 0 := by
  unfold aloneErr at h ⊢
  rw [List.length_reverse]
  split at h
  · cases h
  · rename_i h8
    rw [if_neg h8]
    have h1 := firstErr_zero h
    unfold firstErr
    rw [List.find?_eq_none.2 (fun n hn => by
      rw [List.map_reverse, List.mem_reverse] at hn
      simp [h1 n hn])]
    rfl
section
variable {α β : Type}
theorem foldB_turn (g : β → β) (P : β → Prop) (f f2 : α → β → Option β) (hf : ∀ x b, P b → f2 x (g b) = (f x b).map g) (hP : ∀ x b b', P b → f x b = some b' → P b') : ∀ (l : List α) (b : β), P b → l.foldl (fun o x => o.bind (f2 x)) (some (g b)) = (l.foldl (fun o x => o.bind (f x)) (some b)).map g
  | [], _, _ => rfl
  | x :: t, b, hb => by
    rw [List.foldl_cons, List.foldl_cons, Option.bind_some, Option.bind_some, hf x b hb]
    cases hx : f x b with
    | none => rw [Option.map_none, foldB_none, foldB_none, Option.map_none]
    | some c => rw [Option.map_some]; exact foldB_turn g P f f2 hf hP t c (hP x b c hb hx)
end
/-- The same numbers, from the other end. -/
def back (n : Nat) (l : List Nat) : List Nat := l.map (fun k => n - 1 - k)
def backQ (n : Nat) {α : Type} (q : α × List Nat) : α × List Nat := (q.1, back n q.2)
theorem once_back {n k : Nat} {l : List Nat} (hl : ∀ x ∈ l, x < n) (hk : k < n) : once (back n l) (n - 1 - k) = back n (once l k) := by
  unfold once
  have : (n - 1 - k) ∈ back n l ↔ k ∈ l := by
    unfold back
    rw [List.mem_map]
    constructor
    · rintro ⟨x, hx, e⟩
      have := hl x hx
      have : x = k := by omega
      rw [← this]; exact hx
    · intro h; exact ⟨k, h, rfl⟩
  by_cases hm : k ∈ l
  · rw [if_pos hm, if_pos (this.2 hm)]
  · rw [if_neg hm, if_neg (fun h => hm (this.1 h))]
    unfold back
    rw [List.map_append]; rfl
theorem posI_turn {ns : List ByteArray} (h : Apart ns) (s : ByteArray) : (posI ns.reverse s < 0 ↔ posI ns s < 0) ∧ (¬ posI ns s < 0 → (posI ns.reverse s).toNat = ns.length - 1 - (posI ns s).toNat) := by
  unfold posI
  rw [pos_turn h s]
  cases hp : pos ns s with
  | none => simp
  | some k => simp; omega
theorem named_turn {all : List Sk} (ha : Apart (all.map (·.name))) {st : Sk} (e : Ex) (q : List Nat × List Nat) (hq : GoodQ all st q) : named all.reverse st e (backQ all.length q) = (named all st e q).map (backQ all.length) := by
  unfold named
  by_cases h2 : e.kind = 2
  · rw [if_pos h2, if_pos h2]
    split <;> rfl
  · rw [if_neg h2, if_neg h2]
    by_cases h3 : e.kind = 3
    · rw [if_pos h3, if_pos h3]
      split <;> rfl
    · rw [if_neg h3, if_neg h3]
      by_cases h4 : e.kind = 4
      · rw [if_pos h4, if_pos h4]
        obtain ⟨p1, p2⟩ := posI_turn ha e.s
        rw [← List.map_reverse] at p1 p2
        by_cases hn : posI (all.map (·.name)) e.s < 0
        · rw [if_pos hn, if_pos (p1.2 hn)]; rfl
        · rw [if_neg hn, if_neg (fun h => hn (p1.1 h))]
          have hlt := posI_nat hn
          rw [List.length_map] at hlt p2
          rw [p2 hn, List.getElem?_reverse (by omega), show all.length - 1 - (all.length - 1 - (posI (all.map (·.name)) e.s).toNat) = (posI (all.map (·.name)) e.s).toNat by omega]
          split
          · rfl
          · rw [Option.map_some]
            unfold backQ
            simp only
            rw [once_back hq.2.2 hlt]
      · rw [if_neg h4, if_neg h4]; rfl
theorem lk_turn {all : List Sk} (ha : Apart (all.map (·.name))) {st : Sk} : ∀ (m : Nat) (e : Ex) (q : List Nat × List Nat), GoodQ all st q → lk all.reverse st m e (backQ all.length q) = (lk all st m e q).map (backQ all.length)
  | 0, _, _, _ => rfl
  | m + 1, e, q, hq => by
    rw [lk, lk, named_turn ha e q hq]
    cases h1 : named all st e q with
    | none => rfl
    | some q1 =>
      rw [Option.map_some, Option.bind_some, Option.bind_some]
      exact foldB_turn (backQ all.length) (GoodQ all st) (lk all st m) (lk all.reverse st m) (fun x b hb => lk_turn ha m x b hb) (fun x b b' hb h => lk_good m x b b' hb h) e.a q1 (named_good hq h1)
theorem lkP_turn {all : List Sk} (ha : Apart (all.map (·.name))) {st : Sk} (m : Nat) (q : List Nat × List Nat) (hq : GoodQ all st q) (l : List (ByteArray × Ex)) : lkP all.reverse st m (backQ all.length q) l = (lkP all st m q l).map (backQ all.length) :=
  foldB_turn (backQ all.length) (GoodQ all st) (fun x : ByteArray × Ex => lk all st m x.2) (fun x : ByteArray × Ex => lk all.reverse st m x.2) (fun x b hb => lk_turn ha m x.2 b hb) (fun x b b' hb h => lk_good m x.2 b b' hb h) l q hq
theorem lkR1_turn {all : List Sk} (ha : Apart (all.map (·.name))) {st : Sk} (m : Nat) (r : Rs) (p : List (List Nat) × List Nat) (hp : GoodP all st p) : lkR1 all.reverse st m r (backQ all.length p) = (lkR1 all st m r p).map (backQ all.length) := by
  unfold lkR1
  have h := lkP_turn ha (st := st) m ([], p.2) ⟨Good.nil _, hp.2⟩ r.parts
  have e : backQ all.length (([] : List Nat), p.2) = ([], (backQ all.length p).2) := rfl
  rw [e] at h
  rw [h]
  cases lkP all st m ([], p.2) r.parts <;> rfl
theorem la_turn {all : List Sk} (ha : Apart (all.map (·.name))) (st : Sk) (m : Nat) : la all.reverse st m = (la all st m).map (backQ all.length) := by
  unfold la
  have h : lkR all.reverse st m st.res = (lkR all st m st.res).map (backQ all.length) :=
    foldB_turn (backQ all.length) (GoodP all st) (lkR1 all st m) (lkR1 all.reverse st m) (fun x b hb => lkR1_turn ha m x b hb) (fun x b b' hb h => lkR1_good hb h) st.res ([], []) ⟨(fun r hr => by cases hr), Good.nil _⟩
  rw [h]
  cases h1 : lkR all st m st.res with
  | none => rfl
  | some p =>
    rw [Option.map_some, Option.bind_some, Option.bind_some]
    have h2 := lkP_turn ha (st := st) m ([], p.2) ⟨Good.nil _, (lkR_good h1).2⟩ st.outs
    have e : backQ all.length (([] : List Nat), p.2) = ([], (backQ all.length p).2) := rfl
    rw [e] at h2
    rw [h2]
    cases lkP all st m ([], p.2) st.outs <;> rfl
theorem an_some {all : List Sk} {m : Nat} : ∀ (l : List Sk) (q : List (List (List Nat)) × List (List Nat)), (∀ x ∈ l, ∃ z, la all x m = some z) → ∃ p, l.foldl (fun o st => o.bind (an1 all m st)) (some q) = some p
  | [], q, _ => ⟨q, rfl⟩
  | s :: t, q, h => by
    obtain ⟨z, hz⟩ := h s (by simp)
    rw [List.foldl_cons, Option.bind_some]
    unfold an1
    rw [hz, Option.map_some]
    exact an_some t _ (fun x hx => h x (by simp [hx]))
theorem D_turn {N M : Gr.Net} {n : Nat} (hN : ∀ i, i < n → ∀ j ∈ N i, j < n) (h : ∀ i, i < n → M (n - 1 - i) = back n (N i)) : ∀ (k i : Nat), i < n → Gr.D M k (n - 1 - i) = Gr.D N k i
  | 0, _, _ => rfl
  | k + 1, i, hi => by
    rw [Gr.D_succ, Gr.D_succ, h i hi]
    unfold back
    rw [List.all_map]
    apply Bool.eq_iff_iff.2
    simp only [List.all_eq_true, Function.comp]
    constructor
    · intro a j hj
      rw [← D_turn hN h k j (hN i hi j hj)]; exact a j hj
    · intro a j hj
      rw [D_turn hN h k j (hN i hi j hj)]; exact a j hj
/-- Stacks that fit together fit turned round; each needs the same. -/
theorem fit_turn {sm : Val → Val → Bool} {m : Nat} {l : List Sk} {p : List (List (List Nat)) × List (List Nat)} (h : Fit sm m l p) : ∃ q, Fit sm m l.reverse q ∧ q.1.length = l.length ∧ q.2.length = l.length ∧ ∀ i, i < l.length → q.1[l.length - 1 - i]? = p.1[i]? ∧ q.2[l.length - 1 - i]? = (p.2[i]?).map (back l.length) := by
  obtain ⟨h0, hd, han, hf1, hf2⟩ := h
  obtain ⟨hp1, hp2, hpa⟩ := an_all han
  have hap : Apart (l.map (·.name)) := by
    unfold dups at hd
    rw [Bool.or_eq_false_iff] at hd
    exact twice_apart.1 hd.2
  obtain ⟨q, hq⟩ := an_some (all := l.reverse) (m := m) l.reverse ([], []) (fun x hx => by
    rw [List.mem_reverse] at hx
    obtain ⟨i, hi, e⟩ := List.getElem_of_mem hx
    obtain ⟨z, hz, _⟩ := hpa i x (by rw [List.getElem?_eq_getElem hi, e])
    rw [la_turn hap, hz]
    exact ⟨_, rfl⟩)
  have han2 : anTo l.reverse m l.reverse = some q := hq
  obtain ⟨hq1, hq2, hqa⟩ := an_all han2
  rw [List.length_reverse] at hq1 hq2
  have hrel : ∀ i, i < l.length → q.1[l.length - 1 - i]? = p.1[i]? ∧ q.2[l.length - 1 - i]? = (p.2[i]?).map (back l.length) := by
    intro i hi
    have hx : l[i]? = some l[i] := List.getElem?_eq_getElem hi
    obtain ⟨z, hz, a, b⟩ := hpa i l[i] hx
    obtain ⟨z2, hz2, a2, b2⟩ := hqa (l.length - 1 - i) l[i] (by rw [List.getElem?_reverse (by omega), ← hx]; congr 1; omega)
    rw [la_turn hap, hz] at hz2
    have e : backQ l.length z = z2 := by simpa using hz2
    rw [a, b, a2, b2, ← e]
    exact ⟨rfl, rfl⟩
  have hback : ∀ i, i < l.length → l.length - 1 - (l.length - 1 - i) = i := fun i hi => by omega
  refine ⟨q, ⟨alone_turn h0, by rw [dups_turn]; exact hd, han2, fun R hR => ?_, ?_⟩, hq1, hq2, hrel⟩
  · obtain ⟨i, hi, e⟩ := List.getElem_of_mem hR
    have h1 := (hrel (l.length - 1 - i) (by omega)).1
    rw [hback i (by omega), List.getElem?_eq_getElem hi, e] at h1
    exact hf1 R (List.mem_of_getElem? h1.symm)
  · have hnet : ∀ i, i < l.length → net q.2 (l.length - 1 - i) = back l.length (net p.2 i) := by
      intro i hi
      unfold net
      rw [List.getD_eq_getElem?_getD, List.getD_eq_getElem?_getD, (hrel i hi).2]
      cases p.2[i]? <;> rfl
    have hlt : ∀ i, i < l.length → ∀ j ∈ net p.2 i, j < l.length := by
      intro i hi j hj
      obtain ⟨z, hz, _, b⟩ := hpa i l[i] (List.getElem?_eq_getElem hi)
      unfold net at hj
      rw [List.getD_eq_getElem?_getD, b] at hj
      exact (la_good hz).1.2.2 j hj
    intro i hi
    rw [hq2] at hi ⊢
    have h1 := D_turn hlt hnet l.length (l.length - 1 - i) (by omega)
    rw [hback i hi] at h1
    rw [h1]
    have h2 := hf2 (l.length - 1 - i) (by omega)
    rw [hp2] at h2
    exact h2
end X
end Go.Proofs.Ytienhelohfhhfaa.Vx
