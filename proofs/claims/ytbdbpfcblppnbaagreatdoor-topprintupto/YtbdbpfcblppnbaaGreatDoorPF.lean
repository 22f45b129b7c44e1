/- For TopPrint: what has no fault may be printed; what is read has none. -/
import Derived.Test.YtbdbpfcblppnbaaGreatDoorP1
import Derived.Test.YtbdbpfcblppnbaaGreatDoorX3
namespace Go.Proofs.YtbdbpfcblppnbaaGreatDoor.Vx
open Go.RowKit
namespace P
theorem empty_of {s : ByteArray} (h : s.toList = []) : s = ⟨#[]⟩ := by
 rw [V.toList_bl] at h
 rw [← V.str_bl s, h]
 rfl
theorem plain_iff (m : Nat) (v : Val) : X.plain (m + 1) v = true ↔ Plain v := by
 obtain ⟨k, n, s, l, f⟩ := v
 constructor
 ·intro h
  unfold X.plain V.fault at h
  simp only [decide_eq_true_eq] at h
  obtain ⟨h4, h5, h⟩ := h
  split at h
  ·cases h
  ·split at h
   ·rename_i hs
    rw [V.shaped] at hs
    simp only [Bool.and_eq_true] at hs
    obtain ⟨⟨hs, hf⟩, _⟩ := hs
    unfold V.spare at hs
    unfold V.fits at hf
    simp only [decide_eq_true_eq] at hs hf
    obtain ⟨s1, s2, s3, s4⟩ := hs
    have hl : l = [] := List.length_eq_zero_iff.1 (s3.resolve_right h4)
    have hff : f = [] := List.length_eq_zero_iff.1 (s4.resolve_right h5)
    subst hl
    subst hff
    rcases hf with rfl | rfl | ⟨rfl, ha, hb⟩ | ⟨rfl, ha⟩ | ⟨rfl, ha⟩ | ⟨rfl, _⟩
    ·have hn : n = 0 := by omega
     have := empty_of (s2.resolve_right (by decide))
     subst hn; subst this
     exact .inl rfl
    ·exact absurd rfl h4
    ·have := empty_of (s2.resolve_right (by decide))
     subst this
     exact .inr (.inl ⟨n, rfl, ha, hb⟩)
    ·have hn : n = 0 := by omega
     subst hn
     exact .inr (.inr (.inl ⟨s, rfl, ha⟩))
    ·have := empty_of (s2.resolve_right (by decide))
     subst this
     rcases ha with rfl | rfl
     ·exact .inr (.inr (.inr (.inl rfl)))
     ·exact .inr (.inr (.inr (.inr rfl)))
    ·exact absurd rfl h5
   ·cases h
 ·intro h
  have e0 : (⟨#[]⟩ : ByteArray).toList = [] := by rw [V.toList_bl]; rfl
  rcases h with h | ⟨n', h, ha, hb⟩ | ⟨s', h, ha⟩ | h | h
  ·rw [h]
   simp [X.plain, V.fault, V.parts, V.deep, V.sumL, V.sumF, V.shaped, V.spare, V.fits, V.zero, e0]
  ·rw [h]
   simp [X.plain, V.fault, V.parts, V.deep, V.sumL, V.sumF, V.shaped, V.spare, V.fits, e0, ha, hb]
  ·rw [h]
   simp [X.plain, V.fault, V.parts, V.deep, V.sumL, V.sumF, V.shaped, V.spare, V.fits, ha]
  ·rw [h]
   simp [X.plain, V.fault, V.parts, V.deep, V.sumL, V.sumF, V.shaped, V.spare, V.fits, e0]
  ·rw [h]
   simp [X.plain, V.fault, V.parts, V.deep, V.sumL, V.sumF, V.shaped, V.spare, V.fits, e0]
theorem plain_same (m k : Nat) (v : Val) : X.plain (m + 1) v = X.plain (k + 1) v := by
 rw [Bool.eq_iff_iff, plain_iff, plain_iff]
theorem fits_same (m k : Nat) (e : Ex) : X.fits m e = X.fits k e := by
 unfold X.fits
 rw [plain_same m k]
/-- No deeper than that. -/
def Dp : Nat → Ex → Prop
 | 0, _ => False
 | d + 1, e => ∀ x ∈ e.a, Dp d x
theorem Dp.of_mem : ∀ {m : Nat} {w : World} {e : Ex} {cs : List Value}, X.Mem m w e cs → Dp m e
 | 0, _, _, _, h => h.elim
 | m + 1, w, e, cs, ⟨_, _, _, _, _, av, _, _, _, ha, _⟩ => by
  intro x hx
  obtain ⟨i, hi, rfl⟩ := List.getElem_of_mem hx
  obtain ⟨ao, cap, _, h | ⟨b, off, _, h⟩⟩ := ha
  ·omega
  ·obtain ⟨c, _, _, y, hy, hm⟩ := h i hi
   rw [List.getElem?_eq_getElem hi] at hy
   cases hy
   exact Dp.of_mem hm
theorem Dp.up : ∀ {d : Nat} {e : Ex}, Dp d e → Dp (d + 1) e
 | 0, _, h => h.elim
 | _ + 1, _, h => fun x hx => (h x hx).up
theorem fold_same {α : Type} {f g : Int → α → Int} : ∀ (l : List α) (r : Int), (∀ x ∈ l, ∀ r, f r x = g r x) → l.foldl f r = l.foldl g r
 | [], _, _ => rfl
 | a :: l, r, h => by
  rw [List.foldl_cons, List.foldl_cons, h a (by simp) r]
  exact fold_same l _ (fun x hx => h x (by simp [hx]))
theorem room_dp : ∀ (k m : Nat) (e : Ex) (d r : Int), Dp k e → k ≤ m → X.room m e d r = X.room k e d r
 | 0, _, _, _, _, h, _ => h.elim
 | k + 1, 0, _, _, _, _, h => absurd h (by omega)
 | k + 1, m + 1, e, d, r, h, hk => by
  rw [X.room, X.room]
  split
  ·rfl
  ·refine fold_same _ _ (fun x hx r => ?_)
   rw [room_dp k m x (d + 1) r (h x hx) (by omega)]
theorem shaped_dp (sm : Val → Val → Bool) : ∀ (k m : Nat) (e : Ex), Dp k e → k ≤ m → X.shaped sm m e = X.shaped sm k e
 | 0, _, _, h, _ => h.elim
 | k + 1, 0, _, _, h => absurd h (by omega)
 | k + 1, m + 1, e, h, hk => by
  rw [X.shaped, X.shaped, fits_same m k]
  have : e.a.all (X.shaped sm m) = e.a.all (X.shaped sm k) := by
   rw [Bool.eq_iff_iff, List.all_eq_true, List.all_eq_true]
   constructor
   ·intro h1 x hx
    rw [← shaped_dp sm k m x (h x hx) (by omega)]
    exact h1 x hx
   ·intro h1 x hx
    rw [shaped_dp sm k m x (h x hx) (by omega)]
    exact h1 x hx
  rw [this]
theorem fault_dp (sm : Val → Val → Bool) {k m : Nat} {e : Ex} (h : Dp k e) (hk : k ≤ m) : X.fault sm m e = X.fault sm k e := by
 unfold X.fault
 rw [room_dp k m e 1 60 h hk, shaped_dp sm k m e h hk]
/-- As long as there is room. -/
theorem fold_room {g : Ex → Int → Int} : ∀ (l : List Ex) (r : Int), 0 ≤ l.foldl (fun r x => if 0 ≤ r then g x r else r) r → (∀ x ∈ l, ∀ r, 0 ≤ g x r → g x r < r) →
  0 ≤ r ∧ (l.length : Int) + l.foldl (fun r x => if 0 ≤ r then g x r else r) r ≤ r ∧ ∀ x ∈ l, ∃ r', r' ≤ r ∧ 0 ≤ g x r'
 | [], r, h, _ => ⟨h, by simp, fun x hx => absurd hx (by simp)⟩
 | a :: l, r, h, hg => by
  rw [List.foldl_cons] at h ⊢
  by_cases h0 : 0 ≤ r
  ·rw [if_pos h0] at h ⊢
   obtain ⟨h1, h2, h3⟩ := fold_room l _ h (fun x hx => hg x (by simp [hx]))
   have h4 := hg a (by simp) r h1
   refine ⟨h0, by simp only [List.length_cons]; omega, fun x hx => ?_⟩
   rcases List.mem_cons.1 hx with rfl | hx
   ·exact ⟨r, Int.le_refl _, h1⟩
   ·obtain ⟨r', h5, h6⟩ := h3 x hx
    exact ⟨r', by omega, h6⟩
  ·rw [if_neg h0] at h
   have := (fold_room l r h (fun x hx => hg x (by simp [hx]))).1
   omega
theorem room_less : ∀ (m : Nat) (e : Ex) (d r : Int), 8 ≤ m + d → d ≤ 7 → 0 ≤ X.room m e d r → X.room m e d r < r ∧ d ≤ 6 ∧ (e.a.length : Int) < r ∧ ∀ x ∈ e.a, ∃ r', r' ≤ r ∧ 0 ≤ X.room (m - 1) x (d + 1) r'
 | 0, _, d, _, h, h7, _ => by omega
 | m + 1, e, d, r, h, h7, h0 => by
  rw [X.room] at h0 ⊢
  by_cases h6 : 6 < d
  ·rw [if_pos h6] at h0
   omega
  ·rw [if_neg h6] at h0 ⊢
   obtain ⟨h1, h2, h3⟩ := fold_room (g := fun x r => X.room m x (d + 1) r) e.a (r - 1) h0 (fun x _ r hr => (room_less m x (d + 1) r (by omega) (by omega) hr).1)
   exact ⟨by omega, by omega, by omega, fun x hx => by obtain ⟨r', h4, h5⟩ := h3 x hx; exact ⟨r', by omega, h5⟩⟩
/-- Room enough: neither too deep nor too many. -/
def Few : Nat → Ex → Prop
 | 0, _ => False
 | d + 1, e => e.a.length ≤ 60 ∧ ∀ x ∈ e.a, Few d x
theorem few_room : ∀ (k m : Nat) (e : Ex) (d r : Int), 8 ≤ m + d → k + d = 7 → 1 ≤ d → r ≤ 60 → 0 ≤ X.room m e d r → Few k e
 | 0, m, e, d, r, h, hk, h1, hr, h0 => by
  have := (room_less m e d r h (by omega) h0).2.1
  omega
 | k + 1, m, e, d, r, h, hk, h1, hr, h0 => by
  obtain ⟨_, h6, hl, hx⟩ := room_less m e d r h (by omega) h0
  refine ⟨by omega, fun x hxm => ?_⟩
  obtain ⟨r', h2, h3⟩ := hx x hxm
  exact few_room k (m - 1) x (d + 1) r' (by omega) (by omega) (by omega) (by omega) h3
theorem Few.dp : ∀ {d : Nat} {e : Ex}, Few d e → Dp d e
 | 0, _, h => h
 | _ + 1, _, h => fun x hx => (h.2 x hx).dp
/-- Names that rise, as the check tells it. -/
theorem rises_of (l : List (ByteArray × Val)) : ∀ (n k : Nat) (last : Option ByteArray), l.length = k + n → (∀ i, k ≤ i → i < l.length → V.okAt l i = true) → (∀ s, last = some s → ∃ j y, k = j + 1 ∧ l[j]? = some y ∧ y.1 = s) → (last = none → k = 0) → Rises last ((l.drop k).map (·.1))
 | 0, k, last, hn, _, _, _ => by
  rw [List.drop_of_length_le (by omega)]
  trivial
 | n + 1, k, last, hn, hok, hl, h0 => by
  have hk : k < l.length := by omega
  rw [List.drop_eq_getElem_cons hk, List.map_cons]
  have h1 := hok k (Nat.le_refl _) hk
  have hg : l[k]? = some l[k] := List.getElem?_eq_getElem hk
  refine ⟨?_, ?_, ?_⟩
  ·cases k with
   | zero => rw [V.okAt_zero l _ hg] at h1; exact h1
   | succ k =>
    rw [V.okAt_succ l k _ l[k] hg (List.getElem?_eq_getElem (by omega))] at h1
    simp only [Bool.and_eq_true] at h1
    exact h1.1
  ·cases last with
   | none => rfl
   | some s =>
    obtain ⟨j, y, rfl, hy, rfl⟩ := hl s rfl
    rw [V.okAt_succ l j _ y hg hy] at h1
    simp only [Bool.and_eq_true] at h1
    exact h1.2
  ·exact rises_of l n (k + 1) (some l[k].1) (by omega) (fun i hi hl => hok i (by omega) hl) (fun s hs => ⟨k, l[k], rfl, hg, by cases hs; rfl⟩) (fun h => by cases h)
theorem rises_rise {l : List ByteArray} (h : V.rise (X.pairs l) = true) : Rises none l := by
 have h1 : ∀ i, i < (X.pairs l).length → V.okAt (X.pairs l) i = true := fun i hi => by
  rw [V.rise, List.all_eq_true] at h
  exact h i (List.mem_range.2 hi)
 have := rises_of (X.pairs l) (X.pairs l).length 0 none (by omega) (fun i _ hi => h1 i hi) (fun s hs => by cases hs) (fun _ => rfl)
 rw [List.drop_zero] at this
 have e : (X.pairs l).map (·.1) = l := by
  unfold X.pairs
  rw [List.map_map]
  exact List.map_id l
 rw [e] at this
 exact this
theorem zip_two : ∀ (n : List ByteArray) (a : List Ex), a.length = n.length → (n.zip a).map (·.2) = a ∧ (n.zip a).map (·.1) = n
 | [], [], _ => ⟨rfl, rfl⟩
 | s :: n, x :: a, h => by
  obtain ⟨h1, h2⟩ := zip_two n a (by simpa using h)
  simp [h1, h2]
theorem gd_of (sm : Val → Val → Bool) (hsm : V.Says sm) : ∀ (d m : Nat) (e : Ex), Few d e → d ≤ m → X.shaped sm m e = true → Gd d e
 | 0, _, _, h, _, _ => h.elim
 | d + 1, 0, _, _, h, _ => absurd h (by omega)
 | d + 1, m + 1, e, hf, hd, hs => by
  rw [X.shaped] at hs
  simp only [Bool.and_eq_true, List.all_eq_true] at hs
  obtain ⟨⟨hs, hc⟩, ha⟩ := hs
  have hg : ∀ x ∈ e.a, Gd d x := fun x hx => gd_of sm hsm d m x (hf.2 x hx) (by omega) (ha x hx)
  have h60 := hf.1
  clear ha hf
  obtain ⟨k, v, s, t, a, n⟩ := e
  unfold X.spare at hs
  unfold X.fits at hc
  simp only [decide_eq_true_eq] at hs hc hg h60
  obtain ⟨s1, s2, s3, s4⟩ := hs
  have hv : k ≠ 1 → v = V.zero := fun h => hsm.eq _ _ (s1.resolve_left h)
  have hn : k ≠ 9 → n = [] := fun h => List.length_eq_zero_iff.1 (s4.resolve_right h)
  have ht : k ≠ 3 → k ≠ 4 → t = ⟨#[]⟩ := fun h3 h4 => empty_of (s3.resolve_right (by omega))
  have hss : k ≠ 3 → k ≠ 4 → k ≠ 2 → k ≠ 10 → s = ⟨#[]⟩ := fun h3 h4 h2 h10 => empty_of (s2.resolve_right (by omega))
  clear s1 s2 s3 s4
  rw [Gd]
  rcases hc with ⟨rfl, hp, h0⟩ | ⟨rfl, h1, h0⟩ | ⟨hk, h1, h2, h0⟩ | ⟨hk, h0⟩ | ⟨rfl, h0⟩ | rfl | ⟨rfl, h0, h1⟩ | ⟨rfl, h1, h0⟩
  ·rw [List.length_eq_zero_iff.1 h0, hn (by decide), ht (by decide) (by decide), hss (by decide) (by decide) (by decide) (by decide)]
   exact .inl ⟨v, rfl, (plain_iff m v).1 hp⟩
  ·rw [List.length_eq_zero_iff.1 h0, hn (by decide), ht (by decide) (by decide), hv (by decide)]
   exact .inr (.inl ⟨s, rfl, h1⟩)
  ·rw [List.length_eq_zero_iff.1 h0, hn (by omega), hv (by omega)]
   exact .inr (.inr (.inl ⟨k, s, t, rfl, hk, h1, h2⟩))
  ·match a, h0 with
   | [x, y], _ =>
    rw [hn (by omega), hv (by omega), ht (by omega) (by omega), hss (by omega) (by omega) (by omega) (by omega)]
    exact .inr (.inr (.inr (.inl ⟨k, x, y, rfl, hk, hg x (by simp), hg y (by simp)⟩)))
  ·match a, h0 with
   | [x, y, z], _ =>
    rw [hn (by decide), hv (by decide), ht (by decide) (by decide), hss (by decide) (by decide) (by decide) (by decide)]
    exact .inr (.inr (.inr (.inr (.inl ⟨x, y, z, rfl, hg x (by simp), hg y (by simp), hg z (by simp)⟩))))
  ·rw [hn (by decide), hv (by decide), ht (by decide) (by decide), hss (by decide) (by decide) (by decide) (by decide)]
   exact .inr (.inr (.inr (.inr (.inr (.inl ⟨a, rfl, hg⟩)))))
  ·rw [hv (by decide), ht (by decide) (by decide), hss (by decide) (by decide) (by decide) (by decide)]
   obtain ⟨e1, e2⟩ := zip_two n a h0
   refine .inr (.inr (.inr (.inr (.inr (.inr (.inl ⟨n.zip a, by rw [e1, e2], ?_, by rw [e2]; exact rises_rise h1, fun x hx => ?_⟩))))))
   ·have := List.length_zip (l₁ := n) (l₂ := a)
    omega
   ·refine hg x.2 ?_
    rw [← e1]
    exact List.mem_map.2 ⟨x, hx, rfl⟩
  ·match a, h0 with
   | [x], _ =>
    rw [hn (by decide), hv (by decide), ht (by decide) (by decide)]
    exact .inr (.inr (.inr (.inr (.inr (.inr (.inr ⟨s, x, rfl, h1, hg x (by simp)⟩))))))
theorem fault_gd {sm : Val → Val → Bool} (hsm : V.Says sm) {m : Nat} {e : Ex} (hm : 7 ≤ m) (h : X.fault sm m e = 0) : Gd 6 e ∧ X.fault sm 6 e = 0 ∧ Dp 6 e := by
 have h1 : 0 ≤ X.room m e 1 60 ∧ X.shaped sm m e = true := by
  unfold X.fault at h
  split at h
  ·cases h
  ·split at h
   ·exact ⟨by omega, by assumption⟩
   ·cases h
 have hf := few_room 6 m e 1 60 (by omega) (by decide) (by decide) (by decide) h1.1
 exact ⟨gd_of sm hsm 6 m e hf (by omega) h1.2, by rw [← fault_dp sm hf.dp (show 6 ≤ m by omega)]; exact h, hf.dp⟩
theorem firstErr_zero {α : Type} {f : α → Nat} {l : List α} (h : X.firstErr (l.map f) = 0) : ∀ x ∈ l, f x = 0 := by
 intro x hx
 apply Classical.byContradiction
 intro hne
 unfold X.firstErr at h
 cases hf : (l.map f).find? (fun n => n ≠ 0) with
 | none =>
  rw [List.find?_eq_none] at hf
  exact hf (f x) (List.mem_map.2 ⟨x, hx, rfl⟩) (by simpa using hne)
 | some y =>
  rw [hf] at h
  have := List.find?_some hf
  simp at this h
  omega
/-- The whole of CheckStack. -/
theorem skFault_split {sm : Val → Val → Bool} {m : Nat} {s : Sk} (h : X.skFault sm m s = 0) : V.name (V.bl s.name) = true ∧ (s.ins.length ≤ 8 ∧ s.res.length ≤ 8 ∧ s.outs.length ≤ 8) ∧ (∀ x ∈ s.ins, X.inFault m x = 0) ∧ (∀ r ∈ s.res, X.resFault sm m r = 0) ∧ ∀ x ∈ s.outs, X.faultN sm m x.1 x.2 = 0 := by
 unfold X.skFault at h
 split at h
 ·cases h
 ·rename_i hn
  split at h
  ·cases h
  ·rename_i h8
   split at h
   ·rename_i h1; exact absurd h h1
   ·rename_i h1
    split at h
    ·rename_i h2; exact absurd h h2
    ·rename_i h2
     exact ⟨by simpa using hn, by omega, firstErr_zero (Classical.not_not.1 h1), firstErr_zero (Classical.not_not.1 h2), firstErr_zero h⟩
theorem faultN_split {sm : Val → Val → Bool} {m : Nat} {s : ByteArray} {e : Ex} (h : X.faultN sm m s e = 0) : V.name (V.bl s) = true ∧ X.fault sm m e = 0 := by
 unfold X.faultN at h
 split at h
 ·exact ⟨by assumption, h⟩
 ·cases h
theorem parts_rise (sm : Val → Val → Bool) (m : Nat) (l : List (ByteArray × Ex)) : ∀ (n k : Nat) (last : Option ByteArray), l.length = k + n → (∀ i, k ≤ i → i < l.length → X.partFault sm m l i = 0) → (∀ s, last = some s → ∃ j y, k = j + 1 ∧ l[j]? = some y ∧ y.1 = s) → (last = none → k = 0) → Rises last ((l.drop k).map (·.1)) ∧ ∀ x ∈ l.drop k, X.fault sm m x.2 = 0
 | 0, k, last, hn, _, _, _ => by
  rw [List.drop_of_length_le (by omega)]
  exact ⟨trivial, fun x hx => absurd hx (by simp)⟩
 | n + 1, k, last, hn, hok, hl, h0 => by
  have hk : k < l.length := by omega
  obtain ⟨i1, i2⟩ := parts_rise sm m l n (k + 1) (some l[k].1) (by omega) (fun i hi hl => hok i (by omega) hl) (fun s hs => ⟨k, l[k], rfl, List.getElem?_eq_getElem hk, by cases hs; rfl⟩) (fun h => by cases h)
  rw [List.drop_eq_getElem_cons hk, List.map_cons]
  have h1 := hok k (Nat.le_refl _) hk
  have hg : l[k]? = some l[k] := List.getElem?_eq_getElem hk
  unfold X.partFault at h1
  rw [hg] at h1
  simp only at h1
  obtain ⟨hnot, h1⟩ : ¬ (k ≠ 0 ∧ (match l[k - 1]? with | none => true | some y => Op.bytesLess (V.bl y.1) (V.bl l[k].1)) = false) ∧ X.faultN sm m l[k].1 l[k].2 = 0 := by
   by_cases hc : k ≠ 0 ∧ (match l[k - 1]? with | none => true | some y => Op.bytesLess (V.bl y.1) (V.bl l[k].1)) = false
   ·exact absurd ((if_pos hc).symm.trans h1) (by decide)
   ·exact ⟨hc, (if_neg hc).symm.trans h1⟩
  obtain ⟨h2, h3⟩ := faultN_split h1
  refine ⟨⟨h2, ?_, i1⟩, fun x hx => ?_⟩
  ·cases last with
   | none => rfl
   | some s =>
    obtain ⟨j, y, rfl, hy, rfl⟩ := hl s rfl
    rw [Nat.add_sub_cancel, hy] at hnot
    cases hb : Op.bytesLess (V.bl y.1) (V.bl l[j + 1].1)
    ·exact absurd ⟨by omega, hb⟩ hnot
    ·exact hb
  ·rcases List.mem_cons.1 hx with rfl | hx
   ·exact h3
   ·exact i2 x hx
theorem resFault_split {sm : Val → Val → Bool} {m : Nat} {r : Rs} (h : X.resFault sm m r = 0) : V.name (V.bl r.kind) = true ∧ V.name (V.bl r.name) = true ∧ r.parts.length ≤ 6 ∧ Rises none (r.parts.map (·.1)) ∧ ∀ p ∈ r.parts, X.fault sm m p.2 = 0 := by
 unfold X.resFault at h
 split at h
 ·cases h
 ·rename_i hn
  split at h
  ·cases h
  ·rename_i h6
   have h1 := firstErr_zero h
   obtain ⟨h2, h3⟩ := parts_rise sm m r.parts r.parts.length 0 none (by omega) (fun i _ hi => h1 i (List.mem_range.2 hi)) (fun s hs => by cases hs) (fun _ => rfl)
   rw [List.drop_zero] at h2 h3
   have : V.name (V.bl r.kind) = true ∧ V.name (V.bl r.name) = true := by
    cases ha : V.name (V.bl r.kind) <;> cases hb : V.name (V.bl r.name) <;> simp_all
   exact ⟨this.1, this.2, by omega, h2, h3⟩
def okE (sm : Val → Val → Bool) (e : Ex) : Bool := decide (X.fault sm 6 e = 0)
theorem lit_fault {sm : Val → Val → Bool} {v : Val} (h : Plain v) (m : Nat) : X.fault sm (m + 1) (Lit v) = 0 := by
 have e0 : (⟨#[]⟩ : ByteArray).toList = [] := by rw [V.toList_bl]; rfl
 have hp := (plain_iff m v).2 h
 simp [X.fault, Lit, X.room, X.shaped, X.spare, X.fits, e0, hp]
theorem sv_of {sm : Val → Val → Bool} (hsm : V.Says sm) {m : Nat} {s : Sk} (hm : 7 ≤ m) (h : X.skFault sm m s = 0) : Sv (okE sm) s := by
 obtain ⟨h1, ⟨h2, h3, h4⟩, h5, h6, h7⟩ := skFault_split h
 obtain ⟨m, rfl⟩ : ∃ k, m = k + 1 := ⟨m - 1, by omega⟩
 refine ⟨h1, h2, h3, h4, fun x hx => ?_, fun r hr => ?_, fun x hx => ?_⟩
 ·have := h5 x hx
  unfold X.inFault at this
  split at this
  ·rename_i hb
   simp only [Bool.and_eq_true] at hb
   have hp := (plain_iff m x.2).1 hb.2
   exact ⟨hb.1, hp, by unfold okE; rw [lit_fault hp 5]; rfl⟩
  ·cases this
 ·obtain ⟨a, b, c, d, e⟩ := resFault_split (h6 r hr)
  exact ⟨a, b, c, d, fun p hp => by obtain ⟨g1, g2, _⟩ := fault_gd hsm hm (e p hp); exact ⟨g1, by unfold okE; rw [g2]; rfl⟩⟩
 ·obtain ⟨a, b⟩ := faultN_split (h7 x hx)
  obtain ⟨g1, g2, _⟩ := fault_gd hsm hm b
  exact ⟨a, g1, by unfold okE; rw [g2]; rfl⟩
end P
end Go.Proofs.YtbdbpfcblppnbaaGreatDoor.Vx
