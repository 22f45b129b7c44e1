/- StateSays: UA UK. -/
import Derived.Test.YtcekcfjabhlheaaGreatDoorPE
import Derived.Test.YtcekcfjabhlheaaGreatDoorVV
import Derived.Test.YtcekcfjabhlheaaGreatDoorRL
namespace Go.Proofs.YtcekcfjabhlheaaGreatDoor.Vx
open Go.RowKit
namespace P
theorem empty_of {s : ByteArray} (h : s.toList = []) : s = ⟨#[]⟩ := by
 rw [V.toList_bl] at h;rw [<- V.str_bl s, h];rfl
theorem plain_iff (m : Nat) (v : Val) : X.plain (m + 1) v = true ↔ Plain v := by
 obtain ⟨k, n, s, l, f⟩ := v;constructor
 ·intro h;unfold X.plain V.fault at h;simp only [decide_eq_true_eq] at h;obtain ⟨h4, h5, h⟩ := h;split at h
  ·cases h
  ·split at h
   ·rename_i hs;rw [V.shaped] at hs;simp only [Bool.and_eq_true] at hs;obtain ⟨⟨hs, hf⟩, _⟩ := hs;unfold V.spare at hs;unfold V.fits at hf;simp only [decide_eq_true_eq] at hs hf;obtain ⟨s1, s2, s3, s4⟩ := hs;have hl : l = [] := List.length_eq_zero_iff.1 (s3.resolve_right h4);have hff : f = [] := List.length_eq_zero_iff.1 (s4.resolve_right h5);subst hl;subst hff;rcases hf with rfl | rfl | ⟨rfl, ha, hb⟩ | ⟨rfl, ha⟩ | ⟨rfl, ha⟩ | ⟨rfl, _⟩
    ·have hn : n = 0 := by omega
     have := empty_of (s2.resolve_right (by decide));subst hn; subst this;exact .inl rfl
    ·exact absurd rfl h4
    ·have := empty_of (s2.resolve_right (by decide));subst this;exact .inr (.inl ⟨n, rfl, ha, hb⟩)
    ·have hn : n = 0 := by omega
     subst hn;exact .inr (.inr (.inl ⟨s, rfl, ha⟩))
    ·have := empty_of (s2.resolve_right (by decide));subst this;rcases ha with rfl | rfl
     ·exact .inr (.inr (.inr (.inl rfl)))
     ·exact .inr (.inr (.inr (.inr rfl)))
    ·exact absurd rfl h5
   ·cases h
 ·intro h;have e0 : (⟨#[]⟩ : ByteArray).toList = [] := by rw [V.toList_bl]; rfl
  rcases h with h | ⟨n', h, ha, hb⟩ | ⟨s', h, ha⟩ | h | h
  ·rw [h];simp [X.plain, V.fault, V.parts, V.deep, V.sumL, V.sumF, V.shaped, V.spare, V.fits, V.zero, e0]
  ·rw [h];simp [X.plain, V.fault, V.parts, V.deep, V.sumL, V.sumF, V.shaped, V.spare, V.fits, e0, ha, hb]
  ·rw [h];simp [X.plain, V.fault, V.parts, V.deep, V.sumL, V.sumF, V.shaped, V.spare, V.fits, ha]
  ·rw [h];simp [X.plain, V.fault, V.parts, V.deep, V.sumL, V.sumF, V.shaped, V.spare, V.fits, e0]
  ·rw [h];simp [X.plain, V.fault, V.parts, V.deep, V.sumL, V.sumF, V.shaped, V.spare, V.fits, e0]
theorem hex_two : ∀ n : Fin 16, V.hexd n.val = Lx.hexes.getD n.val 0 := by decide
theorem quote_byte (c : UInt8) : V.quoteB c = Lx.quoteByte c := by
 have h1 := hex_two ⟨c.toNat / 16, by have := c.toNat_lt; omega⟩;have h2 := hex_two ⟨c.toNat % 16, by omega⟩;unfold V.quoteB Lx.quoteByte Lx.hexPair;by_cases h : c.toNat = 34 \/ c.toNat = 92
 ·rw [if_pos h, if_pos h]
 ·rw [if_neg h, if_neg h];by_cases h3 : 32 <= c.toNat /\ c.toNat <= 126
  ·rw [if_pos h3, if_neg (by omega)]
  ·rw [if_neg h3, if_pos (by omega), <- h1, <- h2];rfl
theorem quote_two (l : List UInt8) : V.quote l = Lx.quote l := by
 unfold V.quote Lx.quote;rw [show V.quoteB = Lx.quoteByte from funext quote_byte];simp
theorem text_plain {v : Val} (h : Plain v) (m : Nat) : V.text (m + 1) v = textV v := by
 have e : ∀ w : Val, (w.kind = 0 \/ w.kind = 1 \/ w.kind = 2 \/ w.kind = 3) -> V.text (m + 1) w = textV w := fun w hw => by
  rw [V.text, textV, quote_two];rcases hw with hw | hw | hw | hw <;> simp [hw, V.nullB, kNull, V.trueB, V.falseB, kTrue, kFalse]
 rcases h with h | ⟨n, h, _, _⟩ | ⟨s, h, _⟩ | h | h <;> (rw [h]; exact e _ (by simp [V.zero]))
theorem fold_same {α : Type} {f g : Int -> α -> Int} : ∀ (l : List α) (r : Int), (∀ x ∈ l, ∀ r, f r x = g r x) -> l.foldl f r = l.foldl g r
 | [], _, _ => rfl
 | a :: l, r, h => by
  rw [List.foldl_cons, List.foldl_cons, h a (by simp) r];exact fold_same l _ (fun x hx => h x (by simp [hx]))
def Lay : Nat -> Val -> Prop
 | 0, _ => False
 | m + 1, v => (∀ x ∈ v.l, Lay m x) /\ ∀ x ∈ v.f, Lay m x.2
theorem Lay.of_mem : ∀ {m : Nat} {w : World} {v : Val} {cs : List Value}, V.Mem m w v cs -> Lay m v
 | 0, _, _, _, h => h.elim
 | m + 1, w, v, cs, ⟨lv, fv, _, hl, hf⟩ => by
  constructor
  ·intro x hx;obtain ⟨i, hi, rfl⟩ := List.getElem_of_mem hx;obtain ⟨ao, cap, _, h | ⟨b, off, _, h⟩⟩ := hl
   ·omega
   ·obtain ⟨c, _, _, y, hy, hm⟩ := h i hi;rw [List.getElem?_eq_getElem hi] at hy;cases hy;exact Lay.of_mem hm
  ·intro x hx;obtain ⟨i, hi, rfl⟩ := List.getElem_of_mem hx;obtain ⟨ao, cap, _, h | ⟨b, off, _, h⟩⟩ := hf
   ·omega
   ·obtain ⟨c, _, _, y, c', hy, _, hm⟩ := h i hi;rw [List.getElem?_eq_getElem hi] at hy;cases hy;exact Lay.of_mem hm
theorem Lay.up : ∀ {d : Nat} {v : Val}, Lay d v -> Lay (d + 1) v
 | 0, _, h => h.elim
 | _ + 1, _, h => ⟨fun x hx => (h.1 x hx).up, fun x hx => (h.2 x hx).up⟩
theorem Lay.mono {d k : Nat} {v : Val} (h : Lay d v) (hk : d <= k) : Lay k v := by
 induction hk with
 | refl => exact h
 | step _ ih => exact ih.up
theorem foldl_ge {α : Type} (g : α -> Nat) : ∀ (l : List α) (d : Nat), d <= l.foldl (fun d x => max d (g x)) d /\ ∀ x ∈ l, g x <= l.foldl (fun d x => max d (g x)) d
 | [], d => ⟨Nat.le_refl _, fun _ h => absurd h (by simp)⟩
 | a :: l, d => by
  rw [List.foldl_cons];obtain ⟨h1, h2⟩ := foldl_ge g l (max d (g a));refine ⟨by omega, fun x hx => ?_⟩;rcases List.mem_cons.1 hx with rfl | hx
  ·omega
  ·exact h2 x hx
theorem Lay.deep : ∀ {m : Nat} {v : Val}, Lay m v -> Lay (V.deep m v) v
 | 0, _, h => h.elim
 | m + 1, v, h => by
  rw [V.deep];have h1 := foldl_ge (fun x => V.deep m x) v.l 0;have h2 := foldl_ge (fun x : ByteArray × Val => V.deep m x.2) v.f (v.l.foldl (fun d x => max d (V.deep m x)) 0);exact ⟨fun x hx => (h.1 x hx).deep.mono (Nat.le_trans (h1.2 x hx) h2.1), fun x hx => (h.2 x hx).deep.mono (h2.2 x hx)⟩
theorem text_lay : ∀ (k m : Nat) (v : Val), Lay k v -> k <= m -> V.text m v = V.text k v
 | 0, _, _, h, _ => h.elim
 | k + 1, 0, _, _, h => absurd h (by omega)
 | k + 1, m + 1, v, h, hk => by
  have h1 : v.l.map (V.text m) = v.l.map (V.text k) := List.map_congr_left (fun x hx => text_lay k m x (h.1 x hx) (by omega));have h2 : v.f.map (fun x => V.bl x.1 ++ ([58, 32] ++ V.text m x.2)) = v.f.map (fun x => V.bl x.1 ++ ([58, 32] ++ V.text k x.2)) :=
   List.map_congr_left (fun x hx => by rw [text_lay k m x.2 (h.2 x hx) (by omega)])
  rw [V.text, V.text, h1, h2]
theorem all_same {α : Type} {f g : α -> Bool} {l : List α} (h : ∀ x ∈ l, f x = g x) : l.all f = l.all g := by
 rw [Bool.eq_iff_iff, List.all_eq_true, List.all_eq_true];exact ⟨fun h1 x hx => (h x hx) ▸ h1 x hx, fun h1 x hx => (h x hx).symm ▸ h1 x hx⟩
theorem vshaped_lay : ∀ (k m : Nat) (v : Val), Lay k v -> k <= m -> V.shaped m v = V.shaped k v
 | 0, _, _, h, _ => h.elim
 | k + 1, 0, _, _, h => absurd h (by omega)
 | k + 1, m + 1, v, h, hk => by
  rw [V.shaped, V.shaped, all_same (fun x hx => vshaped_lay k m x (h.1 x hx) (by omega)), all_same (l := v.f) (g := fun x => V.shaped k x.2) (fun x hx => vshaped_lay k m x.2 (h.2 x hx) (by omega))]
theorem parts_lay : ∀ (k m : Nat) (v : Val), Lay k v -> k <= m -> V.parts m v = V.parts k v
 | 0, _, _, h, _ => h.elim
 | k + 1, 0, _, _, h => absurd h (by omega)
 | k + 1, m + 1, v, h, hk => by
  have h1 : v.l.map (V.parts m) = v.l.map (V.parts k) := List.map_congr_left (fun x hx => parts_lay k m x (h.1 x hx) (by omega));have h2 : v.f.map (fun x => V.parts m x.2) = v.f.map (fun x => V.parts k x.2) := List.map_congr_left (fun x hx => parts_lay k m x.2 (h.2 x hx) (by omega));rw [V.parts, V.parts, V.sumL, V.sumL, V.sumF, V.sumF, h1, h2]
theorem deep_lay : ∀ (k : Nat) (v : Val), V.deep k v <= k
 | 0, _ => Nat.le_refl _
 | k + 1, v => by
  rw [V.deep];have h1 := V.foldl_max_le (V.deep k) k v.l 0 (Nat.zero_le _) (fun x _ => deep_lay k x);have h2 := V.foldl_max_le (fun x : ByteArray × Val => V.deep k x.2) k v.f _ h1 (fun x _ => deep_lay k x.2);omega
theorem six_of {m : Nat} {v : Val} (h : Lay m v) (hf : V.fault m v = 0) : Lay 6 v /\ V.fault 6 v = 0 /\ V.text m v = V.text 6 v := by
 unfold V.fault at hf;split at hf
 ·cases hf
 ·rename_i hc;split at hf
  ·rename_i hs;have hd : V.deep m v <= 6 := by omega
   have h6 := h.deep.mono hd;have e1 : V.parts 6 v = V.parts m v := (parts_lay _ 6 v h.deep hd).trans (parts_lay _ m v h.deep (deep_lay m v)).symm;have e2 : V.shaped 6 v = V.shaped m v := (vshaped_lay _ 6 v h.deep hd).trans (vshaped_lay _ m v h.deep (deep_lay m v)).symm;have e3 : V.text 6 v = V.text m v := (text_lay _ 6 v h.deep hd).trans (text_lay _ m v h.deep (deep_lay m v)).symm;refine ⟨h6, ?_, e3.symm⟩;unfold V.fault;have := deep_lay 6 v;rw [if_neg (by omega), e2, if_pos hs]
  ·cases hf
def exOf : Nat -> Val -> Ex
 | 0, v => ⟨1, v, ⟨#[]⟩, ⟨#[]⟩, [], []⟩
 | m + 1, v => if v.kind = 4 then ⟨8, V.zero, ⟨#[]⟩, ⟨#[]⟩, v.l.map (exOf m), []⟩
   else if v.kind = 5 then ⟨9, V.zero, ⟨#[]⟩, ⟨#[]⟩, v.f.map (fun x => exOf m x.2), v.f.map (·.1)⟩ else ⟨1, v, ⟨#[]⟩, ⟨#[]⟩, [], []⟩
theorem shaped_cases {m : Nat} {v : Val} (h : V.shaped (m + 1) v = true) :
  (v.kind ≠ 4 /\ v.kind ≠ 5 /\ Plain v) \/ (∃ l, v = ⟨4, 0, ⟨#[]⟩, l, []⟩ /\ ∀ x ∈ l, V.shaped m x = true) \/ (∃ f, v = ⟨5, 0, ⟨#[]⟩, [], f⟩ /\ V.rise f = true /\ ∀ x ∈ f, V.shaped m x.2 = true) := by
 obtain ⟨hs, hf, hl, hr⟩ := V.shaped_parts m v h;obtain ⟨k, n, s, l, f⟩ := v;unfold V.spare at hs;unfold V.fits at hf;simp only [decide_eq_true_eq] at hs hf hl hr ⊢;obtain ⟨s1, s2, s3, s4⟩ := hs;by_cases h4 : k = 4
 ·subst h4;have hn : n = 0 := by omega
  have hf0 : f = [] := List.length_eq_zero_iff.1 (s4.resolve_right (by decide));have := empty_of (s2.resolve_right (by decide));subst hn; subst hf0; subst this;exact .inr (.inl ⟨l, rfl, hl⟩)
 ·by_cases h5 : k = 5
  ·subst h5;have hn : n = 0 := by omega
   have hl0 : l = [] := List.length_eq_zero_iff.1 (s3.resolve_right (by decide));have := empty_of (s2.resolve_right (by decide));subst hn; subst hl0; subst this;refine .inr (.inr ⟨f, rfl, ?_, hr⟩);simpa using hf
  ·refine .inl ⟨h4, h5, ?_⟩;have hl0 : l = [] := List.length_eq_zero_iff.1 (s3.resolve_right h4);have hf0 : f = [] := List.length_eq_zero_iff.1 (s4.resolve_right h5);subst hl0; subst hf0;refine (plain_iff m _).1 ?_;unfold X.plain V.fault;simp only [decide_eq_true_eq];refine ⟨h4, h5, ?_⟩;rw [if_neg (by simp [V.parts, V.deep, V.sumL, V.sumF]), if_pos h]
theorem okAt_names (f : List (ByteArray × Val)) (k : Nat) : V.okAt (X.pairs (f.map (·.1))) k = V.okAt f k := by
 unfold V.okAt X.pairs;simp only [List.map_map, List.getElem?_map, Function.comp_def];cases f[k]? with
 | none => rfl
 | some x =>
  cases f[k - 1]? with
  | none => rfl
  | some y => rfl
theorem rise_names (f : List (ByteArray × Val)) : V.rise (X.pairs (f.map (·.1))) = V.rise f := by
 unfold V.rise;rw [show (X.pairs (f.map (·.1))).length = f.length by simp [X.pairs]];exact all_same (fun k _ => okAt_names f k)
theorem rises_of : ∀ (f : List (ByteArray × Val)) (last : Option ByteArray), (∀ k, k < f.length -> V.okAt f k = true) -> (∀ s x r, last = some s -> f = x :: r -> Op.bytesLess (V.bl s) (V.bl x.1) = true) -> Rises last (f.map (·.1))
 | [], _, _, _ => trivial
 | x :: r, last, h, hl => by
  refine ⟨?_, ?_, rises_of r (some x.1) ?_ ?_⟩
  ·have := h 0 (by simp);rw [V.okAt_zero _ x rfl] at this;exact this
  ·unfold above;cases last with
   | none => rfl
   | some s => exact hl s x r rfl rfl
  ·intro k hk;have := h (k + 1) (by simp; omega);have hx : (x :: r)[k + 1]? = some r[k] := by simp [hk]
   cases k with
   | zero =>
    rw [V.okAt_succ _ 0 r[0] x hx rfl] at this;rw [V.okAt_zero _ r[0] (by simp [hk])];exact (Bool.and_eq_true _ _ ▸ this).1
   | succ k =>
    have hy : (x :: r)[k + 1]? = some r[k] := by simp
    rw [V.okAt_succ _ (k + 1) r[k + 1] r[k] hx hy] at this;rw [V.okAt_succ _ k r[k + 1] r[k] (by simp [hk]) (by simp)];exact this
  ·rintro s y r' hs rfl;cases hs;have := h 1 (by simp);rw [V.okAt_succ _ 0 y x rfl rfl] at this;exact (Bool.and_eq_true _ _ ▸ this).2
theorem rises_rise {f : List (ByteArray × Val)} (h : V.rise f = true) : Rises none (f.map (·.1)) := by
 refine rises_of f none (fun k hk => ?_) (fun _ _ _ h => by cases h);rw [V.rise, List.all_eq_true] at h;exact h k (List.mem_range.2 hk)
theorem parts_pos {m : Nat} {v : Val} : 1 <= V.parts (m + 1) v := by rw [V.parts]; omega
theorem len_parts {m : Nat} (l : List (ByteArray × Val)) : l.length <= V.sumF (fun x => V.parts (m + 1) x.2) l := by
 unfold V.sumF;induction l with
 | nil => simp
 | cons a l ih =>
  have := parts_pos (m := m) (v := a.2);simp only [List.length_cons, List.map_cons, List.sum_cons];omega
theorem exOf_gd : ∀ (d : Nat) (v : Val), Lay d v -> V.shaped d v = true -> V.parts d v <= 60 -> Gd d (exOf d v) /\ textE d (exOf d v) = V.text d v
 | 0, _, h, _, _ => h.elim
 | d + 1, v, h, hs, hp => by
  rcases shaped_cases hs with ⟨h4, h5, hpl⟩ | ⟨l, rfl, hl⟩ | ⟨f, rfl, hr, hf⟩
  ·rw [exOf, if_neg h4, if_neg h5];refine ⟨.inl ⟨v, rfl, hpl⟩, ?_⟩;rw [text_plain hpl d];rfl
  ·have hx : ∀ x ∈ l, Gd d (exOf d x) /\ textE d (exOf d x) = V.text d x := fun x hx => exOf_gd d x (h.1 x hx) (hl x hx) (by
    rw [V.parts] at hp;have := V.sumL_mem (V.parts d) l x hx;simp only at hp;omega)
   rw [exOf, if_pos rfl];refine ⟨.inr (.inr (.inr (.inr (.inr (.inl ⟨l.map (exOf d), rfl, fun x hx' => ?_⟩))))), ?_⟩
   ·obtain ⟨y, hy, rfl⟩ := List.mem_map.1 hx';exact (hx y hy).1
   ·show [91] ++ (Lib.join ((l.map (exOf d)).map (textE d)) [44, 32] ++ [93]) = _;have e : (l.map (exOf d)).map (textE d) = l.map (V.text d) := by
     rw [List.map_map];exact List.map_congr_left (fun x hx' => (hx x hx').2)
    rw [e];rfl
  ·have hx : ∀ x ∈ f, Gd d (exOf d x.2) /\ textE d (exOf d x.2) = V.text d x.2 := fun x hx => exOf_gd d x.2 (h.2 x hx) (hf x hx) (by
    rw [V.parts] at hp;have := V.sumF_mem (fun x => V.parts d x.2) f x hx;simp only at hp this;omega)
   have h60 : f.length <= 60 := by
    rw [V.parts] at hp;simp only at hp;cases d with
    | zero =>
     cases f with
     | nil => simp
     | cons a r => exact (h.2 a (by simp)).elim
    | succ d => have := len_parts (m := d) f; omega
   rw [exOf, if_neg (show ¬ (5 : Int) = 4 by decide), if_pos rfl];refine ⟨.inr (.inr (.inr (.inr (.inr (.inr (.inl ⟨f.map (fun x => (x.1, exOf d x.2)), ?_, by simpa using h60, ?_, ?_⟩)))))), ?_⟩
   ·simp [List.map_map, Function.comp_def]
   ·have := rises_rise hr;simpa [List.map_map, Function.comp_def] using this
   ·intro x hx';obtain ⟨y, hy, rfl⟩ := List.mem_map.1 hx';exact (hx y hy).1
   ·show [123] ++ (Lib.join (((f.map (·.1)).zip ((f.map (fun x => exOf d x.2)).map (textE d))).map (fun p => V.bl p.1 ++ ([58, 32] ++ p.2))) [44, 32] ++ [125]) = _;have e : ((f.map (·.1)).zip ((f.map (fun x => exOf d x.2)).map (textE d))).map (fun p => V.bl p.1 ++ ([58, 32] ++ p.2)) = f.map (fun x => V.bl x.1 ++ ([58, 32] ++ V.text d x.2)) := by
     rw [List.map_map, List.zip_map', List.map_map];refine List.map_congr_left (fun x hx' => ?_);simp only [Function.comp_def];rw [(hx x hx').2]
    rw [e];rfl
theorem exOf_room : ∀ (d : Nat) (v : Val) (dd r : Int), Lay d v -> V.shaped d v = true -> X.room d (exOf d v) dd r = V.room d v dd r
 | 0, _, _, _, h, _ => h.elim
 | d + 1, v, dd, r, h, hs => by
  rcases shaped_cases hs with ⟨h4, h5, hpl⟩ | ⟨l, rfl, hl⟩ | ⟨f, rfl, hr, hf⟩
  ·rw [exOf, if_neg h4, if_neg h5, X.room, V.room];rcases hpl with rfl | ⟨n, rfl, _⟩ | ⟨s, rfl, _⟩ | rfl | rfl <;> rfl
  ·rw [exOf, if_pos rfl, X.room, V.room];simp only [List.foldl_map, List.foldl_nil];split
   ·rfl
   ·exact fold_same _ _ (fun x hx r => by rw [exOf_room d x (dd + 1) r (h.1 x hx) (hl x hx)])
  ·rw [exOf, if_neg (show ¬ (5 : Int) = 4 by decide), if_pos rfl, X.room, V.room];simp only [List.foldl_map, List.foldl_nil];split
   ·rfl
   ·exact fold_same _ _ (fun x hx r => by rw [exOf_room d x.2 (dd + 1) r (h.2 x hx) (hf x hx)])
theorem exOf_shaped (sm : Val -> Val -> Bool) (hsm : V.Says sm) : ∀ (d : Nat) (v : Val), Lay d v -> V.shaped d v = true -> X.shaped sm d (exOf d v) = true
 | 0, _, h, _ => h.elim
 | d + 1, v, h, hs => by
  have e0 : (⟨#[]⟩ : ByteArray).toList = [] := by rw [V.toList_bl]; rfl
  rcases shaped_cases hs with ⟨h4, h5, hpl⟩ | ⟨l, rfl, hl⟩ | ⟨f, rfl, hr, hf⟩
  ·rw [exOf, if_neg h4, if_neg h5, X.shaped];have := (plain_iff d v).2 hpl;simp [X.spare, X.fits, e0, this]
  ·rw [exOf, if_pos rfl, X.shaped];have h1 : (l.map (exOf d)).all (X.shaped sm d) = true := by
    rw [List.all_eq_true];intro x hx;obtain ⟨y, hy, rfl⟩ := List.mem_map.1 hx;exact exOf_shaped sm hsm d y (h.1 y hy) (hl y hy)
   have h2 := hsm.yes V.zero V.zero rfl;rw [h1];simp [X.spare, X.fits, e0, h2]
  ·rw [exOf, if_neg (show ¬ (5 : Int) = 4 by decide), if_pos rfl, X.shaped];have h1 : (f.map (fun x => exOf d x.2)).all (X.shaped sm d) = true := by
    rw [List.all_eq_true];intro x hx;obtain ⟨y, hy, rfl⟩ := List.mem_map.1 hx;exact exOf_shaped sm hsm d y.2 (h.2 y hy) (hf y hy)
   have h2 := hsm.yes V.zero V.zero rfl;have h3 := (rise_names f).trans hr;rw [h1];simp [X.spare, X.fits, e0, h2, h3]
theorem exOf_fault (sm : Val -> Val -> Bool) (hsm : V.Says sm) {v : Val} (h : Lay 6 v) (hf : V.fault 6 v = 0) : X.fault sm 6 (exOf 6 v) = 0 := by
 unfold V.fault at hf;split at hf
 ·cases hf
 ·rename_i hc;split at hf
  ·rename_i hs;unfold X.fault;have h1 := (V.room_left 6 v 1 60 (by decide)).1 (by omega);rw [exOf_room 6 v 1 60 h hs, h1, if_neg (by omega), if_pos (exOf_shaped sm hsm 6 v h hs)]
  ·cases hf
theorem text_read (sm : Val -> Val -> Bool) (hsm : V.Says sm) {v : Val} (h : Lay 6 v) (hf : V.fault 6 v = 0) (hlen : (V.text 6 v).length <= 4000) :
  ∃ r, Lx.lexAll (V.text 6 v) = .ok r /\ whole (fun e => decide (X.fault sm 6 e = 0)) (r.map Lx.face) = some (exOf 6 v, []) := by
 have hfx := exOf_fault sm hsm h hf;unfold V.fault at hf;split at hf
 ·cases hf
 ·rename_i hc;split at hf
  ·rename_i hs;obtain ⟨h1, h2⟩ := exOf_gd 6 v h hs (by omega);have h3 := reads_E 6 (exOf 6 v) h1 [] [] (fun _ _ h => by cases h) (Lexes.nil rfl);rw [List.append_nil, List.append_nil, h2] at h3;obtain ⟨r, hr, hm⟩ := h3.all hlen;refine ⟨r, hr, ?_⟩;rw [hm, whole, show tokE 6 (exOf 6 v) = tokE 6 (exOf 6 v) ++ [] by simp, ex_tok 6 (exOf 6 v) [] h1];simp [hfx]
  ·cases hf
end P
namespace P
abbrev Base (α : Type) := World -> α -> List Value -> Prop
def KM {α : Type} (B : Base α) (D : Nat -> Prop) (w : World) (x : α) (cs : List Value) : Prop := ∀ w2 : World, (∀ c, D c -> w2.heap[c]? = w.heap[c]?) -> B w2 x cs
theorem KM.to {α : Type} {B : Base α} {D D2 : Nat -> Prop} {w w2 : World} {x : α} {cs : List Value} (h : KM B D w x cs) (hw : ∀ c, D c -> w2.heap[c]? = w.heap[c]?) (hD : ∀ c, D c -> D2 c) : KM B D2 w2 x cs := fun w3 h3 => h w3 (fun c hc => (h3 c (hD c hc)).trans (hw c hc))
theorem KM.mem {α : Type} {B : Base α} {D : Nat -> Prop} {w : World} {x : α} {cs : List Value} (h : KM B D w x cs) : B w x cs := h w (fun _ _ => rfl)
def KRow {α : Type} (B : Base α) (sz : Nat) (D : Nat -> Prop) (w : World) (v : Value) (l : List α) : Prop := ∀ w2 : World, (∀ c, D c -> w2.heap[c]? = w.heap[c]?) -> V.Row w2 v l.length sz (fun i c => ∃ x, l[i]? = some x /\ B w2 x c)
theorem flat_atK {α : Type} (sz : Nat) : ∀ (l : List (α × List Value)), (∀ x ∈ l, x.2.length = sz) -> ∀ (i : Nat) (x : α × List Value), l[i]? = some x -> x.2.length = sz /\ ∀ j, j < sz -> (l.flatMap (fun x => x.2)).toArray[i * sz + j]? = x.2[j]?
 | [], _, _, _, h => by cases h
 | y :: l, h10, 0, x, h => by
  have e : y = x := by simpa using h
  subst e;have hy := h10 y (by simp);refine ⟨hy, fun j hj => ?_⟩;rw [List.getElem?_toArray, List.flatMap_cons, Nat.zero_mul, Nat.zero_add, List.getElem?_append_left (by omega)]
 | y :: l, h10, i + 1, x, h => by
  have hy := h10 y (by simp);obtain ⟨h1, h2⟩ := flat_atK sz l (fun z hz => h10 z (by simp [hz])) i x (by simpa using h);refine ⟨h1, fun j hj => ?_⟩;have := h2 j hj;rw [List.getElem?_toArray] at this ⊢;rw [List.flatMap_cons, List.getElem?_append_right (by rw [Nat.succ_mul]; omega), show (i + 1) * sz + j - y.2.length = i * sz + j by rw [Nat.succ_mul]; omega];exact this
theorem row_own {w : World} {base sz n : Nat} {ty : TypeId} {v : Value} (C : List (List Value)) (h : w.ownsRow base ty sz v n C.flatten) (hl : C.length = n) (hs : ∀ c ∈ C, c.length = sz) : V.Row w v n sz (fun i c => C[i]? = some c) := by
 rcases h.2 with ⟨hv, hn⟩ | ⟨g, cap', cur, hv, hg, hh, hnc, _, hcs, htk⟩
 ·rw [hv, hn];exact V.Row.zero _ _ _
 ·refine ⟨some ⟨g, 0, none⟩, cap', hv, .inr ⟨g, 0, rfl, fun i hi => ?_⟩⟩;have hx : C[i]? = some C[i] := List.getElem?_eq_getElem (by omega);obtain ⟨h1, h2⟩ := flat_atK sz (C.map (fun c => ((), c))) (fun x hx => by
   obtain ⟨c, hc, rfl⟩ := List.mem_map.1 hx;exact hs c hc) i ((), C[i]) (by rw [List.getElem?_map, hx]; rfl)
  refine ⟨C[i], h1, fun j hj => ?_, hx⟩;have h3 := h2 j hj;have hij : i * sz + j < n * sz := by
   have : (i + 1) * sz <= n * sz := Nat.mul_le_mul_right sz hi;rw [Nat.succ_mul] at this;omega
  have e : (C.map (fun c => ((), c))).flatMap (fun x => x.2) = C.flatten := by
   rw [List.flatMap_def, List.map_map];exact congrArg List.flatten (List.map_id C)
  rw [e, <- htk, List.getElem?_toArray, List.getElem?_take, if_pos hij, Array.getElem?_toList] at h3;rw [cell_of_row w g _ _ _ _ hh, Nat.zero_add];exact h3
end P
end Go.Proofs.YtcekcfjabhlheaaGreatDoor.Vx
