/- For DiskSays: the reference's Step, NewDisk; the program's Down. -/
import Derived.Test.YtmlbcdofogffkabHDc
import Derived.Deep.RegionHeld3
import Derived.Sort.Walk0
namespace Go.Proofs.Ytmlbcdofogffkab
open Go.RowKit
attribute [local go_sem ↓] Go.wp_at_zero Go.wp_at_succ
theorem owns_base {w : World} {base base2 n z : Nat} {t : TypeId} {v : Value} {xs : List Value} (h : w.ownsRow base t z v n xs) (hb : base2 ≤ base) : w.ownsRow base2 t z v n xs := by
  refine ⟨h.1, ?_⟩
  rcases h.2 with h1 | ⟨g, cap, cur, rfl, hg, r⟩
  · exact .inl h1
  · exact .inr ⟨g, cap, cur, rfl, Nat.le_trans hb hg, r⟩
namespace R
theorem flat_at : ∀ (S : List Fl) (i : Nat) (x : Fl), S[i]? = some x → (flat S)[i * 2]? = some (.string x.1) ∧ (flat S)[i * 2 + 1]? = some (.string x.2)
  | [], i, x, h => by simp at h
  | y :: S, 0, x, h => by simp at h; subst h; exact ⟨rfl, rfl⟩
  | y :: S, i + 1, x, h => by
    have ih := flat_at S i x (by simpa using h)
    have e : flat (y :: S) = .string y.1 :: .string y.2 :: flat S := by simp [flat, cells]
    rw [e, show (i + 1) * 2 = i * 2 + 1 + 1 by omega]
    simpa using ih
theorem Fls.of_owns {w : World} {v : Value} {S : List Fl} {base : Nat} (h : w.ownsRow base 148 2 v S.length (flat S)) : Fls w v S := by
  rcases h.2 with ⟨rfl, h0⟩ | ⟨g, cap, cur, rfl, _, hg, _⟩
  · have : S = [] := List.eq_nil_of_length_eq_zero h0
    subst this
    exact ⟨none, 0, rfl, .inl rfl⟩
  · refine ⟨some ⟨g, 0, none⟩, cap, rfl, .inr ⟨g, 0, rfl, fun i x hx => ?_⟩⟩
    have f := flat_at S i x hx
    have e : ∀ j, (⟨g, 0, none⟩ : Addr).add j = ⟨g, j, none⟩ := fun j => by unfold Addr.add; split <;> simp_all
    have h3 := h.cells (g := g) rfl _ _ f.1
    have h4 := h.cells (g := g) rfl _ _ f.2
    rw [e] at h3 h4
    rw [Nat.zero_add]; exact ⟨h3, h4⟩
theorem Fls.fr {w w' : World} {v : Value} {S : List Fl} (h : Fls w v S) (hf : Fr w w' (fun _ => False)) : Fls w' v S := h.kept (hf.below (Nat.le_refl _) (fun _ e => e.elim))
/-- A turn of files. -/
structure Tn where
  kind : Int
  name : ByteArray
  data : ByteArray
  dest : ByteArray
def Tn.cells (t : Tn) : Array Value := #[.int .i64 t.kind, .string t.name, .string t.data, .string t.dest]
/-- What is in a file, or nothing. -/
def has (S : List Fl) (n : ByteArray) : ByteArray := match M.at_ n S 0 with | some p => p.2 | none => ⟨#[]⟩
theorem place_at : ∀ (S : List Fl) (n : ByteArray), (place S n = -1 ∧ has S n = ⟨#[]⟩) ∨ ∃ k x, place S n = (k : Nat) ∧ S[k]? = some x ∧ has S n = x.2
  | [], n => .inl ⟨rfl, rfl⟩
  | y :: S, n => by
    unfold place has
    rw [M.at_]
    by_cases e : (n == y.1) = true
    · rw [if_pos e]; exact .inr ⟨0, y, rfl, rfl, rfl⟩
    · rw [if_neg e, at_shift]
      rcases place_at S n with ⟨h1, h2⟩ | ⟨k, x, h1, h2, h3⟩
      · unfold place at h1
        cases hm : M.at_ n S 0 with
        | none => exact .inl ⟨rfl, rfl⟩
        | some p => rw [hm] at h1; simp at h1
      · unfold place at h1
        unfold has at h3
        cases hm : M.at_ n S 0 with
        | none => rw [hm] at h1; simp at h1
        | some p =>
          rw [hm] at h1 h3
          refine .inr ⟨k + 1, x, ?_, by simpa using h2, ?_⟩
          · simp at h1 ⊢; omega
          · simpa using h3
/-- Files behind a turn. -/
def turned (S : List Fl) (t : Tn) : List Fl :=
  if t.kind = 1 then put S (t.name, t.data)
  else if t.kind = 2 then put S (t.name, has S t.name ++ t.data)
  else if t.kind = 4 then put (less S t.name) (t.dest, has S t.name)
  else less S t.name
end R
set_option maxRecDepth 100000 in
set_option maxHeartbeats 800000 in
theorem turned1 (w : World) (v : Value) (S : List R.Fl) (t : R.Tn) (h : R.Fls w v S) (hl : S.length ≤ 1000000) (hk : t.kind = 1) :
    Calls Try.prog 90 #[v, .agg t.cells] w fun o w' => ∃ u, o = .returned u ∧ w'.ownsRow w.heap.size 148 2 u (R.turned S t).length (R.flat (R.turned S t)) ∧ Fr w w' (fun _ => False) := by
  obtain ⟨ao, cap, rfl, _⟩ := id h
  obtain ⟨kd, nm, dt, ds⟩ := t
  have HB0 := hide (heap_alloc_new w (.cells #[.int .i64 kd, .string nm, .string dt, .string ds] 151))
  have HF0 : Hid (Fr w (w.alloc (.cells #[.int .i64 kd, .string nm, .string dt, .string ds] 151)) (fun _ => False)) := (Fr.refl _ _).alloc _
  have b0 := cell_of_block HB0.out 0 _ rfl
  have b1 := cell_of_block HB0.out 1 _ rfl
  have b2 := cell_of_block HB0.out 2 _ rfl
  have b3 := cell_of_block HB0.out 3 _ rfl
  have HHas := hide (refHas_any _ _ S nm (h.fr HF0.out) hl)
  have HPut := hide (refPut_any _ _ S (nm, dt) (h.fr HF0.out) hl)
  have HV : Hid (R.turned S ⟨kd, nm, dt, ds⟩ = R.put S (nm, dt)) := by show _ = _; unfold R.turned; rw [if_pos hk]
  dsimp only at hk
  subst hk
  clear h
  rw [R.Tn.cells]
  go_enter Try.func90, Try.ntmps90
  go_wp2_with (first | (go_at_call 84; (with_reducible refine Calls.mono HHas.out ?_); rintro o w2 ⟨rfl, rfl⟩) | (go_at_call 121; (with_reducible refine Calls.mono HPut.out ?_); rintro o w3 ⟨u, rfl, ho, hf⟩))
  go_ret
  refine ⟨_, rfl, ?_, HF0.out.trans hf (fun _ _ e => e)⟩
  rw [HV.out]
  exact owns_base ho (Nat.le_succ_of_le HF0.out.size)
set_option maxRecDepth 100000 in
set_option maxHeartbeats 800000 in
theorem turned5 (w : World) (v : Value) (S : List R.Fl) (t : R.Tn) (h : R.Fls w v S) (hl : S.length ≤ 1000000) (hk : t.kind = 5) :
    Calls Try.prog 90 #[v, .agg t.cells] w fun o w' => ∃ u, o = .returned u ∧ w'.ownsRow w.heap.size 148 2 u (R.turned S t).length (R.flat (R.turned S t)) ∧ Fr w w' (fun _ => False) := by
  obtain ⟨ao, cap, rfl, _⟩ := id h
  obtain ⟨kd, nm, dt, ds⟩ := t
  have HB0 := hide (heap_alloc_new w (.cells #[.int .i64 kd, .string nm, .string dt, .string ds] 151))
  have HF0 : Hid (Fr w (w.alloc (.cells #[.int .i64 kd, .string nm, .string dt, .string ds] 151)) (fun _ => False)) := (Fr.refl _ _).alloc _
  have b0 := cell_of_block HB0.out 0 _ rfl
  have b1 := cell_of_block HB0.out 1 _ rfl
  have b2 := cell_of_block HB0.out 2 _ rfl
  have b3 := cell_of_block HB0.out 3 _ rfl
  have HHas := hide (refHas_any _ _ S nm (h.fr HF0.out) hl)
  have HPut := hide (without_any _ _ S nm (h.fr HF0.out) hl)
  have HV : Hid (R.turned S ⟨kd, nm, dt, ds⟩ = R.less S nm) := by show _ = _; unfold R.turned; rw [hk]; rfl
  dsimp only at hk
  subst hk
  clear h
  rw [R.Tn.cells]
  go_enter Try.func90, Try.ntmps90
  go_wp2_with (first | (go_at_call 84; (with_reducible refine Calls.mono HHas.out ?_); rintro o w2 ⟨rfl, rfl⟩) | (go_at_call 122; (with_reducible refine Calls.mono HPut.out ?_); rintro o w3 ⟨u, rfl, ho, hf⟩))
  go_ret
  refine ⟨_, rfl, ?_, HF0.out.trans hf (fun _ _ e => e)⟩
  rw [HV.out]
  exact owns_base ho HF0.out.size
end Go.Proofs.Ytmlbcdofogffkab
namespace Go.Proofs.Ytmlbcdofogffkab
open Go.RowKit
attribute [local go_sem ↓] Go.wp_at_zero Go.wp_at_succ
set_option maxRecDepth 100000 in
set_option maxHeartbeats 800000 in
theorem turned2 (w : World) (v : Value) (S : List R.Fl) (t : R.Tn) (h : R.Fls w v S) (hl : S.length ≤ 1000000) (hk : t.kind = 2) (hsz : (R.has S t.name).size + t.data.size ≤ 100000) :
    Calls Try.prog 90 #[v, .agg t.cells] w fun o w' => ∃ u, o = .returned u ∧ w'.ownsRow w.heap.size 148 2 u (R.turned S t).length (R.flat (R.turned S t)) ∧ Fr w w' (fun _ => False) := by
  obtain ⟨ao, cap, rfl, _⟩ := id h
  obtain ⟨kd, nm, dt, ds⟩ := t
  have HB0 := hide (heap_alloc_new w (.cells #[.int .i64 kd, .string nm, .string dt, .string ds] 151))
  have HF0 : Hid (Fr w (w.alloc (.cells #[.int .i64 kd, .string nm, .string dt, .string ds] 151)) (fun _ => False)) := (Fr.refl _ _).alloc _
  have b0 := cell_of_block HB0.out 0 _ rfl
  have b1 := cell_of_block HB0.out 1 _ rfl
  have b2 := cell_of_block HB0.out 2 _ rfl
  have b3 := cell_of_block HB0.out 3 _ rfl
  have HHas := hide (refHas_any _ _ S nm (h.fr HF0.out) hl)
  have HPut := hide (refPut_any _ _ S (nm, R.has S nm ++ dt) (h.fr HF0.out) hl)
  have HV : Hid (R.turned S ⟨kd, nm, dt, ds⟩ = R.put S (nm, R.has S nm ++ dt)) := by show _ = _; unfold R.turned; rw [if_neg (by rw [hk]; decide), if_pos hk]
  dsimp only at hk hsz
  subst hk
  rcases R.place_at S nm with ⟨hp, hh⟩ | ⟨k, x, hp, hx, hh⟩
  · rw [hp] at HHas
    rw [hh, show (⟨#[]⟩ : ByteArray) ++ dt = dt from ByteArray.empty_append] at HPut HV
    clear h
    rw [R.Tn.cells]
    go_enter Try.func90, Try.ntmps90
    go_wp2_with (first | (go_at_call 84; (with_reducible refine Calls.mono HHas.out ?_); rintro o w2 ⟨rfl, rfl⟩) | (go_at_call 121; (with_reducible refine Calls.mono HPut.out ?_); rintro o w3 ⟨u, rfl, ho, hf⟩))
    go_ret
    refine ⟨_, rfl, ?_, HF0.out.trans hf (fun _ _ e => e)⟩
    rw [HV.out]
    exact owns_base ho (Nat.le_succ_of_le HF0.out.size)
  · rw [hp] at HHas
    obtain ⟨b, off, rfl, c0, c1⟩ := (h.fr HF0.out).at hx
    have hlt : k < S.length := (List.getElem?_eq_some_iff.1 hx).1
    rw [hh] at HV hsz
    have HPut := hide (refPut_any _ _ S (nm, x.2 ++ dt) (h.fr HF0.out.drew) hl)
    have HKP : Hid (∀ w3, Fr (w.alloc (.cells #[.int .i64 2, .string nm, .string dt, .string ds] 151)).drew w3 (fun _ => False) → w3.cell? ⟨w.heap.size, 1, none⟩ = some (.string nm) ∧ w3.cell? ⟨w.heap.size, 2, none⟩ = some (.string dt) ∧ w3.cell? ⟨b, off + k * 2 + 1, none⟩ = some (.string x.2)) := fun w3 hf =>
      have hb := hf.below (Nat.le_refl _) (fun _ e => e.elim)
      ⟨kept_cell hb b1, kept_cell hb b2, kept_cell hb c1⟩
    have hcat : ¬ 9223372036854775807 < x.2.size + dt.size := by omega
    clear h hx
    rw [R.Tn.cells]
    go_enter Try.func90, Try.ntmps90
    go_wp2_with (first | (go_at_call 84; (with_reducible refine Calls.mono HHas.out ?_); rintro o w2 ⟨rfl, rfl⟩))
    go_region_held3 (fun W' => W'.cell? ⟨w.heap.size, 1, none⟩ = some (.string nm) ∧ W'.cell? ⟨w.heap.size, 2, none⟩ = some (.string dt) ∧ W'.cell? ⟨b, off + k * 2 + 1, none⟩ = some (.string x.2)) (first | exact ⟨b1, b2, c1⟩ | exact HKP.out _ hf | go_keep)
      (first | (go_at_call 121; (with_reducible refine Calls.mono HPut.out ?_); rintro o w3 ⟨u, rfl, ho, hf⟩))
    have HO := hide ho
    have HF := hide hf
    clear ho hf
    go_wp2_with fail
    go_ret
    refine ⟨_, rfl, ?_, HF0.out.drew.trans HF.out (fun _ _ e => e)⟩
    rw [HV.out]
    exact owns_base HO.out (Nat.le_succ_of_le HF0.out.drew.size)
end Go.Proofs.Ytmlbcdofogffkab
namespace Go.Proofs.Ytmlbcdofogffkab
open Go.RowKit
attribute [local go_sem ↓] Go.wp_at_zero Go.wp_at_succ
set_option maxRecDepth 100000 in
set_option maxHeartbeats 800000 in
theorem turned4 (w : World) (v : Value) (S : List R.Fl) (t : R.Tn) (h : R.Fls w v S) (hl : S.length ≤ 1000000) (hk : t.kind = 4) :
    Calls Try.prog 90 #[v, .agg t.cells] w fun o w' => ∃ u, o = .returned u ∧ w'.ownsRow w.heap.size 148 2 u (R.turned S t).length (R.flat (R.turned S t)) ∧ Fr w w' (fun _ => False) := by
  obtain ⟨ao, cap, rfl, _⟩ := id h
  obtain ⟨kd, nm, dt, ds⟩ := t
  have HB0 := hide (heap_alloc_new w (.cells #[.int .i64 kd, .string nm, .string dt, .string ds] 151))
  have HF0 : Hid (Fr w (w.alloc (.cells #[.int .i64 kd, .string nm, .string dt, .string ds] 151)) (fun _ => False)) := (Fr.refl _ _).alloc _
  have b0 := cell_of_block HB0.out 0 _ rfl
  have b1 := cell_of_block HB0.out 1 _ rfl
  have b2 := cell_of_block HB0.out 2 _ rfl
  have b3 := cell_of_block HB0.out 3 _ rfl
  have HHas := hide (refHas_any _ _ S nm (h.fr HF0.out) hl)
  have HW := hide (without_any _ _ S nm (h.fr HF0.out.drew) hl)
  have HPut : Hid (∀ (wy : World) (u : Value), R.Fls wy u (R.less S nm) → Calls Try.prog 121 #[u, .agg #[.string ds, .string (R.has S nm)]] wy fun o w' => ∃ u, o = .returned u ∧ w'.ownsRow (wy.heap.size + 1) 148 2 u (R.put (R.less S nm) (ds, R.has S nm)).length (R.flat (R.put (R.less S nm) (ds, R.has S nm))) ∧ Fr wy w' (fun _ => False)) := fun wy u hu => refPut_any wy u _ (ds, R.has S nm) hu (Nat.le_trans (R.less_le _ _) hl)
  have HV : Hid (R.turned S ⟨kd, nm, dt, ds⟩ = R.put (R.less S nm) (ds, R.has S nm)) := by show _ = _; unfold R.turned; rw [if_neg (by rw [hk]; decide), if_neg (by rw [hk]; decide), if_pos hk]
  dsimp only at hk
  subst hk
  have HKP : Hid (∀ w3, Fr (w.alloc (.cells #[.int .i64 4, .string nm, .string dt, .string ds] 151)).drew w3 (fun _ => False) → w3.cell? ⟨w.heap.size, 1, none⟩ = some (.string nm) ∧ w3.cell? ⟨w.heap.size, 3, none⟩ = some (.string ds)) := fun w3 hf =>
    have hb := hf.below (Nat.le_refl _) (fun _ e => e.elim)
    ⟨kept_cell hb b1, kept_cell hb b3⟩
  rcases R.place_at S nm with ⟨hp, hh⟩ | ⟨k, x, hp, hx, hh⟩
  · rw [hp] at HHas
    rw [hh] at HPut HV
    clear h
    rw [R.Tn.cells]
    go_enter Try.func90, Try.ntmps90
    go_wp2_with (first | (go_at_call 84; (with_reducible refine Calls.mono HHas.out ?_); rintro o w2 ⟨rfl, rfl⟩))
    go_region_held3 (fun W' => W'.cell? ⟨w.heap.size, 1, none⟩ = some (.string nm) ∧ W'.cell? ⟨w.heap.size, 3, none⟩ = some (.string ds)) (first | exact ⟨b1, b3⟩ | exact HKP.out _ hf | exact HKP.out _ (hf.trans hf4 (fun _ _ e => e)) | go_keep)
      (first | (go_at_call 122; (with_reducible refine Calls.mono HW.out ?_); rintro o w3 ⟨u, rfl, ho, hf⟩; obtain ⟨t1, t3⟩ := HKP.out _ hf; have hfl := R.Fls.of_owns ho) | (go_at_call 121; (with_reducible refine Calls.mono (HPut.out _ _ hfl) ?_); rintro o w4 ⟨u4, rfl, ho4, hf4⟩))
    all_goals
      have HO := hide (owns_base (base2 := w.heap.size) ho4 (Nat.le_succ_of_le (Nat.le_trans HF0.out.drew.size hf.size)))
      have HF := hide (hf.trans hf4 (fun _ _ e => e))
      clear ho hf ho4 hf4 hfl
      go_wp2_with fail
      go_ret
      refine ⟨_, rfl, ?_, HF0.out.drew.trans HF.out (fun _ _ e => e)⟩
      rw [HV.out]
      exact HO.out
  · rw [hp] at HHas
    obtain ⟨b, off, rfl, c0, c1⟩ := (h.fr HF0.out).at hx
    have hlt : k < S.length := (List.getElem?_eq_some_iff.1 hx).1
    rw [hh] at HPut HV
    clear h hx
    rw [R.Tn.cells]
    go_enter Try.func90, Try.ntmps90
    go_wp2_with (first | (go_at_call 84; (with_reducible refine Calls.mono HHas.out ?_); rintro o w2 ⟨rfl, rfl⟩))
    go_region_held3 (fun W' => W'.cell? ⟨w.heap.size, 1, none⟩ = some (.string nm) ∧ W'.cell? ⟨w.heap.size, 3, none⟩ = some (.string ds)) (first | exact ⟨b1, b3⟩ | exact HKP.out _ hf | exact HKP.out _ (hf.trans hf4 (fun _ _ e => e)) | go_keep)
      (first | (go_at_call 122; (with_reducible refine Calls.mono HW.out ?_); rintro o w3 ⟨u, rfl, ho, hf⟩; obtain ⟨t1, t3⟩ := HKP.out _ hf; have hfl := R.Fls.of_owns ho) | (go_at_call 121; (with_reducible refine Calls.mono (HPut.out _ _ hfl) ?_); rintro o w4 ⟨u4, rfl, ho4, hf4⟩))
    all_goals
      have HO := hide (owns_base (base2 := w.heap.size) ho4 (Nat.le_succ_of_le (Nat.le_trans HF0.out.drew.size hf.size)))
      have HF := hide (hf.trans hf4 (fun _ _ e => e))
      clear ho hf ho4 hf4 hfl
      go_wp2_with fail
      go_ret
      refine ⟨_, rfl, ?_, HF0.out.drew.trans HF.out (fun _ _ e => e)⟩
      rw [HV.out]
      exact HO.out
end Go.Proofs.Ytmlbcdofogffkab
namespace Go.Proofs.Ytmlbcdofogffkab
namespace R
theorem beq_iff (a b : ByteArray) : (a == b) = true ↔ a = b := MapKept.bytes_beq a b
theorem toList_inj {a b : ByteArray} (h : a.toList = b.toList) : a = b := by
  have e := beq_toList a b
  rw [h] at e
  exact ((beq_iff b a).1 (by rw [← e]; simp)).symm
theorem before_iff (a b : ByteArray) : before a b = true ↔ a.toList ≤ b.toList := by
  unfold before
  rw [bytesLess_eq, Bool.or_eq_true, decide_eq_true_iff, beq_iff_eq]
  constructor
  · rintro (h | h)
    · exact List.le_of_lt h
    · rw [h]; exact List.le_refl _
  · intro h
    by_cases e : a.toList = b.toList
    · exact .inr e
    · refine .inl ?_
      rcases Classical.em (a.toList < b.toList) with k | k
      · exact k
      · exact absurd (List.le_antisymm h (List.not_lt.1 k)) e
/-- Put in at its place. -/
def ins : List Fl → Fl → List Fl
  | [], f => [f]
  | x :: S, f => if before f.1 x.1 then f :: less (x :: S) f.1 else x :: ins S f
theorem less_cons (x : Fl) (S : List Fl) (n : ByteArray) : less (x :: S) n = (if n == x.1 then [] else [x]) ++ less S n := by
  unfold less
  cases h : (n == x.1) <;> simp [h]
theorem lay_true (f : Fl) : ∀ (S L : List Fl), S.foldl (lay f) (true, L) = (true, L ++ less S f.1)
  | [], L => by simp [less]
  | x :: S, L => by
    rw [List.foldl_cons, show lay f (true, L) x = (true, L ++ (if f.1 == x.1 then [] else [x])) by simp [lay], lay_true f S, less_cons, List.append_assoc]
theorem lay_false (f : Fl) : ∀ (S L : List Fl), (if (S.foldl (lay f) (false, L)).1 then (S.foldl (lay f) (false, L)).2 else (S.foldl (lay f) (false, L)).2 ++ [f]) = L ++ ins S f
  | [], L => by simp [ins]
  | x :: S, L => by
    rw [List.foldl_cons, ins]
    cases h : before f.1 x.1 with
    | true =>
      rw [show lay f (false, L) x = (true, L ++ [f] ++ (if f.1 == x.1 then [] else [x])) by simp [lay, h], lay_true, less_cons]
      simp
    | false =>
      have hn : (f.1 == x.1) = false := by
        cases e : (f.1 == x.1) with
        | false => rfl
        | true =>
          have e2 := (beq_iff _ _).1 e
          have : before f.1 x.1 = true := (before_iff _ _).2 (by rw [e2]; exact List.le_refl _)
          rw [h] at this; cases this
      rw [show lay f (false, L) x = (false, L ++ [x]) by simp [lay, h, hn], lay_false f S]
      simp
theorem put_eq (S : List Fl) (f : Fl) : put S f = ins S f := by
  unfold put laid
  rw [List.take_length, lay_false f S []]
  rfl
/-- By rising names. -/
def Rise (S : List Fl) : Prop := S.Pairwise (fun a b => a.1.toList < b.1.toList)
theorem Rise.less {S : List Fl} (h : Rise S) (n : ByteArray) : Rise (less S n) := List.Pairwise.sublist List.filter_sublist h
theorem ins_mem : ∀ {S : List Fl} {f y : Fl}, y ∈ ins S f → y = f ∨ y ∈ S
  | [], f, y, h => by simp [ins] at h; exact .inl h
  | x :: S, f, y, h => by
    rw [ins] at h
    split at h
    · rcases List.mem_cons.1 h with h | h
      · exact .inl h
      · exact .inr ((List.mem_filter.1 h).1)
    · rcases List.mem_cons.1 h with h | h
      · exact .inr (by rw [h]; exact List.mem_cons_self)
      · rcases ins_mem h with h | h
        · exact .inl h
        · exact .inr (List.mem_cons_of_mem _ h)
theorem Rise.ins {f : Fl} : ∀ {S : List Fl}, Rise S → Rise (ins S f)
  | [], _ => by simp [R.ins, Rise]
  | x :: S, h => by
    rw [R.ins]
    have h1 := List.pairwise_cons.1 h
    cases hb : before f.1 x.1 with
    | true =>
      rw [if_pos rfl]
      refine List.pairwise_cons.2 ⟨fun y hy => ?_, h.less _⟩
      have hy1 := (List.mem_filter.1 hy).1
      have hy2 : (f.1 == y.1) = false := by simpa [R.less] using (List.mem_filter.1 hy).2
      have hle := (before_iff _ _).1 hb
      have hle2 : f.1.toList ≤ y.1.toList := by
        rcases List.mem_cons.1 hy1 with e | e
        · rw [e]; exact hle
        · exact List.le_trans hle (List.le_of_lt (h1.1 y e))
      rcases Classical.em (f.1.toList < y.1.toList) with k | k
      · exact k
      · have e := toList_inj (List.le_antisymm hle2 (List.not_lt.1 k))
        rw [(beq_iff _ _).2 e] at hy2
        cases hy2
    | false =>
      rw [if_neg (by simp)]
      refine List.pairwise_cons.2 ⟨fun y hy => ?_, Rise.ins h1.2⟩
      rcases ins_mem hy with e | e
      · rw [e]
        rcases Classical.em (x.1.toList < f.1.toList) with k | k
        · exact k
        · rw [(before_iff _ _).2 (List.not_lt.1 k)] at hb; cases hb
      · exact h1.1 y e
/-- What is in a file, if it is there. -/
def get (S : List Fl) (n : ByteArray) : Option ByteArray := (S.find? (fun x => n == x.1)).map (·.2)
theorem get_cons (x : Fl) (S : List Fl) (n : ByteArray) : get (x :: S) n = if n == x.1 then some x.2 else get S n := by
  unfold get
  rw [List.find?_cons]
  cases h : (n == x.1) <;> rfl
theorem get_less (n m : ByteArray) : ∀ S : List Fl, get (less S n) m = if n == m then none else get S m
  | [] => by simp [less, get]
  | x :: S => by
    have ih := get_less n m S
    rw [less_cons]
    cases h : (n == x.1) with
    | true =>
      have e := (beq_iff _ _).1 h
      rw [if_pos rfl, List.nil_append, ih, get_cons]
      cases k : (n == m) with
      | true => simp
      | false =>
        have : (m == x.1) = false := by
          cases q : (m == x.1) with
          | false => rfl
          | true => rw [e, ← (beq_iff _ _).1 q, (beq_iff m m).2 rfl] at k; cases k
        rw [this]; simp
    | false =>
      rw [if_neg (by simp), List.singleton_append, get_cons, get_cons, ih]
      cases k : (n == m) with
      | true =>
        rw [← (beq_iff _ _).1 k, h]; simp
      | false => simp
theorem get_ins (f : Fl) (m : ByteArray) : ∀ S : List Fl, get (ins S f) m = if m == f.1 then some f.2 else get S m
  | [] => by rw [ins, get_cons]
  | x :: S => by
    rw [ins]
    cases hb : before f.1 x.1 with
    | true =>
      rw [if_pos rfl, get_cons, get_less]
      cases k : (m == f.1) with
      | true => simp
      | false =>
        have : (f.1 == m) = false := by
          cases q : (f.1 == m) with
          | false => rfl
          | true => rw [(beq_iff _ _).1 q, (beq_iff m m).2 rfl] at k; cases k
        rw [this]; simp
    | false =>
      rw [if_neg (by simp), get_cons, get_cons, get_ins f m S]
      cases k : (m == f.1) with
      | false => simp
      | true =>
        have hx : (m == x.1) = false := by
          cases q : (m == x.1) with
          | false => rfl
          | true =>
            have e : f.1 = x.1 := by rw [← (beq_iff _ _).1 k, ← (beq_iff _ _).1 q]
            rw [(before_iff _ _).2 (by rw [e]; exact List.le_refl _)] at hb; cases hb
        rw [hx]; simp
end R
end Go.Proofs.Ytmlbcdofogffkab
namespace Go.Proofs.Ytmlbcdofogffkab
open Go.RowKit
attribute [local go_sem ↓] Go.wp_at_zero Go.wp_at_succ
namespace R
/-- The reference's disk, as a block: kept, now, wait; fuse, down, steps. -/
def blk (kv nv wv : Value) (fuse : Int) (down : Bool) (steps : Int) : Obj := .cells #[kv, nv, wv, .int .i64 fuse, .bool down, .int .i64 steps] 75 (0, 0)
/-- A step of the fuse: the code, and what is then. -/
def step (fuse : Int) (down : Bool) (steps : Int) : Int × Int × Bool × Int :=
  if down then (10, fuse, true, steps) else if fuse = 0 then (10, -1, true, steps) else (0, if 0 < fuse then fuse - 1 else fuse, false, steps + 1)
end R
set_option maxRecDepth 100000 in
set_option maxHeartbeats 1000000 in
theorem refStep_any (w : World) (g : Nat) (kv nv wv : Value) (fuse : Int) (down : Bool) (steps : Int) (h : w.heap[g]? = some (R.blk kv nv wv fuse down steps)) (hs : 0 ≤ steps ∧ steps ≤ 1000000) (hl : -9223372036854775808 ≤ fuse ∧ fuse ≤ 9223372036854775807) :
    Calls Try.prog 36 #[.pointer (some ⟨g, 0, none⟩)] w fun o w' => o = .returned (.int .i64 (R.step fuse down steps).1) ∧ w'.heap[g]? = some (R.blk kv nv wv (R.step fuse down steps).2.1 (R.step fuse down steps).2.2.1 (R.step fuse down steps).2.2.2) ∧ Fr w w' (fun c => c = g) := by
  unfold R.blk at h
  have c3 := cell_of_block h 3 _ rfl
  have c4 := cell_of_block h 4 _ rfl
  have c5 := cell_of_block h 5 _ rfl
  have f3 := free_of_block h 3
  have f4 := free_of_block h 4
  have f5 := free_of_block h 5
  have H1 := hide h
  clear h
  cases down with
  | true =>
    have HS : Hid (R.step fuse true steps = (10, fuse, true, steps)) := rfl
    go_enter Try.func36, Try.ntmps36
    go_wp2_with fail
    go_ret
    rw [HS.out]
    exact ⟨rfl, H1.out, Fr.refl _ _⟩
  | false =>
    by_cases hz : fuse = 0
    · have HS : Hid (R.step fuse false steps = (10, -1, true, steps)) := by show _ = _; rw [R.step, if_neg (by decide), if_pos hz]
      subst hz
      go_enter Try.func36, Try.ntmps36
      go_wp2_with fail
      go_ret
      rw [HS.out]
      exact ⟨rfl, block_set (i := 3) (block_set (i := 4) H1.out _) _, Fr.set2 _ _ _ _ _ _⟩
    · by_cases hp : 0 < fuse
      · have HS : Hid (R.step fuse false steps = (0, fuse - 1, false, steps + 1)) := by show _ = _; rw [R.step, if_neg (by decide), if_neg hz, if_pos hp]
        have gz : (fuse == 0) = false := beq_eq_false_iff_ne.2 hz
        go_enter Try.func36, Try.ntmps36
        go_wp2_with fail
        go_ret
        rw [HS.out]
        exact ⟨rfl, block_set (i := 5) (block_set (i := 3) H1.out _) _, Fr.set2 _ _ _ _ _ _⟩
      · have HS : Hid (R.step fuse false steps = (0, fuse, false, steps + 1)) := by show _ = _; rw [R.step, if_neg (by decide), if_neg hz, if_neg hp]
        have gz : (fuse == 0) = false := beq_eq_false_iff_ne.2 hz
        go_enter Try.func36, Try.ntmps36
        go_wp2_with fail
        go_ret
        rw [HS.out]
        exact ⟨rfl, block_set (i := 5) H1.out _, Fr.set1 _ _ _ _⟩
set_option maxRecDepth 100000 in
set_option maxHeartbeats 1000000 in
theorem refNew_any (w : World) :
    Calls Try.prog 21 #[] w fun o w' => o = .returned (.pointer (some ⟨w.heap.size, 0, none⟩)) ∧ w' = w.alloc (R.blk (.slice none 0 0) (.slice none 0 0) (.slice none 0 0) (-1) false 0) := by
  go_enter Try.func21, Try.ntmps21
  go_wp2_with fail
  go_ret
  exact ⟨rfl, rfl⟩
set_option maxRecDepth 100000 in
set_option maxHeartbeats 1000000 in
theorem down_any (w : World) (B : Nat → Prop) (g : Nat) (D : Dk) (h : Disk w B g D) :
    Calls Try.prog 42 #[.pointer (some ⟨g, 0, none⟩)] w fun o w' => o = .returned (.bool D.down) ∧ w' = w := by
  obtain ⟨bk, bf, cv, h1, _⟩ := h
  have c5 := cell_of_block h1 5 _ rfl
  clear h1
  go_enter Try.func42, Try.ntmps42
  go_wp2_with fail
  go_ret
  exact ⟨rfl, rfl⟩
end Go.Proofs.Ytmlbcdofogffkab
