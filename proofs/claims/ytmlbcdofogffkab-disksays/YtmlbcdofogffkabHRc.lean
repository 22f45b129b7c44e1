/- For DiskSays: spins. -/
import Derived.Test.YtmlbcdofogffkabHIc
import Derived.Test.YtmlbcdofogffkabFL
import Derived.Test.YtmlbcdofogffkabHNc
import Derived.Test.YtmlbcdofogffkabFM
import Derived.Test.YtmlbcdofogffkabEA
import Derived.BigQuiet
namespace Go.Proofs.Ytmlbcdofogffkab
open Go.RowKit
namespace M
theorem put_cons (x : ByteArray × ByteArray) (F : List (ByteArray × ByteArray)) (n d : ByteArray) : put (x :: F) n d = if n == x.1 then (n, d) :: F else x :: put F n d := by
  unfold put
  rw [at_]
  cases h : (n == x.1) with
  | true => simp
  | false =>
    rw [if_neg (by simp), if_neg (by simp), R.at_shift]
    cases at_ n F 0 with
    | none => rfl
    | some p => rfl
theorem del_cons (x : ByteArray × ByteArray) (F : List (ByteArray × ByteArray)) (n : ByteArray) : del (x :: F) n = if n == x.1 then F else x :: del F n := by
  unfold del
  rw [at_]
  cases h : (n == x.1) with
  | true => simp
  | false =>
    rw [if_neg (by simp), if_neg (by simp), R.at_shift]
    cases at_ n F 0 with
    | none => rfl
    | some p => rfl
end M
namespace R
theorem less_absent {F : List Fl} {n : ByteArray} (h : n ∉ F.map (·.1)) : less F n = F := by
  unfold less
  rw [List.filter_eq_self]
  intro x hx
  cases hb : (n == x.1) with
  | false => rfl
  | true => exact absurd (List.mem_map.2 ⟨x, hx, ((beq_iff _ _).1 hb).symm⟩) h
theorem del_less {n : ByteArray} : ∀ {F : List Fl}, (F.map (·.1)).Nodup → M.del F n = less F n
  | [], _ => rfl
  | x :: F, h => by
    rw [List.map_cons, List.nodup_cons] at h
    rw [M.del_cons, less_cons]
    cases hb : (n == x.1) with
    | true => rw [if_pos rfl, if_pos rfl, List.nil_append, less_absent (by rw [(beq_iff _ _).1 hb]; exact h.1)]
    | false => rw [if_neg (by simp), if_neg (by simp), del_less h.2]; rfl
theorem put_perm {n d : ByteArray} : ∀ {F : List Fl}, (F.map (·.1)).Nodup → (M.put F n d).Perm ((n, d) :: less F n)
  | [], _ => List.Perm.refl _
  | x :: F, h => by
    rw [List.map_cons, List.nodup_cons] at h
    rw [M.put_cons, less_cons]
    cases hb : (n == x.1) with
    | true => rw [if_pos rfl, if_pos rfl, List.nil_append, less_absent (by rw [(beq_iff _ _).1 hb]; exact h.1)]
    | false =>
      rw [if_neg (by simp), if_neg (by simp), List.singleton_append]
      exact ((put_perm h.2).cons x).trans (List.Perm.swap _ _ _)
theorem ins_perm {f : Fl} : ∀ {S : List Fl}, (ins S f).Perm (f :: less S f.1)
  | [] => List.Perm.refl _
  | x :: S => by
    rw [ins]
    cases hb : before f.1 x.1 with
    | true => rw [if_pos rfl]
    | false =>
      rw [if_neg (by simp), less_cons]
      have hx : (f.1 == x.1) = false := by
        cases q : (f.1 == x.1) with
        | false => rfl
        | true => rw [(before_iff _ _).2 (by rw [(beq_iff _ _).1 q]; exact List.le_refl _)] at hb; cases hb
      rw [hx, if_neg (by simp), List.singleton_append]
      exact ((ins_perm (S := S)).cons x).trans (List.Perm.swap _ _ _)
theorem less_perm {F S : List Fl} (h : F.Perm S) (n : ByteArray) : (less F n).Perm (less S n) := h.filter _
theorem less_mem {F : List Fl} {n : ByteArray} {x : Fl} (h : x ∈ less F n) : x ∈ F ∧ n ≠ x.1 := by
  have h2 := List.mem_filter.1 h
  refine ⟨h2.1, fun e => ?_⟩
  have h3 : (n == x.1) = false := by simpa using h2.2
  rw [(beq_iff _ _).2 e] at h3; cases h3
theorem Rise.nodup {S : List Fl} (h : Rise S) : (S.map (·.1)).Nodup := by
  unfold List.Nodup
  rw [List.pairwise_map]
  refine List.Pairwise.imp ?_ h
  intro a b hab e
  rw [e] at hab
  exact List.lt_irrefl _ hab
/-- The same files: the reference's by rising names. -/
structure Tied (F S : List Fl) : Prop where
  perm : F.Perm S
  rise : Rise S
theorem Tied.nil : Tied [] [] := ⟨List.Perm.refl _, List.Pairwise.nil⟩
theorem Tied.nodup {F S : List Fl} (h : Tied F S) : (F.map (·.1)).Nodup := ((h.perm.map (·.1)).nodup_iff).2 h.rise.nodup
theorem Tied.get {F S : List Fl} (h : Tied F S) (n : ByteArray) : M.get F n = M.get S n := M.get_perm h.perm h.rise.nodup n
theorem Tied.length {F S : List Fl} (h : Tied F S) : F.length = S.length := h.perm.length_eq
theorem Tied.put {F S : List Fl} (h : Tied F S) (n d : ByteArray) : Tied (M.put F n d) (R.put S (n, d)) := by
  rw [put_eq]
  exact ⟨(put_perm h.nodup).trans (((less_perm h.perm n).cons _).trans ins_perm.symm), h.rise.ins⟩
theorem Tied.less {F S : List Fl} (h : Tied F S) (n : ByteArray) : Tied (M.del F n) (R.less S n) := by
  rw [del_less h.nodup]
  exact ⟨less_perm h.perm n, h.rise.less n⟩
theorem less_comm (F : List Fl) (a b : ByteArray) : R.less (R.less F a) b = R.less (R.less F b) a := by
  unfold R.less
  rw [List.filter_filter, List.filter_filter]
  congr 1
  funext x
  exact Bool.and_comm _ _
theorem Tied.move {F S : List Fl} (h : Tied F S) {n t d : ByteArray} (hne : n ≠ t) : Tied (M.del (M.put F t d) n) (R.put (R.less S n) (t, d)) := by
  rw [put_eq]
  have hp := put_perm (n := t) (d := d) h.nodup
  have hk : ((M.put F t d).map (·.1)).Nodup := by
    rw [(hp.map (·.1)).nodup_iff, List.map_cons, List.nodup_cons]
    refine ⟨fun hm => ?_, ?_⟩
    · obtain ⟨x, hx, hx2⟩ := List.mem_map.1 hm
      exact (less_mem hx).2 hx2.symm
    · exact List.Nodup.sublist (List.filter_sublist.map _) h.nodup
  rw [del_less hk]
  refine ⟨?_, (h.rise.less n).ins⟩
  have e : R.less ((t, d) :: R.less F t) n = (t, d) :: R.less (R.less F t) n := by
    rw [less_cons]
    have : (n == (t, d).1) = false := by
      cases q : (n == (t, d).1) with
      | false => rfl
      | true => exact absurd ((beq_iff _ _).1 q) hne
    rw [this]; rfl
  refine (less_perm hp n).trans ?_
  rw [e, less_comm]
  exact ((less_perm (less_perm h.perm n) t).cons _).trans ins_perm.symm
theorem has_get (S : List Fl) (n : ByteArray) : has S n = (M.get S n).getD ⟨#[]⟩ := by
  unfold has M.get
  cases M.at_ n S 0 <;> rfl
theorem place_get (S : List Fl) (n : ByteArray) : (M.get S n).isSome = decide (0 ≤ place S n) := by
  unfold place M.get
  cases M.at_ n S 0 with
  | none => rfl
  | some p => simp
/-- A change, as the reference notes it. -/
def conv (c : Ch) : Tn := ⟨if c.kind = 0 then 1 else if c.kind = 1 then 2 else if c.kind = 2 then 4 else 5, c.name, c.data, c.dest⟩
/-- What a change looks like. -/
def fine (c : Ch) : Prop := c.kinds ∧ c.data.size ≤ 4000 ∧ (c.kind = 2 → c.name ≠ c.dest) ∧ (c.kind = 2 ∨ c.kind = 3 → c.data.size = 0)
theorem Tied.act {F S : List Fl} (h : Tied F S) {c : Ch} (hc : fine c) : Tied (c.act F) (turned S (conv c)) := by
  obtain ⟨hk, _, h2, _⟩ := hc
  unfold Ch.act turned conv
  rcases hk with hk | hk | hk | hk
  · rw [if_pos hk, if_pos (by show (if c.kind = 0 then (1 : Int) else _) = 1; rw [if_pos hk])]
    exact h.put _ _
  · rw [if_neg (by rw [hk]; decide), if_pos hk, if_neg (by simp [hk]), if_pos (by simp [hk]), has_get, ← h.get]
    exact h.put _ _
  · rw [if_neg (by rw [hk]; decide), if_neg (by rw [hk]; decide), if_pos hk, if_neg (by simp [hk]), if_neg (by simp [hk]), if_pos (by simp [hk]), has_get, ← h.get]
    exact h.move (h2 hk)
  · rw [if_neg (by rw [hk]; decide), if_neg (by rw [hk]; decide), if_neg (by rw [hk]; decide), if_neg (by simp [hk]), if_neg (by simp [hk]), if_neg (by simp [hk])]
    exact h.less _
theorem Tied.names {F S : List Fl} (h : Tied F S) : (M.rise F).map N.str = S.map (·.1) := by
  have e : M.rise F = S.map (fun x => N.bl x.1) := by
    rw [M.rise_perm h.perm]
    unfold M.rise
    apply List.mergeSort_of_pairwise
    rw [List.pairwise_map]
    exact List.Pairwise.imp (fun {a b} hab => decide_eq_true (List.le_of_lt (by simpa [N.bl, ByteArray.toList_eq] using hab))) h.rise
  rw [e, List.map_map]
  apply List.map_congr_left
  intro x _
  exact str_bl x.1
end R
end Go.Proofs.Ytmlbcdofogffkab
namespace Go.Proofs.Ytmlbcdofogffkab
open Go.RowKit
open R (Rk Tied)
namespace M
theorem Good.perm {F G : List (ByteArray × ByteArray)} (hp : F.Perm G) (h : Good F) : Good G :=
  ⟨((hp.map (·.1)).nodup_iff).1 h.nodup, fun x hx => h.small x ((hp.mem_iff).2 hx), by rw [← hp.length_eq]; exact h.len, fun x hx => h.name x ((hp.mem_iff).2 hx)⟩
theorem Good.other {F : List (ByteArray × ByteArray)} (h : Good F) {n d e : ByteArray} (hg : Good (M.put F n d)) (he : e.size ≤ d.size) : Good (M.put F n e) := by
  have hp := R.put_perm (n := n) (d := d) h.nodup
  have hq := R.put_perm (n := n) (d := e) h.nodup
  have hg2 := hg.perm hp
  have hnd := hg2.nodup
  have hln := hg2.len
  refine Good.perm hq.symm ⟨hnd, fun x hx => ?_, hln, fun x hx => ?_⟩
  · rcases List.mem_cons.1 hx with hx | hx
    · rw [hx]; exact Nat.le_trans he (hg2.small _ List.mem_cons_self)
    · exact hg2.small _ (List.mem_cons_of_mem _ hx)
  · rcases List.mem_cons.1 hx with hx | hx
    · rw [hx]; show n.size ≤ 24; exact hg2.name (n, d) List.mem_cons_self
    · exact hg2.name _ (List.mem_cons_of_mem _ hx)
end M
theorem R.Tied.of_perm {F G S : List R.Fl} (h : R.Tied F S) (hp : G.Perm F) : R.Tied G S := ⟨hp.trans h.perm, h.rise⟩
theorem R.Tied.both {F G S : List R.Fl} (h : R.Tied F S) (k : R.Tied G S) : F.Perm G := h.perm.trans k.perm.symm
/-- What ties the program's disk to the reference's. -/
structure Pair (D : Dk) (X : R.Rk) (b : Int) (m : Nat) : Prop where
  now : R.Tied D.files X.now
  kept : R.Tied D.kept X.kept
  wait : X.wait = D.chg.map R.conv
  files : D.files.Perm (D.keep4 D.chg.length)
  good : ∀ k, k ≤ D.chg.length → M.Good (D.keep4 k)
  fine : ∀ c ∈ D.chg, R.fine c
  len : D.chg.length ≤ m
  steps : X.steps = D.steps
  bnd : 0 ≤ D.steps ∧ D.steps ≤ b
  down : X.down = D.down
  fuse : D.down = false → (0 ≤ D.left → X.fuse = D.left) ∧ (D.left < 0 → X.fuse < 0)
  lb : -9223372036854775808 ≤ D.left ∧ D.left ≤ 9223372036854775807
  fb : -9223372036854775808 ≤ X.fuse ∧ X.fuse ≤ 9223372036854775807
theorem Pair.goodF {D : Dk} {X : R.Rk} {b : Int} {m : Nat} (h : Pair D X b m) : M.Good D.files := (h.good _ (Nat.le_refl _)).perm h.files.symm
theorem Pair.up {D : Dk} {X : R.Rk} {b b2 : Int} {m m2 : Nat} (h : Pair D X b m) (hb : b ≤ b2) (hm : m ≤ m2) : Pair D X b2 m2 :=
  ⟨h.now, h.kept, h.wait, h.files, h.good, h.fine, Nat.le_trans h.len hm, h.steps, ⟨h.bnd.1, by have := h.bnd.2; omega⟩, h.down, h.fuse, h.lb, h.fb⟩
def R.Rk.new : R.Rk := ⟨[], [], [], -1, false, 0⟩
theorem Pair.new : Pair Dk.new R.Rk.new 0 0 := by
  have e : ∀ k, Dk.new.keep4 k = [] := fun k => by unfold Dk.keep4; show ((([] : List Ch).take k)).foldl _ [] = []; simp
  refine ⟨R.Tied.nil, R.Tied.nil, rfl, List.Perm.refl _, fun k _ => by rw [e]; exact M.Good.empty, fun c hc => (by cases hc), Nat.le_refl _, rfl, (by decide), rfl, fun _ => ⟨fun h => absurd h (by decide), fun _ => (by decide)⟩, (by decide), (by decide)⟩
theorem Pair.code {D : Dk} {X : R.Rk} {b : Int} {m : Nat} (h : Pair D X b m) : (D.fails ∧ X.code = 10) ∨ (¬ D.fails ∧ X.code = 0) := by
  unfold R.Rk.code R.step
  rw [h.down]
  cases hd : D.down with
  | true => exact .inl ⟨.inr hd, rfl⟩
  | false =>
    rw [if_neg (by decide)]
    have hf := h.fuse hd
    by_cases hz : X.fuse = 0
    · rw [if_pos hz]
      refine .inl ⟨.inl ?_, rfl⟩
      rcases Int.lt_or_le D.left 0 with hl | hl
      · have := hf.2 hl; omega
      · have := hf.1 hl; omega
    · rw [if_neg hz]
      refine .inr ⟨fun hx => ?_, rfl⟩
      rcases hx with hx | hx
      · have := hf.1 (by omega); omega
      · rw [hd] at hx; cases hx
theorem Pair.fell {D : Dk} {X : R.Rk} {b : Int} {m : Nat} (h : Pair D X b m) (hf : D.fails) : Pair D.fell X.step b m := by
  have hc : X.code = 10 := by rcases h.code with h1 | h1; exact h1.2; exact absurd hf h1.1
  have hs : (X.step.down = true ∧ X.step.steps = X.steps) ∧ (X.step.fuse = X.fuse ∨ X.step.fuse = -1) := by
    unfold R.Rk.code R.step at hc
    unfold R.Rk.step R.step
    cases hd : X.down with
    | true => exact ⟨⟨rfl, rfl⟩, .inl rfl⟩
    | false =>
      rw [hd, if_neg (by decide)] at hc
      by_cases hz : X.fuse = 0
      · simp [hz]
      · rw [if_neg hz] at hc; cases hc
  refine ⟨h.now, h.kept, h.wait, h.files, h.good, h.fine, h.len, hs.1.2.trans h.steps, h.bnd, hs.1.1, fun hd => (by cases hd), h.lb, ?_⟩
  rcases hs.2 with e | e
  · rw [e]; exact h.fb
  · rw [e]; decide
theorem R.step_ok {X : R.Rk} (hc : X.code = 0) : X.step.down = false ∧ X.step.steps = X.steps + 1 ∧ X.step.fuse = (if 0 < X.fuse then X.fuse - 1 else X.fuse) ∧ X.down = false ∧ X.fuse ≠ 0 := by
  unfold R.Rk.code R.step at hc
  unfold R.Rk.step R.step
  cases hd : X.down with
  | true => rw [hd] at hc; cases hc
  | false =>
    rw [hd, if_neg (by decide)] at hc
    by_cases hz : X.fuse = 0
    · rw [if_pos hz] at hc; cases hc
    · simp [hz]
theorem Pair.stepped {D : Dk} {X : R.Rk} {b : Int} {m : Nat} (h : Pair D X b m) (hf : ¬ D.fails) : X.code = 0 ∧ X.step.steps = D.step.steps ∧ X.step.down = D.step.down ∧ (D.step.down = false → (0 ≤ D.step.left → X.step.fuse = D.step.left) ∧ (D.step.left < 0 → X.step.fuse < 0)) ∧ (-9223372036854775808 ≤ D.step.left ∧ D.step.left ≤ 9223372036854775807) ∧ (-9223372036854775808 ≤ X.step.fuse ∧ X.step.fuse ≤ 9223372036854775807) := by
  have hc : X.code = 0 := by rcases h.code with h1 | h1; exact absurd h1.1 hf; exact h1.2
  obtain ⟨h1, h2, h3, h4, h5⟩ := R.step_ok hc
  have hd : D.down = false := by rw [← h.down]; exact h4
  have hfu := h.fuse hd
  have hlb := h.lb
  have hfb := h.fb
  have e : D.step.left = (if 0 < D.left then D.left - 1 else D.left) := rfl
  have hl0 : D.left ≠ 0 := fun e => hf (.inl e)
  refine ⟨hc, by rw [h2, h.steps]; rfl, by rw [h1]; exact hd.symm, fun _ => ⟨fun hl => ?_, fun hl => ?_⟩, ?_, ?_⟩
  · rw [e] at hl ⊢
    rw [h3]
    by_cases hp : 0 < D.left
    · rw [if_pos hp] at hl ⊢
      have := hfu.1 (by omega)
      rw [if_pos (by omega)]; omega
    · rw [if_neg hp] at hl; omega
  · rw [e] at hl
    rw [h3]
    by_cases hp : 0 < D.left
    · rw [if_pos hp] at hl; omega
    · have := hfu.2 (by omega)
      rw [if_neg (by omega)]; exact this
  · rw [e]; split <;> omega
  · rw [h3]; split <;> omega
theorem Pair.step {D : Dk} {X : R.Rk} {b : Int} {m : Nat} (h : Pair D X b m) (hf : ¬ D.fails) : Pair D.step X.step (b + 1) m := by
  obtain ⟨_, h2, h3, h4, h5, h6⟩ := h.stepped hf
  refine ⟨h.now, h.kept, h.wait, h.files, h.good, h.fine, h.len, h2, ⟨?_, ?_⟩, h3, h4, h5, h6⟩
  · show 0 ≤ D.steps + 1; have := h.bnd; omega
  · show D.steps + 1 ≤ b + 1; have := h.bnd; omega
theorem Pair.did {D : Dk} {X : R.Rk} {b : Int} {m : Nat} (h : Pair D X b m) (hf : ¬ D.fails) {c : Ch} (hc : R.fine c) (hg : M.Good (c.act D.files)) : Pair (D.did4 c) (X.did (R.conv c)) (b + 1) (m + 1) := by
  obtain ⟨h1, h2, h3, h4, h5, h6⟩ := h.stepped hf
  have e : (D.did4 c).chg = D.chg ++ [c] := rfl
  have el : (D.did4 c).chg.length = D.chg.length + 1 := by rw [e]; simp
  have eX : X.did (R.conv c) = { X.step with now := R.turned X.now (R.conv c), wait := X.wait ++ [R.conv c] } := by unfold R.Rk.did; rw [if_pos h1]
  have hpm : (c.act D.files).Perm (c.act (D.keep4 D.chg.length)) := (h.now.act hc).both ((h.now.of_perm h.files.symm).act hc)
  rw [eX]
  refine ⟨h.now.act hc, h.kept, ?_, ?_, ?_, ?_, by rw [el]; have := h.len; omega, h2, ⟨?_, ?_⟩, h3, h4, h5, h6⟩
  · rw [e, List.map_append, ← h.wait]; rfl
  · rw [el, did4_last]; exact hpm
  · intro k hk
    rw [el] at hk
    by_cases hlt : k ≤ D.chg.length
    · rw [did4_keep D c hlt]; exact h.good k hlt
    · have : k = D.chg.length + 1 := by omega
      rw [this, did4_last]; exact hg.perm hpm
  · intro x hx
    rw [e] at hx
    rcases List.mem_append.1 hx with hx | hx
    · exact h.fine x hx
    · have : x = c := by simpa using hx
      rw [this]; exact hc
  · show 0 ≤ D.steps + 1; have := h.bnd; omega
  · show D.steps + 1 ≤ b + 1; have := h.bnd; omega
theorem Pair.sync {D : Dk} {X : R.Rk} {b : Int} {m : Nat} (h : Pair D X b m) (hf : ¬ D.fails) : Pair D.synced4 X.synX (b + 1) 0 := by
  obtain ⟨h1, h2, h3, h4, h5, h6⟩ := h.stepped hf
  have eX : X.synX = { X.step with kept := X.now, wait := [] } := by unfold R.Rk.synX; rw [if_pos h1]
  rw [eX]
  refine ⟨h.now, ?_, rfl, ?_, ?_, fun c hc => (by cases hc), Nat.le_refl _, h2, ⟨?_, ?_⟩, h3, h4, h5, h6⟩
  · exact h.now.of_perm h.files.symm
  · exact h.files
  · intro k hk
    have : D.synced4.keep4 k = D.keep4 D.chg.length := by
      unfold Dk.keep4
      show (([] : List Ch).take k).foldl _ _ = _
      rw [List.take_nil]; rfl
    rw [this]; exact h.good _ (Nat.le_refl _)
  · show 0 ≤ D.steps + 1; have := h.bnd; omega
  · show D.steps + 1 ≤ b + 1; have := h.bnd; omega
theorem Pair.arm {D : Dk} {X : R.Rk} {b : Int} {m : Nat} (h : Pair D X b m) (n : Int) (hn : -9223372036854775808 ≤ n ∧ n ≤ 9223372036854775807) : Pair (D.armed n) { X with fuse := max n (-1) } b m := by
  refine ⟨h.now, h.kept, h.wait, h.files, h.good, h.fine, h.len, h.steps, h.bnd, h.down, fun _ => ⟨fun hl => ?_, fun hl => ?_⟩, hn, ?_⟩
  · show max n (-1) = n
    have : 0 ≤ n := hl
    omega
  · show max n (-1) < 0
    have : n < 0 := hl
    omega
  · show -9223372036854775808 ≤ max n (-1) ∧ max n (-1) ≤ 9223372036854775807
    omega
theorem Pair.keep {D : Dk} {X : R.Rk} {b : Int} {m : Nat} (h : Pair D X b m) : ∀ k, k ≤ D.chg.length → R.Tied (D.keep4 k) (X.keep k)
  | 0, _ => by
    have e1 : D.keep4 0 = D.kept := rfl
    have e2 : X.keep 0 = X.kept := rfl
    rw [e1, e2]; exact h.kept
  | k + 1, hk => by
    obtain ⟨c, hc⟩ : ∃ c, D.chg[k]? = some c := ⟨_, List.getElem?_eq_getElem (by omega)⟩
    have hw : X.wait[k]? = some (R.conv c) := by rw [h.wait, List.getElem?_map, hc]; rfl
    rw [Dk.keep4_next hc, R.Rk.keep_next hw]
    exact (h.keep k (by omega)).act (h.fine c (List.mem_of_getElem? hc))
theorem Pair.wlen {D : Dk} {X : R.Rk} {b : Int} {m : Nat} (h : Pair D X b m) : X.wait.length = D.chg.length := by rw [h.wait, List.length_map]
theorem Pair.has {D : Dk} {X : R.Rk} {b : Int} {m : Nat} (h : Pair D X b m) (n : ByteArray) : R.has X.now n = (M.get D.files n).getD ⟨#[]⟩ := by rw [R.has_get, h.now.get]
theorem Pair.hasle {D : Dk} {X : R.Rk} {b : Int} {m : Nat} (h : Pair D X b m) (n : ByteArray) : (R.has X.now n).size ≤ 4000 := by rw [h.has]; exact h.goodF.get n
theorem Pair.nowlen {D : Dk} {X : R.Rk} {b : Int} {m : Nat} (h : Pair D X b m) : X.now.length ≤ 40 := by rw [← h.now.length]; exact h.goodF.len
theorem Pair.place {D : Dk} {X : R.Rk} {b : Int} {m : Nat} (h : Pair D X b m) (n : ByteArray) : (M.get D.files n).isSome = decide (0 ≤ R.place X.now n) := by rw [h.now.get, R.place_get]
theorem Pair.stays {D : Dk} {X : R.Rk} {b : Int} {m : Nat} (h : Pair D X b m) (keep torn : Int) : R.Tied (D.stays4 keep torn) (X.stays keep torn) ∧ M.Good (D.stays4 keep torn) := by
  have hmany : X.many keep = D.many keep := by unfold R.Rk.many Dk.many; rw [h.wlen]; try omega
  have hle : D.many keep ≤ D.chg.length := by unfold Dk.many; omega
  unfold Dk.stays4 R.Rk.stays
  rw [hmany]
  have hk := h.keep _ hle
  have hg := h.good _ hle
  cases hc : D.chg[D.many keep]? with
  | none =>
    have hw : X.wait[D.many keep]? = none := by rw [h.wait, List.getElem?_map, hc]; rfl
    rw [hw]; exact ⟨hk, hg⟩
  | some c =>
    have hw : X.wait[D.many keep]? = some (R.conv c) := by rw [h.wait, List.getElem?_map, hc]; rfl
    rw [hw]
    have hf := h.fine c (List.mem_of_getElem? hc)
    have hlt : D.many keep < D.chg.length := (List.getElem?_eq_some_iff.1 hc).1
    have hg1 := h.good _ hlt
    rw [Dk.keep4_next hc] at hg1
    show R.Tied (c.first4 torn _) (if (R.conv c).kind < 4 ∧ 0 < min torn (c.data.size : Int) then _ else _) ∧ M.Good (c.first4 torn _)
    unfold Ch.first4
    by_cases hp : min torn (c.data.size : Int) < 1
    · rw [if_pos hp, if_neg (fun e => by have := e.2; omega)]; exact ⟨hk, hg⟩
    · have hkd : c.kind = 0 ∨ c.kind = 1 := by
        rcases hf.1 with e | e | e | e
        · exact .inl e
        · exact .inr e
        · have := hf.2.2.2 (.inl e); omega
        · have := hf.2.2.2 (.inr e); omega
      have hk4 : (R.conv c).kind < 4 := by unfold R.conv; rcases hkd with e | e <;> simp [e]
      have hes : (c.data.extract 0 (min torn (c.data.size : Int)).toNat).size ≤ c.data.size := by rw [ByteArray.size_extract]; omega
      have hf2 : R.fine { c with data := c.data.extract 0 (min torn (c.data.size : Int)).toNat } := ⟨hf.1, Nat.le_trans hes hf.2.1, hf.2.2.1, fun e => by rcases hkd with q | q <;> rcases e with e | e <;> (rw [q] at e; cases e)⟩
      rw [if_neg hp, if_pos ⟨hk4, by omega⟩]
      refine ⟨hk.act hf2, ?_⟩
      generalize D.keep4 (D.many keep) = F at *
      unfold Ch.act at hg1 ⊢
      rcases hkd with e | e
      · rw [if_pos e] at hg1; rw [if_pos e]; exact hg.other hg1 hes
      · rw [if_neg (by rw [e]; decide), if_pos e] at hg1
        rw [if_neg (by show ¬ c.kind = 0; rw [e]; decide), if_pos e]
        have key : ∀ x : ByteArray, (x ++ c.data.extract 0 (min torn (c.data.size : Int)).toNat).size ≤ (x ++ c.data).size := fun x => by rw [ByteArray.size_append, ByteArray.size_append]; omega
        exact hg.other hg1 (key _)
theorem Pair.restart {D : Dk} {X : R.Rk} {b : Int} {m : Nat} (h : Pair D X b m) (keep torn : Int) {F2 : List (ByteArray × ByteArray)} (hF2 : F2.Perm (D.stays4 keep torn)) : Pair (D.again4 keep torn F2) (X.again keep torn) b 0 := by
  obtain ⟨ht, hg⟩ := h.stays keep torn
  have e : ∀ k, (D.again4 keep torn F2).keep4 k = D.stays4 keep torn := fun k => by unfold Dk.keep4; show ((([] : List Ch).take k)).foldl _ (D.stays4 keep torn) = _; simp
  refine ⟨ht.of_perm hF2, ht, rfl, ?_, fun k _ => by rw [e]; exact hg, fun c hc => (by cases hc), Nat.le_refl _, h.steps, h.bnd, rfl, fun _ => ⟨fun hx => (by have : (0 : Int) ≤ -1 := hx; omega), fun _ => (by show (-1 : Int) < 0; decide)⟩, (by show (-9223372036854775808 : Int) ≤ -1 ∧ (-1 : Int) ≤ 9223372036854775807; decide), (by show (-9223372036854775808 : Int) ≤ -1 ∧ (-1 : Int) ≤ 9223372036854775807; decide)⟩
  rw [e]; exact hF2
/-- What a change of the program's disk answers, and what is then. -/
def Dk.endK (D : Dk) (k : Nat) : Nat := if k ≠ 0 then k else if D.left = 0 ∨ D.down = true then 10 else 0
def Dk.endD (D D' : Dk) (k : Nat) : Dk := if k ≠ 0 then D else if D.left = 0 ∨ D.down = true then D.fell else D'
theorem N.may_size24 {n : ByteArray} (h : N.may n = true) : n.size ≤ 24 := may_size h
theorem fine0 {n d : ByteArray} (hd : d.size ≤ 4000) : R.fine ⟨0, n, ⟨#[]⟩, d⟩ := ⟨.inl rfl, hd, fun e => (by cases e), fun e => (by rcases e with e | e <;> cases e)⟩
theorem fine1 {n d : ByteArray} (hd : d.size ≤ 4000) : R.fine ⟨1, n, ⟨#[]⟩, d⟩ := ⟨.inr (.inl rfl), hd, fun e => (by cases e), fun e => (by rcases e with e | e <;> cases e)⟩
theorem fine2 {n t : ByteArray} (hne : n ≠ t) : R.fine ⟨2, n, t, ⟨#[]⟩⟩ := ⟨.inr (.inr (.inl rfl)), Nat.zero_le _, fun _ => hne, fun _ => rfl⟩
theorem fine3 {n : ByteArray} : R.fine ⟨3, n, ⟨#[]⟩, ⟨#[]⟩⟩ := ⟨.inr (.inr (.inr rfl)), Nat.zero_le _, fun e => (by cases e), fun _ => rfl⟩
theorem act0 (F : List R.Fl) (n e d : ByteArray) : (⟨0, n, e, d⟩ : Ch).act F = M.put F n d := if_pos rfl
theorem act1 (F : List R.Fl) (n e d : ByteArray) : (⟨1, n, e, d⟩ : Ch).act F = M.put F n ((M.get F n).getD ⟨#[]⟩ ++ d) := (if_neg (show ¬ (1 : Int) = 0 by decide)).trans (if_pos rfl)
theorem act2 (F : List R.Fl) (n t d : ByteArray) : (⟨2, n, t, d⟩ : Ch).act F = M.del (M.put F t ((M.get F n).getD ⟨#[]⟩)) n := (if_neg (show ¬ (2 : Int) = 0 by decide)).trans ((if_neg (show ¬ (2 : Int) = 1 by decide)).trans (if_pos rfl))
theorem act3 (F : List R.Fl) (n t d : ByteArray) : (⟨3, n, t, d⟩ : Ch).act F = M.del F n := (if_neg (show ¬ (3 : Int) = 0 by decide)).trans ((if_neg (show ¬ (3 : Int) = 1 by decide)).trans (if_neg (show ¬ (3 : Int) = 2 by decide)))
/-- An act of both: what is then is tied, and both answer the same. -/
def Both2 (D2 : Dk) (X2 : R.Rk) (k : Nat) (k2 : Int) (b : Int) (m : Nat) : Prop := Pair D2 X2 b m ∧ k2 = (k : Int)
theorem Pair.ended {D D' : Dk} {X X' : R.Rk} {b : Int} {m k : Nat} {j : Int} (h : Pair D X b m) (hj : j = (k : Int)) (hX : X.code ≠ 0 → X' = X.step) (hgo : k = 0 → ¬ D.fails → Pair D' X' (b + 1) (m + 1)) :
    Both2 (D.endD D' k) (if j = 0 then X' else X) (D.endK k) (if j = 0 then X.code else j) (b + 1) (m + 1) := by
  unfold Both2 Dk.endD Dk.endK
  by_cases hk : k = 0
  · subst hk
    have hj0 : j = 0 := hj
    rw [show (if (0 : Nat) ≠ 0 then D else if D.left = 0 ∨ D.down = true then D.fell else D') = (if D.left = 0 ∨ D.down = true then D.fell else D') from if_neg (fun e => e rfl), show (if (0 : Nat) ≠ 0 then (0 : Nat) else if D.left = 0 ∨ D.down = true then 10 else 0) = (if D.left = 0 ∨ D.down = true then 10 else 0) from if_neg (fun e => e rfl), if_pos hj0, if_pos hj0]
    rcases h.code with ⟨hf, hc⟩ | ⟨hf, hc⟩
    · have hff : D.left = 0 ∨ D.down = true := hf
      rw [if_pos hff, if_pos hff, hX (by rw [hc]; decide)]
      exact ⟨(h.fell hf).up (by omega) (Nat.le_succ m), hc⟩
    · have hff : ¬ (D.left = 0 ∨ D.down = true) := hf
      rw [if_neg hff, if_neg hff]
      exact ⟨hgo rfl hf, hc⟩
  · have hj0 : ¬ j = 0 := by omega
    rw [if_pos hk, if_pos hk, if_neg hj0, if_neg hj0]
    exact ⟨h.up (by omega) (Nat.le_succ m), hj⟩
theorem did_step {X : R.Rk} {t : R.Tn} (h : X.code ≠ 0) : X.did t = X.step := by unfold R.Rk.did; rw [if_neg h]
theorem Pair.puts1 {D : Dk} {X : R.Rk} {b : Int} {m : Nat} (h : Pair D X b m) (n d : ByteArray) : X.puts 1 n d = (D.fit n d.size : Int) := by
  unfold R.Rk.puts Dk.fit
  rw [if_neg (show ¬ ((1 : Int) = 2 ∧ 4000 < d.size) from fun e => by cases e.1)]
  cases N.may n with
  | false => rfl
  | true =>
    rw [if_neg (show ¬ (true = false) by decide), if_neg (show ¬ (true = false) by decide), show (if (1 : Int) = 2 then (R.has X.now n).size else 0) = 0 from if_neg (by decide), Nat.add_zero, h.place, h.now.length]
    by_cases hb : 4000 < d.size
    · rw [if_pos (.inl hb), if_pos (.inl (by omega))]; rfl
    · by_cases hq : R.place X.now n < 0 ∧ 40 ≤ X.now.length
      · rw [if_pos (.inr hq), if_pos (.inr ⟨by simp; exact hq.1, hq.2⟩)]; rfl
      · rw [if_neg (by rintro (e | e); exact hb e; exact hq e), if_neg (by intro e; cases e.1), if_neg]; rfl
        rintro (e | e)
        · omega
        · exact hq ⟨by have := e.1; simp at this; exact this, e.2⟩
theorem Pair.puts2 {D : Dk} {X : R.Rk} {b : Int} {m : Nat} (h : Pair D X b m) (n d : ByteArray) : X.puts 2 n d = (D.more n d : Int) := by
  unfold R.Rk.puts Dk.more
  by_cases hb : 4000 < d.size
  · rw [if_pos ⟨rfl, hb⟩, if_pos hb]; rfl
  · rw [if_neg (fun e => hb e.2), if_neg hb]
    unfold Dk.fit
    cases N.may n with
    | false => rfl
    | true =>
      rw [if_neg (show ¬ (true = false) by decide), if_neg (show ¬ (true = false) by decide), show (if (2 : Int) = 2 then (R.has X.now n).size else 0) = (R.has X.now n).size from if_pos rfl, h.place, h.now.length, h.has]
      by_cases hq : 4000 < d.size + ((M.get D.files n).getD ⟨#[]⟩).size ∨ (R.place X.now n < 0 ∧ 40 ≤ X.now.length)
      · rw [if_pos hq, if_pos]; rfl
        rcases hq with e | e
        · exact .inl (by omega)
        · exact .inr ⟨by simp; exact e.1, e.2⟩
      · rw [if_neg hq, if_neg (by intro e; cases e.1), if_neg]; rfl
        rintro (e | e)
        · exact hq (.inl (by omega))
        · exact hq (.inr ⟨by have := e.1; simp at this; exact this, e.2⟩)
theorem Pair.puts3 {D : Dk} {X : R.Rk} {b : Int} {m : Nat} (h : Pair D X b m) (n d : ByteArray) : X.puts 3 n d = (D.makes n d : Int) := by
  have h1 := h.puts1 n d
  have e3 : X.puts 3 n d = if X.puts 1 n d ≠ 0 then X.puts 1 n d else if 0 ≤ R.place X.now n then 6 else 0 := by
    unfold R.Rk.puts
    rw [if_neg (show ¬ ((3 : Int) = 2 ∧ 4000 < d.size) from fun e => by cases e.1), if_neg (show ¬ ((1 : Int) = 2 ∧ 4000 < d.size) from fun e => by cases e.1)]
    cases N.may n with
    | false => rfl
    | true =>
      rw [if_neg (show ¬ (true = false) by decide), if_neg (show ¬ (true = false) by decide), show (if (3 : Int) = 2 then (R.has X.now n).size else 0) = 0 from if_neg (by decide), show (if (1 : Int) = 2 then (R.has X.now n).size else 0) = 0 from if_neg (by decide)]
      by_cases hq : 4000 < d.size + 0 ∨ (R.place X.now n < 0 ∧ 40 ≤ X.now.length)
      · rw [if_pos hq, if_pos hq, if_pos (show (2 : Int) ≠ 0 by decide)]
      · rw [if_neg hq, if_neg hq, show (if (1 : Int) = 3 ∧ 0 ≤ R.place X.now n then (6 : Int) else 0) = 0 from if_neg (fun e => by cases e.1), if_neg (show ¬ ((0 : Int) ≠ 0) by decide)]
        by_cases hp : 0 ≤ R.place X.now n
        · rw [if_pos ⟨rfl, hp⟩, if_pos hp]
        · rw [if_neg (fun e => hp e.2), if_neg hp]
  rw [e3, h1]
  unfold Dk.makes
  by_cases hf : D.fit n d.size = 0
  · rw [hf, if_neg (show ¬ (((0 : Nat) : Int) ≠ 0) by decide), if_neg (show ¬ ((0 : Nat) ≠ 0) by decide), h.place]
    by_cases hp : 0 ≤ R.place X.now n
    · rw [if_pos hp, if_pos (decide_eq_true hp)]; rfl
    · rw [if_neg hp, if_neg (by simp; omega)]; rfl
  · rw [if_pos (by omega), if_pos hf]
theorem Pair.writes {D : Dk} {X : R.Rk} {b : Int} {m : Nat} (h : Pair D X b m) (n d : ByteArray) : Both2 (D.endD (D.did4 ⟨0, n, ⟨#[]⟩, d⟩) (D.fit n d.size)) (X.putX 1 n d) (D.endK (D.fit n d.size)) (X.putK 1 n d) (b + 1) (m + 1) := by
  unfold R.Rk.putX R.Rk.putK
  refine h.ended (h.puts1 n d) did_step (fun hk hf => ?_)
  obtain ⟨hn, hd, hl⟩ := fit_facts hk
  have hg : M.Good ((⟨0, n, ⟨#[]⟩, d⟩ : Ch).act D.files) := by rw [act0]; exact h.goodF.put hn (by omega) hl
  exact h.did hf (fine0 (by omega)) hg
theorem Pair.makes {D : Dk} {X : R.Rk} {b : Int} {m : Nat} (h : Pair D X b m) (n d : ByteArray) : Both2 (D.endD (D.did4 ⟨0, n, ⟨#[]⟩, d⟩) (D.makes n d)) (X.putX 3 n d) (D.endK (D.makes n d)) (X.putK 3 n d) (b + 1) (m + 1) := by
  unfold R.Rk.putX R.Rk.putK
  refine h.ended (h.puts3 n d) did_step (fun hk hf => ?_)
  obtain ⟨hn, hd, hl⟩ := fit_facts (makes_fit hk)
  have hg : M.Good ((⟨0, n, ⟨#[]⟩, d⟩ : Ch).act D.files) := by rw [act0]; exact h.goodF.put hn (by omega) hl
  exact h.did hf (fine0 (by omega)) hg
theorem Pair.appends {D : Dk} {X : R.Rk} {b : Int} {m : Nat} (h : Pair D X b m) (n d : ByteArray) : Both2 (D.endD (D.did4 ⟨1, n, ⟨#[]⟩, d⟩) (D.more n d)) (X.putX 2 n d) (D.endK (D.more n d)) (X.putK 2 n d) (b + 1) (m + 1) := by
  unfold R.Rk.putX R.Rk.putK
  refine h.ended (h.puts2 n d) did_step (fun hk hf => ?_)
  have hk2 : ¬ 4000 < d.size ∧ D.fit n ((((M.get D.files n).getD ⟨#[]⟩).size : Int) + d.size) = 0 := by
    unfold Dk.more at hk
    by_cases hb : 4000 < d.size
    · rw [if_pos hb] at hk; cases hk
    · rw [if_neg hb] at hk; exact ⟨hb, hk⟩
  obtain ⟨hn, hd, hl⟩ := fit_facts hk2.2
  have hg : M.Good ((⟨1, n, ⟨#[]⟩, d⟩ : Ch).act D.files) := by
    rw [act1]
    exact h.goodF.put hn (by rw [ByteArray.size_append]; omega) hl
  exact h.did hf (fine1 (by omega)) hg
theorem Pair.removes {D : Dk} {X : R.Rk} {b : Int} {m : Nat} (h : Pair D X b m) (n : ByteArray) : Both2 (D.endD (D.did4 ⟨3, n, ⟨#[]⟩, ⟨#[]⟩⟩) (D.gone n)) (X.remX n) (D.endK (D.gone n)) (X.remK n) (b + 1) (m + 1) := by
  have hg0 : (if R.place X.now n < 0 then (7 : Int) else 0) = (D.gone n : Int) := by
    unfold Dk.gone
    rw [h.place]
    by_cases hp : 0 ≤ R.place X.now n
    · rw [if_neg (by omega), if_pos (decide_eq_true hp)]; rfl
    · rw [if_pos (by omega), if_neg (by simp; omega)]; rfl
  have e1 : X.remX n = if (if R.place X.now n < 0 then (7 : Int) else 0) = 0 then X.did ⟨5, n, ⟨#[]⟩, ⟨#[]⟩⟩ else X := by
    unfold R.Rk.remX
    by_cases hp : R.place X.now n < 0
    · rw [if_pos hp, if_pos hp]; rfl
    · rw [if_neg hp, if_neg hp]; rfl
  have e2 : X.remK n = if (if R.place X.now n < 0 then (7 : Int) else 0) = 0 then X.code else (if R.place X.now n < 0 then (7 : Int) else 0) := by
    unfold R.Rk.remK
    by_cases hp : R.place X.now n < 0
    · rw [if_pos hp, if_pos hp]; rfl
    · rw [if_neg hp, if_neg hp]; rfl
  rw [e1, e2]
  refine h.ended hg0 did_step (fun _ hf => ?_)
  have hg : M.Good ((⟨3, n, ⟨#[]⟩, ⟨#[]⟩⟩ : Ch).act D.files) := by
    rw [act3]
    exact h.goodF.del n
  exact h.did hf fine3 hg
theorem Pair.moves {D : Dk} {X : R.Rk} {b : Int} {m : Nat} (h : Pair D X b m) (n t : ByteArray) : Both2 (D.endD (D.moved n t) (D.may4 n t)) (X.movX n t) (D.endK (D.may4 n t)) (X.movK n t) (b + 1) (m + 1) := by
  have hg0 : X.movs n t = (D.may4 n t : Int) := by
    unfold R.Rk.movs Dk.may4 Dk.gone
    by_cases hm : N.may n = false ∨ N.may t = false
    · rw [if_pos hm, if_pos hm]; rfl
    · rw [if_neg hm, if_neg hm, h.place]
      by_cases hp : 0 ≤ R.place X.now n
      · rw [if_neg (by omega), if_pos (decide_eq_true hp)]; rfl
      · rw [if_pos (by omega), if_neg (by simp; omega)]; rfl
  unfold R.Rk.movX R.Rk.movK
  refine h.ended hg0 (fun hc => ?_) (fun hk hf => ?_)
  · by_cases he : (n.toList == t.toList) = true
    · rw [if_pos he]
    · rw [if_neg he, did_step hc]
  · unfold Dk.moved
    by_cases he : (n.toList == t.toList) = true
    · rw [if_pos he, if_pos he]; exact (h.step hf).up (Int.le_refl _) (Nat.le_succ m)
    · rw [if_neg he, if_neg he]
      obtain ⟨ht, hs⟩ := may4_facts hk
      have hne : n ≠ t := fun e => he (by rw [e]; simp)
      have hg : M.Good ((⟨2, n, t, ⟨#[]⟩⟩ : Ch).act D.files) := by
        rw [act2]
        exact h.goodF.move ht (h.goodF.get n) hs
      exact h.did hf (fine2 hne) hg
theorem Pair.syncs {D : Dk} {X : R.Rk} {b : Int} {m : Nat} (h : Pair D X b m) : Both2 (D.endD D.synced4 0) X.synX (D.endK 0) X.code (b + 1) (m + 1) := by
  have := h.ended (D' := D.synced4) (X' := X.synX) (k := 0) (j := 0) rfl (fun hc => by unfold R.Rk.synX; rw [if_neg hc]) (fun _ hf => (h.sync hf).up (Int.le_refl _) (Nat.zero_le _))
  rw [if_pos rfl, if_pos rfl] at this
  exact this
theorem Pair.steps' {D : Dk} {X : R.Rk} {b : Int} {m : Nat} (h : Pair D X b m) : Both2 (D.endD D.step 0) X.step (D.endK 0) X.code (b + 1) (m + 1) := by
  have := h.ended (D' := D.step) (X' := X.step) (k := 0) (j := 0) rfl (fun _ => rfl) (fun _ hf => (h.step hf).up (Int.le_refl _) (Nat.le_succ m))
  rw [if_pos rfl, if_pos rfl] at this
  exact this
theorem Pair.read {D : Dk} {X : R.Rk} {b : Int} {m : Nat} (h : Pair D X b m) (n : ByteArray) : (X.reads n).1 = (D.read n).1 ∧ (X.reads n).2 = ((D.read n).2 : Int) := by
  unfold R.Rk.reads Dk.read
  rw [h.down]
  have hp := h.place n
  have hh := h.has n
  cases D.down with
  | true => exact ⟨rfl, rfl⟩
  | false =>
    rw [if_neg (by decide)]
    cases hg : M.get D.files n with
    | none =>
      rw [hg] at hp
      have : ¬ 0 ≤ R.place X.now n := fun e => by rw [decide_eq_true e] at hp; cases hp
      rw [if_pos (by omega)]; exact ⟨rfl, rfl⟩
    | some d =>
      rw [hg] at hp hh
      have : 0 ≤ R.place X.now n := by simpa using hp.symm
      rw [if_neg (by omega)]; exact ⟨hh, rfl⟩
end Go.Proofs.Ytmlbcdofogffkab
namespace Go.Proofs.Ytmlbcdofogffkab
open Go.RowKit
attribute [local go_sem ↓] Go.wp_at_zero Go.wp_at_succ
/-- Both disks in memory. -/
def Two (w wx : World) (g r : Nat) (D : Dk) (X : R.Rk) : Prop :=
  ∃ B C, Disk wx B g D ∧ R.Lies wx C r X ∧ (∀ x, B x → w.heap.size ≤ x ∧ x < wx.heap.size) ∧ (∀ x, C x → w.heap.size ≤ x ∧ x < wx.heap.size) ∧ (∀ x, B x → C x → False) ∧ Fr w wx (fun _ => False)
/-- Both disks in memory, and a block beside them. -/
def Mems (w wx : World) (g r ga : Nat) (ob : Obj) (D : Dk) (X : R.Rk) : Prop :=
  ∃ B C, Disk wx B g D ∧ R.Lies wx C r X ∧ (∀ x, B x → w.heap.size ≤ x ∧ x < wx.heap.size ∧ x ≠ ga) ∧ (∀ x, C x → w.heap.size ≤ x ∧ x < wx.heap.size ∧ x ≠ ga) ∧ (∀ x, B x → C x → False) ∧ wx.heap[ga]? = some ob ∧ w.heap.size ≤ ga ∧ Fr w wx (fun _ => False)
theorem Mems.two {w wx : World} {g r ga : Nat} {ob : Obj} {D : Dk} {X : R.Rk} (h : Mems w wx g r ga ob D X) : Two w wx g r D X := by
  obtain ⟨B, C, h1, h2, h3, h4, h5, h6, h7, h8⟩ := h
  exact ⟨B, C, h1, h2, fun x hx => ⟨(h3 x hx).1, (h3 x hx).2.1⟩, fun x hx => ⟨(h4 x hx).1, (h4 x hx).2.1⟩, h5, h8⟩
theorem Two.keep {w wx w2 : World} {g r : Nat} {D : Dk} {X : R.Rk} (h : Two w wx g r D X) (hf : Fr wx w2 (fun _ => False)) : Two w w2 g r D X := by
  obtain ⟨B, C, h1, h2, h3, h4, h5, h8⟩ := h
  have := hf.size
  exact ⟨B, C, h1.fr hf (fun _ _ e => e), h2.fr hf (fun _ _ e => e), fun x hx => ⟨(h3 x hx).1, by have := (h3 x hx).2; omega⟩, fun x hx => ⟨(h4 x hx).1, by have := (h4 x hx).2; omega⟩, h5, h8.trans hf (fun _ _ e => e)⟩
theorem Two.act {w wx : World} {g r : Nat} {D : Dk} {X : R.Rk} (h : Two w wx g r D X) (cs : Array Value) (e : TypeId) : Mems w (wx.alloc (.cells cs e)) g r wx.heap.size (.cells cs e (0, 0)) D X := by
  have hf : Fr wx (wx.alloc (.cells cs e)) (fun _ => False) := (Fr.refl wx _).alloc _
  have hs := hf.size
  obtain ⟨B, C, h1, h2, h3, h4, h5, h8⟩ := h
  exact ⟨B, C, h1.fr hf (fun _ _ e => e), h2.fr hf (fun _ _ e => e), fun x hx => ⟨(h3 x hx).1, by have := (h3 x hx).2; omega, by have := (h3 x hx).2; omega⟩, fun x hx => ⟨(h4 x hx).1, by have := (h4 x hx).2; omega, by have := (h4 x hx).2; omega⟩, h5, heap_alloc_new _ _, h8.size, h8.trans hf (fun _ _ e => e)⟩
theorem Mems.keep {w wx w2 : World} {g r ga : Nat} {ob : Obj} {D : Dk} {X : R.Rk} (h : Mems w wx g r ga ob D X) (hf : Fr wx w2 (fun _ => False)) : Mems w w2 g r ga ob D X := by
  obtain ⟨B, C, h1, h2, h3, h4, h5, h6, h7, h8⟩ := h
  have := hf.size
  exact ⟨B, C, h1.fr hf (fun _ _ e => e), h2.fr hf (fun _ _ e => e), fun x hx => ⟨(h3 x hx).1, by have := (h3 x hx).2.1; omega, (h3 x hx).2.2⟩, fun x hx => ⟨(h4 x hx).1, by have := (h4 x hx).2.1; omega, (h4 x hx).2.2⟩, h5, (hf.block ga (Array.getElem?_eq_some_iff.1 h6).1 (fun e => e)).trans h6, h7, h8.trans hf (fun _ _ e => e)⟩
theorem Mems.ob {w wx : World} {g r ga : Nat} {ob : Obj} {D : Dk} {X : R.Rk} (h : Mems w wx g r ga ob D X) : wx.heap[ga]? = some ob := by obtain ⟨_, _, _, _, _, _, _, h6, _⟩ := h; exact h6
theorem Mems.fr {w wx : World} {g r ga : Nat} {ob : Obj} {D : Dk} {X : R.Rk} (h : Mems w wx g r ga ob D X) : Fr w wx (fun _ => False) := by obtain ⟨_, _, _, _, _, _, _, _, _, h8⟩ := h; exact h8
theorem Two.fr {w wx : World} {g r : Nat} {D : Dk} {X : R.Rk} (h : Two w wx g r D X) : Fr w wx (fun _ => False) := by obtain ⟨_, _, _, _, _, _, _, h8⟩ := h; exact h8
theorem mems_prog {w wx w2 : World} {B B' C : Nat → Prop} {g r ga : Nat} {ob : Obj} {D2 : Dk} {X : R.Rk} (h2 : R.Lies wx C r X) (h3 : ∀ x, B x → w.heap.size ≤ x ∧ x < wx.heap.size ∧ x ≠ ga) (h4 : ∀ x, C x → w.heap.size ≤ x ∧ x < wx.heap.size ∧ x ≠ ga) (h5 : ∀ x, B x → C x → False) (h6 : wx.heap[ga]? = some ob) (h7 : w.heap.size ≤ ga) (h8 : Fr w wx (fun _ => False))
    (hD : Disk w2 B' g D2) (hB : ∀ x, B' x → B x ∨ wx.heap.size ≤ x) (hf : Fr wx w2 B) : Mems w w2 g r ga ob D2 X := by
  have hs := hf.size
  have hgl := (Array.getElem?_eq_some_iff.1 h6).1
  have hs8 := h8.size
  refine ⟨fun x => B' x ∧ x < w2.heap.size, C, hD.shrink, h2.fr hf (fun c hc hb => h5 c hb hc), fun x hx => ⟨?_, hx.2, ?_⟩, fun x hx => ⟨(h4 x hx).1, by have := (h4 x hx).2.1; omega, (h4 x hx).2.2⟩, fun x hx hc => ?_, (hf.block ga hgl (fun e => (h3 ga e).2.2 rfl)).trans h6, h7, h8.trans hf (fun c hc e => by have := (h3 c e).1; omega)⟩
  · rcases hB x hx.1 with e | e
    · exact (h3 x e).1
    · omega
  · rcases hB x hx.1 with e | e
    · exact (h3 x e).2.2
    · omega
  · rcases hB x hx.1 with e | e
    · exact h5 x e hc
    · have := (h4 x hc).2.1; omega
theorem mems_ref {w wx w2 : World} {B C C' : Nat → Prop} {g r ga : Nat} {ob : Obj} {D : Dk} {X2 : R.Rk} (h1 : Disk wx B g D) (h3 : ∀ x, B x → w.heap.size ≤ x ∧ x < wx.heap.size ∧ x ≠ ga) (h4 : ∀ x, C x → w.heap.size ≤ x ∧ x < wx.heap.size ∧ x ≠ ga) (h5 : ∀ x, B x → C x → False) (h6 : wx.heap[ga]? = some ob) (h7 : w.heap.size ≤ ga) (h8 : Fr w wx (fun _ => False))
    (hL : R.Lies w2 C' r X2) (hC : ∀ x, C' x → C x ∨ wx.heap.size ≤ x) (hf : Fr wx w2 C) : Mems w w2 g r ga ob D X2 := by
  have hs := hf.size
  have hgl := (Array.getElem?_eq_some_iff.1 h6).1
  have hs8 := h8.size
  refine ⟨B, fun x => C' x ∧ x < w2.heap.size, h1.fr hf (fun c hb hc => h5 c hb hc), hL.shrink, fun x hx => ⟨(h3 x hx).1, by have := (h3 x hx).2.1; omega, (h3 x hx).2.2⟩, fun x hx => ⟨?_, hx.2, ?_⟩, fun x hb hx => ?_, (hf.block ga hgl (fun e => (h4 ga e).2.2 rfl)).trans h6, h7, h8.trans hf (fun c hc e => by have := (h4 c e).1; omega)⟩
  · rcases hC x hx.1 with e | e
    · exact (h4 x e).1
    · omega
  · rcases hC x hx.1 with e | e
    · exact (h4 x e).2.2
    · omega
  · rcases hC x hx.1 with e | e
    · exact h5 x hb e
    · have := (h3 x hb).2.1; omega
theorem mems_changed {w wx w2 : World} {B C : Nat → Prop} {g r ga k : Nat} {ob : Obj} {D D' : Dk} {X : R.Rk} {o : Ending} (h1 : Disk wx B g D) (h2 : R.Lies wx C r X) (h3 : ∀ x, B x → w.heap.size ≤ x ∧ x < wx.heap.size ∧ x ≠ ga) (h4 : ∀ x, C x → w.heap.size ≤ x ∧ x < wx.heap.size ∧ x ≠ ga) (h5 : ∀ x, B x → C x → False) (h6 : wx.heap[ga]? = some ob) (h7 : w.heap.size ≤ ga) (h8 : Fr w wx (fun _ => False))
    (hc : Changed wx w2 B g D D' k o) : o = .returned (errV (D.endK k)) ∧ Mems w w2 g r ga ob (D.endD D' k) X := by
  unfold Dk.endK Dk.endD
  rcases hc with ⟨hk, ho, hf⟩ | ⟨hk, hd, hf⟩
  · rw [if_pos hk, if_pos hk]
    exact ⟨ho, mems_prog h2 h3 h4 h5 h6 h7 h8 (h1.fr hf (fun _ _ e => e)) (fun _ h => .inl h) (hf.weak (fun _ _ e => e.elim))⟩
  · have hkn : ¬ (k ≠ 0) := fun e => e hk
    rw [if_neg hkn, if_neg hkn]
    rcases hd with ⟨hfa, ho, hD⟩ | ⟨hnf, ho, B', hD, hB'⟩
    · have hff : D.left = 0 ∨ D.down = true := hfa
      rw [if_pos hff, if_pos hff]
      exact ⟨ho, mems_prog h2 h3 h4 h5 h6 h7 h8 hD (fun _ h => .inl h) hf⟩
    · have hff : ¬ (D.left = 0 ∨ D.down = true) := hnf
      rw [if_neg hff, if_neg hff]
      exact ⟨ho, mems_prog h2 h3 h4 h5 h6 h7 h8 hD hB' hf⟩
section
variable {w wx : World} {g r ga m : Nat} {ob : Obj} {D : Dk} {X : R.Rk} {b : Int}
theorem Mems.write (h : Mems w wx g r ga ob D X) (hp : Pair D X b m) (hb : b ≤ 1000) (hm : m ≤ 1000) (n d : ByteArray) (hn : n.size ≤ maxLen) :
    Calls Try.prog 23 #[.pointer (some ⟨g, 0, none⟩), .string n, .string d] wx fun o w2 => o = .returned (errV (D.endK (D.fit n d.size))) ∧ Mems w w2 g r ga ob (D.endD (D.did4 ⟨0, n, ⟨#[]⟩, d⟩) (D.fit n d.size)) X := by
  obtain ⟨B, C, h1, h2, h3, h4, h5, h6, h7, h8⟩ := h
  have hgf := hp.goodF
  have hl := hgf.len
  have hbd := hp.bnd
  have hch := hp.len
  have hgn := hgf.get n
  by_cases hbig : 4000 < d.size
  · have hk : D.fit n d.size ≠ 0 := fun e => by have := (fit_facts e).2.1; omega
    exact (write_no wx B g D n d h1 hn (by omega) hk).mono fun o w2 hh => mems_changed h1 h2 h3 h4 h5 h6 h7 h8 (.inl ⟨hk, hh.1, hh.2⟩)
  · exact (write4 wx B g D n d h1 (fun x hx => (h3 x hx).2.1) hn (by omega) ⟨hbd.1, by omega⟩ hp.lb ⟨by omega, by omega⟩ (by omega)).mono fun o w2 hh => mems_changed h1 h2 h3 h4 h5 h6 h7 h8 hh
theorem Mems.make (h : Mems w wx g r ga ob D X) (hp : Pair D X b m) (hb : b ≤ 1000) (hm : m ≤ 1000) (n d : ByteArray) (hn : n.size ≤ maxLen) :
    Calls Try.prog 26 #[.pointer (some ⟨g, 0, none⟩), .string n, .string d] wx fun o w2 => o = .returned (errV (D.endK (D.makes n d))) ∧ Mems w w2 g r ga ob (D.endD (D.did4 ⟨0, n, ⟨#[]⟩, d⟩) (D.makes n d)) X := by
  obtain ⟨B, C, h1, h2, h3, h4, h5, h6, h7, h8⟩ := h
  have hgf := hp.goodF
  have hl := hgf.len
  have hbd := hp.bnd
  have hch := hp.len
  have hgn := hgf.get n
  by_cases hbig : 4000 < d.size
  · have hk : D.fit n d.size ≠ 0 := fun e => by have := (fit_facts e).2.1; omega
    have e : D.makes n d = D.fit n d.size := by unfold Dk.makes; rw [if_pos hk]
    rw [e]
    exact (make_no wx B g D n d h1 hn (by omega) hk).mono fun o w2 hh => mems_changed h1 h2 h3 h4 h5 h6 h7 h8 (.inl ⟨hk, hh.1, hh.2⟩)
  · exact (make4 wx B g D n d h1 (fun x hx => (h3 x hx).2.1) hn (by omega) ⟨hbd.1, by omega⟩ hp.lb ⟨by omega, by omega⟩ (by omega)).mono fun o w2 hh => mems_changed h1 h2 h3 h4 h5 h6 h7 h8 hh
theorem Mems.append (h : Mems w wx g r ga ob D X) (hp : Pair D X b m) (hb : b ≤ 1000) (hm : m ≤ 1000) (n d : ByteArray) (hn : n.size ≤ maxLen) :
    Calls Try.prog 25 #[.pointer (some ⟨g, 0, none⟩), .string n, .string d] wx fun o w2 => o = .returned (errV (D.endK (D.more n d))) ∧ Mems w w2 g r ga ob (D.endD (D.did4 ⟨1, n, ⟨#[]⟩, d⟩) (D.more n d)) X := by
  obtain ⟨B, C, h1, h2, h3, h4, h5, h6, h7, h8⟩ := h
  have hgf := hp.goodF
  have hl := hgf.len
  have hbd := hp.bnd
  have hch := hp.len
  have hgn := hgf.get n
  by_cases hbig : 4000 < d.size
  · have e : D.more n d = 2 := by unfold Dk.more; rw [if_pos hbig]
    rw [e]
    refine (append_no wx g n d hbig).mono fun o w2 hh => ?_
    obtain ⟨ho, rfl⟩ := hh
    exact mems_changed h1 h2 h3 h4 h5 h6 h7 h8 (.inl ⟨by decide, ho, Fr.refl _ _⟩)
  · exact (append4 wx B g D n d h1 (fun x hx => (h3 x hx).2.1) hn (by omega) ⟨hbd.1, by omega⟩ hp.lb ⟨by omega, by omega⟩ (by omega)).mono fun o w2 hh => mems_changed h1 h2 h3 h4 h5 h6 h7 h8 hh
theorem Mems.move (h : Mems w wx g r ga ob D X) (hp : Pair D X b m) (hb : b ≤ 1000) (hm : m ≤ 1000) (n t : ByteArray) (hn : n.size ≤ maxLen) (ht : t.size ≤ maxLen) :
    Calls Try.prog 27 #[.pointer (some ⟨g, 0, none⟩), .string n, .string t] wx fun o w2 => o = .returned (errV (D.endK (D.may4 n t))) ∧ Mems w w2 g r ga ob (D.endD (D.moved n t) (D.may4 n t)) X := by
  obtain ⟨B, C, h1, h2, h3, h4, h5, h6, h7, h8⟩ := h
  have hbd := hp.bnd
  have hch := hp.len
  have hgn := hp.goodF.get n
  exact (move4 wx B g D n t h1 (fun x hx => (h3 x hx).2.1) hn ht ⟨hbd.1, by omega⟩ hp.lb (by omega) (by omega)).mono fun o w2 hh => mems_changed h1 h2 h3 h4 h5 h6 h7 h8 hh
theorem Mems.remove (h : Mems w wx g r ga ob D X) (hp : Pair D X b m) (hb : b ≤ 1000) (hm : m ≤ 1000) (n : ByteArray) :
    Calls Try.prog 29 #[.pointer (some ⟨g, 0, none⟩), .string n] wx fun o w2 => o = .returned (errV (D.endK (D.gone n))) ∧ Mems w w2 g r ga ob (D.endD (D.did4 ⟨3, n, ⟨#[]⟩, ⟨#[]⟩⟩) (D.gone n)) X := by
  obtain ⟨B, C, h1, h2, h3, h4, h5, h6, h7, h8⟩ := h
  have hbd := hp.bnd
  have hch := hp.len
  have hgn := hp.goodF.get n
  exact (remove4 wx B g D n h1 (fun x hx => (h3 x hx).2.1) ⟨hbd.1, by omega⟩ hp.lb (by omega) (by omega)).mono fun o w2 hh => mems_changed h1 h2 h3 h4 h5 h6 h7 h8 hh
theorem Pair.sizes (hp : Pair D X b m) : ∀ k c, D.chg[k]? = some c → c.data.size ≤ 1000000 ∧ ((M.get (D.keep4 k) c.name).getD ⟨#[]⟩).size ≤ 1000000 := by
  intro k c hc
  have h1 := (hp.fine c (List.mem_of_getElem? hc)).2.1
  have h2 := (hp.good k (Nat.le_of_lt (List.getElem?_eq_some_iff.1 hc).1)).get c.name
  omega
theorem Mems.sync (h : Mems w wx g r ga ob D X) (hp : Pair D X b m) (hb : b ≤ 1000) (hm : m ≤ 1000) :
    Calls Try.prog 33 #[.pointer (some ⟨g, 0, none⟩)] wx fun o w2 => o = .returned (errV (D.endK 0)) ∧ Mems w w2 g r ga ob (D.endD D.synced4 0) X := by
  obtain ⟨B, C, h1, h2, h3, h4, h5, h6, h7, h8⟩ := h
  have hbd := hp.bnd
  have hch := hp.len
  refine (sync4 wx B g D h1 ⟨hbd.1, by omega⟩ hp.lb (by omega) (fun c hc => (hp.fine c hc).1) (fun k c _ hc => hp.sizes k c hc)).mono fun o w2 hh => ?_
  refine mems_changed h1 h2 h3 h4 h5 h6 h7 h8 (.inr ⟨rfl, ?_, hh.2⟩)
  rcases hh.1 with e | ⟨e1, e2, e3⟩
  · exact .inl e
  · exact .inr ⟨e1, e2, B, e3, fun _ h => .inl h⟩
theorem Mems.step (h : Mems w wx g r ga ob D X) (hp : Pair D X b m) (hb : b ≤ 1000) :
    Calls Try.prog 35 #[.pointer (some ⟨g, 0, none⟩)] wx fun o w2 => o = .returned (errV (D.endK 0)) ∧ Mems w w2 g r ga ob (D.endD D.step 0) X := by
  obtain ⟨B, C, h1, h2, h3, h4, h5, h6, h7, h8⟩ := h
  have hbd := hp.bnd
  have hBg := disk_of h1
  refine (step_any wx B g D h1 ⟨hbd.1, by omega⟩ hp.lb).mono fun o w2 hh => ?_
  refine mems_changed h1 h2 h3 h4 h5 h6 h7 h8 (.inr ⟨rfl, ?_, hh.2.weak (fun c _ e => by rw [e]; exact hBg)⟩)
  rcases hh.1 with e | ⟨e1, e2, e3⟩
  · exact .inl e
  · exact .inr ⟨e1, e2, B, e3, fun _ h => .inl h⟩
theorem Mems.arm (h : Mems w wx g r ga ob D X) (n : Int) :
    Calls Try.prog 37 #[.pointer (some ⟨g, 0, none⟩), .int .i64 n] wx fun o w2 => o = .returned (.tuple #[]) ∧ Mems w w2 g r ga ob (D.armed n) X := by
  obtain ⟨B, C, h1, h2, h3, h4, h5, h6, h7, h8⟩ := h
  have hBg := disk_of h1
  exact (arm_any wx B g D n h1).mono fun o w2 hh => ⟨hh.1, mems_prog h2 h3 h4 h5 h6 h7 h8 hh.2.1 (fun _ h => .inl h) (hh.2.2.weak (fun c _ e => by rw [e]; exact hBg))⟩
theorem Mems.restart (h : Mems w wx g r ga ob D X) (hp : Pair D X b m) (hm : m ≤ 1000) (keep torn : Int) (hkp : -9223372036854775808 ≤ keep ∧ keep ≤ 9223372036854775807) (htn : -9223372036854775808 ≤ torn ∧ torn ≤ 9223372036854775807) :
    Calls Try.prog 38 #[.pointer (some ⟨g, 0, none⟩), .int .i64 keep, .int .i64 torn] wx fun o w2 => o = .returned (.tuple #[]) ∧ ∃ F2, F2.Perm (D.stays4 keep torn) ∧ Mems w w2 g r ga ob (D.again4 keep torn F2) X := by
  obtain ⟨B, C, h1, h2, h3, h4, h5, h6, h7, h8⟩ := h
  have hch := hp.len
  refine (restart4 wx B g D keep torn h1 (by omega) (fun c hc => (hp.fine c hc).1) hp.sizes hkp htn (hp.stays keep torn).2.nodup).mono fun o w2 hh => ?_
  obtain ⟨ho, ⟨B', F2, hF2, hD2, hB'⟩, hf⟩ := hh
  exact ⟨ho, F2, hF2, mems_prog h2 h3 h4 h5 h6 h7 h8 hD2 hB' hf⟩
theorem Mems.read (h : Mems w wx g r ga ob D X) (n : ByteArray) :
    Calls Try.prog 31 #[.pointer (some ⟨g, 0, none⟩), .string n] wx fun o w2 => o = .returned (.tuple #[.string (D.read n).1, errV (D.read n).2]) ∧ Mems w w2 g r ga ob D X := by
  have h0 := h
  obtain ⟨B, C, h1, h2, h3, h4, h5, h6, h7, h8⟩ := h
  exact (read_any wx B g D n h1).mono fun o w2 hh => ⟨hh.1, h0.keep hh.2⟩
theorem Mems.did {w2 : World} {C : Nat → Prop} {B : Nat → Prop} {X2 : R.Rk} {k : Int} {o : Ending} (h1 : Disk wx B g D) (h3 : ∀ x, B x → w.heap.size ≤ x ∧ x < wx.heap.size ∧ x ≠ ga) (h4 : ∀ x, C x → w.heap.size ≤ x ∧ x < wx.heap.size ∧ x ≠ ga) (h5 : ∀ x, B x → C x → False) (h6 : wx.heap[ga]? = some ob) (h7 : w.heap.size ≤ ga) (h8 : Fr w wx (fun _ => False)) (hh : R.Did wx w2 C r X2 k o) : o = .returned (.int .i64 k) ∧ Mems w w2 g r ga ob D X2 := by
  obtain ⟨ho, ⟨C', hL, hC⟩, hf⟩ := hh
  exact ⟨ho, mems_ref h1 h3 h4 h5 h6 h7 h8 hL hC hf⟩
theorem Mems.put1 {D0 : Dk} (h : Mems w wx g r ga ob D X) (hp : Pair D0 X b m) (hb : b ≤ 1000) (hm : m ≤ 1000) (n d : ByteArray) (hn : n.size ≤ maxLen) :
    Calls Try.prog 24 #[.pointer (some ⟨r, 0, none⟩), .int .i64 1, .string n, .string d] wx fun o w2 => o = .returned (.int .i64 (X.putK 1 n d)) ∧ Mems w w2 g r ga ob D (X.putX 1 n d) := by
  obtain ⟨B, C, h1, h2, h3, h4, h5, h6, h7, h8⟩ := h
  have hbd := hp.bnd
  have hst := hp.steps
  exact (refPut1 wx C r X n d h2 (fun x hx => (h4 x hx).2.1) hn (by omega) hp.fb (Nat.le_trans hp.nowlen (by decide)) hp.hasle (by rw [hp.wlen]; have := hp.len; omega)).mono fun o w2 hh => Mems.did h1 h3 h4 h5 h6 h7 h8 hh
theorem Mems.put2 {D0 : Dk} (h : Mems w wx g r ga ob D X) (hp : Pair D0 X b m) (hb : b ≤ 1000) (hm : m ≤ 1000) (n d : ByteArray) (hn : n.size ≤ maxLen) :
    Calls Try.prog 24 #[.pointer (some ⟨r, 0, none⟩), .int .i64 2, .string n, .string d] wx fun o w2 => o = .returned (.int .i64 (X.putK 2 n d)) ∧ Mems w w2 g r ga ob D (X.putX 2 n d) := by
  obtain ⟨B, C, h1, h2, h3, h4, h5, h6, h7, h8⟩ := h
  have hbd := hp.bnd
  have hst := hp.steps
  exact (refPut2 wx C r X n d h2 (fun x hx => (h4 x hx).2.1) hn (by omega) hp.fb (Nat.le_trans hp.nowlen (by decide)) hp.hasle (by rw [hp.wlen]; have := hp.len; omega)).mono fun o w2 hh => Mems.did h1 h3 h4 h5 h6 h7 h8 hh
theorem Mems.put3 {D0 : Dk} (h : Mems w wx g r ga ob D X) (hp : Pair D0 X b m) (hb : b ≤ 1000) (hm : m ≤ 1000) (n d : ByteArray) (hn : n.size ≤ maxLen) :
    Calls Try.prog 24 #[.pointer (some ⟨r, 0, none⟩), .int .i64 3, .string n, .string d] wx fun o w2 => o = .returned (.int .i64 (X.putK 3 n d)) ∧ Mems w w2 g r ga ob D (X.putX 3 n d) := by
  obtain ⟨B, C, h1, h2, h3, h4, h5, h6, h7, h8⟩ := h
  have hbd := hp.bnd
  have hst := hp.steps
  exact (refPut3 wx C r X n d h2 (fun x hx => (h4 x hx).2.1) hn (by omega) hp.fb (Nat.le_trans hp.nowlen (by decide)) hp.hasle (by rw [hp.wlen]; have := hp.len; omega)).mono fun o w2 hh => Mems.did h1 h3 h4 h5 h6 h7 h8 hh
theorem Mems.moveR {D0 : Dk} (h : Mems w wx g r ga ob D X) (hp : Pair D0 X b m) (hb : b ≤ 1000) (hm : m ≤ 1000) (n t : ByteArray) (hn : n.size ≤ maxLen) (ht : t.size ≤ maxLen) :
    Calls Try.prog 28 #[.pointer (some ⟨r, 0, none⟩), .string n, .string t] wx fun o w2 => o = .returned (.int .i64 (X.movK n t)) ∧ Mems w w2 g r ga ob D (X.movX n t) := by
  obtain ⟨B, C, h1, h2, h3, h4, h5, h6, h7, h8⟩ := h
  have hbd := hp.bnd
  have hst := hp.steps
  exact (refMove_any wx C r X n t h2 (fun x hx => (h4 x hx).2.1) hn ht (by omega) hp.fb (Nat.le_trans hp.nowlen (by decide)) hp.hasle (by rw [hp.wlen]; have := hp.len; omega)).mono fun o w2 hh => Mems.did h1 h3 h4 h5 h6 h7 h8 hh
theorem Mems.removeR {D0 : Dk} (h : Mems w wx g r ga ob D X) (hp : Pair D0 X b m) (hb : b ≤ 1000) (hm : m ≤ 1000) (n : ByteArray) :
    Calls Try.prog 30 #[.pointer (some ⟨r, 0, none⟩), .string n] wx fun o w2 => o = .returned (.int .i64 (X.remK n)) ∧ Mems w w2 g r ga ob D (X.remX n) := by
  obtain ⟨B, C, h1, h2, h3, h4, h5, h6, h7, h8⟩ := h
  have hbd := hp.bnd
  have hst := hp.steps
  exact (refRemove_any wx C r X n h2 (fun x hx => (h4 x hx).2.1) (by omega) hp.fb (Nat.le_trans hp.nowlen (by decide)) hp.hasle (by rw [hp.wlen]; have := hp.len; omega)).mono fun o w2 hh => Mems.did h1 h3 h4 h5 h6 h7 h8 hh
theorem Mems.syncR {D0 : Dk} (h : Mems w wx g r ga ob D X) (hp : Pair D0 X b m) (hb : b ≤ 1000) :
    Calls Try.prog 34 #[.pointer (some ⟨r, 0, none⟩)] wx fun o w2 => o = .returned (.int .i64 X.code) ∧ Mems w w2 g r ga ob D X.synX := by
  obtain ⟨B, C, h1, h2, h3, h4, h5, h6, h7, h8⟩ := h
  have hbd := hp.bnd
  have hst := hp.steps
  exact (refSync_any wx C r X h2 (by omega) hp.fb (Nat.le_trans hp.nowlen (by decide))).mono fun o w2 hh => Mems.did h1 h3 h4 h5 h6 h7 h8 hh
theorem Mems.stepR {D0 : Dk} (h : Mems w wx g r ga ob D X) (hp : Pair D0 X b m) (hb : b ≤ 1000) :
    Calls Try.prog 36 #[.pointer (some ⟨r, 0, none⟩)] wx fun o w2 => o = .returned (.int .i64 X.code) ∧ Mems w w2 g r ga ob D X.step := by
  obtain ⟨B, C, h1, h2, h3, h4, h5, h6, h7, h8⟩ := h
  have hbd := hp.bnd
  have hst := hp.steps
  have hCr : C r := by obtain ⟨_, _, _, _, _, _, _, h5, _⟩ := h2; exact h5
  exact (refStep_lies wx C r X h2 (by omega) hp.fb).mono fun o w2 hh => ⟨hh.1, mems_ref h1 h3 h4 h5 h6 h7 h8 hh.2.1 (fun _ h => .inl h) (hh.2.2.weak (fun c _ e => by rw [e]; exact hCr))⟩
theorem Mems.restartR {D0 : Dk} (h : Mems w wx g r ga ob D X) (hp : Pair D0 X b m) (hm : m ≤ 1000) (keep torn : Int) (hkp : -9223372036854775808 ≤ keep ∧ keep ≤ 9223372036854775807) (htn : -9223372036854775808 ≤ torn ∧ torn ≤ 9223372036854775807) :
    Calls Try.prog 39 #[.pointer (some ⟨r, 0, none⟩), .int .i64 keep, .int .i64 torn] wx fun o w2 => o = .returned (.tuple #[]) ∧ Mems w w2 g r ga ob D (X.again keep torn) := by
  obtain ⟨B, C, h1, h2, h3, h4, h5, h6, h7, h8⟩ := h
  have hlen := hp.len
  have hkl : ∀ k, (X.keep k).length ≤ 1000 := by
    intro k
    by_cases hk : k ≤ D0.chg.length
    · rw [← (hp.keep k hk).length]; exact Nat.le_trans (hp.good k hk).len (by decide)
    · have e : X.keep k = X.keep D0.chg.length := by unfold R.Rk.keep; rw [List.take_of_length_le (by rw [hp.wlen]; omega), List.take_of_length_le (by rw [hp.wlen]; omega)]
      rw [e, ← (hp.keep _ (Nat.le_refl _)).length]; exact Nat.le_trans (hp.good _ (Nat.le_refl _)).len (by decide)
  have hst := hp.stays keep torn
  refine (refRestart_any wx C r X keep torn h2 (by rw [hp.wlen]; omega) ?_ ?_ hkl (by rw [← hst.1.length]; exact Nat.le_trans hst.2.len (by decide)) hkp htn).mono fun o w2 hh => ?_
  · intro t ht
    rw [hp.wait] at ht
    obtain ⟨c, hc, rfl⟩ := List.mem_map.1 ht
    unfold R.Tn.ok R.conv
    rcases (hp.fine c hc).1 with e | e | e | e <;> simp [e]
  · intro k t ht
    rw [hp.wait, List.getElem?_map] at ht
    cases hc : D0.chg[k]? with
    | none => rw [hc] at ht; cases ht
    | some c =>
      rw [hc] at ht
      have e : R.conv c = t := by simpa using ht
      subst e
      have hk := Nat.le_of_lt (List.getElem?_eq_some_iff.1 hc).1
      have h1 := (hp.fine c (List.mem_of_getElem? hc)).2.1
      have h2 := (hp.good k hk).get c.name
      show (R.has (X.keep k) c.name).size + c.data.size ≤ 100000
      rw [R.has_get, ← (hp.keep k hk).get]; omega
  · obtain ⟨ho, ⟨C', hL, hC⟩, hf⟩ := hh
    exact ⟨ho, mems_ref h1 h3 h4 h5 h6 h7 h8 hL hC hf⟩
theorem Mems.readR {D0 : Dk} (h : Mems w wx g r ga ob D X) (hp : Pair D0 X b m) (n : ByteArray) :
    Calls Try.prog 32 #[.pointer (some ⟨r, 0, none⟩), .string n] wx fun o w2 => o = .returned (.tuple #[.string (X.reads n).1, .int .i64 (X.reads n).2]) ∧ w2 = wx := by
  obtain ⟨B, C, h1, h2, _⟩ := h
  exact refRead_any wx C r X n h2 (Nat.le_trans hp.nowlen (by decide))
theorem Mems.fuseR (h : Mems w wx g r ga ob D X) (n : Int) : (∃ v, wx.cell? ⟨r, 3, none⟩ = some v) ∧ wx.frozen? ⟨r, 3, none⟩ = false ∧ Mems w (wx.setCell ⟨r, 3, none⟩ (.int .i64 n)) g r ga ob D { X with fuse := n } := by
  obtain ⟨B, C, h1, h2, h3, h4, h5, h6, h7, h8⟩ := h
  obtain ⟨kv, nv, wv, q1, q2, q3, q4, q5, q6, q7, q8⟩ := h2
  have hset := Fr.set1 wx r 3 (.int .i64 n)
  have ne : ∀ {s : TypeId} {n z b : Nat} {v : Value} {xs : List Value}, wx.ownsRow b s z v n xs → s ≠ 75 → ∀ c, v.ownBlock = some c → ¬ c = r := fun k hs c hc e => owns_ne k q1 (fun cs x hh => hs (by unfold R.blk at hh; cases hh; rfl)) (by rw [← e]; exact hc)
  refine ⟨⟨_, cell_of_block q1 3 _ rfl⟩, free_of_block q1 3, mems_ref (C' := C) h1 h3 h4 h5 h6 h7 h8 ⟨kv, nv, wv, block_set (i := 3) q1 _, owns_fr q2 hset (ne q2 (by decide)), owns_fr q3 hset (ne q3 (by decide)), owns_fr q4 hset (ne q4 (by decide)), q5, q6, q7, q8⟩ (fun _ h => .inl h) (hset.weak (fun c _ e => by rw [e]; exact q5))⟩
theorem Mems.down (h : Mems w wx g r ga ob D X) : Calls Try.prog 42 #[.pointer (some ⟨g, 0, none⟩)] wx fun o w' => o = .returned (.bool D.down) ∧ w' = wx := by
  obtain ⟨B, C, h1, _⟩ := h; exact down_any wx B g D h1
theorem Mems.steps (h : Mems w wx g r ga ob D X) : Calls Try.prog 43 #[.pointer (some ⟨g, 0, none⟩)] wx fun o w' => o = .returned (.int .i64 D.steps) ∧ w' = wx := by
  obtain ⟨B, C, h1, _⟩ := h; exact steps_any h1
theorem Mems.cells (h : Mems w wx g r ga ob D X) : wx.cell? ⟨r, 4, none⟩ = some (.bool X.down) ∧ wx.cell? ⟨r, 5, none⟩ = some (.int .i64 X.steps) := by
  obtain ⟨B, C, _, ⟨kv, nv, wv, q1, _⟩, _⟩ := h
  exact ⟨cell_of_block q1 4 _ rfl, cell_of_block q1 5 _ rfl⟩
end
theorem same_errV (k : Nat) (w : World) : Calls Try.prog 22 #[errV k, .int .i64 k] w fun e w' => e = .returned (.bool true) ∧ w' = w := by
  by_cases hk : k = 0
  · subst hk
    exact (same_nil 0 w).mono fun e w' hh => ⟨hh.1, hh.2⟩
  · rw [errV_ne hk]
    exact (same_err k k w (by omega)).mono fun e w' hh => ⟨by rw [hh.1]; simp, hh.2⟩
end Go.Proofs.Ytmlbcdofogffkab
namespace Go.Proofs.Ytmlbcdofogffkab
open Go.RowKit
attribute [local go_sem ↓] Go.wp_at_zero Go.wp_at_succ
set_option maxRecDepth 100000 in
set_option maxHeartbeats 1000000 in
theorem list_down (w : World) (B : Nat → Prop) (g : Nat) (D : Dk) (h : Disk w B g D) (hd : D.down = true) :
    Calls Try.prog 92 #[.pointer (some ⟨g, 0, none⟩)] w fun o w' => o = .returned (.tuple #[.slice none 0 0, .iface 128 (.int .i64 10)]) ∧ w' = w := by
  obtain ⟨bk, bf, cv, h1, _⟩ := h
  have c5 := cell_of_block h1 5 _ rfl
  rw [hd] at c5
  clear h1
  go_enter Try.func92, Try.ntmps92
  go_wp2_with fail
  go_ret2
  exact ⟨rfl, rfl⟩
/-- What both lists say. -/
theorem Two.lists {w wx : World} {g r m : Nat} {D : Dk} {X : R.Rk} {b : Int} (h : Two w wx g r D X) (hp : Pair D X b m) :
    Calls Try.prog 92 #[.pointer (some ⟨g, 0, none⟩)] wx fun o w' => ∃ u, o = .returned (.tuple #[u, errV (if D.down = true then 10 else 0)]) ∧ Strs w' u (if D.down = true then [] else X.now.map (·.1)) ∧ Fr wx w' (fun _ => False) := by
  obtain ⟨B, C, h1, _⟩ := h
  cases hd : D.down with
  | true => exact (list_down wx B g D h1 hd).mono fun o w' hh => ⟨_, hh.1, ⟨none, 0, rfl, .inl rfl⟩, by rw [hh.2]; exact Fr.refl _ _⟩
  | false =>
    refine (list_any wx B g D h1 hd hp.goodF.nodup (Nat.le_trans hp.goodF.len (by decide))).mono fun o w' hh => ?_
    obtain ⟨u, ho, hs, hf⟩ := hh
    exact ⟨u, ho, by rw [hp.now.names] at hs; exact hs, hf⟩
theorem Two.listR {w wx : World} {g r m : Nat} {D : Dk} {X : R.Rk} {b : Int} (h : Two w wx g r D X) (hp : Pair D X b m) :
    Calls Try.prog 93 #[.pointer (some ⟨r, 0, none⟩)] wx fun o w' => ∃ u, o = .returned (.tuple #[u, .int .i64 (if D.down = true then 10 else 0)]) ∧ Strs w' u (if D.down = true then [] else X.now.map (·.1)) ∧ Fr wx w' (fun _ => False) := by
  obtain ⟨B, C, _, h2, _⟩ := h
  have := refList_any wx C r X h2 (Nat.le_trans hp.nowlen (by decide))
  rw [hp.down] at this
  exact this
theorem Two.down {w wx : World} {g r : Nat} {D : Dk} {X : R.Rk} (h : Two w wx g r D X) : Calls Try.prog 42 #[.pointer (some ⟨g, 0, none⟩)] wx fun o w' => o = .returned (.bool D.down) ∧ w' = wx := by
  obtain ⟨B, C, h1, _⟩ := h; exact down_any wx B g D h1
theorem Two.steps {w wx : World} {g r : Nat} {D : Dk} {X : R.Rk} (h : Two w wx g r D X) : Calls Try.prog 43 #[.pointer (some ⟨g, 0, none⟩)] wx fun o w' => o = .returned (.int .i64 D.steps) ∧ w' = wx := by
  obtain ⟨B, C, h1, _⟩ := h; exact steps_any h1
theorem Two.cells {w wx : World} {g r : Nat} {D : Dk} {X : R.Rk} (h : Two w wx g r D X) : wx.cell? ⟨r, 4, none⟩ = some (.bool X.down) ∧ wx.cell? ⟨r, 5, none⟩ = some (.int .i64 X.steps) := by
  obtain ⟨B, C, _, ⟨kv, nv, wv, q1, _⟩, _⟩ := h
  exact ⟨cell_of_block q1 4 _ rfl, cell_of_block q1 5 _ rfl⟩
theorem Two.read {w wx : World} {g r : Nat} {D : Dk} {X : R.Rk} (h : Two w wx g r D X) (n : ByteArray) :
    Calls Try.prog 31 #[.pointer (some ⟨g, 0, none⟩), .string n] wx fun o w2 => o = .returned (.tuple #[.string (D.read n).1, errV (D.read n).2]) ∧ Fr wx w2 (fun _ => False) := by
  obtain ⟨B, C, h1, _⟩ := h; exact read_any wx B g D n h1
theorem Two.readR {w wx : World} {g r m : Nat} {D : Dk} {X : R.Rk} {b : Int} (h : Two w wx g r D X) (hp : Pair D X b m) (n : ByteArray) :
    Calls Try.prog 32 #[.pointer (some ⟨r, 0, none⟩), .string n] wx fun o w2 => o = .returned (.tuple #[.string (D.read n).1, .int .i64 (D.read n).2]) ∧ w2 = wx := by
  obtain ⟨B, C, _, h2, _⟩ := h
  have := refRead_any wx C r X n h2 (Nat.le_trans hp.nowlen (by decide))
  rw [(hp.read n).1, (hp.read n).2] at this
  exact this
theorem strs_fr {w w' : World} {v : Value} {l : List ByteArray} (h : Strs w v l) (hf : Fr w w' (fun _ => False)) : Strs w' v l := h.kept (hf.below (Nat.le_refl _) (fun _ e => e.elim)) (Nat.le_refl _)
theorem same_true {A : List ByteArray} {o : Ending} (h : Same A A o) : o = .returned (.bool true) := by
  obtain ⟨b, ho, hb⟩ := h
  rw [ho, hb rfl]
set_option maxRecDepth 100000 in
set_option maxHeartbeats 2000000 in
theorem asDisk_any {w wx : World} {g r m : Nat} {D : Dk} {X : R.Rk} {b : Int} (h : Two w wx g r D X) (hp : Pair D X b m) :
    Calls Try.prog 44 #[.pointer (some ⟨g, 0, none⟩), .pointer (some ⟨r, 0, none⟩)] wx fun o w' => o = .returned (.bool true) ∧ Fr wx w' (fun _ => False) := by
  obtain ⟨k, hk⟩ : ∃ k : Nat, k = if D.down = true then 10 else 0 := ⟨_, rfl⟩
  obtain ⟨L, hL⟩ : ∃ L : List ByteArray, L = if D.down = true then [] else X.now.map (·.1) := ⟨_, rfl⟩
  have hLl : L.length ≤ 40 := by
    rw [hL]; split
    · exact Nat.zero_le _
    · rw [List.length_map]; exact hp.nowlen
  have HLS := hide (h.lists hp)
  have HK2 : Hid (∀ w2, Fr wx w2 (fun _ => False) → Two w w2 g r D X) := fun w2 hf => h.keep hf
  have HP := hide hp
  have HLR : Hid (∀ w2, Fr wx w2 (fun _ => False) → Calls Try.prog 93 #[.pointer (some ⟨r, 0, none⟩)] w2 fun o w' => ∃ u, o = .returned (.tuple #[u, .int .i64 k]) ∧ Strs w' u L ∧ Fr w2 w' (fun _ => False)) := by
    intro w2 hf
    have := (h.keep hf).listR hp
    rw [← hL] at this
    have e : ((if D.down = true then (10 : Int) else 0)) = (k : Int) := by rw [hk]; split <;> rfl
    rw [e] at this
    exact this
  rw [← hk, ← hL] at HLS
  have HDN := hide hp.down
  have HST := hide hp.steps
  clear h hp hk hL
  go_enter Try.func44, Try.ntmps44
  go_wp2_with fail
  refine HLS.out.mono ?_
  rintro o w1 ⟨u1, rfl, hs1, hf1⟩
  obtain ⟨a1, c1, rfl, _⟩ := id hs1
  have HS1 := hide hs1
  have HF1 := hide hf1
  have HLR1 := hide (HLR.out w1 hf1)
  clear hs1 hf1 HLS HLR
  obtain ⟨E, hE⟩ : ∃ E, E = errV k := ⟨_, rfl⟩
  have HE := hide hE
  rw [← hE]
  clear hE
  go_wp2_with fail
  refine HLR1.out.mono ?_
  rintro o w2 ⟨u2, rfl, hs2, hf2⟩
  obtain ⟨a2, c2, rfl, _⟩ := id hs2
  have HS2 := hide hs2
  have HF2 : Hid (Fr wx w2 (fun _ => False)) := HF1.out.trans hf2 (fun _ _ e => e)
  have HS12 := hide (strs_fr HS1.out hf2)
  have HSE : Hid (∀ w, Calls Try.prog 22 #[E, .int .i64 k] w fun e w' => e = .returned (.bool true) ∧ w' = w) := fun w => by rw [HE.out]; exact same_errV k w
  have HSM := hide (sameTexts_any L L (.slice a1 L.length c1) (.slice a2 L.length c2) w2.drew (by omega) HS12.out HS2.out)
  have hT2 := HK2.out w2 HF2.out
  obtain ⟨s4, s5⟩ := hT2.cells
  rw [HDN.out] at s4
  rw [HST.out] at s5
  have HKC : Hid (∀ W, Below w2.drew.heap.size w2.drew W → W.cell? ⟨r, 4, none⟩ = some (.bool D.down) ∧ W.cell? ⟨r, 5, none⟩ = some (.int .i64 D.steps)) := fun W hb => ⟨kept_cell (w := w2.drew) hb s4, kept_cell (w := w2.drew) hb s5⟩
  have HFB : Hid (∀ W, Below w2.drew.heap.size w2.drew W → Fr w2 W (fun _ => False)) := fun W hb => ⟨hb.1, hb.2, hb.3, hb.4, fun c hc _ => hb.5 c hc⟩
  have HDW : Hid (∀ W, Below w2.drew.heap.size w2.drew W → Calls Try.prog 42 #[.pointer (some ⟨g, 0, none⟩)] W fun o w' => o = .returned (.bool D.down) ∧ w' = W) := fun W hb => (hT2.keep (HFB.out W hb)).down
  have HSW : Hid (∀ W, Below w2.drew.heap.size w2.drew W → Calls Try.prog 43 #[.pointer (some ⟨g, 0, none⟩)] W fun o w' => o = .returned (.int .i64 D.steps) ∧ w' = W) := fun W hb => (hT2.keep (HFB.out W hb)).steps
  clear hs2 hf2 HLR1 HS1 HE hT2
  go_wp2_with fail
  go_region_held3 (fun W' => W'.cell? ⟨r, 4, none⟩ = some (.bool D.down) ∧ W'.cell? ⟨r, 5, none⟩ = some (.int .i64 D.steps)) (first | exact ⟨s4, s5⟩ | exact ⟨t4, t5⟩ | go_keep)
    (first
      | (go_at_call 22; (with_reducible refine Calls.mono (HSE.out _) ?_); rintro o w3 ⟨rfl, rfl⟩)
      | (go_at_call 50; (with_reducible refine Calls.mono HSM.out ?_); rintro o w3 ⟨hsm, hb3⟩; obtain rfl := same_true hsm; obtain ⟨t4, t5⟩ := HKC.out w3 hb3)
      | (go_at_call 42; (with_reducible refine Calls.mono (HDW.out _ hb3) ?_); rintro o w4 ⟨rfl, rfl⟩)
      | (go_at_call 43; (with_reducible refine Calls.mono (HSW.out _ hb3) ?_); rintro o w4 ⟨rfl, rfl⟩))
  have HF4 : Hid (Fr wx w4 (fun _ => False)) := HF2.out.trans (HFB.out w4 hb3) (fun _ _ e => e)
  have HS4 := hide (strs_fr HS2.out (HFB.out w4 hb3))
  clear t4 t5 s4 s5 hsm hb3 HFB HDW HSW HKC HSM HS12 HS2 HF1
  go_wp2_with fail
  go_loopw [9] (fun vi wy => ∃ i : Nat, i ≤ L.length ∧ vi = .int .i64 i ∧ Fr wx wy (fun _ => False) ∧ Strs wy (.slice a2 L.length c2) L) (fun vi _ => L.length - (intOf vi).toNat)
  case atStart => exact ⟨0, Nat.zero_le _, rfl, HF4.out, HS4.out⟩
  case round =>
    obtain ⟨wy, hwy⟩ : ∃ z, z = wr := ⟨_, rfl⟩
    subst hwy
    obtain ⟨i, hi, rfl, hfy, hsy⟩ := hrel
    by_cases hlt : i < L.length
    · obtain ⟨n, hn⟩ : ∃ n, L[i]? = some n := ⟨_, List.getElem?_eq_getElem hlt⟩
      obtain ⟨b1, o1, rfl, y0⟩ := hsy.at hn
      have hTy := HK2.out wy hfy
      have HRD := hide (hTy.read n)
      have HRR : Hid (∀ W, Fr wy W (fun _ => False) → W.cell? ⟨b1, o1 + i, none⟩ = some (.string n) ∧ Calls Try.prog 32 #[.pointer (some ⟨r, 0, none⟩), .string n] W fun o w2 => o = .returned (.tuple #[.string (D.read n).1, .int .i64 (D.read n).2]) ∧ w2 = W) := fun W hf => ⟨kept_cell (hf.below (Nat.le_refl _) (fun _ e => e.elim)) y0, (hTy.keep hf).readR HP.out n⟩
      have HFY := hide hfy
      have HSY := hide hsy
      clear hTy hfy hsy hn
      go_wp2_with fail
      refine HRD.out.mono ?_
      rintro o w5 ⟨rfl, hf5⟩
      obtain ⟨z0, hR5⟩ := HRR.out w5 hf5
      have HR5 := hide hR5
      have HF5 := hide hf5
      have HSE5 := hide (same_errV (D.read n).2 w5)
      generalize (D.read n).1 = dx at *
      generalize (D.read n).2 = kx at *
      obtain ⟨E2, hE2⟩ : ∃ E, E = errV kx := ⟨_, rfl⟩
      rw [← hE2] at HSE5
      rw [← hE2]
      clear hR5 hf5 HRR HRD y0 hE2
      go_wp2_with fail
      refine HR5.out.mono ?_
      rintro o w6 ⟨rfl, hw6⟩
      subst hw6
      go_wp2_with fail
      refine HSE5.out.mono ?_
      rintro o w7 ⟨rfl, hw7⟩
      subst hw7
      go_wp2_with fail
      go_roundw
      case rel => exact ⟨i + 1, by omega, by go_num, HFY.out.trans HF5.out (fun _ _ e => e), strs_fr HSY.out HF5.out⟩
      case measure => simp [intOf]; omega
    · have HFY := hide hfy
      clear hfy hsy
      go_wp2_with fail
      go_ret
      exact ⟨rfl, HFY.out⟩
end Go.Proofs.Ytmlbcdofogffkab
namespace Go.Proofs.Ytmlbcdofogffkab
open Go.RowKit
attribute [local go_sem ↓] Go.wp_at_zero Go.wp_at_succ
/-- One disk in memory. -/
def One (w wx : World) (g : Nat) (D : Dk) : Prop := ∃ B, Disk wx B g D ∧ (∀ x, B x → w.heap.size ≤ x ∧ x < wx.heap.size) ∧ Fr w wx (fun _ => False)
theorem one_of {w wx w2 : World} {B B' : Nat → Prop} {g : Nat} {D2 : Dk} (h3 : ∀ x, B x → w.heap.size ≤ x ∧ x < wx.heap.size) (h8 : Fr w wx (fun _ => False)) (hD : Disk w2 B' g D2) (hB : ∀ x, B' x → B x ∨ wx.heap.size ≤ x) (hf : Fr wx w2 B) : One w w2 g D2 := by
  have hs8 := h8.size
  refine ⟨fun x => B' x ∧ x < w2.heap.size, hD.shrink, fun x hx => ⟨?_, hx.2⟩, h8.trans hf (fun c hc e => by have := (h3 c e).1; omega)⟩
  rcases hB x hx.1 with e | e
  · exact (h3 x e).1
  · omega
def spA : ByteArray := ⟨#[97]⟩
def spX : ByteArray := ⟨#[120, 121]⟩
def spC : Ch := ⟨0, spA, ⟨#[]⟩, spX⟩
theorem sp_fit : Dk.new.fit spA spX.size = 0 := by decide +kernel
theorem One.made {w w1 : World} {g : Nat} (hD : Disk w1 (fun c => w.heap.size ≤ c) g Dk.new) (hf : Fr w w1 (fun _ => False)) : One w w1 g Dk.new := ⟨_, hD.shrink, fun _ hx => hx, hf⟩
theorem One.writes {w w1 : World} {g : Nat} (h : One w w1 g Dk.new) : Calls Try.prog 23 #[.pointer (some ⟨g, 0, none⟩), .string spA, .string spX] w1 fun o w2 => o = .returned .nilIface ∧ One w w2 g (Dk.new.did4 spC) := by
  obtain ⟨B, h1, h3, h8⟩ := h
  refine (write4 w1 B g Dk.new spA spX h1 (fun x hx => (h3 x hx).2) (by decide) (by decide) (by decide) (by decide) ⟨by decide, Nat.zero_le _⟩ (Nat.zero_le _)).mono fun o w2 hh => ?_
  rcases hh with ⟨hk, _⟩ | ⟨_, hd, hf⟩
  · exact absurd sp_fit hk
  · rcases hd with ⟨hfa, _⟩ | ⟨_, ho, B', hD, hB'⟩
    · rcases hfa with e | e <;> cases e
    · exact ⟨ho, one_of h3 h8 hD hB' hf⟩
theorem sp_kept : (Dk.new.did4 spC).keep4 1 = [(spA, spX)] := rfl
theorem One.syncs {w w1 : World} {g : Nat} (h : One w w1 g (Dk.new.did4 spC)) : Calls Try.prog 33 #[.pointer (some ⟨g, 0, none⟩)] w1 fun o w2 => o = .returned .nilIface ∧ One w w2 g ⟨[(spA, spX)], [(spA, spX)], [], 2, -1, false⟩ := by
  obtain ⟨B, h1, h3, h8⟩ := h
  have hone : ∀ k c, (Dk.new.did4 spC).chg[k]? = some c → k = 0 ∧ c = spC := by
    intro k c hc
    have e : (Dk.new.did4 spC).chg = [spC] := rfl
    rw [e] at hc
    cases k with
    | zero => exact ⟨rfl, by simpa using hc.symm⟩
    | succ k => cases hc
  refine (sync4 w1 B g (Dk.new.did4 spC) h1 (by decide) (by decide) (by decide) (fun c hc => ?_) (fun k c _ hc => ?_)).mono fun o w2 hh => ?_
  · obtain ⟨k, hk⟩ := List.getElem?_of_mem hc
    rw [(hone k c hk).2]; exact .inl rfl
  · obtain ⟨rfl, rfl⟩ := hone k c hc
    exact ⟨by decide, Nat.zero_le _⟩
  · rcases hh.1 with ⟨hfa, _⟩ | ⟨_, ho, hD⟩
    · rcases hfa with e | e <;> cases e
    · exact ⟨ho, one_of h3 h8 (D2 := ⟨[(spA, spX)], [(spA, spX)], [], 2, -1, false⟩) hD (fun _ h => .inl h) hh.2⟩
theorem One.restarts {w w1 : World} {g : Nat} (h : One w w1 g ⟨[(spA, spX)], [(spA, spX)], [], 2, -1, false⟩) : Calls Try.prog 38 #[.pointer (some ⟨g, 0, none⟩), .int .i64 0, .int .i64 0] w1 fun o w2 => o = .returned (.tuple #[]) ∧ One w w2 g ⟨[(spA, spX)], [(spA, spX)], [], 2, -1, false⟩ := by
  obtain ⟨B, h1, h3, h8⟩ := h
  refine (restart4 w1 B g _ 0 0 h1 (by decide) (fun c hc => by cases hc) (fun k c hc => by cases hc) (by decide) (by decide) (by show [spA].Nodup; simp)).mono fun o w2 hh => ?_
  obtain ⟨ho, ⟨B', F2, hF2, hD2, hB'⟩, hf⟩ := hh
  have e : F2 = [(spA, spX)] := List.perm_singleton.1 hF2
  subst e
  exact ⟨ho, one_of h3 h8 hD2 hB' hf⟩
theorem One.reads {w w1 : World} {g : Nat} (h : One w w1 g ⟨[(spA, spX)], [(spA, spX)], [], 2, -1, false⟩) : Calls Try.prog 31 #[.pointer (some ⟨g, 0, none⟩), .string spA] w1 fun o w2 => o = .returned (.tuple #[.string spX, .nilIface]) ∧ One w w2 g ⟨[(spA, spX)], [(spA, spX)], [], 2, -1, false⟩ := by
  obtain ⟨B, h1, h3, h8⟩ := h
  have e : (⟨[(spA, spX)], [(spA, spX)], [], 2, -1, false⟩ : Dk).read spA = (spX, 0) := by rfl
  have := read_any w1 B g _ spA h1
  rw [e] at this
  exact this.mono fun o w2 hh => ⟨hh.1, one_of h3 h8 (h1.fr hh.2 (fun _ _ e => e)) (fun _ h => .inl h) (hh.2.weak (fun _ _ e => e.elim))⟩
set_option maxRecDepth 100000 in
set_option maxHeartbeats 1000000 in
theorem spins_any (w : World) : Calls Try.prog 18 #[] w fun o w' => o = .returned (.bool true) ∧ Fr w w' (fun _ => False) := by
  have HN := hide (new_any w)
  go_enter Try.func18, Try.ntmps18
  go_wp2_with fail
  refine HN.out.mono ?_
  rintro o w1 ⟨g, rfl, hD1, hf1⟩
  have H1 := hide (One.made hD1 hf1).writes
  clear hD1 hf1 HN
  go_wp2_with fail
  refine H1.out.mono ?_
  rintro o w2 ⟨rfl, h2⟩
  have H2 := hide h2.syncs
  clear h2 H1
  go_wp2_with fail
  refine H2.out.mono ?_
  rintro o w3 ⟨rfl, h3⟩
  have H3 := hide h3.restarts
  clear h3 H2
  go_wp2_with fail
  refine H3.out.mono ?_
  rintro o w4 ⟨rfl, h4⟩
  have H4 := hide h4.reads
  clear h4 H3
  go_wp2_with fail
  refine H4.out.mono ?_
  rintro o w5 ⟨rfl, h5⟩
  have HS := hide (same_nil 0 w5)
  have HF := hide h5
  obtain ⟨B, hD, _, hf⟩ := h5
  have HST := hide (steps_any hD)
  have HFR := hide hf
  clear hD hf H4
  rw [show spX = ⟨#[120, 121]⟩ from rfl]
  go_wp2_with (first | (go_at_call 22; (with_reducible refine Calls.mono HS.out ?_); rintro o w6 ⟨rfl, rfl⟩) | (go_at_call 43; (with_reducible refine Calls.mono HST.out ?_); rintro o w6 ⟨rfl, rfl⟩))
  go_ret
  exact ⟨rfl, HFR.out⟩
end Go.Proofs.Ytmlbcdofogffkab
