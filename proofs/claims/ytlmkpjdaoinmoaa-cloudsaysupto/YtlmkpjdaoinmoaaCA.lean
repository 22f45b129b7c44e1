/- For TopToken and CloudSays: maps whose keys are texts, or numbers, and whose values are any values. -/
import Derived.Test.YtlmkpjdaoinmoaaDB
namespace Go.Proofs.Ytlmkpjdaoinmoaa
open Go.RowKit
open Go.ChangeMaps Go.MapKept
namespace M
theorem Stamps.drop {es : Array MapEntry} {c : Nat} (h : Stamps es c) (j : Nat) (hj : j < es.size) : Stamps (es.eraseIdxIfInBounds j) c := by
  have e : (es.eraseIdxIfInBounds j).toList = es.toList.eraseIdx j := by
    unfold Array.eraseIdxIfInBounds
    rw [dif_pos hj]; simp
  refine ⟨fun x hx => h.1 x ?_, ?_⟩
  · rw [e] at hx
    exact (List.eraseIdx_sublist _ _).subset hx
  · rw [e]
    exact (List.eraseIdx_sublist _ _).map _ |>.nodup h.2
end M
namespace C
theorem bno {n m : ByteArray} (h : n ≠ m) : (n == m) = false := by
  cases q : (n == m) with
  | false => rfl
  | true => exact absurd ((bytes_beq _ _).1 q) h
theorem beq_no {α : Type} [BEq α] [LawfulBEq α] {n m : α} (h : n ≠ m) : (n == m) = false := beq_eq_false_iff_ne.2 h
/-- All but those of that key. -/
def less {κ α : Type} [BEq κ] (S : List (κ × α)) (n : κ) : List (κ × α) := S.filter (fun x => !(n == x.1))
theorem less_cons {κ α : Type} [BEq κ] (x : κ × α) (S : List (κ × α)) (n : κ) : less (x :: S) n = (if n == x.1 then [] else [x]) ++ less S n := by
  unfold less
  cases h : (n == x.1) <;> simp [h]
theorem less_sub {κ α : Type} [BEq κ] (F : List (κ × α)) (n : κ) : (less F n).Sublist F := List.filter_sublist
theorem less_absent {κ α : Type} [BEq κ] [LawfulBEq κ] {F : List (κ × α)} {n : κ} (h : n ∉ F.map (·.1)) : less F n = F := by
  unfold less
  rw [List.filter_eq_self]
  intro x hx
  cases hb : (n == x.1) with
  | false => rfl
  | true => exact absurd (List.mem_map.2 ⟨x, hx, (beq_iff_eq.1 hb).symm⟩) h
theorem less_mem {κ α : Type} [BEq κ] [LawfulBEq κ] {F : List (κ × α)} {n : κ} {x : κ × α} (h : x ∈ less F n) : x ∈ F ∧ n ≠ x.1 := by
  have h2 := List.mem_filter.1 h
  refine ⟨h2.1, fun e => ?_⟩
  have h3 : (n == x.1) = false := by simpa using h2.2
  rw [beq_iff_eq.2 e] at h3; cases h3
end C
namespace T
/-- Where a name stands, and what is there. -/
def at_ (n : Int) : List (Int × Value) → Nat → Option (Nat × Value)
  | [], _ => none
  | x :: F, i => if n == x.1 then some (i, x.2) else at_ n F (i + 1)
def ent (x : Int × Value) : Value × Value := (.int .i64 x.1, x.2)
/-- Block b is a map of these files. -/
def Is (w : World) (b : Nat) (F : List (Int × Value)) : Prop := ∃ es c, w.heap[b]? = some (.map es c) ∧ es.toList.map (fun e => (e.key, e.val)) = F.map ent ∧ M.Stamps es c
theorem find_str (n : Int) : ∀ (es : List MapEntry) (F : List (Int × Value)) (i : Nat), es.map (fun e => (e.key, e.val)) = F.map ent → Instr.findNow (.int .i64) (.int .i64 n) es i = some ((at_ n F i).map (fun p => (p.1, p.2)))
  | [], F, i, h => by
    have : F = [] := by cases F with | nil => rfl | cons a t => simp at h
    subst this; rfl
  | e :: es, F, i, h => by
    cases F with
    | nil => simp at h
    | cons x F =>
      simp only [List.map_cons, List.cons.injEq] at h
      obtain ⟨h1, h2⟩ := h
      have hk : e.key = .int .i64 x.1 := congrArg Prod.fst h1
      have hv : e.val = x.2 := congrArg Prod.snd h1
      rw [Instr.findNow, hk, Instr.sameNow, at_]
      cases hb : n == x.1 with
      | true => simp [hv]
      | false => simp [find_str n es F (i + 1) h2]
theorem find_run (n : Int) (es : Array MapEntry) (F : List (Int × Value)) (w : World) (h : es.toList.map (fun e => (e.key, e.val)) = F.map ent) : (Instr.findKey 3 (.int .i64 n) es.toList).run Try.prog w = .ok ((at_ n F 0).map (fun p => (p.1, p.2))) w := by
  unfold Instr.findKey
  simp [go_sem, find_str n es.toList F 0 h]
theorem key_run (e : Bool) (n : Int) (w : World) : (Instr.checkKey e 10000 3 (.int .i64 n)).run Try.prog w = .ok () w := by
  show (Instr.checkKey e (9999 + 1) 3 (.int .i64 n)).run Try.prog w = .ok () w
  rw [Instr.checkKey]
  simp [go_sem]
theorem look {t e : TypeId} (hu : Try.prog.underlying t = some (.map 3 e)) {w : World} {b : Nat} {F : List (Int × Value)} (h : Is w b F) (n : Int) (ok : Bool) {z : Value} (hz : ∀ w, (zeroValue e).run Try.prog w = .ok z w) :
    (Instr.lookup t (.map (some b)) (.int .i64 n) ok).run Try.prog w = .ok (match at_ n F 0 with | some p => if ok then .tuple #[p.2, .bool true] else p.2 | none => if ok then .tuple #[z, .bool false] else z) w := by
  obtain ⟨es, c, hb, hF, hS⟩ := h
  have hf := find_run n es F w hF
  simp only [Instr.lookup, Sem.run_bind, run_underlying hu, MapKept.run_getObj_map hb, key_run, hf, Result.andThen_ok, Sem.run_pure]
  cases at_ n F 0 with
  | none => simp [go_sem, hz]
  | some p => simp [go_sem]
/-- A file put in. -/
def put (F : List (Int × Value)) (n : Int) (d : Value) : List (Int × Value) :=
  match at_ n F 0 with
  | some p => F.set p.1 (n, d)
  | none => F ++ [(n, d)]
theorem at_spec (n : Int) : ∀ (F : List (Int × Value)) (i : Nat) (p : Nat × Value), at_ n F i = some p → ∃ j x, p.1 = i + j ∧ F[j]? = some x ∧ n = x.1 ∧ p.2 = x.2
  | [], _, _, h => by cases h
  | x :: F, i, p, h => by
    rw [at_] at h
    split at h
    · rename_i hb
      cases h
      exact ⟨0, x, rfl, rfl, beq_iff_eq.1 hb, rfl⟩
    · obtain ⟨j, y, h1, h2, h3⟩ := at_spec n F (i + 1) p h
      exact ⟨j + 1, y, by omega, by simpa using h2, h3⟩
theorem update {t e : TypeId} (hu : Try.prog.underlying t = some (.map 3 e)) {w : World} {b : Nat} {F : List (Int × Value)} (h : Is w b F) (n : Int) (d : Value) :
    ∃ w', (Instr.mapUpdate t (.map (some b)) (.int .i64 n) d).run Try.prog w = .ok () w' ∧ Is w' b (put F n d) ∧ w.grownBy w' (some b) := by
  obtain ⟨es, c, hb, hF, hS⟩ := h
  have hf := find_run n es F w hF
  cases ha : at_ n F 0 with
  | none =>
    rw [ha] at hf
    refine ⟨ChangeMaps.setBlock w b (.map (es.push ⟨.int .i64 n, d, c⟩) (c + 1)), ?_, ⟨_, _, heap_setBlock_same hb _, ?_, hS.push _ _⟩, ⟨rfl, rfl, rfl, by simp [ChangeMaps.setBlock], fun i _ hi => heap_setBlock_other hb _ (fun e => hi (by rw [e]))⟩⟩
    · simp [Instr.mapUpdate, run_underlying hu, MapKept.run_getObj_map hb, key_run, hf, MapKept.run_setObj_map _ hb, Result.andThen, ChangeMaps.setBlock]
    · unfold put
      rw [ha]
      simp [hF, ent]
  | some p =>
    rw [ha] at hf
    obtain ⟨j, x, h1, h2, h3, h4⟩ := at_spec n F 0 p ha
    have hj : p.1 = j := by omega
    have hje : j < es.size := by
      have h5 := congrArg List.length hF
      simp at h5
      rw [h5]; exact (List.getElem?_eq_some_iff.1 h2).1
    have hk : es[j].key = .int .i64 n := by
      have h5 : (es.toList.map (fun e => (e.key, e.val)))[j]? = (F.map ent)[j]? := by rw [hF]
      rw [List.getElem?_map, List.getElem?_map, h2] at h5
      simp [hje, ent] at h5
      rw [h5.1, h3]
    refine ⟨setBlock w b (.map (es.modify j fun e => { e with key := .int .i64 n, val := d }) c), ?_, ⟨_, _, heap_setBlock_same hb _, ?_, hS.turn j _ _⟩, ⟨rfl, rfl, rfl, by simp [setBlock], fun i _ hi => heap_setBlock_other hb _ (fun e => hi (by rw [e]))⟩⟩
    · have hsb : Instr.sameBits 10000 (.int .i64 n) (.int .i64 n) = true := by simp [Instr.sameBits]
      simp [Instr.mapUpdate, run_underlying hu, MapKept.run_getObj_map hb, key_run, hf, MapKept.run_setObj_map _ hb, Result.andThen, setBlock, Instr.keyThatStays, hj, hje, hk, hsb]
    · unfold put
      rw [ha]
      simp only
      rw [hj, Array.toList_modify]
      apply List.ext_getElem?
      intro i
      have h5 : (es.toList.map (fun e => (e.key, e.val)))[i]? = (F.map ent)[i]? := by rw [hF]
      rw [List.getElem?_map, List.getElem?_map] at h5 ⊢
      rw [List.getElem?_modify, List.getElem?_set]
      by_cases hij : j = i
      · subst hij
        have hF2 : j < F.length := (List.getElem?_eq_some_iff.1 h2).1
        simp [hje, hF2, ent]
      · simp only [if_neg hij]
        cases he : es.toList[i]? with
        | none => rw [he] at h5; simpa using h5
        | some e => rw [he] at h5; simpa using h5
theorem Is.kept {w w' : World} {b : Nat} {F : List (Int × Value)} {row : Option Nat} (h : Is w b F) (hg : w.grownBy w' row) (hne : row ≠ some b) : Is w' b F := by
  obtain ⟨es, c, hb, hF⟩ := h
  exact ⟨es, c, (hg.block b (Array.getElem?_eq_some_iff.1 hb).1 (fun e => hne e.symm)).trans hb, hF⟩
theorem Is.below {w w' : World} {b B : Nat} {F : List (Int × Value)} (h : Is w b F) (hg : Below B w w') (hB : b < B) : Is w' b F := by
  obtain ⟨es, c, hb, hF⟩ := h
  exact ⟨es, c, (hg.block b hB).trans hb, hF⟩
theorem Is.at {w w' : World} {b : Nat} {F : List (Int × Value)} (h : Is w b F) (hb : w'.heap[b]? = w.heap[b]?) : Is w' b F := by
  obtain ⟨es, c, h1, hF⟩ := h
  exact ⟨es, c, hb.trans h1, hF⟩
theorem Is.lt {w : World} {b : Nat} {F : List (Int × Value)} (h : Is w b F) : b < w.heap.size := by
  obtain ⟨es, c, hb, _⟩ := h
  exact (Array.getElem?_eq_some_iff.1 hb).1
theorem Is.made (w : World) : Is (w.alloc (.map #[] 0)) w.heap.size [] := ⟨#[], 0, heap_alloc_new _ _, rfl, (fun e he => by cases he), List.nodup_nil⟩
/-- A file taken out. -/
def del (F : List (Int × Value)) (n : Int) : List (Int × Value) :=
  match at_ n F 0 with
  | some p => F.eraseIdx p.1
  | none => F
theorem delete {t e : TypeId} (hu : Try.prog.underlying t = some (.map 3 e)) {w : World} {b : Nat} {F : List (Int × Value)} (h : Is w b F) (n : Int) (ty : TypeId) :
    ∃ w', (Builtin.delete_ #[t, 3] ty #[.map (some b), .int .i64 n]).run Try.prog w = .ok (.tuple #[]) w' ∧ Is w' b (del F n) ∧ w.grownBy w' (some b) := by
  obtain ⟨es, c, hb, hF, hS⟩ := h
  have hf := find_run n es F w hF
  cases ha : at_ n F 0 with
  | none =>
    rw [ha] at hf
    refine ⟨ChangeMaps.setBlock w b (.map es c), ?_, ⟨_, _, heap_setBlock_same hb _, ?_, hS⟩, ⟨rfl, rfl, rfl, by simp [ChangeMaps.setBlock], fun i _ hi => heap_setBlock_other hb _ (fun e => hi (by rw [e]))⟩⟩
    · simp [Builtin.delete_, run_underlying hu, MapKept.run_getObj_map hb, key_run, hf, MapKept.run_setObj_map _ hb, Result.andThen, ChangeMaps.setBlock]
    · unfold del
      rw [ha]
      exact hF
  | some p =>
    rw [ha] at hf
    obtain ⟨j, x, h1, h2, h3, h4⟩ := at_spec n F 0 p ha
    have hj : p.1 = j := by omega
    have hje : j < es.size := by
      have h5 := congrArg List.length hF
      simp at h5
      rw [h5]; exact (List.getElem?_eq_some_iff.1 h2).1
    refine ⟨setBlock w b (.map (es.eraseIdxIfInBounds j) c), ?_, ⟨_, _, heap_setBlock_same hb _, ?_, hS.drop j hje⟩, ⟨rfl, rfl, rfl, by simp [setBlock], fun i _ hi => heap_setBlock_other hb _ (fun e => hi (by rw [e]))⟩⟩
    · simp [Builtin.delete_, run_underlying hu, MapKept.run_getObj_map hb, key_run, hf, MapKept.run_setObj_map _ hb, Result.andThen, setBlock, hj]
    · unfold del
      rw [ha]
      simp only
      rw [hj]
      have e : (es.eraseIdxIfInBounds j).toList = es.toList.eraseIdx j := by
        unfold Array.eraseIdxIfInBounds
        rw [dif_pos hje]; simp
      rw [e]
      have e2 : ∀ {α β : Type} (g : α → β) (l : List α) (j : Nat), (l.eraseIdx j).map g = (l.map g).eraseIdx j := by
        intro α β g l
        induction l with
        | nil => intro j; rfl
        | cons a t ih =>
          intro j
          cases j with
          | zero => rfl
          | succ j => simp [ih]
      rw [e2, e2, hF]
theorem at_shift (n : Int) : ∀ (S : List (Int × Value)) (i : Nat), at_ n S i = (at_ n S 0).map (fun p => (p.1 + i, p.2))
  | [], _ => rfl
  | x :: S, i => by
    rw [at_, at_]
    split
    · simp
    · rw [at_shift n S (i + 1), at_shift n S (0 + 1), Option.map_map]
      congr 1
      funext p
      simp
      omega
theorem put_cons (x : Int × Value) (F : List (Int × Value)) (n : Int) (d : Value) : put (x :: F) n d = if n == x.1 then (n, d) :: F else x :: put F n d := by
  unfold put
  rw [at_]
  cases h : (n == x.1) with
  | true => simp
  | false =>
    rw [if_neg (by simp), if_neg (by simp), at_shift]
    cases at_ n F 0 with
    | none => rfl
    | some p => rfl
theorem del_cons (x : Int × Value) (F : List (Int × Value)) (n : Int) : del (x :: F) n = if n == x.1 then F else x :: del F n := by
  unfold del
  rw [at_]
  cases h : (n == x.1) with
  | true => simp
  | false =>
    rw [if_neg (by simp), if_neg (by simp), at_shift]
    cases at_ n F 0 with
    | none => rfl
    | some p => rfl
theorem del_less {n : Int} : ∀ {F : List (Int × Value)}, (F.map (·.1)).Nodup → del F n = C.less F n
  | [], _ => rfl
  | x :: F, h => by
    rw [List.map_cons, List.nodup_cons] at h
    rw [del_cons, C.less_cons]
    cases hb : (n == x.1) with
    | true => rw [if_pos rfl, if_pos rfl, List.nil_append, C.less_absent (by rw [beq_iff_eq.1 hb]; exact h.1)]
    | false => rw [if_neg (by simp), if_neg (by simp), del_less h.2]; rfl
theorem put_perm {n : Int} {d : Value} : ∀ {F : List (Int × Value)}, (F.map (·.1)).Nodup → (put F n d).Perm ((n, d) :: C.less F n)
  | [], _ => List.Perm.refl _
  | x :: F, h => by
    rw [List.map_cons, List.nodup_cons] at h
    rw [put_cons, C.less_cons]
    cases hb : (n == x.1) with
    | true => rw [if_pos rfl, if_pos rfl, List.nil_append, C.less_absent (by rw [beq_iff_eq.1 hb]; exact h.1)]
    | false =>
      rw [if_neg (by simp), if_neg (by simp), List.singleton_append]
      exact ((put_perm h.2).cons x).trans (List.Perm.swap _ _ _)
/-- Who is said to have it. -/
def get (F : List (Int × Value)) (n : Int) : Option Value := (at_ n F 0).map (·.2)
theorem get_cons (x : Int × Value) (F : List (Int × Value)) (n : Int) : get (x :: F) n = if n == x.1 then some x.2 else get F n := by
  unfold get
  rw [at_]
  cases h : (n == x.1) with
  | true => simp
  | false =>
    rw [if_neg (by simp), if_neg (by simp), at_shift, Option.map_map]; rfl
theorem get_put (n m : Int) (d : Value) : ∀ F : List (Int × Value), get (put F n d) m = if n == m then some d else get F m
  | [] => by
    show get [(n, d)] m = _
    rw [get_cons]
    by_cases e : n = m
    · subst e; rfl
    · rw [C.beq_no e, C.beq_no (fun q => e q.symm)]
  | x :: F => by
    rw [put_cons]
    by_cases hx : n = x.1
    · rw [if_pos (beq_iff_eq.2 hx), get_cons, get_cons]
      by_cases e : n = m
      · subst e
        rw [if_pos (beq_iff_eq.2 rfl), if_pos (beq_iff_eq.2 rfl)]
      · rw [C.beq_no e, if_neg (show ¬ (m == (n, d).1) = true by rw [C.beq_no (fun q => e q.symm)]; simp), if_neg (show ¬ (m == x.1) = true by rw [← hx, C.beq_no (fun q => e q.symm)]; simp)]; simp
    · rw [C.beq_no hx, if_neg (by simp), get_cons, get_cons, get_put n m d F]
      by_cases e : n = m
      · subst e
        rw [C.beq_no hx, if_neg (by simp)]; simp
      · rw [C.beq_no e]; simp
theorem mem_keys {n : Int} : ∀ {F : List (Int × Value)}, n ∈ F.map (·.1) ↔ (get F n).isSome = true
  | [] => by simp [get, at_]
  | x :: F => by
    rw [List.map_cons, List.mem_cons, get_cons]
    by_cases e : n = x.1
    · rw [if_pos (beq_iff_eq.2 e)]; simp [e]
    · rw [C.beq_no e, if_neg (by simp), ← mem_keys (F := F)]
      exact ⟨fun h => h.resolve_left e, .inr⟩
theorem get_del {n m : Int} : ∀ {F : List (Int × Value)}, (F.map (·.1)).Nodup → get (del F n) m = if n == m then none else get F m
  | [], _ => by
    show get [] m = _
    simp [get, at_]
  | x :: F, h => by
    rw [List.map_cons, List.nodup_cons] at h
    rw [del_cons]
    by_cases hx : n = x.1
    · rw [if_pos (beq_iff_eq.2 hx), get_cons]
      by_cases e : n = m
      · subst e
        rw [if_pos (beq_iff_eq.2 rfl)]
        cases hg : get F n with
        | none => rfl
        | some d => exact absurd (mem_keys.2 (by rw [hg]; rfl)) (by rw [hx]; exact h.1)
      · rw [C.beq_no e, if_neg (show ¬ (m == x.1) = true by rw [← hx, C.beq_no (fun q => e q.symm)]; simp)]; simp
    · rw [C.beq_no hx, if_neg (by simp), get_cons, get_cons, get_del h.2]
      by_cases e : n = m
      · subst e
        rw [C.beq_no hx, if_neg (by simp)]; simp
      · rw [C.beq_no e]; simp
theorem put_keys {n : Int} {d : Value} {F : List (Int × Value)} (h : (F.map (·.1)).Nodup) : ((put F n d).map (·.1)).Nodup := by
  refine (((put_perm (n := n) (d := d) h).map (·.1)).nodup_iff).2 ?_
  rw [List.map_cons, List.nodup_cons]
  refine ⟨fun hm => ?_, h.sublist ((C.less_sub F n).map _)⟩
  obtain ⟨x, hx, e⟩ := List.mem_map.1 hm
  exact (C.less_mem hx).2 e.symm
theorem del_keys {n : Int} {F : List (Int × Value)} (h : (F.map (·.1)).Nodup) : ((del F n).map (·.1)).Nodup := by
  rw [del_less h]; exact h.sublist ((C.less_sub F n).map _)
end T
namespace S
/-- Where a name stands, and what is there. -/
def at_ (n : ByteArray) : List (ByteArray × Value) → Nat → Option (Nat × Value)
  | [], _ => none
  | x :: F, i => if n == x.1 then some (i, x.2) else at_ n F (i + 1)
def ent (x : ByteArray × Value) : Value × Value := (.string x.1, x.2)
/-- Block b is a map of these files. -/
def Is (w : World) (b : Nat) (F : List (ByteArray × Value)) : Prop := ∃ es c, w.heap[b]? = some (.map es c) ∧ es.toList.map (fun e => (e.key, e.val)) = F.map ent ∧ M.Stamps es c
theorem find_str (n : ByteArray) : ∀ (es : List MapEntry) (F : List (ByteArray × Value)) (i : Nat), es.map (fun e => (e.key, e.val)) = F.map ent → Instr.findNow .string (.string n) es i = some ((at_ n F i).map (fun p => (p.1, p.2)))
  | [], F, i, h => by
    have : F = [] := by cases F with | nil => rfl | cons a t => simp at h
    subst this; rfl
  | e :: es, F, i, h => by
    cases F with
    | nil => simp at h
    | cons x F =>
      simp only [List.map_cons, List.cons.injEq] at h
      obtain ⟨h1, h2⟩ := h
      have hk : e.key = .string x.1 := congrArg Prod.fst h1
      have hv : e.val = x.2 := congrArg Prod.snd h1
      rw [Instr.findNow, hk, Instr.sameNow, at_]
      cases hb : n == x.1 with
      | true => simp [hv]
      | false => simp [find_str n es F (i + 1) h2]
theorem find_run (n : ByteArray) (es : Array MapEntry) (F : List (ByteArray × Value)) (w : World) (h : es.toList.map (fun e => (e.key, e.val)) = F.map ent) : (Instr.findKey 9 (.string n) es.toList).run Try.prog w = .ok ((at_ n F 0).map (fun p => (p.1, p.2))) w := by
  unfold Instr.findKey
  simp [go_sem, find_str n es.toList F 0 h]
theorem key_run (e : Bool) (n : ByteArray) (w : World) : (Instr.checkKey e 10000 9 (.string n)).run Try.prog w = .ok () w := by
  show (Instr.checkKey e (9999 + 1) 9 (.string n)).run Try.prog w = .ok () w
  rw [Instr.checkKey]
  simp [go_sem]
theorem look {t e : TypeId} (hu : Try.prog.underlying t = some (.map 9 e)) {w : World} {b : Nat} {F : List (ByteArray × Value)} (h : Is w b F) (n : ByteArray) (ok : Bool) {z : Value} (hz : ∀ w, (zeroValue e).run Try.prog w = .ok z w) :
    (Instr.lookup t (.map (some b)) (.string n) ok).run Try.prog w = .ok (match at_ n F 0 with | some p => if ok then .tuple #[p.2, .bool true] else p.2 | none => if ok then .tuple #[z, .bool false] else z) w := by
  obtain ⟨es, c, hb, hF, hS⟩ := h
  have hf := find_run n es F w hF
  simp only [Instr.lookup, Sem.run_bind, run_underlying hu, MapKept.run_getObj_map hb, key_run, hf, Result.andThen_ok, Sem.run_pure]
  cases at_ n F 0 with
  | none => simp [go_sem, hz]
  | some p => simp [go_sem]
/-- A file put in. -/
def put (F : List (ByteArray × Value)) (n : ByteArray) (d : Value) : List (ByteArray × Value) :=
  match at_ n F 0 with
  | some p => F.set p.1 (n, d)
  | none => F ++ [(n, d)]
theorem at_spec (n : ByteArray) : ∀ (F : List (ByteArray × Value)) (i : Nat) (p : Nat × Value), at_ n F i = some p → ∃ j x, p.1 = i + j ∧ F[j]? = some x ∧ n = x.1 ∧ p.2 = x.2
  | [], _, _, h => by cases h
  | x :: F, i, p, h => by
    rw [at_] at h
    split at h
    · rename_i hb
      cases h
      exact ⟨0, x, rfl, rfl, (bytes_beq _ _).1 hb, rfl⟩
    · obtain ⟨j, y, h1, h2, h3⟩ := at_spec n F (i + 1) p h
      exact ⟨j + 1, y, by omega, by simpa using h2, h3⟩
theorem update {t e : TypeId} (hu : Try.prog.underlying t = some (.map 9 e)) {w : World} {b : Nat} {F : List (ByteArray × Value)} (h : Is w b F) (n : ByteArray) (d : Value) :
    ∃ w', (Instr.mapUpdate t (.map (some b)) (.string n) d).run Try.prog w = .ok () w' ∧ Is w' b (put F n d) ∧ w.grownBy w' (some b) := by
  obtain ⟨es, c, hb, hF, hS⟩ := h
  have hf := find_run n es F w hF
  cases ha : at_ n F 0 with
  | none =>
    rw [ha] at hf
    refine ⟨ChangeMaps.setBlock w b (.map (es.push ⟨.string n, d, c⟩) (c + 1)), ?_, ⟨_, _, heap_setBlock_same hb _, ?_, hS.push _ _⟩, ⟨rfl, rfl, rfl, by simp [ChangeMaps.setBlock], fun i _ hi => heap_setBlock_other hb _ (fun e => hi (by rw [e]))⟩⟩
    · simp [Instr.mapUpdate, run_underlying hu, MapKept.run_getObj_map hb, key_run, hf, MapKept.run_setObj_map _ hb, Result.andThen, ChangeMaps.setBlock]
    · unfold put
      rw [ha]
      simp [hF, ent]
  | some p =>
    rw [ha] at hf
    obtain ⟨j, x, h1, h2, h3, h4⟩ := at_spec n F 0 p ha
    have hj : p.1 = j := by omega
    have hje : j < es.size := by
      have h5 := congrArg List.length hF
      simp at h5
      rw [h5]; exact (List.getElem?_eq_some_iff.1 h2).1
    have hk : es[j].key = .string n := by
      have h5 : (es.toList.map (fun e => (e.key, e.val)))[j]? = (F.map ent)[j]? := by rw [hF]
      rw [List.getElem?_map, List.getElem?_map, h2] at h5
      simp [hje, ent] at h5
      rw [h5.1, h3]
    refine ⟨setBlock w b (.map (es.modify j fun e => { e with key := .string n, val := d }) c), ?_, ⟨_, _, heap_setBlock_same hb _, ?_, hS.turn j _ _⟩, ⟨rfl, rfl, rfl, by simp [setBlock], fun i _ hi => heap_setBlock_other hb _ (fun e => hi (by rw [e]))⟩⟩
    · have hsb : Instr.sameBits 10000 (.string n) (.string n) = true := by simp [Instr.sameBits, (bytes_beq _ _).2 rfl]
      simp [Instr.mapUpdate, run_underlying hu, MapKept.run_getObj_map hb, key_run, hf, MapKept.run_setObj_map _ hb, Result.andThen, setBlock, Instr.keyThatStays, hj, hje, hk, hsb]
    · unfold put
      rw [ha]
      simp only
      rw [hj, Array.toList_modify]
      apply List.ext_getElem?
      intro i
      have h5 : (es.toList.map (fun e => (e.key, e.val)))[i]? = (F.map ent)[i]? := by rw [hF]
      rw [List.getElem?_map, List.getElem?_map] at h5 ⊢
      rw [List.getElem?_modify, List.getElem?_set]
      by_cases hij : j = i
      · subst hij
        have hF2 : j < F.length := (List.getElem?_eq_some_iff.1 h2).1
        simp [hje, hF2, ent]
      · simp only [if_neg hij]
        cases he : es.toList[i]? with
        | none => rw [he] at h5; simpa using h5
        | some e => rw [he] at h5; simpa using h5
theorem Is.kept {w w' : World} {b : Nat} {F : List (ByteArray × Value)} {row : Option Nat} (h : Is w b F) (hg : w.grownBy w' row) (hne : row ≠ some b) : Is w' b F := by
  obtain ⟨es, c, hb, hF⟩ := h
  exact ⟨es, c, (hg.block b (Array.getElem?_eq_some_iff.1 hb).1 (fun e => hne e.symm)).trans hb, hF⟩
theorem Is.below {w w' : World} {b B : Nat} {F : List (ByteArray × Value)} (h : Is w b F) (hg : Below B w w') (hB : b < B) : Is w' b F := by
  obtain ⟨es, c, hb, hF⟩ := h
  exact ⟨es, c, (hg.block b hB).trans hb, hF⟩
theorem Is.at {w w' : World} {b : Nat} {F : List (ByteArray × Value)} (h : Is w b F) (hb : w'.heap[b]? = w.heap[b]?) : Is w' b F := by
  obtain ⟨es, c, h1, hF⟩ := h
  exact ⟨es, c, hb.trans h1, hF⟩
theorem Is.lt {w : World} {b : Nat} {F : List (ByteArray × Value)} (h : Is w b F) : b < w.heap.size := by
  obtain ⟨es, c, hb, _⟩ := h
  exact (Array.getElem?_eq_some_iff.1 hb).1
theorem Is.made (w : World) : Is (w.alloc (.map #[] 0)) w.heap.size [] := ⟨#[], 0, heap_alloc_new _ _, rfl, (fun e he => by cases he), List.nodup_nil⟩
/-- A file taken out. -/
def del (F : List (ByteArray × Value)) (n : ByteArray) : List (ByteArray × Value) :=
  match at_ n F 0 with
  | some p => F.eraseIdx p.1
  | none => F
theorem delete {t e : TypeId} (hu : Try.prog.underlying t = some (.map 9 e)) {w : World} {b : Nat} {F : List (ByteArray × Value)} (h : Is w b F) (n : ByteArray) (ty : TypeId) :
    ∃ w', (Builtin.delete_ #[t, 9] ty #[.map (some b), .string n]).run Try.prog w = .ok (.tuple #[]) w' ∧ Is w' b (del F n) ∧ w.grownBy w' (some b) := by
  obtain ⟨es, c, hb, hF, hS⟩ := h
  have hf := find_run n es F w hF
  cases ha : at_ n F 0 with
  | none =>
    rw [ha] at hf
    refine ⟨ChangeMaps.setBlock w b (.map es c), ?_, ⟨_, _, heap_setBlock_same hb _, ?_, hS⟩, ⟨rfl, rfl, rfl, by simp [ChangeMaps.setBlock], fun i _ hi => heap_setBlock_other hb _ (fun e => hi (by rw [e]))⟩⟩
    · simp [Builtin.delete_, run_underlying hu, MapKept.run_getObj_map hb, key_run, hf, MapKept.run_setObj_map _ hb, Result.andThen, ChangeMaps.setBlock]
    · unfold del
      rw [ha]
      exact hF
  | some p =>
    rw [ha] at hf
    obtain ⟨j, x, h1, h2, h3, h4⟩ := at_spec n F 0 p ha
    have hj : p.1 = j := by omega
    have hje : j < es.size := by
      have h5 := congrArg List.length hF
      simp at h5
      rw [h5]; exact (List.getElem?_eq_some_iff.1 h2).1
    refine ⟨setBlock w b (.map (es.eraseIdxIfInBounds j) c), ?_, ⟨_, _, heap_setBlock_same hb _, ?_, hS.drop j hje⟩, ⟨rfl, rfl, rfl, by simp [setBlock], fun i _ hi => heap_setBlock_other hb _ (fun e => hi (by rw [e]))⟩⟩
    · simp [Builtin.delete_, run_underlying hu, MapKept.run_getObj_map hb, key_run, hf, MapKept.run_setObj_map _ hb, Result.andThen, setBlock, hj]
    · unfold del
      rw [ha]
      simp only
      rw [hj]
      have e : (es.eraseIdxIfInBounds j).toList = es.toList.eraseIdx j := by
        unfold Array.eraseIdxIfInBounds
        rw [dif_pos hje]; simp
      rw [e]
      have e2 : ∀ {α β : Type} (g : α → β) (l : List α) (j : Nat), (l.eraseIdx j).map g = (l.map g).eraseIdx j := by
        intro α β g l
        induction l with
        | nil => intro j; rfl
        | cons a t ih =>
          intro j
          cases j with
          | zero => rfl
          | succ j => simp [ih]
      rw [e2, e2, hF]
theorem at_shift (n : ByteArray) : ∀ (S : List (ByteArray × Value)) (i : Nat), at_ n S i = (at_ n S 0).map (fun p => (p.1 + i, p.2))
  | [], _ => rfl
  | x :: S, i => by
    rw [at_, at_]
    split
    · simp
    · rw [at_shift n S (i + 1), at_shift n S (0 + 1), Option.map_map]
      congr 1
      funext p
      simp
      omega
theorem put_cons (x : ByteArray × Value) (F : List (ByteArray × Value)) (n : ByteArray) (d : Value) : put (x :: F) n d = if n == x.1 then (n, d) :: F else x :: put F n d := by
  unfold put
  rw [at_]
  cases h : (n == x.1) with
  | true => simp
  | false =>
    rw [if_neg (by simp), if_neg (by simp), at_shift]
    cases at_ n F 0 with
    | none => rfl
    | some p => rfl
theorem del_cons (x : ByteArray × Value) (F : List (ByteArray × Value)) (n : ByteArray) : del (x :: F) n = if n == x.1 then F else x :: del F n := by
  unfold del
  rw [at_]
  cases h : (n == x.1) with
  | true => simp
  | false =>
    rw [if_neg (by simp), if_neg (by simp), at_shift]
    cases at_ n F 0 with
    | none => rfl
    | some p => rfl
/-- Who is said to have it. -/
def get (F : List (ByteArray × Value)) (n : ByteArray) : Option Value := (at_ n F 0).map (·.2)
theorem get_cons (x : ByteArray × Value) (F : List (ByteArray × Value)) (n : ByteArray) : get (x :: F) n = if n == x.1 then some x.2 else get F n := by
  unfold get
  rw [at_]
  cases h : (n == x.1) with
  | true => simp
  | false =>
    rw [if_neg (by simp), if_neg (by simp), at_shift, Option.map_map]; rfl
theorem get_put (n m : ByteArray) (d : Value) : ∀ F : List (ByteArray × Value), get (put F n d) m = if n == m then some d else get F m
  | [] => by
    show get [(n, d)] m = _
    rw [get_cons]
    by_cases e : n = m
    · subst e; rfl
    · rw [C.bno e, C.bno (fun q => e q.symm)]
  | x :: F => by
    rw [put_cons]
    by_cases hx : n = x.1
    · rw [if_pos ((bytes_beq _ _).2 hx), get_cons, get_cons]
      by_cases e : n = m
      · subst e
        rw [if_pos ((bytes_beq _ _).2 rfl), if_pos ((bytes_beq _ _).2 rfl)]
      · rw [C.bno e, if_neg (show ¬ (m == (n, d).1) = true by rw [C.bno (fun q => e q.symm)]; simp), if_neg (show ¬ (m == x.1) = true by rw [← hx, C.bno (fun q => e q.symm)]; simp)]; simp
    · rw [C.bno hx, if_neg (by simp), get_cons, get_cons, get_put n m d F]
      by_cases e : n = m
      · subst e
        rw [C.bno hx, if_neg (by simp)]; simp
      · rw [C.bno e]; simp
end S
end Go.Proofs.Ytlmkpjdaoinmoaa
