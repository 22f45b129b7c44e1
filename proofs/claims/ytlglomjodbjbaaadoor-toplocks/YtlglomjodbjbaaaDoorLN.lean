/- For TopLocks: a map of owners (map[string]int), as a list. -/
import Derived.Test.YtlglomjodbjbaaaDoorLM
namespace Go.Proofs.YtlglomjodbjbaaaDoor
open Go.RowKit
open Go.ChangeMaps Go.MapKept
namespace H
/-- Where a name stands, and what is there. -/
def at_ (n : ByteArray) : List (ByteArray × Int) → Nat → Option (Nat × Int)
  | [], _ => none
  | x :: F, i => if n == x.1 then some (i, x.2) else at_ n F (i + 1)
/-- A file, as a value. -/
def val (d : Int) : Value := .int .i64 d
def ent (x : ByteArray × Int) : Value × Value := (.string x.1, val x.2)
/-- Block b is a map of these files. -/
def Is (w : World) (b : Nat) (F : List (ByteArray × Int)) : Prop := ∃ es c, w.heap[b]? = some (.map es c) ∧ es.toList.map (fun e => (e.key, e.val)) = F.map ent ∧ M.Stamps es c
theorem u112 : Tryd.prog.underlying 33 = some (.map 9 3) := by kernel_rfl
theorem u9 : Tryd.prog.underlying 9 = some .string := by kernel_rfl
theorem z127 (w : World) : (zeroValue 3).run Tryd.prog w = .ok (val 0) w := by kernel_rfl
theorem find_str (n : ByteArray) : ∀ (es : List MapEntry) (F : List (ByteArray × Int)) (i : Nat), es.map (fun e => (e.key, e.val)) = F.map ent → Instr.findNow .string (.string n) es i = some ((at_ n F i).map (fun p => (p.1, val p.2)))
  | [], F, i, h => by
    have : F = [] := by cases F with | nil => rfl | cons a t => simp at h
    subst this; rfl
  | e :: es, F, i, h => by
    cases F with
    | nil => simp at h
    | cons x F =>
      simp only [List.map_cons, List.cons.injEq] at h
      obtain ⟨h1, h2⟩ := h
      have hk : e.key = .string x.1 := congrArg Prod.fst h1
      have hv : e.val = val x.2 := congrArg Prod.snd h1
      rw [Instr.findNow, hk, Instr.sameNow, at_]
      cases hb : n == x.1 with
      | true => simp [hv]
      | false => simp [find_str n es F (i + 1) h2]
theorem find_run (n : ByteArray) (es : Array MapEntry) (F : List (ByteArray × Int)) (w : World) (h : es.toList.map (fun e => (e.key, e.val)) = F.map ent) : (Instr.findKey 9 (.string n) es.toList).run Tryd.prog w = .ok ((at_ n F 0).map (fun p => (p.1, val p.2))) w := by
  unfold Instr.findKey
  simp [go_sem, find_str n es.toList F 0 h]
theorem key_run (e : Bool) (n : ByteArray) (w : World) : (Instr.checkKey e 10000 9 (.string n)).run Tryd.prog w = .ok () w := by
  show (Instr.checkKey e (9999 + 1) 9 (.string n)).run Tryd.prog w = .ok () w
  rw [Instr.checkKey]
  simp [go_sem]
theorem look {w : World} {b : Nat} {F : List (ByteArray × Int)} (h : Is w b F) (n : ByteArray) (ok : Bool) :
    (Instr.lookup 33 (.map (some b)) (.string n) ok).run Tryd.prog w = .ok (match at_ n F 0 with | some p => if ok then .tuple #[val p.2, .bool true] else val p.2 | none => if ok then .tuple #[val 0, .bool false] else val 0) w := by
  obtain ⟨es, c, hb, hF, hS⟩ := h
  have hf := find_run n es F w hF
  simp only [Instr.lookup, Sem.run_bind, run_underlying u112, MapKept.run_getObj_map hb, key_run, hf, Result.andThen_ok, Sem.run_pure]
  cases at_ n F 0 with
  | none => simp [go_sem]; rfl
  | some p => simp [go_sem]
/-- A file put in. -/
def put (F : List (ByteArray × Int)) (n : ByteArray) (d : Int) : List (ByteArray × Int) :=
  match at_ n F 0 with
  | some p => F.set p.1 (n, d)
  | none => F ++ [(n, d)]
theorem at_spec (n : ByteArray) : ∀ (F : List (ByteArray × Int)) (i : Nat) (p : Nat × Int), at_ n F i = some p → ∃ j x, p.1 = i + j ∧ F[j]? = some x ∧ n = x.1 ∧ p.2 = x.2
  | [], _, _, h => by cases h
  | x :: F, i, p, h => by
    rw [at_] at h
    split at h
    · rename_i hb
      cases h
      exact ⟨0, x, rfl, rfl, (bytes_beq _ _).1 hb, rfl⟩
    · obtain ⟨j, y, h1, h2, h3⟩ := at_spec n F (i + 1) p h
      exact ⟨j + 1, y, by omega, by simpa using h2, h3⟩
theorem update {w : World} {b : Nat} {F : List (ByteArray × Int)} (h : Is w b F) (n : ByteArray) (d : Int) :
    ∃ w', (Instr.mapUpdate 33 (.map (some b)) (.string n) (val d)).run Tryd.prog w = .ok () w' ∧ Is w' b (put F n d) ∧ w.grownBy w' (some b) := by
  obtain ⟨es, c, hb, hF, hS⟩ := h
  have hf := find_run n es F w hF
  cases ha : at_ n F 0 with
  | none =>
    rw [ha] at hf
    refine ⟨ChangeMaps.setBlock w b (.map (es.push ⟨.string n, val d, c⟩) (c + 1)), ?_, ⟨_, _, heap_setBlock_same hb _, ?_, hS.push _ _⟩, ⟨rfl, rfl, rfl, by simp [ChangeMaps.setBlock], fun i _ hi => heap_setBlock_other hb _ (fun e => hi (by rw [e]))⟩⟩
    · simp [Instr.mapUpdate, run_underlying u112, MapKept.run_getObj_map hb, key_run, hf, MapKept.run_setObj_map _ hb, Result.andThen, ChangeMaps.setBlock]
    · unfold put
      rw [ha]
      simp [hF, ent]
  | some p =>
    rw [ha] at hf
    obtain ⟨j, x, h1, h2, h3, h4⟩ := at_spec n F 0 p ha
    have hj : p.1 = j := by omega
    have hje : j < es.size := by
      have h5 := congrArg List.length hF
      simp at h5
      rw [h5]; exact (List.getElem?_eq_some_iff.1 h2).1
    have hk : es[j].key = .string n := by
      have h5 : (es.toList.map (fun e => (e.key, e.val)))[j]? = (F.map ent)[j]? := by rw [hF]
      rw [List.getElem?_map, List.getElem?_map, h2] at h5
      simp [hje, ent] at h5
      rw [h5.1, h3]
    refine ⟨setBlock w b (.map (es.modify j fun e => { e with key := .string n, val := val d }) c), ?_, ⟨_, _, heap_setBlock_same hb _, ?_, hS.turn j _ _⟩, ⟨rfl, rfl, rfl, by simp [setBlock], fun i _ hi => heap_setBlock_other hb _ (fun e => hi (by rw [e]))⟩⟩
    · have hsb : Instr.sameBits 10000 (.string n) (.string n) = true := by simp [Instr.sameBits, (bytes_beq n n).2 rfl]
      simp [Instr.mapUpdate, run_underlying u112, MapKept.run_getObj_map hb, key_run, hf, MapKept.run_setObj_map _ hb, Result.andThen, setBlock, Instr.keyThatStays, hj, hje, hk, hsb]
    · unfold put
      rw [ha]
      simp only
      rw [hj, Array.toList_modify]
      apply List.ext_getElem?
      intro i
      have h5 : (es.toList.map (fun e => (e.key, e.val)))[i]? = (F.map ent)[i]? := by rw [hF]
      rw [List.getElem?_map, List.getElem?_map] at h5 ⊢
      rw [List.getElem?_modify, List.getElem?_set]
      by_cases hij : j = i
      · subst hij
        have hF2 : j < F.length := (List.getElem?_eq_some_iff.1 h2).1
        simp [hje, hF2, ent]
      · simp only [if_neg hij]
        cases he : es.toList[i]? with
        | none => rw [he] at h5; simpa using h5
        | some e => rw [he] at h5; simpa using h5
/-- A file put in, at the operation. -/
theorem wpList_update {w : World} {ops : Array Oper} {rest : List Oper} {o : Oper} {a : Act} {Q : Exit → Act → World → Prop} (hg : o.guard = none) (m x v : Operand) (hop : o.op = Op.mapUpdate 33 m x v) {b : Nat} {F : List (ByteArray × Int)} (n : ByteArray) (d : Int)
    (hm : a.eval m = .map (some b)) (hx : a.eval x = .string n) (hv : a.eval v = val d) (h : Is w b F) (hK : ∀ w', Is w' b (put F n d) → w.grownBy w' (some b) → wpList Tryd.prog ops Q rest (a.put o.dst undef) w') : wpList Tryd.prog ops Q (o :: rest) a w := by
  refine wpList_plain hg fun K' hK' => ?_
  obtain ⟨w', hrun, r1, r2⟩ := update h n d
  unfold Oper.wp
  simp [execOp, hop, hm, hx, hv, hrun, Result.andThen]
  exact hK' _ _ (hK w' r1 r2)
theorem Is.kept {w w' : World} {b : Nat} {F : List (ByteArray × Int)} {row : Option Nat} (h : Is w b F) (hg : w.grownBy w' row) (hne : row ≠ some b) : Is w' b F := by
  obtain ⟨es, c, hb, hF⟩ := h
  exact ⟨es, c, (hg.block b (Array.getElem?_eq_some_iff.1 hb).1 (fun e => hne e.symm)).trans hb, hF⟩
theorem Is.below {w w' : World} {b B : Nat} {F : List (ByteArray × Int)} (h : Is w b F) (hg : Below B w w') (hB : b < B) : Is w' b F := by
  obtain ⟨es, c, hb, hF⟩ := h
  exact ⟨es, c, (hg.block b hB).trans hb, hF⟩
theorem Is.at {w w' : World} {b : Nat} {F : List (ByteArray × Int)} (h : Is w b F) (hb : w'.heap[b]? = w.heap[b]?) : Is w' b F := by
  obtain ⟨es, c, h1, hF⟩ := h
  exact ⟨es, c, hb.trans h1, hF⟩
theorem Is.lt {w : World} {b : Nat} {F : List (ByteArray × Int)} (h : Is w b F) : b < w.heap.size := by
  obtain ⟨es, c, hb, _⟩ := h
  exact (Array.getElem?_eq_some_iff.1 hb).1
theorem Is.made (w : World) : Is (w.alloc (.map #[] 0)) w.heap.size [] := ⟨#[], 0, heap_alloc_new _ _, rfl, (fun e he => by cases he), List.nodup_nil⟩
/-- A file taken out. -/
def del (F : List (ByteArray × Int)) (n : ByteArray) : List (ByteArray × Int) :=
  match at_ n F 0 with
  | some p => F.eraseIdx p.1
  | none => F
theorem delete {w : World} {b : Nat} {F : List (ByteArray × Int)} (h : Is w b F) (n : ByteArray) (ty : TypeId) :
    ∃ w', (Builtin.delete_ #[33, 9] ty #[.map (some b), .string n]).run Tryd.prog w = .ok (.tuple #[]) w' ∧ Is w' b (del F n) ∧ w.grownBy w' (some b) := by
  obtain ⟨es, c, hb, hF, hS⟩ := h
  have hf := find_run n es F w hF
  cases ha : at_ n F 0 with
  | none =>
    rw [ha] at hf
    refine ⟨ChangeMaps.setBlock w b (.map es c), ?_, ⟨_, _, heap_setBlock_same hb _, ?_, hS⟩, ⟨rfl, rfl, rfl, by simp [ChangeMaps.setBlock], fun i _ hi => heap_setBlock_other hb _ (fun e => hi (by rw [e]))⟩⟩
    · simp [Builtin.delete_, run_underlying u112, MapKept.run_getObj_map hb, key_run, hf, MapKept.run_setObj_map _ hb, Result.andThen, ChangeMaps.setBlock]
    · unfold del
      rw [ha]
      exact hF
  | some p =>
    rw [ha] at hf
    obtain ⟨j, x, h1, h2, h3, h4⟩ := at_spec n F 0 p ha
    have hj : p.1 = j := by omega
    have hje : j < es.size := by
      have h5 := congrArg List.length hF
      simp at h5
      rw [h5]; exact (List.getElem?_eq_some_iff.1 h2).1
    refine ⟨setBlock w b (.map (es.eraseIdxIfInBounds j) c), ?_, ⟨_, _, heap_setBlock_same hb _, ?_, hS.drop j hje⟩, ⟨rfl, rfl, rfl, by simp [setBlock], fun i _ hi => heap_setBlock_other hb _ (fun e => hi (by rw [e]))⟩⟩
    · simp [Builtin.delete_, run_underlying u112, MapKept.run_getObj_map hb, key_run, hf, MapKept.run_setObj_map _ hb, Result.andThen, setBlock, hj]
    · unfold del
      rw [ha]
      simp only
      rw [hj]
      have e : (es.eraseIdxIfInBounds j).toList = es.toList.eraseIdx j := by
        unfold Array.eraseIdxIfInBounds
        rw [dif_pos hje]; simp
      rw [e]
      have e2 : ∀ {α β : Type} (g : α → β) (l : List α) (j : Nat), (l.eraseIdx j).map g = (l.map g).eraseIdx j := by
        intro α β g l
        induction l with
        | nil => intro j; rfl
        | cons a t ih =>
          intro j
          cases j with
          | zero => rfl
          | succ j => simp [ih]
      rw [e2, e2, hF]
theorem at_shift (n : ByteArray) : ∀ (S : List (ByteArray × Int)) (i : Nat), at_ n S i = (at_ n S 0).map (fun p => (p.1 + i, p.2))
  | [], _ => rfl
  | x :: S, i => by
    rw [at_, at_]
    split
    · simp
    · rw [at_shift n S (i + 1), at_shift n S (0 + 1), Option.map_map]
      congr 1
      funext p
      simp
      omega
theorem put_cons (x : ByteArray × Int) (F : List (ByteArray × Int)) (n : ByteArray) (d : Int) : put (x :: F) n d = if n == x.1 then (n, d) :: F else x :: put F n d := by
  unfold put
  rw [at_]
  cases h : (n == x.1) with
  | true => simp
  | false =>
    rw [if_neg (by simp), if_neg (by simp), at_shift]
    cases at_ n F 0 with
    | none => rfl
    | some p => rfl
theorem del_cons (x : ByteArray × Int) (F : List (ByteArray × Int)) (n : ByteArray) : del (x :: F) n = if n == x.1 then F else x :: del F n := by
  unfold del
  rw [at_]
  cases h : (n == x.1) with
  | true => simp
  | false =>
    rw [if_neg (by simp), if_neg (by simp), at_shift]
    cases at_ n F 0 with
    | none => rfl
    | some p => rfl
theorem del_less {n : ByteArray} : ∀ {F : List (ByteArray × Int)}, (F.map (·.1)).Nodup → del F n = K.less F n
  | [], _ => rfl
  | x :: F, h => by
    rw [List.map_cons, List.nodup_cons] at h
    rw [del_cons, K.less_cons]
    cases hb : (n == x.1) with
    | true => rw [if_pos rfl, if_pos rfl, List.nil_append, K.less_absent (by rw [(K.beq_iff _ _).1 hb]; exact h.1)]
    | false => rw [if_neg (by simp), if_neg (by simp), del_less h.2]; rfl
theorem put_perm {n : ByteArray} {d : Int} : ∀ {F : List (ByteArray × Int)}, (F.map (·.1)).Nodup → (put F n d).Perm ((n, d) :: K.less F n)
  | [], _ => List.Perm.refl _
  | x :: F, h => by
    rw [List.map_cons, List.nodup_cons] at h
    rw [put_cons, K.less_cons]
    cases hb : (n == x.1) with
    | true => rw [if_pos rfl, if_pos rfl, List.nil_append, K.less_absent (by rw [(K.beq_iff _ _).1 hb]; exact h.1)]
    | false =>
      rw [if_neg (by simp), if_neg (by simp), List.singleton_append]
      exact ((put_perm h.2).cons x).trans (List.Perm.swap _ _ _)
/-- Who is said to have it. -/
def get (F : List (ByteArray × Int)) (n : ByteArray) : Option Int := (at_ n F 0).map (·.2)
theorem get_cons (x : ByteArray × Int) (F : List (ByteArray × Int)) (n : ByteArray) : get (x :: F) n = if n == x.1 then some x.2 else get F n := by
  unfold get
  rw [at_]
  cases h : (n == x.1) with
  | true => simp
  | false =>
    rw [if_neg (by simp), if_neg (by simp), at_shift, Option.map_map]; rfl
theorem get_put (n m : ByteArray) (d : Int) : ∀ F : List (ByteArray × Int), get (put F n d) m = if n == m then some d else get F m
  | [] => by
    show get [(n, d)] m = _
    rw [get_cons]
    by_cases e : n = m
    · subst e; rfl
    · rw [K.beq_no e, K.beq_no (fun q => e q.symm)]
  | x :: F => by
    rw [put_cons]
    by_cases hx : n = x.1
    · rw [if_pos ((K.beq_iff _ _).2 hx), get_cons, get_cons]
      by_cases e : n = m
      · subst e
        rw [if_pos ((K.beq_iff n n).2 rfl), if_pos ((K.beq_iff n n).2 rfl)]
      · rw [K.beq_no e, if_neg (show ¬ (m == (n, d).1) = true by rw [K.beq_no (fun q => e q.symm)]; simp), if_neg (show ¬ (m == x.1) = true by rw [← hx, K.beq_no (fun q => e q.symm)]; simp)]; simp
    · rw [K.beq_no hx, if_neg (by simp), get_cons, get_cons, get_put n m d F]
      by_cases e : n = m
      · subst e
        rw [K.beq_no hx, if_neg (by simp)]; simp
      · rw [K.beq_no e]; simp
theorem mem_keys {n : ByteArray} : ∀ {F : List (ByteArray × Int)}, n ∈ F.map (·.1) ↔ (get F n).isSome = true
  | [] => by simp [get, at_]
  | x :: F => by
    rw [List.map_cons, List.mem_cons, get_cons]
    by_cases e : n = x.1
    · rw [if_pos ((K.beq_iff _ _).2 e)]; simp [e]
    · rw [K.beq_no e, if_neg (by simp), ← mem_keys (F := F)]
      exact ⟨fun h => h.resolve_left e, .inr⟩
theorem get_del {n m : ByteArray} : ∀ {F : List (ByteArray × Int)}, (F.map (·.1)).Nodup → get (del F n) m = if n == m then none else get F m
  | [], _ => by
    show get [] m = _
    simp [get, at_]
  | x :: F, h => by
    rw [List.map_cons, List.nodup_cons] at h
    rw [del_cons]
    by_cases hx : n = x.1
    · rw [if_pos ((K.beq_iff _ _).2 hx), get_cons]
      by_cases e : n = m
      · subst e
        rw [if_pos ((K.beq_iff n n).2 rfl)]
        cases hg : get F n with
        | none => rfl
        | some d => exact absurd (mem_keys.2 (by rw [hg]; rfl)) (by rw [hx]; exact h.1)
      · rw [K.beq_no e, if_neg (show ¬ (m == x.1) = true by rw [← hx, K.beq_no (fun q => e q.symm)]; simp)]; simp
    · rw [K.beq_no hx, if_neg (by simp), get_cons, get_cons, get_del h.2]
      by_cases e : n = m
      · subst e
        rw [K.beq_no hx, if_neg (by simp)]; simp
      · rw [K.beq_no e]; simp
theorem put_keys {n : ByteArray} {d : Int} {F : List (ByteArray × Int)} (h : (F.map (·.1)).Nodup) : ((put F n d).map (·.1)).Nodup := by
  refine (((put_perm (n := n) (d := d) h).map (·.1)).nodup_iff).2 ?_
  rw [List.map_cons, List.nodup_cons]
  refine ⟨fun hm => ?_, h.sublist ((K.less_sub F n).map _)⟩
  obtain ⟨x, hx, e⟩ := List.mem_map.1 hm
  exact (K.less_mem hx).2 e.symm
theorem del_keys {n : ByteArray} {F : List (ByteArray × Int)} (h : (F.map (·.1)).Nodup) : ((del F n).map (·.1)).Nodup := by
  rw [del_less h]; exact h.sublist ((K.less_sub F n).map _)
/-- The owners that the map has are those on the disk. -/
structure On (F : List (ByteArray × Int)) (L : K.Lo) : Prop where
  keys : (F.map (·.1)).Nodup
  same : ∀ n, get F n = (K.get L n).map Int.ofNat
theorem mem_names {n : ByteArray} : ∀ {L : K.Lo}, n ∈ L.map (·.1) ↔ (K.get L n).isSome = true
  | [] => by simp [K.get]
  | x :: L => by
    rw [List.map_cons, List.mem_cons, K.get_cons]
    by_cases e : n = x.1
    · rw [if_pos ((K.beq_iff _ _).2 e)]; simp [e]
    · rw [K.beq_no e, if_neg (by simp), ← mem_names (L := L)]
      exact ⟨fun h => h.resolve_left e, .inr⟩
theorem On.len {F : List (ByteArray × Int)} {L : K.Lo} (h : On F L) (hL : (L.map (·.1)).Nodup) : F.length = L.length := by
  have hp : (F.map (·.1)).Perm (L.map (·.1)) := by
    rw [List.perm_ext_iff_of_nodup h.keys hL]
    intro n
    rw [mem_keys, mem_names, h.same, Option.isSome_map]
  simpa using hp.length_eq
end H
end Go.Proofs.YtlglomjodbjbaaaDoor
