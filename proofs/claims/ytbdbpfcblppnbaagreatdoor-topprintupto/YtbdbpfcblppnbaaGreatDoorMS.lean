/- For TopPrint: maps whose keys are texts. -/
import Derived.Test.YtbdbpfcblppnbaaGreatDoorR1
import Derived.Maps.Own
import Derived.Maps.OwnOps
namespace Go.Proofs.YtbdbpfcblppnbaaGreatDoor.Vx
open Go.RowKit
open Go.ChangeMaps Go.MapKept
namespace M
/-- The stamps of a map's entries: each of its own, and below the clock. -/
def Stamps (es : Array MapEntry) (c : Nat) : Prop := (∀ e ∈ es.toList, e.born < c) ∧ (es.toList.map (·.born)).Nodup
theorem Stamps.push {es : Array MapEntry} {c : Nat} (h : Stamps es c) (k v : Value) : Stamps (es.push ⟨k, v, c⟩) (c + 1) := by
 refine ⟨fun e he => ?_, ?_⟩
 ·simp only [Array.toList_push, List.mem_append, List.mem_singleton] at he
  rcases he with he | rfl
  ·have := h.1 e he; omega
  ·exact Nat.lt_succ_self _
 ·simp only [Array.toList_push, List.map_append, List.map_cons, List.map_nil]
  rw [List.nodup_append]
  refine ⟨h.2, by simp, fun a ha b hb e => ?_⟩
  simp at hb
  obtain ⟨x, hx, rfl⟩ := List.mem_map.1 ha
  have := h.1 x hx
  omega
theorem Stamps.turn {es : Array MapEntry} {c : Nat} (h : Stamps es c) (j : Nat) (k v : Value) : Stamps (es.modify j fun e => { e with key := k, val := v }) c := by
 have e1 : (es.modify j fun e => { e with key := k, val := v }).toList.map (·.born) = es.toList.map (·.born) := by
  rw [Array.toList_modify]
  apply List.ext_getElem?
  intro i
  rw [List.getElem?_map, List.getElem?_map, List.getElem?_modify]
  by_cases hij : j = i
  ·subst hij
   cases es.toList[j]? <;> simp
  ·simp [hij]
 refine ⟨fun e he => ?_, by rw [e1]; exact h.2⟩
 have h2 : e.born ∈ es.toList.map (·.born) := by rw [← e1]; exact List.mem_map_of_mem he
 obtain ⟨x, hx, hxe⟩ := List.mem_map.1 h2
 rw [← hxe]; exact h.1 x hx

end M
namespace C
theorem bno {n m : ByteArray} (h : n ≠ m) : (n == m) = false := by
 cases q : (n == m) with
 | false => rfl
 | true => exact absurd ((bytes_beq _ _).1 q) h
end C
namespace S
/-- Where a name stands, and what is there. -/
def at_ (n : ByteArray) : List (ByteArray × Value) → Nat → Option (Nat × Value)
 | [], _ => none
 | x :: F, i => if n == x.1 then some (i, x.2) else at_ n F (i + 1)
def ent (x : ByteArray × Value) : Value × Value := (.string x.1, x.2)
/-- Block b is a map of these files. -/
def Is (w : World) (b : Nat) (F : List (ByteArray × Value)) : Prop := ∃ es c, w.heap[b]? = some (.map es c) ∧ es.toList.map (fun e => (e.key, e.val)) = F.map ent ∧ M.Stamps es c
theorem find_str (n : ByteArray) : ∀ (es : List MapEntry) (F : List (ByteArray × Value)) (i : Nat), es.map (fun e => (e.key, e.val)) = F.map ent → Instr.findNow .string (.string n) es i = some ((at_ n F i).map (fun p => (p.1, p.2)))
 | [], F, i, h => by
  have : F = [] := by cases F with | nil => rfl | cons a t => simp at h
  subst this; rfl
 | e :: es, F, i, h => by
  cases F with
  | nil => simp at h
  | cons x F =>
   simp only [List.map_cons, List.cons.injEq] at h
   obtain ⟨h1, h2⟩ := h
   have hk : e.key = .string x.1 := congrArg Prod.fst h1
   have hv : e.val = x.2 := congrArg Prod.snd h1
   rw [Instr.findNow, hk, Instr.sameNow, at_]
   cases hb : n == x.1 with
   | true => simp [hv]
   | false => simp [find_str n es F (i + 1) h2]
theorem find_run (n : ByteArray) (es : Array MapEntry) (F : List (ByteArray × Value)) (w : World) (h : es.toList.map (fun e => (e.key, e.val)) = F.map ent) : (Instr.findKey 9 (.string n) es.toList).run Tryz.prog w = .ok ((at_ n F 0).map (fun p => (p.1, p.2))) w := by
 unfold Instr.findKey
 simp [go_sem, find_str n es.toList F 0 h]
theorem key_run (e : Bool) (n : ByteArray) (w : World) : (Instr.checkKey e 10000 9 (.string n)).run Tryz.prog w = .ok () w := by
 show (Instr.checkKey e (9999 + 1) 9 (.string n)).run Tryz.prog w = .ok () w
 rw [Instr.checkKey]
 simp [go_sem]
theorem look {t e : TypeId} (hu : Tryz.prog.underlying t = some (.map 9 e)) {w : World} {b : Nat} {F : List (ByteArray × Value)} (h : Is w b F) (n : ByteArray) (ok : Bool) {z : Value} (hz : ∀ w, (zeroValue e).run Tryz.prog w = .ok z w) :
  (Instr.lookup t (.map (some b)) (.string n) ok).run Tryz.prog w = .ok (match at_ n F 0 with | some p => if ok then .tuple #[p.2, .bool true] else p.2 | none => if ok then .tuple #[z, .bool false] else z) w := by
 obtain ⟨es, c, hb, hF, hS⟩ := h
 have hf := find_run n es F w hF
 simp only [Instr.lookup, Sem.run_bind, run_underlying hu, MapKept.run_getObj_map hb, key_run, hf, Result.andThen_ok, Sem.run_pure]
 cases at_ n F 0 with
 | none => simp [go_sem, hz]
 | some p => simp [go_sem]
/-- A file put in. -/
def put (F : List (ByteArray × Value)) (n : ByteArray) (d : Value) : List (ByteArray × Value) :=
 match at_ n F 0 with
 | some p => F.set p.1 (n, d)
 | none => F ++ [(n, d)]
theorem at_spec (n : ByteArray) : ∀ (F : List (ByteArray × Value)) (i : Nat) (p : Nat × Value), at_ n F i = some p → ∃ j x, p.1 = i + j ∧ F[j]? = some x ∧ n = x.1 ∧ p.2 = x.2
 | [], _, _, h => by cases h
 | x :: F, i, p, h => by
  rw [at_] at h
  split at h
  ·rename_i hb
   cases h
   exact ⟨0, x, rfl, rfl, (bytes_beq _ _).1 hb, rfl⟩
  ·obtain ⟨j, y, h1, h2, h3⟩ := at_spec n F (i + 1) p h
   exact ⟨j + 1, y, by omega, by simpa using h2, h3⟩
theorem update {t e : TypeId} (hu : Tryz.prog.underlying t = some (.map 9 e)) {w : World} {b : Nat} {F : List (ByteArray × Value)} (h : Is w b F) (n : ByteArray) (d : Value) :
  ∃ w', (Instr.mapUpdate t (.map (some b)) (.string n) d).run Tryz.prog w = .ok () w' ∧ Is w' b (put F n d) ∧ w.grownBy w' (some b) := by
 obtain ⟨es, c, hb, hF, hS⟩ := h
 have hf := find_run n es F w hF
 cases ha : at_ n F 0 with
 | none =>
  rw [ha] at hf
  refine ⟨ChangeMaps.setBlock w b (.map (es.push ⟨.string n, d, c⟩) (c + 1)), ?_, ⟨_, _, heap_setBlock_same hb _, ?_, hS.push _ _⟩, ⟨rfl, rfl, rfl, by simp [ChangeMaps.setBlock], fun i _ hi => heap_setBlock_other hb _ (fun e => hi (by rw [e]))⟩⟩
  ·simp [Instr.mapUpdate, run_underlying hu, MapKept.run_getObj_map hb, key_run, hf, MapKept.run_setObj_map _ hb, Result.andThen, ChangeMaps.setBlock]
  ·unfold put
   rw [ha]
   simp [hF, ent]
 | some p =>
  rw [ha] at hf
  obtain ⟨j, x, h1, h2, h3, h4⟩ := at_spec n F 0 p ha
  have hj : p.1 = j := by omega
  have hje : j < es.size := by
   have h5 := congrArg List.length hF
   simp at h5
   rw [h5]; exact (List.getElem?_eq_some_iff.1 h2).1
  have hk : es[j].key = .string n := by
   have h5 : (es.toList.map (fun e => (e.key, e.val)))[j]? = (F.map ent)[j]? := by rw [hF]
   rw [List.getElem?_map, List.getElem?_map, h2] at h5
   simp [hje, ent] at h5
   rw [h5.1, h3]
  refine ⟨setBlock w b (.map (es.modify j fun e => { e with key := .string n, val := d }) c), ?_, ⟨_, _, heap_setBlock_same hb _, ?_, hS.turn j _ _⟩, ⟨rfl, rfl, rfl, by simp [setBlock], fun i _ hi => heap_setBlock_other hb _ (fun e => hi (by rw [e]))⟩⟩
  ·have hsb : Instr.sameBits 10000 (.string n) (.string n) = true := by simp [Instr.sameBits, (bytes_beq _ _).2 rfl]
   simp [Instr.mapUpdate, run_underlying hu, MapKept.run_getObj_map hb, key_run, hf, MapKept.run_setObj_map _ hb, Result.andThen, setBlock, Instr.keyThatStays, hj, hje, hk, hsb]
  ·unfold put
   rw [ha]
   simp only
   rw [hj, Array.toList_modify]
   apply List.ext_getElem?
   intro i
   have h5 : (es.toList.map (fun e => (e.key, e.val)))[i]? = (F.map ent)[i]? := by rw [hF]
   rw [List.getElem?_map, List.getElem?_map] at h5 ⊢
   rw [List.getElem?_modify, List.getElem?_set]
   by_cases hij : j = i
   ·subst hij
    have hF2 : j < F.length := (List.getElem?_eq_some_iff.1 h2).1
    simp [hje, hF2, ent]
   ·simp only [if_neg hij]
    cases he : es.toList[i]? with
    | none => rw [he] at h5; simpa using h5
    | some e => rw [he] at h5; simpa using h5
theorem Is.kept {w w' : World} {b : Nat} {F : List (ByteArray × Value)} {row : Option Nat} (h : Is w b F) (hg : w.grownBy w' row) (hne : row ≠ some b) : Is w' b F := by
 obtain ⟨es, c, hb, hF⟩ := h
 exact ⟨es, c, (hg.block b (blt hb) (fun e => hne e.symm)).trans hb, hF⟩
theorem Is.below {w w' : World} {b B : Nat} {F : List (ByteArray × Value)} (h : Is w b F) (hg : Below B w w') (hB : b < B) : Is w' b F := by
 obtain ⟨es, c, hb, hF⟩ := h
 exact ⟨es, c, (hg.block b hB).trans hb, hF⟩
theorem Is.at {w w' : World} {b : Nat} {F : List (ByteArray × Value)} (h : Is w b F) (hb : w'.heap[b]? = w.heap[b]?) : Is w' b F := by
 obtain ⟨es, c, h1, hF⟩ := h
 exact ⟨es, c, hb.trans h1, hF⟩
theorem Is.lt {w : World} {b : Nat} {F : List (ByteArray × Value)} (h : Is w b F) : b < w.heap.size := by
 obtain ⟨es, c, hb, _⟩ := h
 exact (blt hb)
theorem Is.made (w : World) : Is (w.alloc (.map #[] 0)) w.heap.size [] := ⟨#[], 0, heap_alloc_new _ _, rfl, (fun e he => by cases he), List.nodup_nil⟩
theorem at_shift (n : ByteArray) : ∀ (S : List (ByteArray × Value)) (i : Nat), at_ n S i = (at_ n S 0).map (fun p => (p.1 + i, p.2))
 | [], _ => rfl
 | x :: S, i => by
  rw [at_, at_]
  split
  ·simp
  ·rw [at_shift n S (i + 1), at_shift n S (0 + 1), Option.map_map]
   congr 1
   funext p
   simp
   omega
/-- Who is said to have it. -/
def get (F : List (ByteArray × Value)) (n : ByteArray) : Option Value := (at_ n F 0).map (·.2)
theorem get_cons (x : ByteArray × Value) (F : List (ByteArray × Value)) (n : ByteArray) : get (x :: F) n = if n == x.1 then some x.2 else get F n := by
 unfold get
 rw [at_]
 cases h : (n == x.1) with
 | true => simp
 | false =>
  rw [if_neg (by simp), if_neg (by simp), at_shift, Option.map_map]; rfl
end S
end Go.Proofs.YtbdbpfcblppnbaaGreatDoor.Vx
