/- StateSays: DA DB DC DD DE. -/
import Derived.Test.YtcekcfjabhlheaaGreatDoorProg
import Derived.WalkKit
import Derived.WalkSpells
import Derived.WalkLawsBesides
import Derived.BigQuiet
import Derived.Deep.QuietTactic
import Derived.Deep.AppendLies
import Derived.Deep.RegionHeld3
import Derived.Deep.DrawnRows
import Derived.Deep.DeepCutAuto
import Derived.Maps.Own
import Derived.Maps.OwnOps
import Derived.Carry
import Derived.Deep.RegionLaw
import Derived.Deep.DeepFit
import Derived.OwnWalk
set_option maxRecDepth 100000
set_option maxHeartbeats 1000000
namespace Go.Proofs.YtcekcfjabhlheaaGreatDoor.Dx
open Go.RowKit
open Go.ChangeMaps Go.MapKept
namespace M
def at_ (n : ByteArray) : List (ByteArray × ByteArray) -> Nat -> Option (Nat × ByteArray)
 | [], _ => none
 | x :: F, i => if n == x.1 then some (i, x.2) else at_ n F (i + 1)
def val (d : ByteArray) : Value := .agg #[.string d]
def ent (x : ByteArray × ByteArray) : Value × Value := (.string x.1, val x.2)
def Stamps (es : Array MapEntry) (c : Nat) : Prop := (∀ e ∈ es.toList, e.born < c) /\ (es.toList.map (·.born)).Nodup
def Is (w : World) (b : Nat) (F : List (ByteArray × ByteArray)) : Prop := ∃ es c, w.heap[b]? = some (.map es c) /\ es.toList.map (fun e => (e.key, e.val)) = F.map ent /\ Stamps es c
theorem Stamps.push {es : Array MapEntry} {c : Nat} (h : Stamps es c) (k v : Value) : Stamps (es.push ⟨k, v, c⟩) (c + 1) := by
 refine ⟨fun e he => ?_, ?_⟩
 ·simp only [Array.toList_push, List.mem_append, List.mem_singleton] at he;rcases he with he | rfl
  ·have := h.1 e he; omega
  ·exact Nat.lt_succ_self _
 ·simp only [Array.toList_push, List.map_append, List.map_cons, List.map_nil];rw [List.nodup_append];refine ⟨h.2, by simp, fun a ha b hb e => ?_⟩;simp at hb;obtain ⟨x, hx, rfl⟩ := List.mem_map.1 ha;have := h.1 x hx;omega
theorem Stamps.turn {es : Array MapEntry} {c : Nat} (h : Stamps es c) (j : Nat) (k v : Value) : Stamps (es.modify j fun e => { e with key := k, val := v }) c := by
 have e1 : (es.modify j fun e => { e with key := k, val := v }).toList.map (·.born) = es.toList.map (·.born) := by
  rw [Array.toList_modify];apply List.ext_getElem?;intro i;rw [List.getElem?_map, List.getElem?_map, List.getElem?_modify];by_cases hij : j = i
  ·subst hij;cases es.toList[j]? <;> simp
  ·simp [hij]
 refine ⟨fun e he => ?_, by rw [e1]; exact h.2⟩;have h2 : e.born ∈ es.toList.map (·.born) := by rw [<- e1]; exact List.mem_map_of_mem he
 obtain ⟨x, hx, hxe⟩ := List.mem_map.1 h2;rw [<- hxe]; exact h.1 x hx
theorem u112 : Tryz.prog.underlying 50 = some (.map 9 92) := by kernel_rfl
theorem z127 (w : World) : (zeroValue 92).run Tryz.prog w = .ok (val ⟨#[]⟩) w := by kernel_rfl
theorem find_str (n : ByteArray) : ∀ (es : List MapEntry) (F : List (ByteArray × ByteArray)) (i : Nat), es.map (fun e => (e.key, e.val)) = F.map ent -> Instr.findNow .string (.string n) es i = some ((at_ n F i).map (fun p => (p.1, val p.2)))
 | [], F, i, h => by
  have : F = [] := by cases F with | nil => rfl | cons a t => simp at h
  subst this; rfl
 | e :: es, F, i, h => by
  cases F with
  | nil => simp at h
  | cons x F =>
   simp only [List.map_cons, List.cons.injEq] at h;obtain ⟨h1, h2⟩ := h;have hk : e.key = .string x.1 := congrArg Prod.fst h1;have hv : e.val = val x.2 := congrArg Prod.snd h1;rw [Instr.findNow, hk, Instr.sameNow, at_];cases hb : n == x.1 with
   | true => simp [hv]
   | false => simp [find_str n es F (i + 1) h2]
theorem find_run (n : ByteArray) (es : Array MapEntry) (F : List (ByteArray × ByteArray)) (w : World) (h : es.toList.map (fun e => (e.key, e.val)) = F.map ent) : (Instr.findKey 9 (.string n) es.toList).run Tryz.prog w = .ok ((at_ n F 0).map (fun p => (p.1, val p.2))) w := by
 unfold Instr.findKey;simp [go_sem, find_str n es.toList F 0 h]
theorem key_run (e : Bool) (n : ByteArray) (w : World) : (Instr.checkKey e 10000 9 (.string n)).run Tryz.prog w = .ok () w := by
 show (Instr.checkKey e (9999 + 1) 9 (.string n)).run Tryz.prog w = .ok () w;rw [Instr.checkKey];simp [go_sem]
theorem look {w : World} {b : Nat} {F : List (ByteArray × ByteArray)} (h : Is w b F) (n : ByteArray) (ok : Bool) :
  (Instr.lookup 50 (.map (some b)) (.string n) ok).run Tryz.prog w = .ok (match at_ n F 0 with | some p => if ok then .tuple #[val p.2, .bool true] else val p.2 | none => if ok then .tuple #[val ⟨#[]⟩, .bool false] else val ⟨#[]⟩) w := by
 obtain ⟨es, c, hb, hF, hS⟩ := h;have hf := find_run n es F w hF;simp only [Instr.lookup, Sem.run_bind, run_underlying u112, MapKept.run_getObj_map hb, key_run, hf, Result.andThen_ok, Sem.run_pure];cases at_ n F 0 with
 | none => simp [go_sem]; rfl
 | some p => simp [go_sem]
def put (F : List (ByteArray × ByteArray)) (n d : ByteArray) : List (ByteArray × ByteArray) :=
 match at_ n F 0 with
 | some p => F.set p.1 (n, d)
 | none => F ++ [(n, d)]
theorem at_spec (n : ByteArray) : ∀ (F : List (ByteArray × ByteArray)) (i : Nat) (p : Nat × ByteArray), at_ n F i = some p -> ∃ j x, p.1 = i + j /\ F[j]? = some x /\ n = x.1 /\ p.2 = x.2
 | [], _, _, h => by cases h
 | x :: F, i, p, h => by
  rw [at_] at h;split at h
  ·rename_i hb;cases h;exact ⟨0, x, rfl, rfl, (bytes_beq _ _).1 hb, rfl⟩
  ·obtain ⟨j, y, h1, h2, h3⟩ := at_spec n F (i + 1) p h;exact ⟨j + 1, y, by omega, by simpa using h2, h3⟩
theorem update {w : World} {b : Nat} {F : List (ByteArray × ByteArray)} (h : Is w b F) (n d : ByteArray) :
  ∃ w', (Instr.mapUpdate 50 (.map (some b)) (.string n) (val d)).run Tryz.prog w = .ok () w' /\ Is w' b (put F n d) /\ w.grownBy w' (some b) := by
 obtain ⟨es, c, hb, hF, hS⟩ := h;have hf := find_run n es F w hF;cases ha : at_ n F 0 with
 | none =>
  rw [ha] at hf;refine ⟨ChangeMaps.setBlock w b (.map (es.push ⟨.string n, val d, c⟩) (c + 1)), ?_, ⟨_, _, heap_setBlock_same hb _, ?_, hS.push _ _⟩, ⟨rfl, rfl, rfl, by simp [ChangeMaps.setBlock], fun i _ hi => heap_setBlock_other hb _ (fun e => hi (by rw [e]))⟩⟩
  ·simp [Instr.mapUpdate, run_underlying u112, MapKept.run_getObj_map hb, key_run, hf, MapKept.run_setObj_map _ hb, Result.andThen, ChangeMaps.setBlock]
  ·unfold put;rw [ha];simp [hF, ent]
 | some p =>
  rw [ha] at hf;obtain ⟨j, x, h1, h2, h3, h4⟩ := at_spec n F 0 p ha;have hj : p.1 = j := by omega
  have hje : j < es.size := by
   have h5 := congrArg List.length hF;simp at h5;rw [h5]; exact (List.getElem?_eq_some_iff.1 h2).1
  have hk : es[j].key = .string n := by
   have h5 : (es.toList.map (fun e => (e.key, e.val)))[j]? = (F.map ent)[j]? := by rw [hF]
   rw [List.getElem?_map, List.getElem?_map, h2] at h5;simp [hje, ent] at h5;rw [h5.1, h3]
  refine ⟨setBlock w b (.map (es.modify j fun e => { e with key := .string n, val := val d }) c), ?_, ⟨_, _, heap_setBlock_same hb _, ?_, hS.turn j _ _⟩, ⟨rfl, rfl, rfl, by simp [setBlock], fun i _ hi => heap_setBlock_other hb _ (fun e => hi (by rw [e]))⟩⟩
  ·have hsb : Instr.sameBits 10000 (.string n) (.string n) = true := by simp [Instr.sameBits, (bytes_beq n n).2 rfl]
   simp [Instr.mapUpdate, run_underlying u112, MapKept.run_getObj_map hb, key_run, hf, MapKept.run_setObj_map _ hb, Result.andThen, setBlock, Instr.keyThatStays, hj, hje, hk, hsb]
  ·unfold put;rw [ha];simp only;rw [hj, Array.toList_modify];apply List.ext_getElem?;intro i;have h5 : (es.toList.map (fun e => (e.key, e.val)))[i]? = (F.map ent)[i]? := by rw [hF]
   rw [List.getElem?_map, List.getElem?_map] at h5 ⊢;rw [List.getElem?_modify, List.getElem?_set];by_cases hij : j = i
   ·subst hij;have hF2 : j < F.length := (List.getElem?_eq_some_iff.1 h2).1;simp [hje, hF2, ent]
   ·simp only [if_neg hij];cases he : es.toList[i]? with
    | none => rw [he] at h5; simpa using h5
    | some e => rw [he] at h5; simpa using h5
theorem wpList_update {w : World} {ops : Array Oper} {rest : List Oper} {o : Oper} {a : Act} {Q : Exit -> Act -> World -> Prop} (hg : o.guard = none) (m x v : Operand) (hop : o.op = Op.mapUpdate 50 m x v) {b : Nat} {F : List (ByteArray × ByteArray)} (n d : ByteArray)
  (hm : a.eval m = .map (some b)) (hx : a.eval x = .string n) (hv : a.eval v = val d) (h : Is w b F) (hK : ∀ w', Is w' b (put F n d) -> w.grownBy w' (some b) -> wpList Tryz.prog ops Q rest (a.put o.dst undef) w') : wpList Tryz.prog ops Q (o :: rest) a w := by
 refine wpList_plain hg fun K' hK' => ?_
 obtain ⟨w', hrun, r1, r2⟩ := update h n d;unfold Oper.wp;simp [execOp, hop, hm, hx, hv, hrun, Result.andThen];exact hK' _ _ (hK w' r1 r2)
theorem Is.kept {w w' : World} {b : Nat} {F : List (ByteArray × ByteArray)} {row : Option Nat} (h : Is w b F) (hg : w.grownBy w' row) (hne : row ≠ some b) : Is w' b F := by
 obtain ⟨es, c, hb, hF⟩ := h;exact ⟨es, c, (hg.block b (Array.getElem?_eq_some_iff.1 hb).1 (fun e => hne e.symm)).trans hb, hF⟩
theorem Is.at {w w' : World} {b : Nat} {F : List (ByteArray × ByteArray)} (h : Is w b F) (hb : w'.heap[b]? = w.heap[b]?) : Is w' b F := by
 obtain ⟨es, c, h1, hF⟩ := h;exact ⟨es, c, hb.trans h1, hF⟩
theorem Is.lt {w : World} {b : Nat} {F : List (ByteArray × ByteArray)} (h : Is w b F) : b < w.heap.size := by
 obtain ⟨es, c, hb, _⟩ := h;exact (Array.getElem?_eq_some_iff.1 hb).1
theorem Is.made (w : World) : Is (w.alloc (.map #[] 0)) w.heap.size [] := ⟨#[], 0, heap_alloc_new _ _, rfl, (fun e he => by cases he), List.nodup_nil⟩
end M
end Go.Proofs.YtcekcfjabhlheaaGreatDoor.Dx
namespace Go.Proofs.YtcekcfjabhlheaaGreatDoor.Dx
open Go.RowKit
attribute [local go_sem ↓] Go.wp_at_zero Go.wp_at_succ
theorem hide {p : Prop} (h : p) : Hid p := h
theorem free_of_block {w : World} {g : Nat} {cs : Array Value} {e : TypeId} (h : w.heap[g]? = some (.cells cs e (0, 0))) (j : Nat) : w.frozen? ⟨g, j, none⟩ = false := by simp [World.frozen?, h]
theorem cell_of_block {w : World} {g : Nat} {cs : Array Value} {e : TypeId} (h : w.heap[g]? = some (.cells cs e (0, 0))) (j : Nat) (u : Value) (hu : cs[j]? = some u) : w.cell? ⟨g, j, none⟩ = some u := by rw [cell_of_row w g j cs e (0, 0) h]; exact hu
theorem ba {w : World} {o : Obj} : Below w.heap.size w (w.alloc o) := (Below.refl _ _).alloc (Nat.le_refl _) _
theorem blt {α : Type} {a : Array α} {i : Nat} {x : α} (h : a[i]? = some x) : i < a.size := (Array.getElem?_eq_some_iff.1 h).1
theorem cl4 {w : World} {g : Nat} {e : TypeId} {z0 z1 z2 z3 : Value} (h : w.heap[g]? = some (.cells #[z0, z1, z2, z3] e (0, 0))) : w.cell? ⟨g, 0, none⟩ = some z0 /\ w.cell? ⟨g, 1, none⟩ = some z1 /\ w.cell? ⟨g, 2, none⟩ = some z2 /\ w.cell? ⟨g, 3, none⟩ = some z3 := ⟨cell_of_block h 0 _ rfl, cell_of_block h 1 _ rfl, cell_of_block h 2 _ rfl, cell_of_block h 3 _ rfl⟩
theorem hd2 {p0 p1 : Prop} (a0 : p0) (a1 : p1) : Hid p0 /\ Hid p1 := ⟨a0, a1⟩
theorem hd3 {p0 p1 p2 : Prop} (a0 : p0) (a1 : p1) (a2 : p2) : Hid p0 /\ Hid p1 /\ Hid p2 := ⟨a0, a1, a2⟩
theorem hd4 {p0 p1 p2 p3 : Prop} (a0 : p0) (a1 : p1) (a2 : p2) (a3 : p3) : Hid p0 /\ Hid p1 /\ Hid p2 /\ Hid p3 := ⟨a0, a1, a2, a3⟩
theorem hd5 {p0 p1 p2 p3 p4 : Prop} (a0 : p0) (a1 : p1) (a2 : p2) (a3 : p3) (a4 : p4) : Hid p0 /\ Hid p1 /\ Hid p2 /\ Hid p3 /\ Hid p4 := ⟨a0, a1, a2, a3, a4⟩
theorem block_set {w : World} {g i : Nat} {cs : Array Value} {t : TypeId} {fr : Nat × Nat} (h : w.heap[g]? = some (.cells cs t fr)) (v : Value) : (w.setCell ⟨g, i, none⟩ v).heap[g]? = some (.cells (cs.setIfInBounds i v) t fr) := by
 rw [setCell_eq_setRow w g i cs t fr v h];exact setRow_heap w g _ _ t _ h
theorem kept_cell {w w' : World} {p : Addr} {u : Value} (hb : Below w.heap.size w w') (h : w.cell? p = some u) : w'.cell? p = some u := (hb.cell (World.block_lt_of_cell? w _ h)).trans h
structure Ch where
 kind : Int
 name : ByteArray
 dest : ByteArray
 data : ByteArray
structure Dk where
 kept : List (ByteArray × ByteArray)
 files : List (ByteArray × ByteArray)
 chg : List Ch
 steps : Int
 left : Int
 down : Bool
def Ch.cells (c : Ch) : List Value := [.int .i64 c.kind, .string c.name, .string c.dest, .string c.data]
structure Fr (w w' : World) (ex : Nat -> Prop) : Prop where
 os : w'.os = w.os
 tape : w'.tape = w.tape
 output : w'.output = w.output
 size : w.heap.size <= w'.heap.size
 block : ∀ c, c < w.heap.size -> ¬ ex c -> w'.heap[c]? = w.heap[c]?
theorem Fr.refl (w : World) (ex : Nat -> Prop) : Fr w w ex := ⟨rfl, rfl, rfl, Nat.le_refl _, fun _ _ _ => rfl⟩
theorem Fr.trans {w w1 w2 : World} {ex ex1 : Nat -> Prop} (h : Fr w w1 ex) (k : Fr w1 w2 ex1) (hx : ∀ c, c < w.heap.size -> ex1 c -> ex c) : Fr w w2 ex :=
 ⟨k.os.trans h.os, k.tape.trans h.tape, k.output.trans h.output, Nat.le_trans h.size k.size, fun c hc he => (k.block c (Nat.lt_of_lt_of_le hc h.size) (fun e => he (hx c hc e))).trans (h.block c hc he)⟩
theorem Fr.weak {w w1 : World} {ex ex1 : Nat -> Prop} (h : Fr w w1 ex) (hx : ∀ c, c < w.heap.size -> ex c -> ex1 c) : Fr w w1 ex1 := ⟨h.os, h.tape, h.output, h.size, fun c hc he => h.block c hc (fun e => he (hx c hc e))⟩
theorem Fr.drew {w w1 : World} {ex : Nat -> Prop} (h : Fr w w1 ex) : Fr w w1.drew ex := ⟨h.os, h.tape, h.output, h.size, h.block⟩
theorem Fr.set {w w1 : World} {ex : Nat -> Prop} (h : Fr w w1 ex) (a : Addr) (u : Value) (ha : a.block < w.heap.size -> ex a.block) : Fr w (w1.setCell a u) ex :=
 h.trans (ex1 := fun c => c = a.block) ⟨rfl, rfl, rfl, by simp, fun c _ he => Below.heap_setCell _ a _ c (fun e => he e)⟩ (fun c hc e => by subst e; exact ha hc)
theorem Fr.set1 (w : World) (g o : Nat) (u : Value) : Fr w (w.setCell ⟨g, o, none⟩ u) (fun c => c = g) := (Fr.refl w _).set ⟨g, o, none⟩ u (fun _ => rfl)
theorem Fr.set2 (w : World) (g o o2 : Nat) (u u2 : Value) : Fr w ((w.setCell ⟨g, o, none⟩ u).setCell ⟨g, o2, none⟩ u2) (fun c => c = g) := (Fr.set1 w g o u).set ⟨g, o2, none⟩ u2 (fun _ => rfl)
theorem Fr.grown {w w1 w2 : World} {ex : Nat -> Prop} {row : Option Nat} (h : Fr w w1 ex) (hg : w1.grownBy w2 row) (hx : ∀ c, row = some c -> c < w.heap.size -> ex c) : Fr w w2 ex :=
 h.trans (ex1 := fun c => row = some c) ⟨hg.os, hg.tape, hg.output, hg.size, fun c hc he => hg.block c hc (fun e => he e.symm)⟩ (fun c hc e => hx c e hc)
theorem Fr.alloc {w w1 : World} {ex : Nat -> Prop} (h : Fr w w1 ex) (o : Obj) : Fr w (w1.alloc o) ex := h.grown (World.grownBy_alloc w1 o none) (fun c e => by cases e)
theorem Fr.below {w w1 : World} {ex : Nat -> Prop} {B : Nat} (h : Fr w w1 ex) (hB : B <= w.heap.size) (hx : ∀ c, ex c -> B <= c) : Below B w w1 := ⟨h.os, h.tape, h.output, h.size, fun c hc => h.block c (by omega) (fun e => by have := hx c e; omega)⟩
def Disk (w : World) (B : Nat -> Prop) (g : Nat) (D : Dk) : Prop :=
 ∃ bk bf cv, w.heap[g]? = some (.cells #[.map (some bk), .map (some bf), cv, .int .i64 D.steps, .int .i64 D.left, .bool D.down] 53 (0, 0)) /\ M.Is w bk D.kept /\ M.Is w bf D.files /\
  w.ownsRow 0 74 4 cv D.chg.length (D.chg.map Ch.cells).flatten /\ bk ≠ bf /\ B g /\ B bk /\ B bf /\ ∀ c, cv.ownBlock = some c -> B c
theorem owns_fr {w w' : World} {base n z : Nat} {t : TypeId} {v : Value} {xs : List Value} {ex : Nat -> Prop} (h : w.ownsRow base t z v n xs) (hf : Fr w w' ex) (hne : ∀ c, v.ownBlock = some c -> ¬ ex c) : w'.ownsRow base t z v n xs := by
 refine ⟨h.1, ?_⟩;rcases h.2 with h1 | ⟨g, cap, cur, rfl, hb, hg, r⟩
 ·exact .inl h1
 ·exact .inr ⟨g, cap, cur, rfl, hb, by rw [hf.block g (Array.getElem?_eq_some_iff.1 hg).1 (hne g rfl)]; exact hg, r⟩
theorem is_fr {w w' : World} {b : Nat} {F : List (ByteArray × ByteArray)} {ex : Nat -> Prop} (h : M.Is w b F) (hf : Fr w w' ex) (hne : ¬ ex b) : M.Is w' b F := h.at (hf.block b h.lt hne)
theorem Disk.fr {w w' : World} {B ex : Nat -> Prop} {g : Nat} {D : Dk} (h : Disk w B g D) (hf : Fr w w' ex) (hne : ∀ c, B c -> ¬ ex c) : Disk w' B g D := by
 obtain ⟨bk, bf, cv, h1, h2, h3, h4, h5, h6, h7, h8, h9⟩ := h;exact ⟨bk, bf, cv, (hf.block g (Array.getElem?_eq_some_iff.1 h1).1 (hne g h6)).trans h1, is_fr h2 hf (hne _ h7), is_fr h3 hf (hne _ h8), owns_fr h4 hf (fun c hc => hne c (h9 c hc)), h5, h6, h7, h8, h9⟩
theorem owns_ne {w : World} {base n B z : Nat} {s : TypeId} {v : Value} {xs : List Value} {o : Obj} (h : w.ownsRow base s z v n xs) (hB : w.heap[B]? = some o) (ho : ∀ cs x, o ≠ .cells cs s x) : v.ownBlock ≠ some B := by
 intro e;rcases h.2 with ⟨rfl, _⟩ | ⟨g, cap, cur, rfl, _, hg, _⟩
 ·simp [Value.ownBlock] at e
 ·have : g = B := by simpa [Value.ownBlock] using e
  subst this;rw [hB] at hg;exact ho _ _ (Option.some.inj hg)
theorem Disk.turn {w w' : World} {B : Nat -> Prop} {g bk bf : Nat} {cv : Value} {D D' : Dk} (h1 : w.heap[g]? = some (.cells #[.map (some bk), .map (some bf), cv, .int .i64 D.steps, .int .i64 D.left, .bool D.down] 53 (0, 0))) (h2 : M.Is w bk D.kept) (h3 : M.Is w bf D.files)
  (h4 : w.ownsRow 0 74 4 cv D.chg.length (D.chg.map Ch.cells).flatten) (h5 : bk ≠ bf) (h6 : B g) (h7 : B bk) (h8 : B bf) (h9 : ∀ c, cv.ownBlock = some c -> B c) (hf : Fr w w' (fun c => c = g))
  (hg : w'.heap[g]? = some (.cells #[.map (some bk), .map (some bf), cv, .int .i64 D'.steps, .int .i64 D'.left, .bool D'.down] 53 (0, 0))) (ek : D'.kept = D.kept) (ef : D'.files = D.files) (ec : D'.chg = D.chg) : Disk w' B g D' := by
 have hk : bk ≠ g := fun e => by
  obtain ⟨es, c, hb, _⟩ := h2;rw [e, h1] at hb; cases hb
 have hf2 : bf ≠ g := fun e => by
  obtain ⟨es, c, hb, _⟩ := h3;rw [e, h1] at hb; cases hb
 refine ⟨bk, bf, cv, hg, by rw [ek]; exact is_fr h2 hf hk, by rw [ef]; exact is_fr h3 hf hf2, ?_, h5, h6, h7, h8, h9⟩;rw [ec];exact owns_fr h4 hf (fun c hc e => owns_ne h4 h1 (fun cs x hh => by cases hh) (by rw [<- e]; exact hc))
def Dk.new : Dk := ⟨[], [], [], 0, -1, false⟩
theorem new_any (w : World) : Calls Tryz.prog 5 #[] w fun o w' => ∃ g, o = .returned (.pointer (some ⟨g, 0, none⟩)) /\ Disk w' (fun c => w.heap.size <= c) g Dk.new /\ Fr w w' (fun _ => False) := by
 have hmm := fun w => run_makeMap (P := Tryz.prog) 50 w
 go_enter Tryz.func5, Tryz.ntmps5;go_wp2_with fail;go_ret;have e1 : (w.alloc (.map #[] 0)).heap.size = w.heap.size + 1 := by simp
 have e2 : ((w.alloc (.map #[] 0)).alloc (.map #[] 0)).heap.size = w.heap.size + 2 := by simp
 refine ⟨_, rfl, ⟨w.heap.size, w.heap.size + 1, .slice none 0 0, ?_, ?_, ?_, World.ownsRow_nil .., by omega, by show _ <= _; omega, Nat.le_refl _, Nat.le_succ _, fun c hc => by cases hc⟩, (((Fr.refl _ _).alloc _).alloc _).alloc _⟩
 ·have h := heap_alloc_new ((w.alloc (.map #[] 0)).alloc (.map #[] 0)) (.cells #[.map (some w.heap.size), .map (some (w.heap.size + 1)), .slice none 0 0, .int .i64 0, .int .i64 (-1), .bool false] 53);rw [e2] at h; exact h
 ·exact ((M.Is.made w).kept (World.grownBy_alloc _ _ none) (by simp)).kept (World.grownBy_alloc _ _ none) (by simp)
 ·have h := M.Is.made (w.alloc (.map #[] 0));rw [e1] at h;exact h.kept (World.grownBy_alloc _ _ none) (by simp)
def Dk.fails (D : Dk) : Prop := D.left = 0 \/ D.down = true
def Dk.fell (D : Dk) : Dk := { D with down := true }
def Dk.step (D : Dk) : Dk := { D with left := if 0 < D.left then D.left - 1 else D.left, steps := D.steps + 1 }
theorem step_any (w : World) (B : Nat -> Prop) (g : Nat) (D : Dk) (h : Disk w B g D) (hs : 0 <= D.steps /\ D.steps <= 1000000) (hl : -9223372036854775808 <= D.left /\ D.left <= 9223372036854775807) :
  Calls Tryz.prog 79 #[.pointer (some ⟨g, 0, none⟩)] w fun o w' => ((D.fails /\ o = .returned (.iface 54 (.int .i64 10)) /\ Disk w' B g D.fell) \/ (¬ D.fails /\ o = .returned .nilIface /\ Disk w' B g D.step)) /\ Fr w w' (fun c => c = g) := by
 obtain ⟨bk, bf, cv, h1, h2, h3, h4, h5, h6, h7, h8, h9⟩ := h;have c3 := cell_of_block h1 3 _ rfl;have c4 := cell_of_block h1 4 _ rfl;have c5 := cell_of_block h1 5 _ rfl;have f3 := free_of_block h1 3;have f4 := free_of_block h1 4;have f5 := free_of_block h1 5;have HT : Hid (∀ w' D', Fr w w' (fun c => c = g) -> w'.heap[g]? = some (.cells #[.map (some bk), .map (some bf), cv, .int .i64 D'.steps, .int .i64 D'.left, .bool D'.down] 53 (0, 0)) -> D'.kept = D.kept -> D'.files = D.files -> D'.chg = D.chg -> Disk w' B g D') := fun w' D' hf hg ek ef ec => Disk.turn h1 h2 h3 h4 h5 h6 h7 h8 h9 hf hg ek ef ec
 have H1 := hide h1;clear h1 h2 h3 h4 h5 h6 h7 h8 h9;go_enter Tryz.func79, Tryz.ntmps79;by_cases hz : D.left = 0
 ·rw [hz] at c4;have HF : Hid (D.fails) := .inl hz;clear hz;go_wp2_with fail;go_ret;refine ⟨.inl ⟨HF.out, rfl, HT.out _ D.fell (Fr.set1 _ _ _ _) (block_set (i := 5) H1.out _) rfl rfl rfl⟩, Fr.set1 _ _ _ _⟩
 ·cases hd : D.down with
  | true =>
   rw [hd] at c5;have HF : Hid (D.fails) := .inr hd;have HD : Hid (D.fell = D) := by show D.fell = D; unfold Dk.fell; rw [<- hd]
   clear hd;go_wp2_with fail;go_ret;exact ⟨.inl ⟨HF.out, rfl, HT.out _ D.fell (Fr.refl _ _) (by rw [HD.out]; exact H1.out) rfl rfl rfl⟩, Fr.refl _ _⟩
  | false =>
   rw [hd] at c5;have HF : Hid (¬ D.fails) := fun h => h.elim hz (fun h => by rw [hd] at h; cases h)
   clear hd;by_cases hp : 0 < D.left
   ·have HS : Hid (D.step = { D with left := D.left - 1, steps := D.steps + 1 }) := by show _ = _; unfold Dk.step; rw [if_pos hp]
    go_wp2_with fail;go_ret;refine ⟨.inr ⟨HF.out, rfl, HT.out _ D.step (Fr.set2 _ _ _ _ _ _) ?_ rfl rfl rfl⟩, Fr.set2 _ _ _ _ _ _⟩;rw [HS.out];exact block_set (i := 3) (block_set (i := 4) H1.out _) _
   ·have HS : Hid (D.step = { D with steps := D.steps + 1 }) := by show _ = _; unfold Dk.step; rw [if_neg hp]
    go_wp2_with fail;go_ret;refine ⟨.inr ⟨HF.out, rfl, HT.out _ D.step (Fr.set1 _ _ _ _) ?_ rfl rfl rfl⟩, Fr.set1 _ _ _ _⟩;rw [HS.out];exact block_set (i := 3) H1.out _
end Go.Proofs.YtcekcfjabhlheaaGreatDoor.Dx
namespace Go.Proofs.YtcekcfjabhlheaaGreatDoor.Dx
open Go.RowKit
attribute [local go_sem ↓] Go.wp_at_zero Go.wp_at_succ
def M.get (F : List (ByteArray × ByteArray)) (n : ByteArray) : Option ByteArray := (M.at_ n F 0).map (·.2)
theorem has_any (w : World) (B : Nat -> Prop) (g : Nat) (D : Dk) (n : ByteArray) (h : Disk w B g D) :
  Calls Tryz.prog 53 #[.pointer (some ⟨g, 0, none⟩), .string n] w fun o w' => o = .returned (.bool (M.get D.files n).isSome) /\ Fr w w' (fun _ => False) := by
 obtain ⟨bk, bf, cv, h1, h2, h3, h4, h5, h6, h7, h8, h9⟩ := h;have c1 := cell_of_block h1 1 _ rfl;have hlk := M.look h3 n true;unfold M.get;cases ha : M.at_ n D.files 0 with
 | none =>
  rw [ha] at hlk;simp only [if_true, M.val] at hlk;clear h1 h2 h3 h4 h5 h6 h7 h8 h9 ha;go_enter Tryz.func53, Tryz.ntmps53;go_wp2_with fail;go_ret;exact ⟨rfl, (Fr.refl _ _).alloc _⟩
 | some p =>
  rw [ha] at hlk;simp only [if_true, M.val] at hlk;clear h1 h2 h3 h4 h5 h6 h7 h8 h9 ha;go_enter Tryz.func53, Tryz.ntmps53;go_wp2_with fail;go_ret;exact ⟨rfl, (Fr.refl _ _).alloc _⟩
theorem field127 (s : ByteArray) (w : World) : (Instr.field 92 (.agg #[.string s]) 0).run Tryz.prog w = .ok (.string s) w := by kernel_rfl
def Ch.on (c : Ch) (F : List (ByteArray × ByteArray)) : List (ByteArray × ByteArray) :=
 if c.kind = 0 then M.put F c.name c.data else M.put F c.name ((M.get F c.name).getD ⟨#[]⟩ ++ c.data)
theorem on_any (w : World) (b : Nat) (c : Ch) (F : List (ByteArray × ByteArray)) (h : M.Is w b F) (hk : c.kind = 0 \/ c.kind = 1) (hlen : c.data.size <= 1000000 /\ ((M.get F c.name).getD ⟨#[]⟩).size <= 1000000) :
  Calls Tryz.prog 55 #[.agg #[.int .i64 c.kind, .string c.name, .string c.dest, .string c.data], .map (some b)] w fun o w' => o = .returned (.tuple #[]) /\ M.Is w' b (c.on F) /\ Fr w w' (fun x => x = b) := by
 obtain ⟨kk, nn, dd, da⟩ := c;simp only at hk hlen ⊢;have hI : ∀ ob, M.Is (w.alloc ob) b F := fun ob => h.kept (World.grownBy_alloc _ _ none) (by simp)
 have HI := hide hI;rcases hk with rfl | rfl
 ·unfold Ch.on;simp only [if_true];clear h hI;go_enter Tryz.func55, Tryz.ntmps55;go_wp2_with (at_mapUpdate; go_must (refine M.wpList_update rfl (.tmp 8) (.tmp 10) (.tmp 13) rfl (b := b) (F := F) nn da rfl rfl rfl (HI.out _) ?_); intro w2 hI2 hg2);go_end0;exact ⟨rfl, hI2, ((Fr.refl _ _).alloc _).grown hg2 (fun c e _ => (Option.some.inj e).symm)⟩
 ·unfold Ch.on;have hlk : ∀ ob, (Instr.lookup 50 (.map (some b)) (.string nn) false).run Tryz.prog (w.alloc ob) = .ok (.agg #[.string ((M.get F nn).getD ⟨#[]⟩)]) (w.alloc ob) := by
   intro ob;rw [M.look (hI ob) nn false];unfold M.get;cases M.at_ nn F 0 <;> rfl
  generalize hG : (M.get F nn).getD ⟨#[]⟩ = G at *;simp only [show ¬ ((1 : Int) = 0) by decide, if_false];have hfd := fun w => field127 G w
  clear h hI hG;go_enter Tryz.func55, Tryz.ntmps55;go_wp2_with (at_mapUpdate; go_must (refine M.wpList_update rfl (.tmp 16) (.tmp 18) (.tmp 27) rfl (b := b) (F := F) nn (G ++ da) rfl rfl rfl (HI.out _) ?_); intro w2 hI2 hg2);go_end0;exact ⟨rfl, hI2, ((Fr.refl _ _).alloc _).grown hg2 (fun c e _ => (Option.some.inj e).symm)⟩
end Go.Proofs.YtcekcfjabhlheaaGreatDoor.Dx
namespace Go.Proofs.YtcekcfjabhlheaaGreatDoor.Dx
open Go.RowKit
attribute [local go_sem ↓] Go.wp_at_zero Go.wp_at_succ
theorem info119 : (Tryz.prog.info? 74).map (fun i => (i.zero, i.size, i.bytes)) = some (some (.agg #[.int .i64 0, .string ⟨#[]⟩, .string ⟨#[]⟩, .string ⟨#[]⟩]), 4, 56) := by kernel_rfl
theorem news_of {w : World} {g : Nat} {cs : Array Value} {e : TypeId} {fr : Nat × Nat} (h : w.heap[g]? = some (.cells cs e fr)) : ∀ j u, cs.toList[j]? = some u -> w.cell? ((⟨g, 0, none⟩ : Addr).add j) = some u := World.news_of_block h
theorem news_alloc (w : World) (cs : Array Value) (e : TypeId) (g : Nat) (h : w.heap.size = g) : ∀ j u, cs.toList[j]? = some u -> (w.alloc (.cells cs e)).cell? ((⟨g, 0, none⟩ : Addr).add j) = some u := by
 subst h;exact news_of (heap_alloc_new w _)
theorem news_alloc_drew (w : World) (cs : Array Value) (e : TypeId) (g : Nat) (h : w.heap.size = g) : ∀ j u, cs.toList[j]? = some u -> (w.alloc (.cells cs e)).drew.cell? ((⟨g, 0, none⟩ : Addr).add j) = some u := news_alloc w cs e g h
theorem u113 : Tryz.prog.underlying 51 = some (.slice 74) := by kernel_rfl
theorem owns_shape {w : World} {base n z : Nat} {t : TypeId} {v : Value} {xs : List Value} (h : w.ownsRow base t z v n xs) : ∃ a c, v = .slice a n c := by
 rcases h.2 with ⟨rfl, h0⟩ | ⟨g, cap, cur, rfl, _⟩
 ·exact ⟨none, 0, by rw [h0]⟩
 ·exact ⟨_, _, rfl⟩
theorem grown_fr {w w1 w2 : World} {row : Option Nat} (hf : Fr w w1 (fun _ => False)) (hg : w1.grownBy w2 row) : Fr w w2 (fun c => row = some c) := (hf.weak (fun _ _ h => h.elim)).grown hg (fun _ e _ => e)
theorem Disk.pushed {w W wA : World} {B : Nat -> Prop} {g bk bf gA : Nat} {cv nv : Value} {st lf : Int} {dn : Bool} {D' : Dk} {n : Nat} {xs : List Value} (h1 : w.heap[g]? = some (.cells #[.map (some bk), .map (some bf), cv, .int .i64 st, .int .i64 lf, .bool dn] 53 (0, 0)))
  (h2 : M.Is w bk D'.kept) (h3 : M.Is w bf D'.files) (h4 : w.ownsRow 0 74 4 cv n xs) (h5 : bk ≠ bf) (h6 : B g) (h7 : B bk) (h8 : B bf) (hf : Fr w W (fun _ => False)) (hg : W.grownBy wA cv.ownBlock)
  (ho : wA.ownsRow 0 74 4 nv D'.chg.length (D'.chg.map Ch.cells).flatten) (hn : nv.ownBlock = some gA) (e1 : D'.steps = st) (e2 : D'.left = lf) (e3 : D'.down = dn) : Disk (wA.setCell ⟨g, 2, none⟩ nv) (fun x => B x \/ x = gA) g D' := by
 have hfA := grown_fr hf hg;have hgA : wA.heap[g]? = some (.cells #[.map (some bk), .map (some bf), cv, .int .i64 st, .int .i64 lf, .bool dn] 53 (0, 0)) :=
  (hfA.block g (blt h1) (owns_ne h4 h1 (fun cs x hh => by cases hh))).trans h1
 have hkA := is_fr h2 hfA (by obtain ⟨es, c, hb, _⟩ := h2; exact owns_ne h4 hb (fun cs x hh => by cases hh));have hfA2 := is_fr h3 hfA (by obtain ⟨es, c, hb, _⟩ := h3; exact owns_ne h4 hb (fun cs x hh => by cases hh));have hset := Fr.set1 wA g 2 nv;have hk : bk ≠ g := fun e => by
  obtain ⟨es, c, hb, _⟩ := h2;rw [e, h1] at hb; cases hb
 have hf2 : bf ≠ g := fun e => by
  obtain ⟨es, c, hb, _⟩ := h3;rw [e, h1] at hb; cases hb
 refine ⟨bk, bf, nv, ?_, is_fr hkA hset hk, is_fr hfA2 hset hf2, owns_fr ho hset (fun c hc e => owns_ne ho hgA (fun cs x hh => by cases hh) (by rw [<- e]; exact hc)), h5, .inl h6, .inl h7, .inl h8, fun c hc => .inr (by rw [hn] at hc; exact (Option.some.inj hc).symm)⟩;rw [e1, e2, e3];exact block_set (i := 2) hgA _
def Dk.did (D : Dk) (c : Ch) : Dk := { D.step with files := c.on D.files, chg := D.chg ++ [c] }
def Doing (w w' : World) (B : Nat -> Prop) (g : Nat) (D D' : Dk) (o : Ending) : Prop :=
 ((D.fails /\ o = .returned (.iface 54 (.int .i64 10)) /\ Disk w' B g D.fell) \/ (¬ D.fails /\ o = .returned .nilIface /\ ∃ B', Disk w' B' g D' /\ ∀ x, B' x -> B x \/ w.heap.size <= x)) /\ Fr w w' B
end Go.Proofs.YtcekcfjabhlheaaGreatDoor.Dx
namespace Go.Proofs.YtcekcfjabhlheaaGreatDoor.Dx
open Go.RowKit
attribute [local go_sem ↓] Go.wp_at_zero Go.wp_at_succ
namespace N
def letter (b : UInt8) : Bool := decide (97 <= b.toNat) && decide (b.toNat <= 122)
def digit (b : UInt8) : Bool := decide (48 <= b.toNat) && decide (b.toNat <= 57)
def byte (b : UInt8) : Bool := letter b || digit b || decide (b.toNat = 46)
def from_ : List UInt8 -> Bool
 | [] => true
 | c :: r => byte c && from_ r
def bl (s : ByteArray) : List UInt8 := s.data.toList
def may (s : ByteArray) : Bool := decide (1 <= s.size) && decide (s.size <= 24) && from_ (bl s)
def upto (most : Nat) (s : ByteArray) : Bool := decide (1 <= s.size) && decide (s.size <= most) && from_ (bl s)
theorem length_bl (s : ByteArray) : (bl s).length = s.size := by simp [bl]
theorem bl_get (s : ByteArray) (k : Nat) (h : k < s.size) : (bl s)[k]? = some s[k] := by
 have : k < s.data.toList.length := by simpa using h
 unfold bl;rw [List.getElem?_eq_getElem this];simp; rfl
theorem bl_drop (s : ByteArray) (k : Nat) (h : k < s.size) : (bl s).drop k = s[k] :: (bl s).drop (k + 1) := by
 have hl : k < (bl s).length := by rw [length_bl]; exact h
 rw [List.drop_eq_getElem_cons hl];have := bl_get s k h;rw [List.getElem?_eq_getElem hl] at this;rw [Option.some.inj this]
theorem bl_drop_end (s : ByteArray) (k : Nat) (h : ¬ k < s.size) : (bl s).drop k = [] := by
 rw [List.drop_eq_nil_iff, length_bl]; omega
end N
theorem ret_bool {a b : Bool} (h : a = b) : Ending.returned (.bool a) = .returned (.bool b) := by rw [h]
theorem letter_any (b : UInt8) (w : World) :
  Calls Tryz.prog 45 #[.int .u8 b.toNat] w fun e w' => e = .returned (.bool (N.letter b)) /\ w' = w := by
 go_enter Tryz.func45, Tryz.ntmps45
 go_wp2
 all_goals go_ret
 ·exact ⟨ret_bool (by unfold N.letter; rw [Bool.eq_iff_iff]; simp; omega), rfl⟩
 ·exact ⟨ret_bool (by unfold N.letter; rw [Bool.eq_iff_iff]; simp; omega), rfl⟩
theorem digit_any (b : UInt8) (w : World) :
  Calls Tryz.prog 46 #[.int .u8 b.toNat] w fun e w' => e = .returned (.bool (N.digit b)) /\ w' = w := by
 go_enter Tryz.func46, Tryz.ntmps46
 go_wp2
 all_goals go_ret
 ·exact ⟨ret_bool (by unfold N.digit; rw [Bool.eq_iff_iff]; simp; omega), rfl⟩
 ·exact ⟨ret_bool (by unfold N.digit; rw [Bool.eq_iff_iff]; simp; omega), rfl⟩
theorem dotted_any (s : ByteArray) (most : Nat) (w : World) (hs : s.size <= maxLen) :
  Calls Tryz.prog 68 #[.string s, .int .i64 most] w fun e w' => e = .returned (.bool (N.upto most s)) /\ w' = w := by
 unfold maxLen at hs;by_cases h0 : s.size = 0
 ·have E : Hid (N.upto most s = false) := by show _ = _; rw [N.upto, decide_eq_false (by omega : ¬ 1 <= s.size)]; rfl
  go_enter Tryz.func68, Tryz.ntmps68;go_wp2_with fail;go_ret;exact ⟨ret_bool E.out.symm, rfl⟩
 by_cases hmo : most < s.size
 ·have E : Hid (N.upto most s = false) := by show _ = _; rw [N.upto, decide_eq_false (by omega : ¬ s.size <= most), Bool.and_false]; rfl
  have g0 : ((s.size : Int) == 0) = false := beq_eq_false_iff_ne.2 (by omega);go_enter Tryz.func68, Tryz.ntmps68;go_wp2_with fail;go_ret;exact ⟨ret_bool E.out.symm, rfl⟩
 have E : N.upto most s = N.from_ (N.bl s) := by
  rw [N.upto, decide_eq_true (by omega : 1 <= s.size), decide_eq_true (by omega : s.size <= most)]; rfl
 rw [E];clear E;have g0 : ((s.size : Int) == 0) = false := beq_eq_false_iff_ne.2 (by omega);go_enter Tryz.func68, Tryz.ntmps68;go_wp2_with fail;go_loop [17, 5] (fun i _ => ∃ k : Nat, k <= s.size /\ i = .int .i64 k /\ N.from_ (N.bl s) = N.from_ ((N.bl s).drop k)) (fun i _ => s.size - (intOf i).toNat)
 case atStart => exact ⟨0, Nat.zero_le _, rfl, by simp⟩
 case round =>
  obtain ⟨k, hk, rfl, hq⟩ := hrel;by_cases hlt : k < s.size
  ·rw [N.bl_drop s k hlt, N.from_, N.byte] at hq;cases hl : N.letter s[k]
   ·cases hd : N.digit s[k]
    ·rw [hl, hd] at hq;by_cases hp : s[k].toNat = 46
     ·have gk : ((s[k].toNat : Int) != 46) = false := by simp; omega
      rw [decide_eq_true hp] at hq;have HQ : Hid _ := hq;clear hq hp;go_wp2_with (first | (go_at_call 45; refine (letter_any s[k] _).mono ?_; rw [hl]; rintro e w' ⟨rfl, rfl⟩) | (go_at_call 46; refine (digit_any s[k] _).mono ?_; rw [hd]; rintro e w' ⟨rfl, rfl⟩));go_round
      case rel => exact ⟨k + 1, by omega, by go_num, by rw [HQ.out]; rfl⟩
      case measure => simp [intOf]; omega
     ·have gk : ((s[k].toNat : Int) != 46) = true := by simp; omega
      rw [decide_eq_false hp] at hq;have HQ : Hid _ := hq;clear hq hp;go_wp2_with (first | (go_at_call 45; refine (letter_any s[k] _).mono ?_; rw [hl]; rintro e w' ⟨rfl, rfl⟩) | (go_at_call 46; refine (digit_any s[k] _).mono ?_; rw [hd]; rintro e w' ⟨rfl, rfl⟩));go_ret;exact ⟨ret_bool (by rw [HQ.out]; rfl), rfl⟩
    ·rw [hl, hd] at hq;have HQ : Hid _ := hq;clear hq;go_wp2_with (first | (go_at_call 45; refine (letter_any s[k] _).mono ?_; rw [hl]; rintro e w' ⟨rfl, rfl⟩) | (go_at_call 46; refine (digit_any s[k] _).mono ?_; rw [hd]; rintro e w' ⟨rfl, rfl⟩));go_round
     case rel => exact ⟨k + 1, by omega, by go_num, by rw [HQ.out]; rfl⟩
     case measure => simp [intOf]; omega
   ·rw [hl] at hq;have HQ : Hid _ := hq;clear hq;go_wp2_with (first | (go_at_call 45; refine (letter_any s[k] _).mono ?_; rw [hl]; rintro e w' ⟨rfl, rfl⟩));go_round
    case rel => exact ⟨k + 1, by omega, by go_num, by rw [HQ.out]; rfl⟩
    case measure => simp [intOf]; omega
  ·rw [N.bl_drop_end s k hlt, N.from_] at hq;have HQ : Hid _ := hq;clear hq;go_wp2_with fail;go_ret;exact ⟨ret_bool HQ.out.symm, rfl⟩
theorem name_any (s : ByteArray) (w : World) (hs : s.size <= maxLen) :
  Calls Tryz.prog 78 #[.string s] w fun e w' => e = .returned (.bool (N.may s)) /\ w' = w := by
 have HD := hide (dotted_any s 24 w hs);go_enter Tryz.func78, Tryz.ntmps78;go_wp2_with fail;refine HD.out.mono ?_;rintro e w' ⟨rfl, hw⟩;rw [hw];clear hw;go_wp2_with fail;go_ret;exact ⟨rfl, rfl⟩
end Go.Proofs.YtcekcfjabhlheaaGreatDoor.Dx
