/- StateSays: VA VB VC VD. -/
import Derived.Test.YtcekcfjabhlheaaGreatDoorProg
import Derived.WalkKit
import Derived.WalkSpells
import Derived.WalkLawsBesides
import Derived.BigQuiet
import Derived.Deep.QuietTactic
import Derived.Deep.AppendLies
import Derived.Deep.RegionHeld3
import Derived.Deep.DrawnRows
import Derived.Deep.DeepCutAuto
set_option maxRecDepth 100000
set_option maxHeartbeats 1600000
namespace Go.Proofs.YtcekcfjabhlheaaGreatDoor.Vx
open Go.RowKit
structure Val where
 kind : Int
 n : Int
 s : ByteArray
 l : List Val
 f : List (ByteArray × Val)
namespace V
def Row (w : World) (v : Value) (n sz : Nat) (P : Nat -> List Value -> Prop) : Prop :=
 ∃ ao cap, v = .slice ao n cap /\ (n = 0 \/ ∃ b off, ao = some ⟨b, off, none⟩ /\ ∀ i, i < n -> ∃ cs : List Value, cs.length = sz /\ (∀ j, j < sz -> w.cell? ⟨b, off + i * sz + j, none⟩ = cs[j]?) /\ P i cs)
def Mem : Nat -> World -> Val -> List Value -> Prop
 | 0, _, _, _ => False
 | m + 1, w, v, cs => ∃ lv fv, cs = [.int .i64 v.kind, .int .i64 v.n, .string v.s, lv, fv] /\
   Row w lv v.l.length 5 (fun i c => ∃ x, v.l[i]? = some x /\ Mem m w x c) /\
   Row w fv v.f.length 6 (fun i c => ∃ x c', v.f[i]? = some x /\ c = .string x.1 :: c' /\ Mem m w x.2 c')
def sumL (g : Val -> Nat) (l : List Val) : Nat := (l.map g).sum
def sumF (g : ByteArray × Val -> Nat) (l : List (ByteArray × Val)) : Nat := (l.map g).sum
def bulk : Nat -> Val -> Nat
 | 0, _ => 0
 | m + 1, v => 1 + v.s.size + v.l.length + v.f.length + sumL (bulk m) v.l + sumF (fun x => x.1.size + bulk m x.2) v.f
def parts : Nat -> Val -> Nat
 | 0, _ => 0
 | m + 1, v => 1 + sumL (parts m) v.l + sumF (fun x => parts m x.2) v.f
def deep : Nat -> Val -> Nat
 | 0, _ => 0
 | m + 1, v => (v.f.foldl (fun d x => max d (deep m x.2)) (v.l.foldl (fun d x => max d (deep m x)) 0)) + 1
theorem sumL_take (g : Val -> Nat) (l : List Val) (k : Nat) (x : Val) (h : l[k]? = some x) : sumL g (l.take (k + 1)) = sumL g (l.take k) + g x := by
 unfold sumL; rw [List.take_add_one, h]; simp
theorem sumF_take (g : ByteArray × Val -> Nat) (l : List (ByteArray × Val)) (k : Nat) (x : ByteArray × Val) (h : l[k]? = some x) : sumF g (l.take (k + 1)) = sumF g (l.take k) + g x := by
 unfold sumF; rw [List.take_add_one, h]; simp
theorem sumL_le (g : Val -> Nat) (l : List Val) (k : Nat) (x : Val) (h : l[k]? = some x) : sumL g (l.take k) + g x <= sumL g l := by
 rw [<- sumL_take g l k x h];have : sumL g l = sumL g (l.take (k + 1)) + sumL g (l.drop (k + 1)) := by unfold sumL; rw [<- List.sum_append, <- List.map_append, List.take_append_drop]
 omega
theorem sumF_le (g : ByteArray × Val -> Nat) (l : List (ByteArray × Val)) (k : Nat) (x : ByteArray × Val) (h : l[k]? = some x) : sumF g (l.take k) + g x <= sumF g l := by
 rw [<- sumF_take g l k x h];have : sumF g l = sumF g (l.take (k + 1)) + sumF g (l.drop (k + 1)) := by unfold sumF; rw [<- List.sum_append, <- List.map_append, List.take_append_drop]
 omega
theorem sumL_mono (g h : Val -> Nat) (l : List Val) (hgh : ∀ x, g x <= h x) : sumL g l <= sumL h l := by
 induction l with
 | nil => exact Nat.le_refl _
 | cons a l ih => unfold sumL at *; simp only [List.map_cons, List.sum_cons]; have := hgh a; omega
theorem sumF_mono (g h : ByteArray × Val -> Nat) (l : List (ByteArray × Val)) (hgh : ∀ x, g x <= h x) : sumF g l <= sumF h l := by
 induction l with
 | nil => exact Nat.le_refl _
 | cons a l ih => unfold sumF at *; simp only [List.map_cons, List.sum_cons]; have := hgh a; omega
theorem parts_le (m : Nat) : ∀ v, parts m v <= bulk m v := by
 induction m with
 | zero => intro v; exact Nat.le_refl _
 | succ m ih =>
  intro v;rw [parts, bulk];have h1 := sumL_mono (parts m) (bulk m) v.l ih;have h2 := sumF_mono (fun x => parts m x.2) (fun x => x.1.size + bulk m x.2) v.f (fun x => by have := ih x.2; omega);omega
theorem foldl_max_le {α : Type} (g : α -> Nat) (B : Nat) : ∀ (l : List α) (d : Nat), d <= B -> (∀ x ∈ l, g x <= B) -> l.foldl (fun d x => max d (g x)) d <= B
 | [], _, h, _ => h
 | a :: l, d, h, hl => by
  rw [List.foldl_cons];exact foldl_max_le g B l _ (by have := hl a (by simp); omega) (fun x hx => hl x (by simp [hx]))
theorem foldl_take {α : Type} (g : α -> Nat) (l : List α) (d k : Nat) (x : α) (h : l[k]? = some x) : (l.take (k + 1)).foldl (fun d x => max d (g x)) d = max ((l.take k).foldl (fun d x => max d (g x)) d) (g x) := by
 rw [List.take_add_one, h]; simp
theorem sumL_mem (g : Val -> Nat) (l : List Val) (x : Val) (h : x ∈ l) : g x <= sumL g l := by
 obtain ⟨k, hk⟩ := List.getElem?_of_mem h;have := sumL_le g l k x hk; omega
theorem sumF_mem (g : ByteArray × Val -> Nat) (l : List (ByteArray × Val)) (x : ByteArray × Val) (h : x ∈ l) : g x <= sumF g l := by
 obtain ⟨k, hk⟩ := List.getElem?_of_mem h;have := sumF_le g l k x hk; omega
theorem deep_le (m : Nat) : ∀ v, deep m v <= bulk m v := by
 induction m with
 | zero => intro v; exact Nat.le_refl _
 | succ m ih =>
  intro v;rw [deep, bulk];have h1 : v.l.foldl (fun d x => max d (deep m x)) 0 <= sumL (bulk m) v.l + sumF (fun x => x.1.size + bulk m x.2) v.f :=
   foldl_max_le _ _ _ _ (by omega) (fun x hx => by have := ih x; have := sumL_mem (bulk m) v.l x hx; omega)
  have h2 : v.f.foldl (fun d x => max d (deep m x.2)) (v.l.foldl (fun d x => max d (deep m x)) 0) <= sumL (bulk m) v.l + sumF (fun x => x.1.size + bulk m x.2) v.f :=
   foldl_max_le (fun x : ByteArray × Val => deep m x.2) _ _ _ h1 (fun x hx => by have := ih x.2; have := sumF_mem (fun x => x.1.size + bulk m x.2) v.f x hx; omega)
  omega
theorem Row.kept {w w' : World} {v : Value} {n sz : Nat} {P Q : Nat -> List Value -> Prop} (h : Row w v n sz P) (hb : Below w.heap.size w w') (hPQ : ∀ i c, P i c -> Q i c) : Row w' v n sz Q := by
 obtain ⟨ao, cap, rfl, h⟩ := h;refine ⟨ao, cap, rfl, ?_⟩;rcases h with h | ⟨b, off, rfl, h⟩
 ·exact .inl h
 ·refine .inr ⟨b, off, rfl, fun i hi => ?_⟩;obtain ⟨cs, h1, h2, h3⟩ := h i hi;refine ⟨cs, h1, fun j hj => ?_, hPQ i cs h3⟩;rw [<- h2 j hj];have hc : ∃ u, w.cell? ⟨b, off + i * sz + j, none⟩ = some u := by
   rw [h2 j hj]; exact ⟨_, List.getElem?_eq_getElem (by omega)⟩
  obtain ⟨u, hu⟩ := hc;exact hb.cell (p := ⟨b, off + i * sz + j, none⟩) (World.block_lt_of_cell? w _ hu)
theorem Mem.kept : ∀ (m : Nat) {w w' : World} {v : Val} {cs : List Value}, Mem m w v cs -> Below w.heap.size w w' -> Mem m w' v cs
 | 0, _, _, _, _, h, _ => h.elim
 | m + 1, _, _, _, _, ⟨lv, fv, h1, h2, h3⟩, hb =>
  ⟨lv, fv, h1, h2.kept hb (fun _ _ ⟨x, hx, hm⟩ => ⟨x, hx, Mem.kept m hm hb⟩), h3.kept hb (fun _ _ ⟨x, c', hx, hc, hm⟩ => ⟨x, c', hx, hc, Mem.kept m hm hb⟩)⟩
end V
theorem free_of_block {w : World} {g : Nat} {cs : Array Value} {e : TypeId} (h : w.heap[g]? = some (.cells cs e (0, 0))) (j : Nat) : w.frozen? ⟨g, j, none⟩ = false := by simp [World.frozen?, h]
theorem fl4 {w : World} {g : Nat} {cs : Array Value} {e : TypeId} (h : w.heap[g]? = some (.cells cs e (0, 0))) : w.frozen? ⟨g, 0, none⟩ = false /\ w.frozen? ⟨g, 1, none⟩ = false /\ w.frozen? ⟨g, 2, none⟩ = false /\ w.frozen? ⟨g, 3, none⟩ = false := ⟨free_of_block h 0, free_of_block h 1, free_of_block h 2, free_of_block h 3⟩
theorem fl5 {w : World} {g : Nat} {cs : Array Value} {e : TypeId} (h : w.heap[g]? = some (.cells cs e (0, 0))) : w.frozen? ⟨g, 0, none⟩ = false /\ w.frozen? ⟨g, 1, none⟩ = false /\ w.frozen? ⟨g, 2, none⟩ = false /\ w.frozen? ⟨g, 3, none⟩ = false /\ w.frozen? ⟨g, 4, none⟩ = false := ⟨free_of_block h 0, free_of_block h 1, free_of_block h 2, free_of_block h 3, free_of_block h 4⟩
theorem fl6 {w : World} {g : Nat} {cs : Array Value} {e : TypeId} (h : w.heap[g]? = some (.cells cs e (0, 0))) : w.frozen? ⟨g, 0, none⟩ = false /\ w.frozen? ⟨g, 1, none⟩ = false /\ w.frozen? ⟨g, 2, none⟩ = false /\ w.frozen? ⟨g, 3, none⟩ = false /\ w.frozen? ⟨g, 4, none⟩ = false /\ w.frozen? ⟨g, 5, none⟩ = false := ⟨free_of_block h 0, free_of_block h 1, free_of_block h 2, free_of_block h 3, free_of_block h 4, free_of_block h 5⟩
theorem fl8 {w : World} {g : Nat} {cs : Array Value} {e : TypeId} (h : w.heap[g]? = some (.cells cs e (0, 0))) : w.frozen? ⟨g, 0, none⟩ = false /\ w.frozen? ⟨g, 1, none⟩ = false /\ w.frozen? ⟨g, 2, none⟩ = false /\ w.frozen? ⟨g, 3, none⟩ = false /\ w.frozen? ⟨g, 4, none⟩ = false /\ w.frozen? ⟨g, 5, none⟩ = false /\ w.frozen? ⟨g, 6, none⟩ = false /\ w.frozen? ⟨g, 7, none⟩ = false := ⟨free_of_block h 0, free_of_block h 1, free_of_block h 2, free_of_block h 3, free_of_block h 4, free_of_block h 5, free_of_block h 6, free_of_block h 7⟩
theorem fl10 {w : World} {g : Nat} {cs : Array Value} {e : TypeId} (h : w.heap[g]? = some (.cells cs e (0, 0))) : w.frozen? ⟨g, 0, none⟩ = false /\ w.frozen? ⟨g, 1, none⟩ = false /\ w.frozen? ⟨g, 2, none⟩ = false /\ w.frozen? ⟨g, 3, none⟩ = false /\ w.frozen? ⟨g, 4, none⟩ = false /\ w.frozen? ⟨g, 5, none⟩ = false /\ w.frozen? ⟨g, 6, none⟩ = false /\ w.frozen? ⟨g, 7, none⟩ = false /\ w.frozen? ⟨g, 8, none⟩ = false /\ w.frozen? ⟨g, 9, none⟩ = false := ⟨free_of_block h 0, free_of_block h 1, free_of_block h 2, free_of_block h 3, free_of_block h 4, free_of_block h 5, free_of_block h 6, free_of_block h 7, free_of_block h 8, free_of_block h 9⟩
theorem cell_of_block {w : World} {g : Nat} {cs : Array Value} {e : TypeId} (h : w.heap[g]? = some (.cells cs e (0, 0))) (j : Nat) (u : Value) (hu : cs[j]? = some u) : w.cell? ⟨g, j, none⟩ = some u := by rw [cell_of_row w g j cs e (0, 0) h]; exact hu
theorem ba {w : World} {o : Obj} : Below w.heap.size w (w.alloc o) := (Below.refl _ _).alloc (Nat.le_refl _) _
theorem ij5 {α : Type} {a b c d e a' b' c' d' e' : α} (h : [a, b, c, d, e] = [a', b', c', d', e']) : a = a' ∧ b = b' ∧ c = c' ∧ d = d' ∧ e = e' := by simpa using h
theorem ij4 {α : Type} {a b c d a' b' c' d' : α} (h : [a, b, c, d] = [a', b', c', d']) : a = a' ∧ b = b' ∧ c = c' ∧ d = d' := by simpa using h
theorem blt {α : Type} {a : Array α} {i : Nat} {x : α} (h : a[i]? = some x) : i < a.size := (Array.getElem?_eq_some_iff.1 h).1
theorem cl3 {w : World} {g : Nat} {e : TypeId} {z0 z1 z2 : Value} (h : w.heap[g]? = some (.cells #[z0, z1, z2] e (0, 0))) : w.cell? ⟨g, 0, none⟩ = some z0 /\ w.cell? ⟨g, 1, none⟩ = some z1 /\ w.cell? ⟨g, 2, none⟩ = some z2 := ⟨cell_of_block h 0 _ rfl, cell_of_block h 1 _ rfl, cell_of_block h 2 _ rfl⟩
theorem cl4 {w : World} {g : Nat} {e : TypeId} {z0 z1 z2 z3 : Value} (h : w.heap[g]? = some (.cells #[z0, z1, z2, z3] e (0, 0))) : w.cell? ⟨g, 0, none⟩ = some z0 /\ w.cell? ⟨g, 1, none⟩ = some z1 /\ w.cell? ⟨g, 2, none⟩ = some z2 /\ w.cell? ⟨g, 3, none⟩ = some z3 := ⟨cell_of_block h 0 _ rfl, cell_of_block h 1 _ rfl, cell_of_block h 2 _ rfl, cell_of_block h 3 _ rfl⟩
theorem cl5 {w : World} {g : Nat} {e : TypeId} {z0 z1 z2 z3 z4 : Value} (h : w.heap[g]? = some (.cells #[z0, z1, z2, z3, z4] e (0, 0))) : w.cell? ⟨g, 0, none⟩ = some z0 /\ w.cell? ⟨g, 1, none⟩ = some z1 /\ w.cell? ⟨g, 2, none⟩ = some z2 /\ w.cell? ⟨g, 3, none⟩ = some z3 /\ w.cell? ⟨g, 4, none⟩ = some z4 := ⟨cell_of_block h 0 _ rfl, cell_of_block h 1 _ rfl, cell_of_block h 2 _ rfl, cell_of_block h 3 _ rfl, cell_of_block h 4 _ rfl⟩
theorem cl6 {w : World} {g : Nat} {e : TypeId} {z0 z1 z2 z3 z4 z5 : Value} (h : w.heap[g]? = some (.cells #[z0, z1, z2, z3, z4, z5] e (0, 0))) : w.cell? ⟨g, 0, none⟩ = some z0 /\ w.cell? ⟨g, 1, none⟩ = some z1 /\ w.cell? ⟨g, 2, none⟩ = some z2 /\ w.cell? ⟨g, 3, none⟩ = some z3 /\ w.cell? ⟨g, 4, none⟩ = some z4 /\ w.cell? ⟨g, 5, none⟩ = some z5 := ⟨cell_of_block h 0 _ rfl, cell_of_block h 1 _ rfl, cell_of_block h 2 _ rfl, cell_of_block h 3 _ rfl, cell_of_block h 4 _ rfl, cell_of_block h 5 _ rfl⟩
theorem cl8 {w : World} {g : Nat} {e : TypeId} {z0 z1 z2 z3 z4 z5 z6 z7 : Value} (h : w.heap[g]? = some (.cells #[z0, z1, z2, z3, z4, z5, z6, z7] e (0, 0))) : w.cell? ⟨g, 0, none⟩ = some z0 /\ w.cell? ⟨g, 1, none⟩ = some z1 /\ w.cell? ⟨g, 2, none⟩ = some z2 /\ w.cell? ⟨g, 3, none⟩ = some z3 /\ w.cell? ⟨g, 4, none⟩ = some z4 /\ w.cell? ⟨g, 5, none⟩ = some z5 /\ w.cell? ⟨g, 6, none⟩ = some z6 /\ w.cell? ⟨g, 7, none⟩ = some z7 := ⟨cell_of_block h 0 _ rfl, cell_of_block h 1 _ rfl, cell_of_block h 2 _ rfl, cell_of_block h 3 _ rfl, cell_of_block h 4 _ rfl, cell_of_block h 5 _ rfl, cell_of_block h 6 _ rfl, cell_of_block h 7 _ rfl⟩
theorem cl10 {w : World} {g : Nat} {e : TypeId} {z0 z1 z2 z3 z4 z5 z6 z7 z8 z9 : Value} (h : w.heap[g]? = some (.cells #[z0, z1, z2, z3, z4, z5, z6, z7, z8, z9] e (0, 0))) : w.cell? ⟨g, 0, none⟩ = some z0 /\ w.cell? ⟨g, 1, none⟩ = some z1 /\ w.cell? ⟨g, 2, none⟩ = some z2 /\ w.cell? ⟨g, 3, none⟩ = some z3 /\ w.cell? ⟨g, 4, none⟩ = some z4 /\ w.cell? ⟨g, 5, none⟩ = some z5 /\ w.cell? ⟨g, 6, none⟩ = some z6 /\ w.cell? ⟨g, 7, none⟩ = some z7 /\ w.cell? ⟨g, 8, none⟩ = some z8 /\ w.cell? ⟨g, 9, none⟩ = some z9 := ⟨cell_of_block h 0 _ rfl, cell_of_block h 1 _ rfl, cell_of_block h 2 _ rfl, cell_of_block h 3 _ rfl, cell_of_block h 4 _ rfl, cell_of_block h 5 _ rfl, cell_of_block h 6 _ rfl, cell_of_block h 7 _ rfl, cell_of_block h 8 _ rfl, cell_of_block h 9 _ rfl⟩
namespace V
theorem elemL {w : World} {v : Value} {n m : Nat} {l : List Val} (h : Row w v n 5 (fun i c => ∃ x, l[i]? = some x /\ Mem m w x c)) (i : Nat) (hi : i < n) :
  ∃ b off cap x c0 c1 c2 c3 c4, v = .slice (some ⟨b, off, none⟩) n cap /\ l[i]? = some x /\ Mem m w x [c0, c1, c2, c3, c4] /\
   w.cell? ⟨b, off + i * 5, none⟩ = some c0 /\ w.cell? ⟨b, off + i * 5 + 1, none⟩ = some c1 /\ w.cell? ⟨b, off + i * 5 + 2, none⟩ = some c2 /\ w.cell? ⟨b, off + i * 5 + 3, none⟩ = some c3 /\ w.cell? ⟨b, off + i * 5 + 4, none⟩ = some c4 := by
 obtain ⟨ao, cap, rfl, h | ⟨b, off, rfl, h⟩⟩ := h
 ·omega
 ·obtain ⟨cs, h1, h2, x, hx, hm⟩ := h i hi
  match cs, h1 with
  | [c0, c1, c2, c3, c4], _ => exact ⟨b, off, cap, x, c0, c1, c2, c3, c4, rfl, hx, hm, h2 0 (by omega), h2 1 (by omega), h2 2 (by omega), h2 3 (by omega), h2 4 (by omega)⟩
theorem elemF {w : World} {v : Value} {n m : Nat} {l : List (ByteArray × Val)} (h : Row w v n 6 (fun i c => ∃ x c', l[i]? = some x /\ c = .string x.1 :: c' /\ Mem m w x.2 c')) (i : Nat) (hi : i < n) :
  ∃ b off cap x c0 c1 c2 c3 c4, v = .slice (some ⟨b, off, none⟩) n cap /\ l[i]? = some x /\ Mem m w x.2 [c0, c1, c2, c3, c4] /\ w.cell? ⟨b, off + i * 6, none⟩ = some (.string x.1) /\
   w.cell? ⟨b, off + i * 6 + 1, none⟩ = some c0 /\ w.cell? ⟨b, off + i * 6 + 2, none⟩ = some c1 /\ w.cell? ⟨b, off + i * 6 + 3, none⟩ = some c2 /\ w.cell? ⟨b, off + i * 6 + 4, none⟩ = some c3 /\ w.cell? ⟨b, off + i * 6 + 5, none⟩ = some c4 := by
 obtain ⟨ao, cap, rfl, h | ⟨b, off, rfl, h⟩⟩ := h
 ·omega
 ·obtain ⟨cs, h1, h2, x, c', hx, rfl, hm⟩ := h i hi
  match c', h1 with
  | [c0, c1, c2, c3, c4], _ => exact ⟨b, off, cap, x, c0, c1, c2, c3, c4, rfl, hx, hm, h2 0 (by omega), h2 1 (by omega), h2 2 (by omega), h2 3 (by omega), h2 4 (by omega), h2 5 (by omega)⟩
theorem Row.shape {w : World} {v : Value} {n sz : Nat} {P : Nat -> List Value -> Prop} (h : Row w v n sz P) : ∃ ao cap, v = .slice ao n cap := by
 obtain ⟨ao, cap, h, _⟩ := h; exact ⟨ao, cap, h⟩
end V
theorem max_if (a b : Nat) : (if a < b then (b : Int) else (a : Int)) = ((max a b : Nat) : Int) := by split <;> omega
namespace V
def letter (b : UInt8) : Bool := decide (97 <= b.toNat) && decide (b.toNat <= 122)
def digit (b : UInt8) : Bool := decide (48 <= b.toNat) && decide (b.toNat <= 57)
def nameByte (i : Nat) (c : UInt8) : Bool := letter c || digit c && decide (0 < i)
def nameFrom : Nat -> List UInt8 -> Bool
 | _, [] => true
 | i, c :: r => nameByte i c && nameFrom (i + 1) r
def name (l : List UInt8) : Bool := decide (1 <= l.length) && decide (l.length <= 12) && nameFrom 0 l
def bl (s : ByteArray) : List UInt8 := s.data.toList
def str (l : List UInt8) : ByteArray := ⟨l.toArray⟩
theorem length_bl (s : ByteArray) : (bl s).length = s.size := by simp [bl]
theorem str_bl (s : ByteArray) : str (bl s) = s := by simp [bl, str]
theorem bl_str (l : List UInt8) : bl (str l) = l := by simp [bl, str]
theorem toList_bl (s : ByteArray) : s.toList = bl s := ByteArray.toList_eq s
theorem bl_get (s : ByteArray) (k : Nat) (h : k < s.size) : (bl s)[k]? = some s[k] := by
 have : k < s.data.toList.length := by simpa using h
 unfold bl;rw [List.getElem?_eq_getElem this];simp; rfl
theorem bl_drop (s : ByteArray) (k : Nat) (h : k < s.size) : (bl s).drop k = s[k] :: (bl s).drop (k + 1) := by
 have hl : k < (bl s).length := by rw [length_bl]; exact h
 rw [List.drop_eq_getElem_cons hl];have := bl_get s k h;rw [List.getElem?_eq_getElem hl] at this;rw [Option.some.inj this]
theorem bl_drop_end (s : ByteArray) (k : Nat) (h : ¬ k < s.size) : (bl s).drop k = [] := by
 rw [List.drop_eq_nil_iff, length_bl]; omega
theorem is_letter (b : UInt8) (h : letter b = true) : 97 <= b.toNat /\ b.toNat <= 122 := by simpa [letter] using h
theorem not_letter (b : UInt8) (h : letter b = false) : ¬ (97 <= b.toNat /\ b.toNat <= 122) := by
 simp only [letter, Bool.and_eq_false_iff, decide_eq_false_iff_not] at h; omega
theorem is_digit (b : UInt8) (h : digit b = true) : 48 <= b.toNat /\ b.toNat <= 57 := by simpa [digit] using h
theorem not_digit (b : UInt8) (h : digit b = false) : ¬ (48 <= b.toNat /\ b.toNat <= 57) := by
 simp only [digit, Bool.and_eq_false_iff, decide_eq_false_iff_not] at h; omega
end V
theorem ret_bool {a b : Bool} (h : a = b) : Ending.returned (.bool a) = .returned (.bool b) := by rw [h]
theorem ret_int {k : IntKind} {a b : Int} (h : a = b) : Ending.returned (.int k a) = .returned (.int k b) := by rw [h]
theorem letter_any (b : UInt8) (w : World) :
  Calls Tryz.prog 45 #[.int .u8 b.toNat] w fun e w' => e = .returned (.bool (V.letter b)) /\ w' = w := by
 go_enter Tryz.func45, Tryz.ntmps45
 go_wp2
 all_goals go_ret
 ·exact ⟨ret_bool (by unfold V.letter; rw [Bool.eq_iff_iff]; simp; omega), rfl⟩
 ·exact ⟨ret_bool (by unfold V.letter; rw [Bool.eq_iff_iff]; simp; omega), rfl⟩
theorem digit_any (b : UInt8) (w : World) :
  Calls Tryz.prog 46 #[.int .u8 b.toNat] w fun e w' => e = .returned (.bool (V.digit b)) /\ w' = w := by
 go_enter Tryz.func46, Tryz.ntmps46
 go_wp2
 all_goals go_ret
 ·exact ⟨ret_bool (by unfold V.digit; rw [Bool.eq_iff_iff]; simp; omega), rfl⟩
 ·exact ⟨ret_bool (by unfold V.digit; rw [Bool.eq_iff_iff]; simp; omega), rfl⟩
theorem name_any (s : ByteArray) (w : World) (hs : s.size <= maxLen) :
  Calls Tryz.prog 21 #[.string s] w fun e w' => e = .returned (.bool (V.name (V.bl s))) /\ w' = w := by
 unfold maxLen at hs;by_cases h0 : s.size = 0
 ·have E : Hid (V.name (V.bl s) = false) := by show _ = _; rw [V.name, V.length_bl, decide_eq_false (by omega : ¬ 1 <= s.size)]; rfl
  go_enter Tryz.func21, Tryz.ntmps21;go_wp2_with fail;go_ret;exact ⟨ret_bool E.out.symm, rfl⟩
 by_cases h12 : 12 < s.size
 ·have E : Hid (V.name (V.bl s) = false) := by show _ = _; rw [V.name, V.length_bl, decide_eq_false (by omega : ¬ s.size <= 12), Bool.and_false]; rfl
  have g0 : ((s.size : Int) == 0) = false := beq_eq_false_iff_ne.2 (by omega);go_enter Tryz.func21, Tryz.ntmps21;go_wp2_with fail;go_ret;exact ⟨ret_bool E.out.symm, rfl⟩
 have E : V.name (V.bl s) = V.nameFrom 0 (V.bl s) := by
  rw [V.name, V.length_bl, decide_eq_true (by omega : 1 <= s.size), decide_eq_true (by omega : s.size <= 12)]; rfl
 rw [E];clear E;have g0 : ((s.size : Int) == 0) = false := beq_eq_false_iff_ne.2 (by omega);go_enter Tryz.func21, Tryz.ntmps21;go_wp2_with fail;go_loop [14, 3] (fun i _ => ∃ k : Nat, k <= s.size /\ i = .int .i64 k /\ V.nameFrom 0 (V.bl s) = V.nameFrom k ((V.bl s).drop k)) (fun i _ => s.size - (intOf i).toNat)
 case atStart => exact ⟨0, Nat.zero_le _, rfl, by simp⟩
 case round =>
  obtain ⟨k, hk, rfl, hq⟩ := hrel;by_cases hlt : k < s.size
  ·rw [V.bl_drop s k hlt, V.nameFrom, V.nameByte] at hq;cases hl : V.letter s[k]
   ·cases hd : V.digit s[k]
    ·rw [hl, hd] at hq;have HQ : Hid _ := hq;clear hq;by_cases hk0 : k = 0
     ·have gk : ((k : Int) == 0) = true := by simp; omega
      clear hk0;go_wp2_with (first | (go_at_call 45; refine (letter_any s[k] _).mono ?_; rw [hl]; rintro e w' ⟨rfl, rfl⟩) | (go_at_call 46; refine (digit_any s[k] _).mono ?_; rw [hd]; rintro e w' ⟨rfl, rfl⟩));go_ret;exact ⟨ret_bool (by rw [HQ.out]; rfl), rfl⟩
     ·have gk : ((k : Int) == 0) = false := by simp; omega
      clear hk0;go_wp2_with (first | (go_at_call 45; refine (letter_any s[k] _).mono ?_; rw [hl]; rintro e w' ⟨rfl, rfl⟩) | (go_at_call 46; refine (digit_any s[k] _).mono ?_; rw [hd]; rintro e w' ⟨rfl, rfl⟩));go_ret;exact ⟨ret_bool (by rw [HQ.out]; rfl), rfl⟩
    ·rw [hl, hd] at hq;by_cases hk0 : k = 0
     ·have gk : ((k : Int) == 0) = true := by simp; omega
      rw [decide_eq_false (by omega : ¬ 0 < k)] at hq;have HQ : Hid _ := hq;clear hq hk0;go_wp2_with (first | (go_at_call 45; refine (letter_any s[k] _).mono ?_; rw [hl]; rintro e w' ⟨rfl, rfl⟩) | (go_at_call 46; refine (digit_any s[k] _).mono ?_; rw [hd]; rintro e w' ⟨rfl, rfl⟩));go_ret;exact ⟨ret_bool (by rw [HQ.out]; rfl), rfl⟩
     ·have gk : ((k : Int) == 0) = false := by simp; omega
      rw [decide_eq_true (by omega : 0 < k)] at hq;have HQ : Hid _ := hq;clear hq hk0;go_wp2_with (first | (go_at_call 45; refine (letter_any s[k] _).mono ?_; rw [hl]; rintro e w' ⟨rfl, rfl⟩) | (go_at_call 46; refine (digit_any s[k] _).mono ?_; rw [hd]; rintro e w' ⟨rfl, rfl⟩));go_round
      case rel => exact ⟨k + 1, by omega, by go_num, by rw [HQ.out]; rfl⟩
      case measure => simp [intOf]; omega
   ·rw [hl] at hq;have HQ : Hid _ := hq;clear hq;go_wp2_with (first | (go_at_call 45; refine (letter_any s[k] _).mono ?_; rw [hl]; rintro e w' ⟨rfl, rfl⟩));go_round
    case rel => exact ⟨k + 1, by omega, by go_num, by rw [HQ.out]; rfl⟩
    case measure => simp [intOf]; omega
  ·rw [V.bl_drop_end s k hlt, V.nameFrom] at hq;have HQ : Hid _ := hq;clear hq;go_wp2_with fail;go_ret;exact ⟨ret_bool HQ.out.symm, rfl⟩
namespace V
def room : Nat -> Val -> Int -> Int -> Int
 | 0, _, d, r => if 7 < d then -1 else r
 | m + 1, v, d, r => if 6 < d then -1 else
   v.f.foldl (fun r x => if 0 <= r then room m x.2 (d + 1) r else r) (v.l.foldl (fun r x => if 0 <= r then room m x (d + 1) r else r) (r - 1))
def Left (p e : Nat) (d r q : Int) : Prop := ((e : Int) + d <= 7 /\ (p : Int) <= r -> q = r - p) /\ (¬ ((e : Int) + d <= 7 /\ (p : Int) <= r) -> q = -1)
theorem foldl_neg {α : Type} (g : α -> Int -> Int) : ∀ (l : List α), l.foldl (fun r x => if 0 <= r then g x r else r) (-1) = -1
 | [] => rfl
 | a :: l => by rw [List.foldl_cons, if_neg (by decide)]; exact foldl_neg g l
theorem foldl_room {α : Type} (g : α -> Int -> Int) (p e : α -> Nat) (d : Int) : ∀ (l : List α) (r : Int), 0 <= r -> (∀ x ∈ l, ∀ r, 0 <= r -> Left (p x) (e x) d r (g x r)) -> (e0 : Nat) -> (e0 : Int) + d <= 7 ->
  Left ((l.map p).sum) (l.foldl (fun a x => max a (e x)) e0) d r (l.foldl (fun r x => if 0 <= r then g x r else r) r)
 | [], r, hr, _, e0, he => ⟨fun _ => by simp, fun h => absurd ⟨he, by simpa using hr⟩ h⟩
 | a :: l, r, hr, h, e0, he => by
  rw [List.foldl_cons, List.foldl_cons, if_pos hr, List.map_cons, List.sum_cons];have ha := h a (by simp) r hr;have mono : ∀ (l : List α) (z : Nat), z <= l.foldl (fun a x => max a (e x)) z := by
   intro l;induction l with
   | nil => intro z; exact Nat.le_refl _
   | cons b l ih => intro z; rw [List.foldl_cons]; have := ih (max z (e b)); omega
  by_cases hok : (e a : Int) + d <= 7 /\ (p a : Int) <= r
  ·have hq := ha.1 hok;rw [hq];have := foldl_room g p e d l (r - p a) (by omega) (fun x hx => h x (by simp [hx])) (max e0 (e a)) (by omega);refine ⟨fun hh => ?_, fun hh => ?_⟩
   ·rw [this.1 ⟨hh.1, by omega⟩]; omega
   ·exact this.2 (fun hc => hh ⟨hc.1, by omega⟩)
  ·have hq := ha.2 hok;rw [hq, foldl_neg];have hm := mono l (max e0 (e a));refine ⟨fun hh => absurd ⟨by omega, by omega⟩ hok, fun _ => rfl⟩
theorem room_left (m : Nat) : ∀ (v : Val) (d r : Int), 0 <= r -> Left (parts m v) (deep m v) d r (room m v d r) := by
 induction m with
 | zero =>
  intro v d r hr;rw [room, parts, deep];refine ⟨fun h => by rw [if_neg (by omega)]; omega, fun h => by rw [if_pos (by omega)]⟩
 | succ m ih =>
  intro v d r hr;rw [room, parts, deep];by_cases hd : 6 < d
  ·rw [if_pos hd];exact ⟨fun h => absurd h.1 (by omega), fun _ => rfl⟩
  ·rw [if_neg hd];by_cases h0 : r = 0
   ·subst h0;rw [show (0 : Int) - 1 = -1 from rfl, foldl_neg, foldl_neg];exact ⟨fun h => absurd h.2 (by omega), fun _ => rfl⟩
   ·have h1 := foldl_room (fun x r => room m x (d + 1) r) (parts m) (deep m) (d + 1) v.l (r - 1) (by omega) (fun x _ r hr => ih x (d + 1) r hr) 0 (by omega);by_cases hok : ((v.l.foldl (fun a x => max a (deep m x)) 0 : Nat) : Int) + (d + 1) <= 7 /\ (((v.l.map (parts m)).sum : Nat) : Int) <= r - 1
    ·rw [h1.1 hok];have h2 := foldl_room (fun x r => room m x.2 (d + 1) r) (fun x : ByteArray × Val => parts m x.2) (fun x => deep m x.2) (d + 1) v.f (r - 1 - ((v.l.map (parts m)).sum : Nat)) (by omega) (fun x _ r hr => ih x.2 (d + 1) r hr) _ hok.1;refine ⟨fun hh => ?_, fun hh => ?_⟩
     ·rw [h2.1 ⟨by omega, by unfold sumL sumF at hh; omega⟩]; unfold sumL sumF; omega
     ·exact h2.2 (fun hc => hh ⟨by omega, by unfold sumL sumF; omega⟩)
    ·rw [h1.2 hok, foldl_neg];have mono : ∀ (l : List (ByteArray × Val)) (z : Nat), z <= l.foldl (fun a x => max a (deep m x.2)) z := by
      intro l;induction l with
      | nil => intro z; exact Nat.le_refl _
      | cons b l ih => intro z; rw [List.foldl_cons]; have := ih (max z (deep m b.2)); omega
     have hm := mono v.f (v.l.foldl (fun a x => max a (deep m x)) 0);exact ⟨fun hh => absurd ⟨by omega, by unfold sumL at hh; omega⟩ hok, fun _ => rfl⟩
theorem room_bd (m : Nat) (v : Val) (d r : Int) (hr : 0 <= r) : -1 <= room m v d r /\ room m v d r <= r := by
 have h := room_left m v d r hr;by_cases hok : (deep m v : Int) + d <= 7 /\ (parts m v : Int) <= r
 ·rw [h.1 hok]; omega
 ·rw [h.2 hok]; omega
theorem foldl_bd {α : Type} (g : α -> Int -> Int) (B : Int) (hg : ∀ x r, 0 <= r -> -1 <= g x r /\ g x r <= r) : ∀ (l : List α) (r : Int), -1 <= r -> r <= B -> -1 <= l.foldl (fun r x => if 0 <= r then g x r else r) r /\ l.foldl (fun r x => if 0 <= r then g x r else r) r <= B
 | [], _, h1, h2 => ⟨h1, h2⟩
 | a :: l, r, h1, h2 => by
  rw [List.foldl_cons];by_cases hr : 0 <= r
  ·rw [if_pos hr]; have := hg a r hr; exact foldl_bd g B hg l _ (by omega) (by omega)
  ·rw [if_neg hr]; exact foldl_bd g B hg l _ h1 h2
theorem foldl_snoc {α β : Type} (g : β -> α -> β) (l : List α) (z : β) (k : Nat) (x : α) (h : l[k]? = some x) : (l.take (k + 1)).foldl g z = g ((l.take k).foldl g z) x := by
 rw [List.take_add_one, h]; simp
theorem foldl_stop {α : Type} (g : α -> Int -> Int) (l : List α) (z : Int) (k : Nat) (h : (l.take k).foldl (fun r x => if 0 <= r then g x r else r) z = -1) : l.foldl (fun r x => if 0 <= r then g x r else r) z = -1 := by
 rw [<- List.take_append_drop k l, List.foldl_append, h]; exact foldl_neg g _
end V
theorem roomLeft_any (m : Nat) : ∀ (w : World) (v : Val) (c0 c1 c2 c3 c4 : Value) (d r : Int), V.Mem m w v [c0, c1, c2, c3, c4] -> V.bulk m v <= 2000000 -> 0 <= d -> d <= 7 -> 0 <= r -> r <= 1000 ->
  Calls Tryz.prog 85 #[.agg #[c0, c1, c2, c3, c4], .int .i64 d, .int .i64 r] w fun e w' => e = .returned (.int .i64 (V.room m v d r)) /\ Below w.heap.size w w' := by
 induction m with
 | zero => intro w v c0 c1 c2 c3 c4 d r h; exact h.elim
 | succ m ih =>
  intro w v c0 c1 c2 c3 c4 d r ⟨lv, fv, hcs, hl, hf⟩ hbk hd0 hd7 hr0 hr1;obtain ⟨rfl, rfl, rfl, rfl, rfl⟩ := ij5 hcs;have IH : Hid _ := ih;clear ih;obtain ⟨al, cl, rfl⟩ := hl.shape;obtain ⟨af, cf, rfl⟩ := hf.shape;rw [V.bulk] at hbk;have hbL : Below w.heap.size w (w.alloc (.cells #[.int .i64 v.kind, .int .i64 v.n, .string v.s, .slice al v.l.length cl, .slice af v.f.length cf] 61)) := ba;by_cases hd : 6 < d
  ·have E : Hid (V.room (m + 1) v d r = -1) := by show _ = _; rw [V.room, if_pos hd]
   go_enter Tryz.func85, Tryz.ntmps85;go_wp2_with fail;go_ret;exact ⟨ret_int E.out.symm, hbL⟩
  have E : Hid (V.room (m + 1) v d r = v.f.foldl (fun r x => if 0 <= r then V.room m x.2 (d + 1) r else r) (v.l.foldl (fun r x => if 0 <= r then V.room m x (d + 1) r else r) (r - 1))) := by show _ = _; rw [V.room, if_neg hd]
  go_enter Tryz.func85, Tryz.ntmps85;go_wp2_with fail;go_loopw [2, 7] (fun vr vi wr => ∃ k : Nat, k <= v.l.length /\ vi = .int .i64 k /\ vr = .int .i64 ((v.l.take k).foldl (fun r x => if 0 <= r then V.room m x (d + 1) r else r) (r - 1)) /\
    wr.heap[w.heap.size]? = some (.cells #[.int .i64 v.kind, .int .i64 v.n, .string v.s, .slice al v.l.length cl, .slice af v.f.length cf] 61 (0, 0)) /\ Below w.heap.size w wr)
   (fun _ vi _ => v.l.length - (intOf vi).toNat)
  case atStart => exact ⟨0, Nat.zero_le _, rfl, rfl, heap_alloc_new _ _, hbL⟩
  case round =>
   obtain ⟨k, hk, rfl, rfl, hblk, hB⟩ := hrel;have b3 := cell_of_block hblk 3 _ rfl;have b4 := cell_of_block hblk 4 _ rfl;have hqb := V.foldl_bd (fun x r => V.room m x (d + 1) r) 1000 (fun x r hr => V.room_bd m x (d + 1) r hr) (v.l.take k) (r - 1) (by omega) (by omega);have hgo : (k < v.l.length /\ 0 <= (v.l.take k).foldl (fun r x => if 0 <= r then V.room m x (d + 1) r else r) (r - 1)) \/ (v.l.take k).foldl (fun r x => if 0 <= r then V.room m x (d + 1) r else r) (r - 1) = v.l.foldl (fun r x => if 0 <= r then V.room m x (d + 1) r else r) (r - 1) /\ ¬ (k < v.l.length /\ 0 <= (v.l.take k).foldl (fun r x => if 0 <= r then V.room m x (d + 1) r else r) (r - 1)) := by
    by_cases hc : k < v.l.length /\ 0 <= (v.l.take k).foldl (fun r x => if 0 <= r then V.room m x (d + 1) r else r) (r - 1)
    ·exact .inl hc
    ·refine .inr ⟨?_, hc⟩;by_cases hlt : k < v.l.length
     ·have hneg : (v.l.take k).foldl (fun r x => if 0 <= r then V.room m x (d + 1) r else r) (r - 1) = -1 := by omega
      rw [hneg, V.foldl_stop (fun x r => V.room m x (d + 1) r) v.l (r - 1) k hneg]
     ·rw [List.take_of_length_le (by omega)]
   rcases hgo with ⟨hlt, hpos⟩ | ⟨hfin, hno⟩
   ·obtain ⟨b, off, cap, x, d0, d1, d2, d3, d4, e1, hx, hm, y0, y1, y2, y3, y4⟩ := V.elemL (hl.kept hB (fun _ _ ⟨x, hx, hm⟩ => ⟨x, hx, V.Mem.kept m hm hB⟩)) k hlt;obtain ⟨rfl, _, rfl⟩ := Value.slice.inj e1;have hsn := V.foldl_snoc (fun (r : Int) x => if 0 <= r then V.room m x (d + 1) r else r) v.l (r - 1) k x hx;rw [if_pos hpos] at hsn;have s1 := V.sumL_le (V.bulk m) v.l k x hx;generalize (v.l.take k).foldl (fun r x => if 0 <= r then V.room m x (d + 1) r else r) (r - 1) = q at *;have HSN : Hid _ := hsn;have hlt2 := blt hblk;have hI := IH.out wr x d0 d1 d2 d3 d4 (d + 1) q hm (by omega) (by omega) (by omega) (by omega) (by omega);have HI : Hid _ := hI;clear hsn hI hm hx;go_wp2_with fail;refine Calls.mono HI.out ?_;rintro e w3 ⟨rfl, hb3⟩;have hblk3 := (hb3.block w.heap.size hlt2).trans hblk;have hB3 := hB.trans (hb3.mono hB.size);clear hb3 hB hblk y0 y1 y2 y3 y4 b3 b4;go_wp2_with fail;go_roundw
    case rel => exact ⟨k + 1, by omega, by go_num, by rw [HSN.out], hblk3, hB3⟩
    case measure => simp [intOf]; omega
   ·rw [hfin] at hno hqb ⊢;have hqb2 := V.foldl_bd (fun x r => V.room m x (d + 1) r) 1000 (fun x r hr => V.room_bd m x (d + 1) r hr) v.l (r - 1) (by omega) (by omega);generalize v.l.foldl (fun r x => if 0 <= r then V.room m x (d + 1) r else r) (r - 1) = z at *;clear hfin hqb;have hex : ¬ k < v.l.length \/ (k < v.l.length /\ z < 0) := by omega
    clear hno;rcases hex with hlt | ⟨hlt, hneg⟩
    all_goals
     go_wp2_with fail;go_loopw [2, 8] (fun vr vi wx => ∃ k : Nat, k <= v.f.length /\ vi = .int .i64 k /\ vr = .int .i64 ((v.f.take k).foldl (fun r x => if 0 <= r then V.room m x.2 (d + 1) r else r) z) /\
       wx.heap[w.heap.size]? = some (.cells #[.int .i64 v.kind, .int .i64 v.n, .string v.s, .slice al v.l.length cl, .slice af v.f.length cf] 61 (0, 0)) /\ Below w.heap.size w wx)
      (fun _ vi _ => v.f.length - (intOf vi).toNat)
     case atStart => exact ⟨0, Nat.zero_le _, rfl, rfl, hblk, hB⟩
     case round =>
      obtain ⟨k, hk, rfl, rfl, hblk, hB⟩ := hrel;have b4 := cell_of_block hblk 4 _ rfl;have hqb := V.foldl_bd (fun (x : ByteArray × Val) r => V.room m x.2 (d + 1) r) 1000 (fun x r hr => V.room_bd m x.2 (d + 1) r hr) (v.f.take k) z (by omega) (by omega);have hgo : (k < v.f.length /\ 0 <= (v.f.take k).foldl (fun r x => if 0 <= r then V.room m x.2 (d + 1) r else r) z) \/ (v.f.take k).foldl (fun r x => if 0 <= r then V.room m x.2 (d + 1) r else r) z = v.f.foldl (fun r x => if 0 <= r then V.room m x.2 (d + 1) r else r) z /\ ¬ (k < v.f.length /\ 0 <= (v.f.take k).foldl (fun r x => if 0 <= r then V.room m x.2 (d + 1) r else r) z) := by
       by_cases hc : k < v.f.length /\ 0 <= (v.f.take k).foldl (fun r x => if 0 <= r then V.room m x.2 (d + 1) r else r) z
       ·exact .inl hc
       ·refine .inr ⟨?_, hc⟩;by_cases hlf : k < v.f.length
        ·have hng : (v.f.take k).foldl (fun r x => if 0 <= r then V.room m x.2 (d + 1) r else r) z = -1 := by omega
         rw [hng, V.foldl_stop (fun (x : ByteArray × Val) r => V.room m x.2 (d + 1) r) v.f z k hng]
        ·rw [List.take_of_length_le (by omega)]
      rcases hgo with ⟨hlf, hpos⟩ | ⟨hfin, hno⟩
      ·obtain ⟨b, off, cap, x, d0, d1, d2, d3, d4, e1, hx, hm, yn, y0, y1, y2, y3, y4⟩ := V.elemF (hf.kept hB (fun _ _ ⟨x, c', hx, hc, hm⟩ => ⟨x, c', hx, hc, V.Mem.kept m hm hB⟩)) k hlf;obtain ⟨rfl, _, rfl⟩ := Value.slice.inj e1;have hsn := V.foldl_snoc (fun (r : Int) (x : ByteArray × Val) => if 0 <= r then V.room m x.2 (d + 1) r else r) v.f z k x hx;rw [if_pos hpos] at hsn;have s1 := V.sumF_le (fun x => x.1.size + V.bulk m x.2) v.f k x hx;generalize (v.f.take k).foldl (fun r x => if 0 <= r then V.room m x.2 (d + 1) r else r) z = q at *;have HSN : Hid _ := hsn;have hlt2 := blt hblk;have hI := IH.out wr x.2 d0 d1 d2 d3 d4 (d + 1) q hm (by omega) (by omega) (by omega) (by omega) (by omega);have HI : Hid _ := hI;clear hsn hI hm hx;go_wp2_with fail;refine Calls.mono HI.out ?_;rintro e w3 ⟨rfl, hb3⟩;have hblk3 := (hb3.block w.heap.size hlt2).trans hblk;have hB3 := hB.trans (hb3.mono hB.size);clear hb3 hB hblk yn y0 y1 y2 y3 y4 b4;go_wp2_with fail;go_roundw
       case rel => exact ⟨k + 1, by omega, by go_num, by rw [HSN.out], hblk3, hB3⟩
       case measure => simp [intOf]; omega
      ·rw [hfin] at hno hqb ⊢;rw [show v.f.foldl (fun r x => if 0 <= r then V.room m x.2 (d + 1) r else r) z = V.room (m + 1) v d r from E.out.symm] at hno hqb ⊢;generalize hq : V.room (m + 1) v d r = q at *;have HQ : Hid _ := hq;clear hq;have hex : ¬ k < v.f.length \/ (k < v.f.length /\ q < 0) := by omega
       clear hno hfin;rcases hex with hlf | ⟨hlf, hng⟩
       all_goals
        go_wp2_with fail;go_ret;exact ⟨ret_int HQ.out.symm, hB⟩
end Go.Proofs.YtcekcfjabhlheaaGreatDoor.Vx
