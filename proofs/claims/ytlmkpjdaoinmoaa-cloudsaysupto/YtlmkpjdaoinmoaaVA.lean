/- Values in memory: a plain tree, and what cells hold it. -/
import Derived.Test.YtlmkpjdaoinmoaaProg
import Derived.WalkKit
import Derived.WalkSpells
import Derived.WalkLawsBesides
import Derived.BigQuiet
import Derived.Deep.QuietTactic
import Derived.Deep.AppendLies
import Derived.Deep.RegionHeld3
import Derived.Deep.DrawnRows
import Derived.Deep.DeepCutAuto
namespace Go.Proofs.Ytlmkpjdaoinmoaa
open Go.RowKit
/-- A value of package api, as a plain tree. -/
structure Val where
  kind : Int
  n : Int
  s : ByteArray
  l : List Val
  f : List (ByteArray × Val)
namespace V
/-- A slice of n elements of sz cells each: what each one's cells are is said by P. -/
def Row (w : World) (v : Value) (n sz : Nat) (P : Nat → List Value → Prop) : Prop :=
  ∃ ao cap, v = .slice ao n cap ∧ (n = 0 ∨ ∃ b off, ao = some ⟨b, off, none⟩ ∧ ∀ i, i < n → ∃ cs : List Value, cs.length = sz ∧ (∀ j, j < sz → w.cell? ⟨b, off + i * sz + j, none⟩ = cs[j]?) ∧ P i cs)
/-- These five cells hold that tree (m: how deep it is looked into). -/
def Mem : Nat → World → Val → List Value → Prop
  | 0, _, _, _ => False
  | m + 1, w, v, cs => ∃ lv fv, cs = [.int .i64 v.kind, .int .i64 v.n, .string v.s, lv, fv] ∧
      Row w lv v.l.length 5 (fun i c => ∃ x, v.l[i]? = some x ∧ Mem m w x c) ∧
      Row w fv v.f.length 6 (fun i c => ∃ x c', v.f[i]? = some x ∧ c = .string x.1 :: c' ∧ Mem m w x.2 c')
def sumL (g : Val → Nat) (l : List Val) : Nat := (l.map g).sum
def sumF (g : ByteArray × Val → Nat) (l : List (ByteArray × Val)) : Nat := (l.map g).sum
def maxL (g : Val → Nat) (l : List Val) : Nat := l.foldl (fun d x => max d (g x)) 0
def bulk : Nat → Val → Nat
  | 0, _ => 0
  | m + 1, v => 1 + v.s.size + v.l.length + v.f.length + sumL (bulk m) v.l + sumF (fun x => x.1.size + bulk m x.2) v.f
def parts : Nat → Val → Nat
  | 0, _ => 0
  | m + 1, v => 1 + sumL (parts m) v.l + sumF (fun x => parts m x.2) v.f
def deep : Nat → Val → Nat
  | 0, _ => 0
  | m + 1, v => (v.f.foldl (fun d x => max d (deep m x.2)) (v.l.foldl (fun d x => max d (deep m x)) 0)) + 1
theorem sumL_take (g : Val → Nat) (l : List Val) (k : Nat) (x : Val) (h : l[k]? = some x) : sumL g (l.take (k + 1)) = sumL g (l.take k) + g x := by
  unfold sumL; rw [List.take_add_one, h]; simp
theorem sumF_take (g : ByteArray × Val → Nat) (l : List (ByteArray × Val)) (k : Nat) (x : ByteArray × Val) (h : l[k]? = some x) : sumF g (l.take (k + 1)) = sumF g (l.take k) + g x := by
  unfold sumF; rw [List.take_add_one, h]; simp
theorem sumL_le (g : Val → Nat) (l : List Val) (k : Nat) (x : Val) (h : l[k]? = some x) : sumL g (l.take k) + g x ≤ sumL g l := by
  rw [← sumL_take g l k x h]
  have : sumL g l = sumL g (l.take (k + 1)) + sumL g (l.drop (k + 1)) := by unfold sumL; rw [← List.sum_append, ← List.map_append, List.take_append_drop]
  omega
theorem sumF_le (g : ByteArray × Val → Nat) (l : List (ByteArray × Val)) (k : Nat) (x : ByteArray × Val) (h : l[k]? = some x) : sumF g (l.take k) + g x ≤ sumF g l := by
  rw [← sumF_take g l k x h]
  have : sumF g l = sumF g (l.take (k + 1)) + sumF g (l.drop (k + 1)) := by unfold sumF; rw [← List.sum_append, ← List.map_append, List.take_append_drop]
  omega
theorem sumL_mono (g h : Val → Nat) (l : List Val) (hgh : ∀ x, g x ≤ h x) : sumL g l ≤ sumL h l := by
  induction l with
  | nil => exact Nat.le_refl _
  | cons a l ih => unfold sumL at *; simp only [List.map_cons, List.sum_cons]; have := hgh a; omega
theorem sumF_mono (g h : ByteArray × Val → Nat) (l : List (ByteArray × Val)) (hgh : ∀ x, g x ≤ h x) : sumF g l ≤ sumF h l := by
  induction l with
  | nil => exact Nat.le_refl _
  | cons a l ih => unfold sumF at *; simp only [List.map_cons, List.sum_cons]; have := hgh a; omega
theorem parts_le (m : Nat) : ∀ v, parts m v ≤ bulk m v := by
  induction m with
  | zero => intro v; exact Nat.le_refl _
  | succ m ih =>
    intro v
    rw [parts, bulk]
    have h1 := sumL_mono (parts m) (bulk m) v.l ih
    have h2 := sumF_mono (fun x => parts m x.2) (fun x => x.1.size + bulk m x.2) v.f (fun x => by have := ih x.2; omega)
    omega
theorem foldl_max_le {α : Type} (g : α → Nat) (B : Nat) : ∀ (l : List α) (d : Nat), d ≤ B → (∀ x ∈ l, g x ≤ B) → l.foldl (fun d x => max d (g x)) d ≤ B
  | [], _, h, _ => h
  | a :: l, d, h, hl => by
    rw [List.foldl_cons]
    exact foldl_max_le g B l _ (by have := hl a (by simp); omega) (fun x hx => hl x (by simp [hx]))
theorem foldl_take {α : Type} (g : α → Nat) (l : List α) (d k : Nat) (x : α) (h : l[k]? = some x) : (l.take (k + 1)).foldl (fun d x => max d (g x)) d = max ((l.take k).foldl (fun d x => max d (g x)) d) (g x) := by
  rw [List.take_add_one, h]; simp
theorem sumL_mem (g : Val → Nat) (l : List Val) (x : Val) (h : x ∈ l) : g x ≤ sumL g l := by
  obtain ⟨k, hk⟩ := List.getElem?_of_mem h
  have := sumL_le g l k x hk; omega
theorem sumF_mem (g : ByteArray × Val → Nat) (l : List (ByteArray × Val)) (x : ByteArray × Val) (h : x ∈ l) : g x ≤ sumF g l := by
  obtain ⟨k, hk⟩ := List.getElem?_of_mem h
  have := sumF_le g l k x hk; omega
theorem deep_le (m : Nat) : ∀ v, deep m v ≤ bulk m v := by
  induction m with
  | zero => intro v; exact Nat.le_refl _
  | succ m ih =>
    intro v
    rw [deep, bulk]
    have h1 : v.l.foldl (fun d x => max d (deep m x)) 0 ≤ sumL (bulk m) v.l + sumF (fun x => x.1.size + bulk m x.2) v.f :=
      foldl_max_le _ _ _ _ (by omega) (fun x hx => by have := ih x; have := sumL_mem (bulk m) v.l x hx; omega)
    have h2 : v.f.foldl (fun d x => max d (deep m x.2)) (v.l.foldl (fun d x => max d (deep m x)) 0) ≤ sumL (bulk m) v.l + sumF (fun x => x.1.size + bulk m x.2) v.f :=
      foldl_max_le (fun x : ByteArray × Val => deep m x.2) _ _ _ h1 (fun x hx => by have := ih x.2; have := sumF_mem (fun x => x.1.size + bulk m x.2) v.f x hx; omega)
    omega
/-- What is held stays held where nothing old has turned. -/
theorem Row.kept {w w' : World} {v : Value} {n sz : Nat} {P Q : Nat → List Value → Prop} (h : Row w v n sz P) (hb : Below w.heap.size w w') (hPQ : ∀ i c, P i c → Q i c) : Row w' v n sz Q := by
  obtain ⟨ao, cap, rfl, h⟩ := h
  refine ⟨ao, cap, rfl, ?_⟩
  rcases h with h | ⟨b, off, rfl, h⟩
  · exact .inl h
  · refine .inr ⟨b, off, rfl, fun i hi => ?_⟩
    obtain ⟨cs, h1, h2, h3⟩ := h i hi
    refine ⟨cs, h1, fun j hj => ?_, hPQ i cs h3⟩
    rw [← h2 j hj]
    have hc : ∃ u, w.cell? ⟨b, off + i * sz + j, none⟩ = some u := by
      rw [h2 j hj]; exact ⟨_, List.getElem?_eq_getElem (by omega)⟩
    obtain ⟨u, hu⟩ := hc
    exact hb.cell (p := ⟨b, off + i * sz + j, none⟩) (World.block_lt_of_cell? w _ hu)
theorem Mem.kept : ∀ (m : Nat) {w w' : World} {v : Val} {cs : List Value}, Mem m w v cs → Below w.heap.size w w' → Mem m w' v cs
  | 0, _, _, _, _, h, _ => h.elim
  | m + 1, _, _, _, _, ⟨lv, fv, h1, h2, h3⟩, hb =>
    ⟨lv, fv, h1, h2.kept hb (fun _ _ ⟨x, hx, hm⟩ => ⟨x, hx, Mem.kept m hm hb⟩), h3.kept hb (fun _ _ ⟨x, c', hx, hc, hm⟩ => ⟨x, c', hx, hc, Mem.kept m hm hb⟩)⟩
end V
end Go.Proofs.Ytlmkpjdaoinmoaa
