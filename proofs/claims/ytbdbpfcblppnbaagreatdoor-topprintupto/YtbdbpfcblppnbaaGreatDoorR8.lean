/- For TopPrint: partsOf. -/
import Derived.Test.YtbdbpfcblppnbaaGreatDoorR5
import Derived.Test.YtbdbpfcblppnbaaGreatDoorX3
import Derived.Deep.RegionLaw
namespace Go.Proofs.YtbdbpfcblppnbaaGreatDoor.Vx
open Go.RowKit
namespace P
abbrev Base (α : Type) := World → α → List Value → Prop
/-- These cells hold that thing, whatever becomes of the blocks that are none of D. -/
def KM {α : Type} (B : Base α) (D : Nat → Prop) (w : World) (x : α) (cs : List Value) : Prop := ∀ w2 : World, (∀ c, D c → w2.heap[c]? = w.heap[c]?) → B w2 x cs
theorem KM.to {α : Type} {B : Base α} {D D2 : Nat → Prop} {w w2 : World} {x : α} {cs : List Value} (h : KM B D w x cs) (hw : ∀ c, D c → w2.heap[c]? = w.heap[c]?) (hD : ∀ c, D c → D2 c) : KM B D2 w2 x cs := fun w3 h3 => h w3 (fun c hc => (h3 c (hD c hc)).trans (hw c hc))
theorem KM.mem {α : Type} {B : Base α} {D : Nat → Prop} {w : World} {x : α} {cs : List Value} (h : KM B D w x cs) : B w x cs := h w (fun _ _ => rfl)
def BI : Base (ByteArray × Val) := fun w x cs => ∃ c', cs = .string x.1 :: c' ∧ V.Mem 6 w x.2 c'
def BO : Base (ByteArray × Ex) := fun w x cs => ∃ c', cs = .string x.1 :: c' ∧ X.Mem 6 w x.2 c'
def BR : Base Rs := fun w r cs => ∃ pv, cs = [.string r.kind, .string r.name, pv] ∧ X.Named 6 w pv r.parts
def BS : Base Sk := fun w s cs => X.SMem 6 w s cs
/-- A row of such things. -/
def KRow {α : Type} (B : Base α) (sz : Nat) (D : Nat → Prop) (w : World) (v : Value) (l : List α) : Prop := ∀ w2 : World, (∀ c, D c → w2.heap[c]? = w.heap[c]?) → V.Row w2 v l.length sz (fun i c => ∃ x, l[i]? = some x ∧ B w2 x c)
theorem KRow.to {α : Type} {B : Base α} {sz : Nat} {D D2 : Nat → Prop} {w w2 : World} {v : Value} {l : List α} (h : KRow B sz D w v l) (hw : ∀ c, D c → w2.heap[c]? = w.heap[c]?) (hD : ∀ c, D c → D2 c) : KRow B sz D2 w2 v l := fun w3 h3 => h w3 (fun c hc => (h3 c (hD c hc)).trans (hw c hc))
theorem KRow.nil {α : Type} (B : Base α) (sz : Nat) (D : Nat → Prop) (w : World) : KRow B sz D w (.slice none 0 0) [] := fun _ _ => V.Row.zero _ _ _
theorem KRow.vals {D : Nat → Prop} {w : World} {v : Value} {l : List (ByteArray × Val)} (h : KRow BI 6 D w v l) (w2 : World) (hw : ∀ c, D c → w2.heap[c]? = w.heap[c]?) : X.Vals 6 w2 v l := by
 obtain ⟨ao, cap, e, h⟩ := h w2 hw
 refine ⟨ao, cap, e, h.imp id (fun ⟨b, off, e2, h⟩ => ⟨b, off, e2, fun i hi => ?_⟩)⟩
 obtain ⟨cs, h1, h2, x, hx, c', hc, hm⟩ := h i hi
 exact ⟨cs, h1, h2, x, c', hx, hc, hm⟩
theorem KRow.named {D : Nat → Prop} {w : World} {v : Value} {l : List (ByteArray × Ex)} (h : KRow BO 11 D w v l) (w2 : World) (hw : ∀ c, D c → w2.heap[c]? = w.heap[c]?) : X.Named 6 w2 v l := by
 obtain ⟨ao, cap, e, h⟩ := h w2 hw
 refine ⟨ao, cap, e, h.imp id (fun ⟨b, off, e2, h⟩ => ⟨b, off, e2, fun i hi => ?_⟩)⟩
 obtain ⟨cs, h1, h2, x, hx, c', hc, hm⟩ := h i hi
 exact ⟨cs, h1, h2, x, c', hx, hc, hm⟩
theorem KRow.ress {D : Nat → Prop} {w : World} {v : Value} {l : List Rs} (h : KRow BR 3 D w v l) (w2 : World) (hw : ∀ c, D c → w2.heap[c]? = w.heap[c]?) : X.Ress 6 w2 v l := by
 obtain ⟨ao, cap, e, h⟩ := h w2 hw
 refine ⟨ao, cap, e, h.imp id (fun ⟨b, off, e2, h⟩ => ⟨b, off, e2, fun i hi => ?_⟩)⟩
 obtain ⟨cs, h1, h2, x, hx, pv, hc, hm⟩ := h i hi
 exact ⟨cs, h1, h2, x, pv, hx, hc, hm⟩
theorem flat_atK {α : Type} (sz : Nat) : ∀ (l : List (α × List Value)), (∀ x ∈ l, x.2.length = sz) → ∀ (i : Nat) (x : α × List Value), l[i]? = some x → x.2.length = sz ∧ ∀ j, j < sz → (l.flatMap (fun x => x.2)).toArray[i * sz + j]? = x.2[j]?
 | [], _, _, _, h => by cases h
 | y :: l, h10, 0, x, h => by
  have e : y = x := by simpa using h
  subst e
  have hy := h10 y (by simp)
  refine ⟨hy, fun j hj => ?_⟩
  rw [List.getElem?_toArray, List.flatMap_cons, Nat.zero_mul, Nat.zero_add, List.getElem?_append_left (by omega)]
 | y :: l, h10, i + 1, x, h => by
  have hy := h10 y (by simp)
  obtain ⟨h1, h2⟩ := flat_atK sz l (fun z hz => h10 z (by simp [hz])) i x (by simpa using h)
  refine ⟨h1, fun j hj => ?_⟩
  have := h2 j hj
  rw [List.getElem?_toArray] at this ⊢
  rw [List.flatMap_cons, List.getElem?_append_right (by rw [Nat.succ_mul]; omega), show (i + 1) * sz + j - y.2.length = i * sz + j by rw [Nat.succ_mul]; omega]
  exact this
/-- Things in a row that is owned, and their memory apart from it. -/
structure GrowK {α : Type} (B : Base α) (ty : TypeId) (sz base : Nat) (w : World) (v : Value) (L : List (α × List Value)) : Prop where
 len : ∀ x ∈ L, x.2.length = sz
 own : w.ownsRow base ty sz v L.length (L.flatMap (fun x => x.2))
 mem : ∀ x ∈ L, KM B (fun c => base ≤ c ∧ c < w.heap.size ∧ v.ownBlock ≠ some c) w x.1 x.2
theorem GrowK.fr {α : Type} {B : Base α} {ty : TypeId} {sz base : Nat} {w w' : World} {v : Value} {L : List (α × List Value)} {ex : Nat → Prop} (h : GrowK B ty sz base w v L) (hf : Fr w w' ex) (hx : ∀ c, ex c → c < base) : GrowK B ty sz base w' v L :=
 ⟨h.len, owns_fr h.own hf (fun c hc e => by have := hx c e; have := (h.own.lt c hc).1; omega),
  fun x hxm => (h.mem x hxm).to (fun c hc => hf.block c hc.2.1 (fun e => by have := hx c e; have := hc.1; omega)) (fun c hc => ⟨hc.1, by have := hf.size; have := hc.2.1; omega, hc.2.2⟩)⟩
theorem GrowK.nil {α : Type} (B : Base α) (ty : TypeId) (sz base : Nat) (w : World) : GrowK B ty sz base w (.slice none 0 0) [] := ⟨fun _ h => absurd h (by simp), World.ownsRow_nil _ _ _ _, fun _ h => absurd h (by simp)⟩
theorem GrowK.app {α : Type} {B : Base α} {ty : TypeId} {sz base g cap : Nat} {w w' : World} {v : Value} {L : List (α × List Value)} {x : α} {cs : List Value} (h : GrowK B ty sz base w v L) (hl : cs.length = sz)
  (hm : KM B (fun c => base ≤ c ∧ c < w.heap.size ∧ v.ownBlock ≠ some c) w x cs) (ho : w'.ownsRow base ty sz (.slice (some ⟨g, 0, none⟩) (L.length + 1) cap) (L.length + 1) (L.flatMap (fun x => x.2) ++ cs)) (hg : w.grownBy w' v.ownBlock) (hat : v.ownBlock = some g ∨ g = w.heap.size) :
  GrowK B ty sz base w' (.slice (some ⟨g, 0, none⟩) (L ++ [(x, cs)]).length cap) (L ++ [(x, cs)]) := by
 have e1 : (L ++ [(x, cs)]).length = L.length + 1 := by simp
 have hk : ∀ c, base ≤ c ∧ c < w.heap.size ∧ v.ownBlock ≠ some c → w'.heap[c]? = w.heap[c]? := fun c hc => hg.block c hc.2.1 (fun e => hc.2.2 e.symm)
 have hD : ∀ c, base ≤ c ∧ c < w.heap.size ∧ v.ownBlock ≠ some c → base ≤ c ∧ c < w'.heap.size ∧ (Value.slice (some ⟨g, 0, none⟩) (L ++ [(x, cs)]).length cap).ownBlock ≠ some c := fun c hc => by
  refine ⟨hc.1, by have := hg.size; have := hc.2.1; omega, fun e => ?_⟩
  have e2 : g = c := by simpa [Value.ownBlock] using e
  subst e2
  rcases hat with h1 | h1
  ·exact hc.2.2 h1
  ·have := hc.2.1; omega
 refine ⟨fun y hy => ?_, ?_, fun y hy => ?_⟩
 ·rcases List.mem_append.1 hy with h1 | h1
  ·exact h.len y h1
  ·rw [List.mem_singleton] at h1
   subst h1
   exact hl
 ·rw [e1, List.flatMap_append]
  simpa using ho
 ·rcases List.mem_append.1 hy with h1 | h1
  ·exact (h.mem y h1).to hk hD
  ·rw [List.mem_singleton] at h1
   subst h1
   exact hm.to hk hD
theorem GrowK.row {α : Type} {B : Base α} {ty : TypeId} {sz base : Nat} {w : World} {v : Value} {L : List (α × List Value)} (h : GrowK B ty sz base w v L) : KRow B sz (fun c => base ≤ c ∧ c < w.heap.size) w v (L.map (fun x => x.1)) := by
 intro w2 hw
 rcases h.own.2 with ⟨hv, hn⟩ | ⟨g, cap', cur, hv, hg, hh, hnc, _, hcs, htk⟩
 ·have hL : L = [] := List.length_eq_zero_iff.1 hn
  subst hL
  rw [hv]
  exact V.Row.zero _ _ _
 ·have hlt := (blt hh)
  refine ⟨some ⟨g, 0, none⟩, cap', by rw [hv, List.length_map], .inr ⟨g, 0, rfl, fun i hi => ?_⟩⟩
  rw [List.length_map] at hi
  have hx : L[i]? = some L[i] := List.getElem?_eq_getElem hi
  obtain ⟨h1, h2⟩ := flat_atK sz L h.len i _ hx
  refine ⟨L[i].2, h1, fun j hj => ?_, L[i].1, by rw [List.getElem?_map, hx]; rfl, ?_⟩
  ·have h3 := h2 j hj
   have hij : i * sz + j < L.length * sz := by
    have : (i + 1) * sz ≤ L.length * sz := Nat.mul_le_mul_right sz hi
    rw [Nat.succ_mul] at this
    omega
   rw [← htk, List.getElem?_toArray, List.getElem?_take, if_pos hij, Array.getElem?_toList] at h3
   have hh2 := (hw g ⟨hg, hlt⟩).trans hh
   rw [cell_of_row w2 g _ _ _ _ hh2, Nat.zero_add]
   exact h3
  ·exact h.mem L[i] (List.getElem_mem hi) w2 (fun c hc => hw c ⟨hc.1, hc.2.1⟩)
/-- The cells of an input, a resource, an output, a stack, as they are read. -/
def ShI (cs : List Value) : Prop := ∃ (s : ByteArray) (k n : Int) (t : ByteArray), cs = [.string s, .int .i64 k, .int .i64 n, .string t, .slice none 0 0, .slice none 0 0]
def ShR (cs : List Value) : Prop := ∃ (s t : ByteArray) (a : Option Addr) (n c : Nat), cs = [.string s, .string t, .slice a n c]
def ShO (cs : List Value) : Prop := ∃ (s : ByteArray) (k : Int) (v : Val) (s' t : ByteArray) (a : Option Addr) (n c : Nat) (a' : Option Addr) (n' c' : Nat), cs = [.string s, .int .i64 k, .int .i64 v.kind, .int .i64 v.n, .string v.s, .slice none 0 0, .slice none 0 0, .string s', .string t, .slice a n c, .slice a' n' c']
def ShS (cs : List Value) : Prop := ∃ (s : ByteArray) (a1 : Option Addr) (n1 c1 : Nat) (a2 : Option Addr) (n2 c2 : Nat) (a3 : Option Addr) (n3 c3 : Nat), cs = [.string s, .slice a1 n1 c1, .slice a2 n2 c2, .slice a3 n3 c3]
/-- What reads one thing answers. -/
def OneK {α : Type} (B : Base α) (blk : α → Nat) (Sh : List Value → Prop) (p : List T → Option (α × List T)) (R : Nat) (w w' : World) (ts : List K) (r : Ending) : Prop :=
 (∃ (x : α) (n : Nat) (cs : List Value), p (fc ts) = some (x, fc (ts.drop n)) ∧ r = .returned (.tuple #[.agg cs.toArray, .nilIface]) ∧ Sh cs ∧ KM B (New w w') w' x cs ∧ blk x + 60 * (ts.drop n).length ≤ 60 * ts.length ∧ Rdr R w' (ts.drop n)) ∨
  (p (fc ts) = none ∧ (∃ (cs : List Value) (f : Int), r = .returned (.tuple #[.agg cs.toArray, .iface 62 (.int .i64 f)]) ∧ Sh cs) ∧ ∃ ts', Rdr R w' ts')
/-- What reads some of them answers. -/
def EachK {α : Type} (B : Base α) (blk : α → Nat) (sz : Nat) (p : Option (List α × List T)) (R : Nat) (w w' : World) (ts : List K) (r : Ending) : Prop :=
 ∃ v ev, r = .returned (.tuple #[v, ev]) ∧ ((∃ l n, p = some (l, fc (ts.drop n)) ∧ ev = .nilIface ∧ KRow B sz (New w w') w' v l ∧ (∃ ao cap, v = .slice ao l.length cap) ∧ (l.map blk).sum + l.length + 60 * (ts.drop n).length ≤ 60 * ts.length ∧ Rdr R w' (ts.drop n)) ∨
  (p = none ∧ (∃ f, ev = .iface 62 (.int .i64 f)) ∧ v = .slice none 0 0 ∧ ∃ ts', Rdr R w' ts'))
theorem set3 {w : World} {g : Nat} {t : TypeId} {z0 z1 z2 : Value} (h : w.heap[g]? = some (.cells #[z0, z1, z2] t (0, 0))) (y0 y1 y2 : Value) :
  (((w.setCell ⟨g, 0, none⟩ y0).setCell ⟨g, 1, none⟩ y1).setCell ⟨g, 2, none⟩ y2).heap[g]? = some (.cells #[y0, y1, y2] t (0, 0)) := by
 have h0 : (w.setCell ⟨g, 0, none⟩ y0).heap[g]? = some (.cells #[y0, z1, z2] t (0, 0)) := block_set (i := 0) h y0
 have h1 : ((w.setCell ⟨g, 0, none⟩ y0).setCell ⟨g, 1, none⟩ y1).heap[g]? = some (.cells #[y0, y1, z2] t (0, 0)) := block_set (i := 1) h0 y1
 exact block_set (i := 2) h1 y2
theorem fr3 (w : World) (g : Nat) (y0 y1 y2 : Value) : Fr w (((w.setCell ⟨g, 0, none⟩ y0).setCell ⟨g, 1, none⟩ y1).setCell ⟨g, 2, none⟩ y2) (fun c => c = g) :=
 (((Fr.refl w (fun c => c = g)).set ⟨g, 0, none⟩ y0 (fun _ => rfl)).set ⟨g, 1, none⟩ y1 (fun _ => rfl)).set ⟨g, 2, none⟩ y2 (fun _ => rfl)
theorem sf3 {w : World} {g : Nat} {t : TypeId} {z0 z1 z2 : Value} (h : w.heap[g]? = some (.cells #[z0, z1, z2] t (0, 0))) (y0 y1 y2 : Value) : ∃ wz, wz = (((w.setCell ⟨g, 0, none⟩ y0).setCell ⟨g, 1, none⟩ y1).setCell ⟨g, 2, none⟩ y2) ∧ wz.heap[g]? = some (.cells #[y0, y1, y2] t (0, 0)) ∧ Fr w wz (fun c => c = g) := ⟨_, rfl, set3 h y0 y1 y2, fr3 w g y0 y1 y2⟩
theorem set4 {w : World} {g : Nat} {t : TypeId} {z0 z1 z2 z3 : Value} (h : w.heap[g]? = some (.cells #[z0, z1, z2, z3] t (0, 0))) (y0 y1 y2 y3 : Value) :
  ((((w.setCell ⟨g, 0, none⟩ y0).setCell ⟨g, 1, none⟩ y1).setCell ⟨g, 2, none⟩ y2).setCell ⟨g, 3, none⟩ y3).heap[g]? = some (.cells #[y0, y1, y2, y3] t (0, 0)) := by
 have h0 : (w.setCell ⟨g, 0, none⟩ y0).heap[g]? = some (.cells #[y0, z1, z2, z3] t (0, 0)) := block_set (i := 0) h y0
 have h1 : ((w.setCell ⟨g, 0, none⟩ y0).setCell ⟨g, 1, none⟩ y1).heap[g]? = some (.cells #[y0, y1, z2, z3] t (0, 0)) := block_set (i := 1) h0 y1
 have h2 : (((w.setCell ⟨g, 0, none⟩ y0).setCell ⟨g, 1, none⟩ y1).setCell ⟨g, 2, none⟩ y2).heap[g]? = some (.cells #[y0, y1, y2, z3] t (0, 0)) := block_set (i := 2) h1 y2
 exact block_set (i := 3) h2 y3
theorem fr4 (w : World) (g : Nat) (y0 y1 y2 y3 : Value) : Fr w ((((w.setCell ⟨g, 0, none⟩ y0).setCell ⟨g, 1, none⟩ y1).setCell ⟨g, 2, none⟩ y2).setCell ⟨g, 3, none⟩ y3) (fun c => c = g) :=
 ((((Fr.refl w (fun c => c = g)).set ⟨g, 0, none⟩ y0 (fun _ => rfl)).set ⟨g, 1, none⟩ y1 (fun _ => rfl)).set ⟨g, 2, none⟩ y2 (fun _ => rfl)).set ⟨g, 3, none⟩ y3 (fun _ => rfl)
theorem sf4 {w : World} {g : Nat} {t : TypeId} {z0 z1 z2 z3 : Value} (h : w.heap[g]? = some (.cells #[z0, z1, z2, z3] t (0, 0))) (y0 y1 y2 y3 : Value) : ∃ wz, wz = ((((w.setCell ⟨g, 0, none⟩ y0).setCell ⟨g, 1, none⟩ y1).setCell ⟨g, 2, none⟩ y2).setCell ⟨g, 3, none⟩ y3) ∧ wz.heap[g]? = some (.cells #[y0, y1, y2, y3] t (0, 0)) ∧ Fr w wz (fun c => c = g) := ⟨_, rfl, set4 h y0 y1 y2 y3, fr4 w g y0 y1 y2 y3⟩
theorem set6 {w : World} {g : Nat} {t : TypeId} {z0 z1 z2 z3 z4 z5 : Value} (h : w.heap[g]? = some (.cells #[z0, z1, z2, z3, z4, z5] t (0, 0))) (y0 y1 y2 y3 y4 y5 : Value) :
  ((((((w.setCell ⟨g, 0, none⟩ y0).setCell ⟨g, 1, none⟩ y1).setCell ⟨g, 2, none⟩ y2).setCell ⟨g, 3, none⟩ y3).setCell ⟨g, 4, none⟩ y4).setCell ⟨g, 5, none⟩ y5).heap[g]? = some (.cells #[y0, y1, y2, y3, y4, y5] t (0, 0)) := by
 have h0 : (w.setCell ⟨g, 0, none⟩ y0).heap[g]? = some (.cells #[y0, z1, z2, z3, z4, z5] t (0, 0)) := block_set (i := 0) h y0
 have h1 : ((w.setCell ⟨g, 0, none⟩ y0).setCell ⟨g, 1, none⟩ y1).heap[g]? = some (.cells #[y0, y1, z2, z3, z4, z5] t (0, 0)) := block_set (i := 1) h0 y1
 have h2 : (((w.setCell ⟨g, 0, none⟩ y0).setCell ⟨g, 1, none⟩ y1).setCell ⟨g, 2, none⟩ y2).heap[g]? = some (.cells #[y0, y1, y2, z3, z4, z5] t (0, 0)) := block_set (i := 2) h1 y2
 have h3 : ((((w.setCell ⟨g, 0, none⟩ y0).setCell ⟨g, 1, none⟩ y1).setCell ⟨g, 2, none⟩ y2).setCell ⟨g, 3, none⟩ y3).heap[g]? = some (.cells #[y0, y1, y2, y3, z4, z5] t (0, 0)) := block_set (i := 3) h2 y3
 have h4 : (((((w.setCell ⟨g, 0, none⟩ y0).setCell ⟨g, 1, none⟩ y1).setCell ⟨g, 2, none⟩ y2).setCell ⟨g, 3, none⟩ y3).setCell ⟨g, 4, none⟩ y4).heap[g]? = some (.cells #[y0, y1, y2, y3, y4, z5] t (0, 0)) := block_set (i := 4) h3 y4
 exact block_set (i := 5) h4 y5
theorem fr6 (w : World) (g : Nat) (y0 y1 y2 y3 y4 y5 : Value) : Fr w ((((((w.setCell ⟨g, 0, none⟩ y0).setCell ⟨g, 1, none⟩ y1).setCell ⟨g, 2, none⟩ y2).setCell ⟨g, 3, none⟩ y3).setCell ⟨g, 4, none⟩ y4).setCell ⟨g, 5, none⟩ y5) (fun c => c = g) :=
 ((((((Fr.refl w (fun c => c = g)).set ⟨g, 0, none⟩ y0 (fun _ => rfl)).set ⟨g, 1, none⟩ y1 (fun _ => rfl)).set ⟨g, 2, none⟩ y2 (fun _ => rfl)).set ⟨g, 3, none⟩ y3 (fun _ => rfl)).set ⟨g, 4, none⟩ y4 (fun _ => rfl)).set ⟨g, 5, none⟩ y5 (fun _ => rfl)
theorem sf6 {w : World} {g : Nat} {t : TypeId} {z0 z1 z2 z3 z4 z5 : Value} (h : w.heap[g]? = some (.cells #[z0, z1, z2, z3, z4, z5] t (0, 0))) (y0 y1 y2 y3 y4 y5 : Value) : ∃ wz, wz = ((((((w.setCell ⟨g, 0, none⟩ y0).setCell ⟨g, 1, none⟩ y1).setCell ⟨g, 2, none⟩ y2).setCell ⟨g, 3, none⟩ y3).setCell ⟨g, 4, none⟩ y4).setCell ⟨g, 5, none⟩ y5) ∧ wz.heap[g]? = some (.cells #[y0, y1, y2, y3, y4, y5] t (0, 0)) ∧ Fr w wz (fun c => c = g) := ⟨_, rfl, set6 h y0 y1 y2 y3 y4 y5, fr6 w g y0 y1 y2 y3 y4 y5⟩
theorem set11 {w : World} {g : Nat} {t : TypeId} {z0 z1 z2 z3 z4 z5 z6 z7 z8 z9 z10 : Value} (h : w.heap[g]? = some (.cells #[z0, z1, z2, z3, z4, z5, z6, z7, z8, z9, z10] t (0, 0))) (y0 y1 y2 y3 y4 y5 y6 y7 y8 y9 y10 : Value) :
  (((((((((((w.setCell ⟨g, 0, none⟩ y0).setCell ⟨g, 1, none⟩ y1).setCell ⟨g, 2, none⟩ y2).setCell ⟨g, 3, none⟩ y3).setCell ⟨g, 4, none⟩ y4).setCell ⟨g, 5, none⟩ y5).setCell ⟨g, 6, none⟩ y6).setCell ⟨g, 7, none⟩ y7).setCell ⟨g, 8, none⟩ y8).setCell ⟨g, 9, none⟩ y9).setCell ⟨g, 10, none⟩ y10).heap[g]? = some (.cells #[y0, y1, y2, y3, y4, y5, y6, y7, y8, y9, y10] t (0, 0)) := by
 have h0 : (w.setCell ⟨g, 0, none⟩ y0).heap[g]? = some (.cells #[y0, z1, z2, z3, z4, z5, z6, z7, z8, z9, z10] t (0, 0)) := block_set (i := 0) h y0
 have h1 : ((w.setCell ⟨g, 0, none⟩ y0).setCell ⟨g, 1, none⟩ y1).heap[g]? = some (.cells #[y0, y1, z2, z3, z4, z5, z6, z7, z8, z9, z10] t (0, 0)) := block_set (i := 1) h0 y1
 have h2 : (((w.setCell ⟨g, 0, none⟩ y0).setCell ⟨g, 1, none⟩ y1).setCell ⟨g, 2, none⟩ y2).heap[g]? = some (.cells #[y0, y1, y2, z3, z4, z5, z6, z7, z8, z9, z10] t (0, 0)) := block_set (i := 2) h1 y2
 have h3 : ((((w.setCell ⟨g, 0, none⟩ y0).setCell ⟨g, 1, none⟩ y1).setCell ⟨g, 2, none⟩ y2).setCell ⟨g, 3, none⟩ y3).heap[g]? = some (.cells #[y0, y1, y2, y3, z4, z5, z6, z7, z8, z9, z10] t (0, 0)) := block_set (i := 3) h2 y3
 have h4 : (((((w.setCell ⟨g, 0, none⟩ y0).setCell ⟨g, 1, none⟩ y1).setCell ⟨g, 2, none⟩ y2).setCell ⟨g, 3, none⟩ y3).setCell ⟨g, 4, none⟩ y4).heap[g]? = some (.cells #[y0, y1, y2, y3, y4, z5, z6, z7, z8, z9, z10] t (0, 0)) := block_set (i := 4) h3 y4
 have h5 : ((((((w.setCell ⟨g, 0, none⟩ y0).setCell ⟨g, 1, none⟩ y1).setCell ⟨g, 2, none⟩ y2).setCell ⟨g, 3, none⟩ y3).setCell ⟨g, 4, none⟩ y4).setCell ⟨g, 5, none⟩ y5).heap[g]? = some (.cells #[y0, y1, y2, y3, y4, y5, z6, z7, z8, z9, z10] t (0, 0)) := block_set (i := 5) h4 y5
 have h6 : (((((((w.setCell ⟨g, 0, none⟩ y0).setCell ⟨g, 1, none⟩ y1).setCell ⟨g, 2, none⟩ y2).setCell ⟨g, 3, none⟩ y3).setCell ⟨g, 4, none⟩ y4).setCell ⟨g, 5, none⟩ y5).setCell ⟨g, 6, none⟩ y6).heap[g]? = some (.cells #[y0, y1, y2, y3, y4, y5, y6, z7, z8, z9, z10] t (0, 0)) := block_set (i := 6) h5 y6
 have h7 : ((((((((w.setCell ⟨g, 0, none⟩ y0).setCell ⟨g, 1, none⟩ y1).setCell ⟨g, 2, none⟩ y2).setCell ⟨g, 3, none⟩ y3).setCell ⟨g, 4, none⟩ y4).setCell ⟨g, 5, none⟩ y5).setCell ⟨g, 6, none⟩ y6).setCell ⟨g, 7, none⟩ y7).heap[g]? = some (.cells #[y0, y1, y2, y3, y4, y5, y6, y7, z8, z9, z10] t (0, 0)) := block_set (i := 7) h6 y7
 have h8 : (((((((((w.setCell ⟨g, 0, none⟩ y0).setCell ⟨g, 1, none⟩ y1).setCell ⟨g, 2, none⟩ y2).setCell ⟨g, 3, none⟩ y3).setCell ⟨g, 4, none⟩ y4).setCell ⟨g, 5, none⟩ y5).setCell ⟨g, 6, none⟩ y6).setCell ⟨g, 7, none⟩ y7).setCell ⟨g, 8, none⟩ y8).heap[g]? = some (.cells #[y0, y1, y2, y3, y4, y5, y6, y7, y8, z9, z10] t (0, 0)) := block_set (i := 8) h7 y8
 have h9 : ((((((((((w.setCell ⟨g, 0, none⟩ y0).setCell ⟨g, 1, none⟩ y1).setCell ⟨g, 2, none⟩ y2).setCell ⟨g, 3, none⟩ y3).setCell ⟨g, 4, none⟩ y4).setCell ⟨g, 5, none⟩ y5).setCell ⟨g, 6, none⟩ y6).setCell ⟨g, 7, none⟩ y7).setCell ⟨g, 8, none⟩ y8).setCell ⟨g, 9, none⟩ y9).heap[g]? = some (.cells #[y0, y1, y2, y3, y4, y5, y6, y7, y8, y9, z10] t (0, 0)) := block_set (i := 9) h8 y9
 exact block_set (i := 10) h9 y10
theorem fr11 (w : World) (g : Nat) (y0 y1 y2 y3 y4 y5 y6 y7 y8 y9 y10 : Value) : Fr w (((((((((((w.setCell ⟨g, 0, none⟩ y0).setCell ⟨g, 1, none⟩ y1).setCell ⟨g, 2, none⟩ y2).setCell ⟨g, 3, none⟩ y3).setCell ⟨g, 4, none⟩ y4).setCell ⟨g, 5, none⟩ y5).setCell ⟨g, 6, none⟩ y6).setCell ⟨g, 7, none⟩ y7).setCell ⟨g, 8, none⟩ y8).setCell ⟨g, 9, none⟩ y9).setCell ⟨g, 10, none⟩ y10) (fun c => c = g) :=
 (((((((((((Fr.refl w (fun c => c = g)).set ⟨g, 0, none⟩ y0 (fun _ => rfl)).set ⟨g, 1, none⟩ y1 (fun _ => rfl)).set ⟨g, 2, none⟩ y2 (fun _ => rfl)).set ⟨g, 3, none⟩ y3 (fun _ => rfl)).set ⟨g, 4, none⟩ y4 (fun _ => rfl)).set ⟨g, 5, none⟩ y5 (fun _ => rfl)).set ⟨g, 6, none⟩ y6 (fun _ => rfl)).set ⟨g, 7, none⟩ y7 (fun _ => rfl)).set ⟨g, 8, none⟩ y8 (fun _ => rfl)).set ⟨g, 9, none⟩ y9 (fun _ => rfl)).set ⟨g, 10, none⟩ y10 (fun _ => rfl)
theorem sf11 {w : World} {g : Nat} {t : TypeId} {z0 z1 z2 z3 z4 z5 z6 z7 z8 z9 z10 : Value} (h : w.heap[g]? = some (.cells #[z0, z1, z2, z3, z4, z5, z6, z7, z8, z9, z10] t (0, 0))) (y0 y1 y2 y3 y4 y5 y6 y7 y8 y9 y10 : Value) : ∃ wz, wz = (((((((((((w.setCell ⟨g, 0, none⟩ y0).setCell ⟨g, 1, none⟩ y1).setCell ⟨g, 2, none⟩ y2).setCell ⟨g, 3, none⟩ y3).setCell ⟨g, 4, none⟩ y4).setCell ⟨g, 5, none⟩ y5).setCell ⟨g, 6, none⟩ y6).setCell ⟨g, 7, none⟩ y7).setCell ⟨g, 8, none⟩ y8).setCell ⟨g, 9, none⟩ y9).setCell ⟨g, 10, none⟩ y10) ∧ wz.heap[g]? = some (.cells #[y0, y1, y2, y3, y4, y5, y6, y7, y8, y9, y10] t (0, 0)) ∧ Fr w wz (fun c => c = g) := ⟨_, rfl, set11 h y0 y1 y2 y3 y4 y5 y6 y7 y8 y9 y10, fr11 w g y0 y1 y2 y3 y4 y5 y6 y7 y8 y9 y10⟩
/-- What is read behind one of them. -/
def eachGo {α : Type} (w : List UInt8) (most : Nat) (one : List T → Option (α × List T)) (g c : Nat) : Option (α × List T) → Option (List α × List T)
 | none => none
 | some (x, t2) => (each w most one g c t2).map (fun q => (x :: q.1, q.2))
theorem each_next {α : Type} {w : List UInt8} {most : Nat} {one : List T → Option (α × List T)} {g c : Nat} {ts t1 : List T} (h : found 1 w ts = some t1) (hc : c ≠ most) : each w most one (g + 1) c ts = eachGo w most one g (c + 1) (one t1) := by
 rw [each, h]
 simp only
 rw [if_neg hc]
 cases one t1 with
 | none => rfl
 | some q => rfl
end P
end Go.Proofs.YtbdbpfcblppnbaaGreatDoor.Vx
namespace Go.Proofs.YtbdbpfcblppnbaaGreatDoor.Vx
open Go.RowKit
namespace P
theorem grown_alloc_drew {w w4 : World} {o : Obj} {row : Option Nat} (hg : (w.alloc o).drew.grownBy w4 row) : w.grownBy w4 row :=
 ⟨hg.os, hg.tape, hg.output, Nat.le_trans (by simp) hg.size, fun c hc he => (hg.block c (by show c < (w.alloc o).heap.size; simp; omega) he).trans (heap_alloc_old _ _ hc)⟩
/-- Ten cells of an expression, whatever it is. -/
def Sh10 (cs : List Value) : Prop := ∃ (k vk vn : Int) (vs : ByteArray) (al : Option Addr) (nl cl : Nat) (af : Option Addr) (nf cf : Nat) (s t : ByteArray) (a : Option Addr) (n c : Nat) (a' : Option Addr) (n' c' : Nat),
 cs = [.int .i64 k, .int .i64 vk, .int .i64 vn, .string vs, .slice al nl cl, .slice af nf cf, .string s, .string t, .slice a n c, .slice a' n' c']
theorem Sh10.len {cs : List Value} (h : Sh10 cs) : cs.length = 10 := by
 obtain ⟨k, vk, vn, vs, al, nl, cl, af, nf, cf, s, t, a, n, c, a', n', c', rfl⟩ := h
 rfl
/-- The cells of parts. -/
def partCells (N : List ByteArray) (C : List (List Value)) : List Value := (N.zip C).flatMap (fun x => .string x.1 :: x.2)
end P
theorem info59 : (Tryz.prog.info? 59).map (fun i => (i.zero, i.size, i.bytes)) = some (some (.agg #[.string ⟨#[]⟩, .int .i64 0, .int .i64 0, .int .i64 0, .string ⟨#[]⟩, .slice none 0 0, .slice none 0 0, .string ⟨#[]⟩, .string ⟨#[]⟩, .slice none 0 0, .slice none 0 0]), 11, 184) := by kernel_rfl
set_option maxRecDepth 100000 in
set_option maxHeartbeats 6400000 in
theorem partsOf_any (w : World) (N : List ByteArray) (C : List (List Value)) (an : Option Addr) (capn : Nat) (ao : Option Addr) (cap : Nat) (hN : V.Row w (.slice an N.length capn) N.length 1 (fun i c => ∃ x, N[i]? = some x ∧ c = [.string x]))
  (hC : V.Row w (.slice ao N.length cap) N.length 10 (fun i c => C[i]? = some c)) (hS : ∀ c ∈ C, P.Sh10 c) (hCl : C.length = N.length) (hl : N.length ≤ 200000) :
  Calls Tryz.prog 48 #[.slice an N.length capn, .slice ao N.length cap] w fun r w' => Below w.heap.size w w' ∧ ∃ ap cp, r = .returned (.slice ap N.length cp) ∧ w'.ownsRow w.heap.size 59 11 (.slice ap N.length cp) N.length (P.partCells N C) := by
 obtain ⟨i0, hi0, hz0, hz1, hz2⟩ := info_parts info59
 have HN := hide hN
 have HC := hide hC
 have HS := hide hS
 have HL := hide hl
 have HCL := hide hCl
 clear hN hC hS hl hCl
 go_enter Tryz.func48, Tryz.ntmps48
 go_wp2_with fail
 go_loopw [9, 5, 6] (fun vi v5 _ wr => ∃ (k : Nat) (ap : Option Addr) (cp : Nat), k ≤ N.length ∧ vi = .int .i64 k ∧ v5 = .slice ap k cp ∧ wr.ownsRow w.heap.size 59 11 (.slice ap k cp) k (P.partCells (N.take k) (C.take k)) ∧ Below w.heap.size w wr)
  (fun vi _ _ _ => N.length - (intOf vi).toNat)
 case atStart => exact ⟨0, none, 0, Nat.zero_le _, rfl, rfl, World.ownsRow_nil _ _ _ _, Below.refl _ _⟩
 case round =>
  obtain ⟨k, ap, cp, hk, rfl, rfl, hO, hB⟩ := hrel
  have hl := HL.out
  by_cases hlt : k < N.length
  ·obtain ⟨a1, c1, e1, h | ⟨bn, on, rfl, hn⟩⟩ := HN.out
   ·omega
   obtain ⟨a2, c2, e2, h | ⟨bl, ol, rfl, hc⟩⟩ := HC.out
   ·omega
   simp only [Value.slice.injEq, true_and] at e1 e2
   obtain ⟨rfl, rfl⟩ := e1
   obtain ⟨rfl, rfl⟩ := e2
   obtain ⟨cs1, _, q1, x, hx, rfl⟩ := hn k hlt
   obtain ⟨cs2, _, q2, hcx⟩ := hc k hlt
   obtain ⟨y0, y1, y2, y3, al, nl, cl, af, nf, cf, s, t, aa, na, ca, ab, nb, cb, rfl⟩ := HS.out cs2 (List.mem_of_getElem? hcx)
   have n0 : wr.cell? ⟨bn, on + k, none⟩ = some (.string x) := by
    have := q1 0 (by decide)
    rw [Nat.mul_one, Nat.add_zero] at this
    exact kept_cell hB this
   have x0 := kept_cell hB (q2 0 (by decide))
   have x1 := kept_cell hB (q2 1 (by decide))
   have x2 := kept_cell hB (q2 2 (by decide))
   have x3 := kept_cell hB (q2 3 (by decide))
   have x4 := kept_cell hB (q2 4 (by decide))
   have x5 := kept_cell hB (q2 5 (by decide))
   have x6 := kept_cell hB (q2 6 (by decide))
   have x7 := kept_cell hB (q2 7 (by decide))
   have x8 := kept_cell hB (q2 8 (by decide))
   have x9 := kept_cell hB (q2 9 (by decide))
   rw [Nat.add_zero] at x0
   have HX : Hid (P.partCells (N.take (k + 1)) (C.take (k + 1)) = P.partCells (N.take k) (C.take k) ++ [.string x, .int .i64 y0, .int .i64 y1, .int .i64 y2, .string y3, .slice al nl cl, .slice af nf cf, .string s, .string t, .slice aa na ca, .slice ab nb cb]) := by
    show _ = _
    have h1 : N.take (k + 1) = N.take k ++ [x] := by rw [List.take_add_one, hx]; rfl
    have h2 : C.take (k + 1) = C.take k ++ [[.int .i64 y0, .int .i64 y1, .int .i64 y2, .string y3, .slice al nl cl, .slice af nf cf, .string s, .string t, .slice aa na ca, .slice ab nb cb]] := by rw [List.take_add_one, hcx]; rfl
    have h3 : (N.take k).length = (C.take k).length := by
     have := (List.getElem?_eq_some_iff.1 hcx).1
     simp only [List.length_take]
     omega
    unfold P.partCells
    rw [h1, h2, List.zip_append h3, List.flatMap_append]
    rfl
   have HOW := hide hO
   have HB := hide hB
   have HSZ : Hid (w.heap.size ≤ wr.heap.size) := hB.size
   clear hO hB q1 q2 hn hc hcx hx HN HC HS
   go_wp2_with fail
   go_region_law
    (first
     | (refine step_append_lies _ ?_ (.tmp 12) (.tmp 22) 51 ?_ w.heap.size 59 i0 (.agg #[.string ⟨#[]⟩, .int .i64 0, .int .i64 0, .int .i64 0, .string ⟨#[]⟩, .slice none 0 0, .slice none 0 0, .string ⟨#[]⟩, .string ⟨#[]⟩, .slice none 0 0, .slice none 0 0]) 11 184 Tryz.underlying51 hi0 hz0 hz1 hz2 rfl (by decide) (.slice ap k cp) k (P.partCells (N.take k) (C.take k)) ?_ ?_ ⟨wr.heap.size, 0, none⟩ 1 1 [.string x, .int .i64 y0, .int .i64 y1, .int .i64 y2, .string y3, .slice al nl cl, .slice af nf cf, .string s, .string t, .slice aa na ca, .slice ab nb cb] ?_ rfl ?_ ?_ Nat.one_pos ?_ ?_ ?_ _ rfl ?_; rfl; rfl; rfl; exact (HOW.out.alloc _).drew; rfl; exact news_alloc_drew wr #[.string x, .int .i64 y0, .int .i64 y1, .int .i64 y2, .string y3, .slice al nl cl, .slice af nf cf, .string s, .string t, .slice aa na ca, .slice ab nb cb] 59 _ rfl; simp [Value.oneCell']; (unfold maxLen; omega); omega; (have := HSZ.out; simp; omega); intro g4 cap4 w4 hown4 hgrow hat hlt4))
   all_goals
    have HOW4 : Hid (w4.ownsRow w.heap.size 59 11 (.slice (some ⟨g4, 0, none⟩) (k + 1) cap4) (k + 1) (P.partCells (N.take (k + 1)) (C.take (k + 1)))) := by
     show World.ownsRow _ _ _ _ _ _ _
     rw [HX.out]
     exact hown4
    have HB4 : Hid (Below w.heap.size w w4) := by
     have hg := P.grown_alloc_drew hgrow
     exact HB.out.trans ⟨hg.os, hg.tape, hg.output, hg.size, fun c hc => hg.block c (by have := HSZ.out; omega) (fun e => by have := (HOW.out.lt c e.symm).1; omega)⟩
    clear hown4 hgrow hat hlt4
    go_wp2_with fail
    go_roundw
    case rel => exact ⟨k + 1, _, _, by omega, by go_num, rfl, HOW4.out, HB4.out⟩
    case measure => simp [intOf]; omega
  ·have e : k = N.length := by omega
   subst e
   have HO : Hid (wr.ownsRow w.heap.size 59 11 (.slice ap N.length cp) N.length (P.partCells N C)) := by
    have h1 : P.partCells (N.take N.length) (C.take N.length) = P.partCells N C := by
     rw [List.take_of_length_le (Nat.le_refl _), List.take_of_length_le (by rw [HCL.out]; exact Nat.le_refl _)]
    rw [h1] at hO
    exact hO
   have HB := hide hB
   clear hO hB
   go_wp2_with fail
   go_ret
   exact ⟨HB.out, _, _, rfl, HO.out⟩
end Go.Proofs.YtbdbpfcblppnbaaGreatDoor.Vx
