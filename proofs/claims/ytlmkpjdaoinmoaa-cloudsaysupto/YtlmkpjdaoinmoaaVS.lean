/- The document's own Get. -/
import Derived.Test.YtlmkpjdaoinmoaaVR
namespace Go.Proofs.Ytlmkpjdaoinmoaa
open Go.RowKit
namespace V
def zero : Val := ⟨0, 0, ⟨#[]⟩, [], []⟩
def find (l : List (ByteArray × Val)) (s : ByteArray) : Option Val := (l.find? (fun x => x.1.toList == s.toList)).map (·.2)
def found (l : List (ByteArray × Val)) (s : ByteArray) : Val := (find l s).getD zero
theorem find_none (l : List (ByteArray × Val)) (s : ByteArray) (h : ∀ (j : Nat) (x : ByteArray × Val), l[j]? = some x → (x.1.toList == s.toList) = false) : find l s = none := by
  unfold find
  rw [List.find?_eq_none.2 (fun x hx => by obtain ⟨j, hj⟩ := List.getElem?_of_mem hx; simp [h j x hj])]; rfl
theorem find_some (l : List (ByteArray × Val)) (s : ByteArray) (k : Nat) (x : ByteArray × Val) (hx : l[k]? = some x) (hs : (x.1.toList == s.toList) = true) (h : ∀ (j : Nat) (y : ByteArray × Val), j < k → l[j]? = some y → (y.1.toList == s.toList) = false) : find l s = some x.2 := by
  unfold find
  have : l.find? (fun x => x.1.toList == s.toList) = some x := by
    rw [List.find?_eq_some_iff_getElem]
    obtain ⟨hk, e⟩ := List.getElem?_eq_some_iff.1 hx
    refine ⟨hs, k, hk, e, fun j hj => ?_⟩
    have := h j l[j] hj (List.getElem?_eq_getElem (by omega))
    simp [this]
  rw [this]; rfl
theorem Row.zero (w : World) (sz : Nat) (P : Nat → List Value → Prop) : Row w (.slice none 0 0) 0 sz P := ⟨none, 0, rfl, .inl rfl⟩
theorem Mem.zero (m : Nat) (w : World) : Mem (m + 1) w zero [.int .i64 0, .int .i64 0, .string ⟨#[]⟩, .slice none 0 0, .slice none 0 0] := ⟨_, _, rfl, Row.zero _ _ _, Row.zero _ _ _⟩
theorem Row.imp {w : World} {v : Value} {n sz : Nat} {P Q : Nat → List Value → Prop} (h : Row w v n sz P) (hPQ : ∀ i c, P i c → Q i c) : Row w v n sz Q := by
  obtain ⟨ao, cap, rfl, h⟩ := h
  refine ⟨ao, cap, rfl, ?_⟩
  rcases h with h | ⟨b, off, rfl, h⟩
  · exact .inl h
  · refine .inr ⟨b, off, rfl, fun i hi => ?_⟩
    obtain ⟨cs, h1, h2, h3⟩ := h i hi
    exact ⟨cs, h1, h2, hPQ i cs h3⟩
theorem Mem.up : ∀ (m : Nat) {w : World} {v : Val} {cs : List Value}, Mem m w v cs → Mem (m + 1) w v cs
  | 0, _, _, _, h => h.elim
  | m + 1, _, _, _, ⟨lv, fv, h1, h2, h3⟩ => ⟨lv, fv, h1, h2.imp (fun _ _ ⟨x, hx, hm⟩ => ⟨x, hx, Mem.up m hm⟩), h3.imp (fun _ _ ⟨x, c', hx, hc, hm⟩ => ⟨x, c', hx, hc, Mem.up m hm⟩)⟩
theorem Row.all {w : World} {v : Value} {n sz : Nat} {P : Nat → List Value → Prop} (h : Row w v n sz P) (i : Nat) (hi : i < n) : ∃ c, P i c := by
  obtain ⟨ao, cap, rfl, h⟩ := h
  rcases h with h | ⟨b, off, rfl, h⟩
  · omega
  · obtain ⟨cs, _, _, h3⟩ := h i hi; exact ⟨cs, h3⟩
theorem sumL_congr (g h : Val → Nat) (l : List Val) (hh : ∀ x ∈ l, g x = h x) : sumL g l = sumL h l := by
  unfold sumL; rw [List.map_congr_left hh]
theorem sumF_congr (g h : ByteArray × Val → Nat) (l : List (ByteArray × Val)) (hh : ∀ x ∈ l, g x = h x) : sumF g l = sumF h l := by
  unfold sumF; rw [List.map_congr_left hh]
theorem bulk_up : ∀ (m : Nat) {w : World} {v : Val} {cs : List Value}, Mem m w v cs → bulk (m + 1) v = bulk m v
  | 0, _, _, _, h => h.elim
  | m + 1, w, v, cs, ⟨lv, fv, h1, h2, h3⟩ => by
    rw [bulk, bulk, sumL_congr (bulk (m + 1)) (bulk m) v.l (fun x hx => by
      obtain ⟨j, hj⟩ := List.getElem?_of_mem hx
      obtain ⟨c, y, hy, hm⟩ := h2.all j (lt_of_get hj)
      rw [hj] at hy; cases hy; exact bulk_up m hm), sumF_congr (fun x => x.1.size + bulk (m + 1) x.2) (fun x => x.1.size + bulk m x.2) v.f (fun x hx => by
      obtain ⟨j, hj⟩ := List.getElem?_of_mem hx
      obtain ⟨c, y, c', hy, _, hm⟩ := h3.all j (lt_of_get hj)
      rw [hj] at hy; cases hy
      show _ + _ = _ + _
      rw [bulk_up m hm])]
end V
theorem block_set {w : World} {g i : Nat} {cs : Array Value} {t : TypeId} {fr : Nat × Nat} (h : w.heap[g]? = some (.cells cs t fr)) (v : Value) : (w.setCell ⟨g, i, none⟩ v).heap[g]? = some (.cells (cs.setIfInBounds i v) t fr) := by
  rw [setCell_eq_setRow w g i cs t fr v h]
  exact setRow_heap w g _ _ t _ h
theorem set5 {w : World} {g : Nat} {t : TypeId} {z0 z1 z2 z3 z4 : Value} (h : w.heap[g]? = some (.cells #[z0, z1, z2, z3, z4] t (0, 0))) (y0 y1 y2 y3 y4 : Value) :
    (((((w.setCell ⟨g, 0, none⟩ y0).setCell ⟨g, 1, none⟩ y1).setCell ⟨g, 2, none⟩ y2).setCell ⟨g, 3, none⟩ y3).setCell ⟨g, 4, none⟩ y4).heap[g]? = some (.cells #[y0, y1, y2, y3, y4] t (0, 0)) := by
  have h0 := block_set (i := 0) h y0
  have h1 := block_set (i := 1) h0 y1
  have h2 := block_set (i := 2) h1 y2
  have h3 := block_set (i := 3) h2 y3
  exact block_set (i := 4) h3 y4
theorem below5 {w0 w : World} {B g : Nat} (hb : Below B w0 w) (hg : B ≤ g) (y0 y1 y2 y3 y4 : Value) :
    Below B w0 (((((w.setCell ⟨g, 0, none⟩ y0).setCell ⟨g, 1, none⟩ y1).setCell ⟨g, 2, none⟩ y2).setCell ⟨g, 3, none⟩ y3).setCell ⟨g, 4, none⟩ y4) :=
  ((((hb.setCell (p := ⟨g, 0, none⟩) hg _).setCell (p := ⟨g, 1, none⟩) hg _).setCell (p := ⟨g, 2, none⟩) hg _).setCell (p := ⟨g, 3, none⟩) hg _).setCell (p := ⟨g, 4, none⟩) hg _

end Go.Proofs.Ytlmkpjdaoinmoaa
