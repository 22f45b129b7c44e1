/- lang.CopyExpr: the walk. -/
import Derived.Test.YtienhelohfhhfaaXP
namespace Go.Proofs.Ytienhelohfhhfaa.Vx
open Go.RowKit
theorem info158 : (Try.prog.info? 158).map (fun i => (i.zero, i.size, i.bytes)) = some (some (.pointer none), 1, 8) := by kernel_rfl
namespace X
/-- How many expressions there are. -/
def cnt : Nat → Ex → Nat
  | 0, _ => 0
  | m + 1, e => 1 + sumA (cnt m) e.a
theorem cnt_le : ∀ (m : Nat) (e : Ex), cnt m e ≤ bulk m e
  | 0, _ => Nat.le_refl _
  | m + 1, e => by
    have key : ∀ l : List Ex, sumA (cnt m) l ≤ sumA (bulk m) l := by
      intro l
      induction l with
      | nil => exact Nat.le_refl _
      | cons a t ih => unfold sumA at *; simp only [List.map_cons, List.sum_cons]; have := cnt_le m a; omega
    have := key e.a
    rw [cnt, bulk]; omega
/-- A node that waits: how deep, what, and where. -/
abbrev ND := Nat × Ex × Nat × Nat
def at_ (q : ND) : Nat × Nat := (q.2.2.1, q.2.2.2)
def ptr (q : ND) : Value := .pointer (some ⟨q.2.2.1, q.2.2.2, none⟩)
def wd (Q : List ND) : Nat := (Q.map (fun q => cnt q.1 q.2.1)).sum
theorem wd_append (L R : List ND) : wd (L ++ R) = wd L + wd R := by unfold wd; rw [List.map_append, List.sum_append]
theorem wd_one (q : ND) : wd [q] = cnt q.1 q.2.1 := by simp [wd]
/-- Ten cells of one kind each. -/
structure Form (w : World) (b o : Nat) : Prop where
  blk : V.Kind w b 109
  cells : ∃ (i0 i1 i2 : Int) (s3 s6 s7 : ByteArray) (a4 a5 a8 a9 : Option Addr) (n4 n5 n8 n9 d4 d5 d8 d9 : Nat), w.cell? ⟨b, o, none⟩ = some (.int .i64 i0) ∧ w.cell? ⟨b, o + 1, none⟩ = some (.int .i64 i1) ∧ w.cell? ⟨b, o + 2, none⟩ = some (.int .i64 i2) ∧ w.cell? ⟨b, o + 3, none⟩ = some (.string s3) ∧ w.cell? ⟨b, o + 4, none⟩ = some (.slice a4 n4 d4) ∧ w.cell? ⟨b, o + 5, none⟩ = some (.slice a5 n5 d5) ∧ w.cell? ⟨b, o + 6, none⟩ = some (.string s6) ∧ w.cell? ⟨b, o + 7, none⟩ = some (.string s7) ∧ w.cell? ⟨b, o + 8, none⟩ = some (.slice a8 n8 d8) ∧ w.cell? ⟨b, o + 9, none⟩ = some (.slice a9 n9 d9)
/-- A node that waits, in memory: what it holds lies in w0. -/
structure Pend (w0 w : World) (E : Nat) (q : ND) : Prop where
  le : E ≤ q.2.2.1
  blk : V.Kind w q.2.2.1 109
  mod : q.2.2.2 % 10 = 0
  mem : ∃ c, Mem q.1 w0 q.2.1 c ∧ ∀ j, j < 10 → w.cell? ⟨q.2.2.1, q.2.2.2 + j, none⟩ = c[j]?
/-- What a step does: cells of one node, and new blocks. -/
structure Turn (w w' : World) (b o : Nat) : Prop where
  fr : Frame w w' (fun c => c = b)
  cell : ∀ (j : Nat) (u : Value), ¬ (o ≤ j ∧ j < o + 10) → w.cell? ⟨b, j, none⟩ = some u → w'.cell? ⟨b, j, none⟩ = some u
  kind : V.Kind w b 109 → V.Kind w' b 109
theorem Turn.of_below {w w' : World} {b o : Nat} (h : Below w.heap.size w w') : Turn w w' b o :=
  ⟨Frame.of_below h _, fun _ _ _ hu => kept_cell h hu, fun ⟨cs, hc⟩ => ⟨cs, (h.block b (Array.getElem?_eq_some_iff.1 hc).1).trans hc⟩⟩
theorem Turn.trans {w w1 w2 : World} {b o : Nat} (h : Turn w w1 b o) (k : Turn w1 w2 b o) : Turn w w2 b o :=
  ⟨h.fr.trans k.fr (fun _ _ e => e), fun j u hj hu => k.cell j u hj (h.cell j u hj hu), fun hk => k.kind (h.kind hk)⟩
theorem Turn.set {w : World} {b o j : Nat} (hj : o ≤ j ∧ j < o + 10) (v : Value) : Turn w (w.setCell ⟨b, j, none⟩ v) b o := by
  refine ⟨⟨rfl, rfl, rfl, by simp, fun c _ he => Below.heap_setCell w ⟨b, j, none⟩ v c (fun e => he e)⟩, fun j2 u hj2 hu => ?_, fun hk => hk.set _ _⟩
  refine V.set_other (a := ⟨b, j, none⟩) (b := ⟨b, j2, none⟩) ?_ hu
  intro e
  simp only [Addr.mk.injEq, and_true, true_and] at e
  exact hj2 (e ▸ hj)
theorem Turn.other {w w' : World} {b o b2 o2 j : Nat} {u : Value} (h : Turn w w' b o) (hne : (b2, o2) ≠ (b, o)) (h1 : o % 10 = 0) (h2 : o2 % 10 = 0) (hj : j < 10) (hu : w.cell? ⟨b2, o2 + j, none⟩ = some u) : w'.cell? ⟨b2, o2 + j, none⟩ = some u := by
  by_cases hb : b2 = b
  · subst hb
    refine h.cell _ u ?_ hu
    intro hh
    apply hne
    have : o2 = o := by omega
    rw [this]
  · have hlt := World.block_lt_of_cell? w _ hu
    have e := h.fr.block b2 hlt hb
    unfold World.cell? at hu ⊢
    simp only at hu ⊢
    rw [e]; exact hu
theorem Turn.kindO {w w' : World} {b o b2 : Nat} {t : TypeId} (h : Turn w w' b o) (hb : V.Kind w b 109) (hk : V.Kind w b2 t) (ht : t = 109 ∨ b2 ≠ b) : V.Kind w' b2 t := by
  by_cases hb2 : b2 = b
  · rcases ht with rfl | ht
    · subst hb2; exact h.kind hk
    · exact absurd hb2 ht
  · obtain ⟨cs, hc⟩ := hk
    exact ⟨cs, (h.fr.block b2 (Array.getElem?_eq_some_iff.1 hc).1 hb2).trans hc⟩
theorem Pend.turn {w0 w w' : World} {E b o : Nat} {q : ND} (h : Pend w0 w E q) (ht : Turn w w' b o) (hb : V.Kind w b 109) (ho : o % 10 = 0) (hne : at_ q ≠ (b, o)) : Pend w0 w' E q := by
  obtain ⟨c, hm, hc⟩ := h.mem
  refine ⟨h.le, ht.kindO hb h.blk (.inl rfl), h.mod, c, hm, fun j hj => ?_⟩
  have hl : c.length = 10 := by
    have : ∃ m, q.1 = m := ⟨_, rfl⟩
    obtain ⟨m, hm1⟩ := this
    rw [hm1] at hm
    cases m with
    | zero => exact hm.elim
    | succ m => obtain ⟨_, _, _, _, _, _, _, rfl, _⟩ := hm; rfl
  have h1 : w.cell? ⟨q.2.2.1, q.2.2.2 + j, none⟩ = some c[j] := by rw [hc j hj]; exact List.getElem?_eq_getElem (by omega)
  rw [ht.other hne ho h.mod hj h1, List.getElem?_eq_getElem (by omega)]
theorem Form.turn {w w' : World} {b o b2 o2 : Nat} (h : Form w b2 o2) (ht : Turn w w' b o) (hb : V.Kind w b 109) (ho : o % 10 = 0) (ho2 : o2 % 10 = 0) (hne : (b2, o2) ≠ (b, o)) : Form w' b2 o2 := by
  obtain ⟨i0, i1, i2, s3, s6, s7, a4, a5, a8, a9, n4, n5, n8, n9, d4, d5, d8, d9, h0, h1, h2, h3, h4, h5, h6, h7, h8, h9⟩ := h.cells
  exact ⟨ht.kindO hb h.blk (.inl rfl), i0, i1, i2, s3, s6, s7, a4, a5, a8, a9, n4, n5, n8, n9, d4, d5, d8, d9, ht.other hne ho ho2 (j := 0) (by omega) h0, ht.other hne ho ho2 (by omega) h1, ht.other hne ho ho2 (by omega) h2, ht.other hne ho ho2 (by omega) h3, ht.other hne ho ho2 (by omega) h4, ht.other hne ho ho2 (by omega) h5, ht.other hne ho ho2 (by omega) h6, ht.other hne ho ho2 (by omega) h7, ht.other hne ho ho2 (by omega) h8, ht.other hne ho ho2 (by omega) h9⟩
/-- The same where nothing that was there has turned, but for a block of pointers. -/
theorem Pend.grown {w0 w w' : World} {E : Nat} {q : ND} {row : Option Nat} (h : Pend w0 w E q) (hg : w.grownBy w' row) (hr : ∀ c, row = some c → V.Kind w c 158) : Pend w0 w' E q := by
  obtain ⟨cs, hcs⟩ := h.blk
  have hb : w'.heap[q.2.2.1]? = w.heap[q.2.2.1]? := by
    refine hg.block _ (Array.getElem?_eq_some_iff.1 hcs).1 (fun e => ?_)
    obtain ⟨cs2, h2⟩ := hr _ e.symm
    rw [hcs] at h2
    simp at h2
  obtain ⟨c, hm, hc⟩ := h.mem
  refine ⟨h.le, ⟨cs, hb.trans hcs⟩, h.mod, c, hm, fun j hj => ?_⟩
  rw [← hc j hj]
  unfold World.cell?
  simp only
  rw [hb]
theorem Form.grown {w w' : World} {b o : Nat} {row : Option Nat} (h : Form w b o) (hg : w.grownBy w' row) (hr : ∀ c, row = some c → V.Kind w c 158) : Form w' b o := by
  obtain ⟨cs, hcs⟩ := h.blk
  have hb : w'.heap[b]? = w.heap[b]? := by
    refine hg.block _ (Array.getElem?_eq_some_iff.1 hcs).1 (fun e => ?_)
    obtain ⟨cs2, h2⟩ := hr _ e.symm
    rw [hcs] at h2
    simp at h2
  have hc : ∀ j, w'.cell? ⟨b, j, none⟩ = w.cell? ⟨b, j, none⟩ := fun j => by
    unfold World.cell?
    simp only
    rw [hb]
  obtain ⟨i0, i1, i2, s3, s6, s7, a4, a5, a8, a9, n4, n5, n8, n9, d4, d5, d8, d9, h0, h1, h2, h3, h4, h5, h6, h7, h8, h9⟩ := h.cells
  exact ⟨⟨cs, hb.trans hcs⟩, i0, i1, i2, s3, s6, s7, a4, a5, a8, a9, n4, n5, n8, n9, d4, d5, d8, d9, (hc _).trans h0, (hc _).trans h1, (hc _).trans h2, (hc _).trans h3, (hc _).trans h4, (hc _).trans h5, (hc _).trans h6, (hc _).trans h7, (hc _).trans h8, (hc _).trans h9⟩
/-- The list of a node's expressions, to be copied. -/
theorem srcA {w0 w : World} (hw : Below w0.heap.size w0 w) {m : Nat} {ao : Option Addr} {cap : Nat} {l : List Ex} (h : V.Row w0 (.slice ao l.length cap) l.length 10 (fun i c => ∃ x, l[i]? = some x ∧ Mem m w0 x c)) : V.Source w 10 ao l.length := by
  obtain ⟨a, c, e, h⟩ := h
  simp only [Value.slice.injEq] at e
  obtain ⟨rfl, _, rfl⟩ := e
  rcases h with h | ⟨b, off, rfl, h⟩
  · exact .inl h
  · refine .inr ⟨b, off, rfl, fun j hj => ?_⟩
    obtain ⟨cs, h1, h2, x, hx, hm⟩ := h (j / 10) (by omega)
    match cs, h1 with
    | [d0, d1, d2, d3, d4, d5, d6, d7, d8, d9], _ =>
      obtain ⟨al, cl, af, cf, aa, ca, an, cn, rfl, rfl, rfl, rfl, rfl, rfl, rfl, rfl, rfl, rfl⟩ := hm.form
      have hjj : off + j = off + j / 10 * 10 + j % 10 := by omega
      rw [hjj]
      have hlt : j % 10 < 10 := by omega
      have h3 := h2 (j % 10) hlt
      generalize j % 10 = k at *
      match k, hlt with
      | 0, _ => exact ⟨_, kept_cell hw h3, rfl⟩
      | 1, _ => exact ⟨_, kept_cell hw h3, rfl⟩
      | 2, _ => exact ⟨_, kept_cell hw h3, rfl⟩
      | 3, _ => exact ⟨_, kept_cell hw h3, rfl⟩
      | 4, _ => exact ⟨_, kept_cell hw h3, rfl⟩
      | 5, _ => exact ⟨_, kept_cell hw h3, rfl⟩
      | 6, _ => exact ⟨_, kept_cell hw h3, rfl⟩
      | 7, _ => exact ⟨_, kept_cell hw h3, rfl⟩
      | 8, _ => exact ⟨_, kept_cell hw h3, rfl⟩
      | 9, _ => exact ⟨_, kept_cell hw h3, rfl⟩
theorem srcN {w0 w : World} (hw : Below w0.heap.size w0 w) {ao : Option Addr} {cap : Nat} {l : List ByteArray} (h : V.Row w0 (.slice ao l.length cap) l.length 1 (fun i c => ∃ x, l[i]? = some x ∧ c = [.string x])) : V.Source w 1 ao l.length := by
  obtain ⟨a, c, e, h⟩ := h
  simp only [Value.slice.injEq] at e
  obtain ⟨rfl, _, rfl⟩ := e
  rcases h with h | ⟨b, off, rfl, h⟩
  · exact .inl h
  · refine .inr ⟨b, off, rfl, fun j hj => ?_⟩
    obtain ⟨cs, h1, h2, x, hx, rfl⟩ := h j (by omega)
    have h3 := h2 0 (by omega)
    rw [Nat.mul_one, Nat.add_zero] at h3
    exact ⟨_, kept_cell hw h3, rfl⟩
/-- What was copied waits. -/
theorem pendA {w0 w w' : World} {E : Nat} (hw : Below w0.heap.size w0 w) {m : Nat} {ao ao' : Option Addr} {cap : Nat} {l : List Ex} (h : V.Row w0 (.slice ao l.length cap) l.length 10 (fun i c => ∃ x, l[i]? = some x ∧ Mem m w0 x c)) (hC : V.Copied w w' 109 10 ao l.length ao') (hE : E ≤ w.heap.size) (i : Nat) (x : Ex) (hx : l[i]? = some x) :
    ∃ g, ao' = some ⟨g, 0, none⟩ ∧ w.heap.size ≤ g ∧ Pend w0 w' E (m, x, g, i * 10) := by
  have hi : i < l.length := (List.getElem?_eq_some_iff.1 hx).1
  obtain ⟨a, c, e, h⟩ := h
  simp only [Value.slice.injEq] at e
  obtain ⟨rfl, _, rfl⟩ := e
  rcases h with h | ⟨b, off, rfl, h⟩
  · omega
  rcases hC.2 with h0 | ⟨g, p, off2, e1, e2, hg, hk, hcp⟩
  · omega
  simp only [Option.some.injEq, Addr.mk.injEq, and_true] at e2
  obtain ⟨rfl, rfl⟩ := e2
  refine ⟨g, e1, hg, Nat.le_trans hE hg, hk, by show i * 10 % 10 = 0; omega, ?_⟩
  obtain ⟨cs, h1, h2, y, hy, hm⟩ := h i hi
  rw [hx] at hy; cases hy
  refine ⟨cs, hm, fun j hj => ?_⟩
  obtain ⟨u, hu1, hu2⟩ := hcp (i * 10 + j) (by omega)
  show w'.cell? ⟨g, i * 10 + j, none⟩ = _
  rw [hu2]
  have h3 := h2 j hj
  have h4 : w0.cell? ⟨b, off + i * 10 + j, none⟩ = some cs[j] := by rw [h3]; exact List.getElem?_eq_getElem (by omega)
  have h5 := kept_cell hw h4
  rw [← Nat.add_assoc] at hu1
  rw [hu1] at h5
  rw [h5, List.getElem?_eq_getElem (by omega)]
end X
end Go.Proofs.Ytienhelohfhhfaa.Vx
namespace Go.Proofs.Ytienhelohfhhfaa.Vx
open Go.RowKit
theorem info109 : (Try.prog.info? 109).map (fun i => (i.zero, i.size, i.bytes)) = some (some (.agg #[.int .i64 0, .int .i64 0, .int .i64 0, .string ⟨#[]⟩, .slice none 0 0, .slice none 0 0, .string ⟨#[]⟩, .string ⟨#[]⟩, .slice none 0 0, .slice none 0 0]), 10, 168) := by kernel_rfl
theorem info9 : (Try.prog.info? 9).map (fun i => (i.zero, i.size, i.bytes)) = some (some (.string ⟨#[]⟩), 1, 16) := by kernel_rfl
theorem set10 {w : World} {g : Nat} {t : TypeId} {z0 z1 z2 z3 z4 z5 z6 z7 z8 z9 : Value} (h : w.heap[g]? = some (.cells #[z0, z1, z2, z3, z4, z5, z6, z7, z8, z9] t (0, 0))) (y0 y1 y2 y3 y4 y5 y6 y7 y8 y9 : Value) :
    ((((((((((w.setCell ⟨g, 0, none⟩ y0).setCell ⟨g, 1, none⟩ y1).setCell ⟨g, 2, none⟩ y2).setCell ⟨g, 3, none⟩ y3).setCell ⟨g, 4, none⟩ y4).setCell ⟨g, 5, none⟩ y5).setCell ⟨g, 6, none⟩ y6).setCell ⟨g, 7, none⟩ y7).setCell ⟨g, 8, none⟩ y8).setCell ⟨g, 9, none⟩ y9).heap[g]? = some (.cells #[y0, y1, y2, y3, y4, y5, y6, y7, y8, y9] t (0, 0)) := by
  have h0 : (w.setCell ⟨g, 0, none⟩ y0).heap[g]? = some (.cells #[y0, z1, z2, z3, z4, z5, z6, z7, z8, z9] t (0, 0)) := block_set (i := 0) h y0
  have h1 : ((w.setCell ⟨g, 0, none⟩ y0).setCell ⟨g, 1, none⟩ y1).heap[g]? = some (.cells #[y0, y1, z2, z3, z4, z5, z6, z7, z8, z9] t (0, 0)) := block_set (i := 1) h0 y1
  have h2 : (((w.setCell ⟨g, 0, none⟩ y0).setCell ⟨g, 1, none⟩ y1).setCell ⟨g, 2, none⟩ y2).heap[g]? = some (.cells #[y0, y1, y2, z3, z4, z5, z6, z7, z8, z9] t (0, 0)) := block_set (i := 2) h1 y2
  have h3 : ((((w.setCell ⟨g, 0, none⟩ y0).setCell ⟨g, 1, none⟩ y1).setCell ⟨g, 2, none⟩ y2).setCell ⟨g, 3, none⟩ y3).heap[g]? = some (.cells #[y0, y1, y2, y3, z4, z5, z6, z7, z8, z9] t (0, 0)) := block_set (i := 3) h2 y3
  have h4 : (((((w.setCell ⟨g, 0, none⟩ y0).setCell ⟨g, 1, none⟩ y1).setCell ⟨g, 2, none⟩ y2).setCell ⟨g, 3, none⟩ y3).setCell ⟨g, 4, none⟩ y4).heap[g]? = some (.cells #[y0, y1, y2, y3, y4, z5, z6, z7, z8, z9] t (0, 0)) := block_set (i := 4) h3 y4
  have h5 : ((((((w.setCell ⟨g, 0, none⟩ y0).setCell ⟨g, 1, none⟩ y1).setCell ⟨g, 2, none⟩ y2).setCell ⟨g, 3, none⟩ y3).setCell ⟨g, 4, none⟩ y4).setCell ⟨g, 5, none⟩ y5).heap[g]? = some (.cells #[y0, y1, y2, y3, y4, y5, z6, z7, z8, z9] t (0, 0)) := block_set (i := 5) h4 y5
  have h6 : (((((((w.setCell ⟨g, 0, none⟩ y0).setCell ⟨g, 1, none⟩ y1).setCell ⟨g, 2, none⟩ y2).setCell ⟨g, 3, none⟩ y3).setCell ⟨g, 4, none⟩ y4).setCell ⟨g, 5, none⟩ y5).setCell ⟨g, 6, none⟩ y6).heap[g]? = some (.cells #[y0, y1, y2, y3, y4, y5, y6, z7, z8, z9] t (0, 0)) := block_set (i := 6) h5 y6
  have h7 : ((((((((w.setCell ⟨g, 0, none⟩ y0).setCell ⟨g, 1, none⟩ y1).setCell ⟨g, 2, none⟩ y2).setCell ⟨g, 3, none⟩ y3).setCell ⟨g, 4, none⟩ y4).setCell ⟨g, 5, none⟩ y5).setCell ⟨g, 6, none⟩ y6).setCell ⟨g, 7, none⟩ y7).heap[g]? = some (.cells #[y0, y1, y2, y3, y4, y5, y6, y7, z8, z9] t (0, 0)) := block_set (i := 7) h6 y7
  have h8 : (((((((((w.setCell ⟨g, 0, none⟩ y0).setCell ⟨g, 1, none⟩ y1).setCell ⟨g, 2, none⟩ y2).setCell ⟨g, 3, none⟩ y3).setCell ⟨g, 4, none⟩ y4).setCell ⟨g, 5, none⟩ y5).setCell ⟨g, 6, none⟩ y6).setCell ⟨g, 7, none⟩ y7).setCell ⟨g, 8, none⟩ y8).heap[g]? = some (.cells #[y0, y1, y2, y3, y4, y5, y6, y7, y8, z9] t (0, 0)) := block_set (i := 8) h7 y8
  exact block_set (i := 9) h8 y9
theorem below10 {w0 w : World} {B g : Nat} (hb : Below B w0 w) (hg : B ≤ g) (y0 y1 y2 y3 y4 y5 y6 y7 y8 y9 : Value) : Below B w0 ((((((((((w.setCell ⟨g, 0, none⟩ y0).setCell ⟨g, 1, none⟩ y1).setCell ⟨g, 2, none⟩ y2).setCell ⟨g, 3, none⟩ y3).setCell ⟨g, 4, none⟩ y4).setCell ⟨g, 5, none⟩ y5).setCell ⟨g, 6, none⟩ y6).setCell ⟨g, 7, none⟩ y7).setCell ⟨g, 8, none⟩ y8).setCell ⟨g, 9, none⟩ y9) :=
  ((((((((((hb.setCell (p := ⟨g, 0, none⟩) hg y0).setCell (p := ⟨g, 1, none⟩) hg y1).setCell (p := ⟨g, 2, none⟩) hg y2).setCell (p := ⟨g, 3, none⟩) hg y3).setCell (p := ⟨g, 4, none⟩) hg y4).setCell (p := ⟨g, 5, none⟩) hg y5).setCell (p := ⟨g, 6, none⟩) hg y6).setCell (p := ⟨g, 7, none⟩) hg y7).setCell (p := ⟨g, 8, none⟩) hg y8).setCell (p := ⟨g, 9, none⟩) hg y9)
/-- Ten cells of the kinds that an expression has. -/
def X.Any10 (o : Ending) : Prop := ∃ (i0 i1 i2 : Int) (s3 s6 s7 : ByteArray) (a4 a5 a8 a9 : Option Addr) (n4 n5 n8 n9 d4 d5 d8 d9 : Nat), o = .returned (.agg #[.int .i64 i0, .int .i64 i1, .int .i64 i2, .string s3, .slice a4 n4 d4, .slice a5 n5 d5, .string s6, .string s7, .slice a8 n8 d8, .slice a9 n9 d9])
theorem X.pushed {Q : List X.ND} {q : X.ND} (h : (Q.map X.at_).Nodup) (hq : X.at_ q ∉ Q.map X.at_) : ((Q ++ [q]).map X.at_).Nodup := by
  rw [List.map_append, List.nodup_append]
  refine ⟨h, by simp, fun a ha c hc e => ?_⟩
  simp at hc
  subst hc
  exact hq (e ▸ ha)
/-- One value of a node is copied. -/
theorem X.step5 {wr w2 : World} {b o : Nat} (hb : V.Kind wr b 109) (h2 : Below wr.heap.size wr w2) {u1 u2 u3 u4 u5 : Value} (v1 v2 v3 v4 v5 : Value)
    (k1 : wr.cell? ⟨b, o + 1, none⟩ = some u1) (k2 : wr.cell? ⟨b, o + 2, none⟩ = some u2) (k3 : wr.cell? ⟨b, o + 3, none⟩ = some u3) (k4 : wr.cell? ⟨b, o + 4, none⟩ = some u4) (k5 : wr.cell? ⟨b, o + 5, none⟩ = some u5) (w5 : World)
    (e5 : w5 = ((((w2.setCell ⟨b, o + 1, none⟩ v1).setCell ⟨b, o + 2, none⟩ v2).setCell ⟨b, o + 3, none⟩ v3).setCell ⟨b, o + 4, none⟩ v4).setCell ⟨b, o + 5, none⟩ v5) :
    X.Turn wr w5 b o ∧ V.Kind w5 b 109 ∧ w5.cell? ⟨b, o + 1, none⟩ = some v1 ∧ w5.cell? ⟨b, o + 2, none⟩ = some v2 ∧ w5.cell? ⟨b, o + 3, none⟩ = some v3 ∧ w5.cell? ⟨b, o + 4, none⟩ = some v4 ∧ w5.cell? ⟨b, o + 5, none⟩ = some v5 ∧
      ∀ (j : Nat) (u : Value), (j = 0 ∨ 6 ≤ j) → wr.cell? ⟨b, o + j, none⟩ = some u → w5.cell? ⟨b, o + j, none⟩ = some u := by
  have ne : ∀ i j : Nat, i ≠ j → (⟨b, o + i, none⟩ : Addr) ≠ ⟨b, o + j, none⟩ := fun i j h e => h (by injection e with _ h0 _; omega)
  have t : X.Turn wr w5 b o := by
    rw [e5]
    exact (((((X.Turn.of_below h2).trans (X.Turn.set (by omega) v1)).trans (X.Turn.set (by omega) v2)).trans (X.Turn.set (by omega) v3)).trans (X.Turn.set (by omega) v4)).trans (X.Turn.set (by omega) v5)
  refine ⟨t, t.kind hb, ?_, ?_, ?_, ?_, ?_, ?_⟩
  · rw [e5]; exact V.set_other (ne 5 1 (by omega)) (V.set_other (ne 4 1 (by omega)) (V.set_other (ne 3 1 (by omega)) (V.set_other (ne 2 1 (by omega)) (V.set_same (kept_cell h2 k1)))))
  · rw [e5]; exact V.set_other (ne 5 2 (by omega)) (V.set_other (ne 4 2 (by omega)) (V.set_other (ne 3 2 (by omega)) (V.set_same (V.set_other (ne 1 2 (by omega)) (kept_cell h2 k2)))))
  · rw [e5]; exact V.set_other (ne 5 3 (by omega)) (V.set_other (ne 4 3 (by omega)) (V.set_same (V.set_other (ne 2 3 (by omega)) (V.set_other (ne 1 3 (by omega)) (kept_cell h2 k3)))))
  · rw [e5]; exact V.set_other (ne 5 4 (by omega)) (V.set_same (V.set_other (ne 3 4 (by omega)) (V.set_other (ne 2 4 (by omega)) (V.set_other (ne 1 4 (by omega)) (kept_cell h2 k4)))))
  · rw [e5]; exact V.set_same (V.set_other (ne 4 5 (by omega)) (V.set_other (ne 3 5 (by omega)) (V.set_other (ne 2 5 (by omega)) (V.set_other (ne 1 5 (by omega)) (kept_cell h2 k5)))))
  · intro j u hj hu
    rw [e5]; exact V.set_other (ne 5 j (by omega)) (V.set_other (ne 4 j (by omega)) (V.set_other (ne 3 j (by omega)) (V.set_other (ne 2 j (by omega)) (V.set_other (ne 1 j (by omega)) (kept_cell h2 hu)))))
/-- One list of a node is copied. -/
theorem X.step1 {wr w2 : World} {b o i : Nat} (hi : i < 10) (hb : V.Kind wr b 109) (h2 : Below wr.heap.size wr w2) {u : Value} (v : Value) (k : wr.cell? ⟨b, o + i, none⟩ = some u) (w5 : World) (e5 : w5 = w2.setCell ⟨b, o + i, none⟩ v) :
    X.Turn wr w5 b o ∧ V.Kind w5 b 109 ∧ w5.cell? ⟨b, o + i, none⟩ = some v ∧ ∀ (j : Nat) (u : Value), j ≠ i → wr.cell? ⟨b, o + j, none⟩ = some u → w5.cell? ⟨b, o + j, none⟩ = some u := by
  have t : X.Turn wr w5 b o := by rw [e5]; exact (X.Turn.of_below h2).trans (X.Turn.set (by omega) v)
  refine ⟨t, t.kind hb, by rw [e5]; exact V.set_same (kept_cell h2 k), fun j u hj hu => ?_⟩
  rw [e5]; exact V.set_other (fun e => hj (by injection e with _ h0 _; omega)) (kept_cell h2 hu)
theorem X.free_kind {w : World} {b : Nat} {t : TypeId} (h : V.Kind w b t) (j : Nat) : w.frozen? ⟨b, j, none⟩ = false := by
  obtain ⟨cs, h⟩ := h
  exact free_of_block h j
theorem X.len_wd {w0 w : World} {E : Nat} : ∀ (L : List X.ND), (∀ q ∈ L, X.Pend w0 w E q) → L.length ≤ X.wd L
  | [], _ => Nat.zero_le _
  | q :: L, hL => by
    have h1 := X.len_wd L (fun q hq => hL q (by simp [hq]))
    obtain ⟨c, hm, _⟩ := (hL q (by simp)).mem
    have h2 : 1 ≤ X.cnt q.1 q.2.1 := by
      generalize q.1 = m1 at *
      cases m1 with
      | zero => exact hm.elim
      | succ m1 => rw [X.cnt]; omega
    have h3 : X.wd (q :: L) = X.cnt q.1 q.2.1 + X.wd L := by unfold X.wd; simp
    rw [List.length_cons, h3]; omega
theorem X.own158 {w : World} {base n : Nat} {v : Value} {xs : List Value} (h : w.ownsRow base 158 1 v n xs) : ∀ c, v.ownBlock = some c → V.Kind w c 158 ∧ base ≤ c := by
  intro c hc
  rcases h.2 with ⟨rfl, _⟩ | ⟨g2, c2, cur, rfl, hb, hh, _⟩
  · simp [Value.ownBlock] at hc
  · simp only [Value.ownBlock, Option.some.injEq] at hc
    subst hc
    exact ⟨⟨cur, hh⟩, hb⟩
theorem X.kind_grown {w w' : World} {row : Option Nat} {b : Nat} {cs : Array Value} (hg : w.grownBy w' row) (hr : ∀ c, row = some c → V.Kind w c 158) (h : w.heap[b]? = some (.cells cs 109 (0, 0))) : w'.heap[b]? = some (.cells cs 109 (0, 0)) := by
  rw [hg.block b (Array.getElem?_eq_some_iff.1 h).1 (fun e => by
    obtain ⟨cs2, h2⟩ := hr _ e.symm
    rw [h] at h2
    simp at h2)]
  exact h
theorem X.sumA_take (f : Ex → Nat) (l : List Ex) (k : Nat) (y : Ex) (h : l[k]? = some y) : X.sumA f (l.take (k + 1)) = X.sumA f (l.take k) + f y := by
  unfold X.sumA
  rw [List.take_add_one, h, Option.toList_some, List.map_append, List.sum_append]; simp
theorem X.sumA_le (f : Ex → Nat) (l : List Ex) (k : Nat) : X.sumA f (l.take k) ≤ X.sumA f l := by
  unfold X.sumA
  conv => rhs; rw [← List.take_append_drop k l]
  rw [List.map_append, List.sum_append]; omega
set_option maxRecDepth 100000 in
set_option maxHeartbeats 8000000 in
theorem copyExpr_any (m : Nat) (w : World) (e : Ex) (d0 d1 d2 d3 d4 d5 d6 d7 d8 d9 : Value) (hM : X.Mem m w e [d0, d1, d2, d3, d4, d5, d6, d7, d8, d9]) (hbk : X.bulk m e ≤ 2000000) :
    Calls Try.prog 69 #[.agg #[d0, d1, d2, d3, d4, d5, d6, d7, d8, d9]] w fun o w' => X.Any10 o ∧ Below w.heap.size w w' := by
  obtain ⟨i0, hi, hz0, hz1, hz2⟩ := info_parts info158
  obtain ⟨i1, hi1, hy0, hy1, hy2⟩ := info_parts info109
  obtain ⟨i2, hi2, hx0, hx1, hx2⟩ := info_parts info9
  obtain ⟨al, cl, af, cf, aa, ca, an, cn, rfl, rfl, rfl, rfl, rfl, rfl, rfl, rfl, rfl, rfl⟩ := hM.form
  have hb1 : Below w.heap.size w ((w.alloc (.cells #[.int .i64 e.kind, .int .i64 e.v.kind, .int .i64 e.v.n, .string e.v.s, .slice al e.v.l.length cl, .slice af e.v.f.length cf, .string e.s, .string e.t, .slice aa e.a.length ca, .slice an e.n.length cn] 109)).alloc (.cells #[.int .i64 0, .int .i64 0, .int .i64 0, .string ⟨#[]⟩, .slice none 0 0, .slice none 0 0, .string ⟨#[]⟩, .string ⟨#[]⟩, .slice none 0 0, .slice none 0 0] 109)) := ((Below.refl _ _).alloc (Nat.le_refl _) _).alloc (by simp) _
  have hA0 : ((w.alloc (.cells #[.int .i64 e.kind, .int .i64 e.v.kind, .int .i64 e.v.n, .string e.v.s, .slice al e.v.l.length cl, .slice af e.v.f.length cf, .string e.s, .string e.t, .slice aa e.a.length ca, .slice an e.n.length cn] 109)).alloc (.cells #[.int .i64 0, .int .i64 0, .int .i64 0, .string ⟨#[]⟩, .slice none 0 0, .slice none 0 0, .string ⟨#[]⟩, .string ⟨#[]⟩, .slice none 0 0, .slice none 0 0] 109)).heap[w.heap.size]? = some (.cells #[.int .i64 e.kind, .int .i64 e.v.kind, .int .i64 e.v.n, .string e.v.s, .slice al e.v.l.length cl, .slice af e.v.f.length cf, .string e.s, .string e.t, .slice aa e.a.length ca, .slice an e.n.length cn] 109 (0, 0)) := by rw [heap_alloc_old _ _ (by simp)]; exact heap_alloc_new _ _
  have hB0 : ((w.alloc (.cells #[.int .i64 e.kind, .int .i64 e.v.kind, .int .i64 e.v.n, .string e.v.s, .slice al e.v.l.length cl, .slice af e.v.f.length cf, .string e.s, .string e.t, .slice aa e.a.length ca, .slice an e.n.length cn] 109)).alloc (.cells #[.int .i64 0, .int .i64 0, .int .i64 0, .string ⟨#[]⟩, .slice none 0 0, .slice none 0 0, .string ⟨#[]⟩, .string ⟨#[]⟩, .slice none 0 0, .slice none 0 0] 109)).heap[w.heap.size + 1]? = some (.cells #[.int .i64 0, .int .i64 0, .int .i64 0, .string ⟨#[]⟩, .slice none 0 0, .slice none 0 0, .string ⟨#[]⟩, .string ⟨#[]⟩, .slice none 0 0, .slice none 0 0] 109 (0, 0)) := by rw [show w.heap.size + 1 = (w.alloc (.cells #[.int .i64 e.kind, .int .i64 e.v.kind, .int .i64 e.v.n, .string e.v.s, .slice al e.v.l.length cl, .slice af e.v.f.length cf, .string e.s, .string e.t, .slice aa e.a.length ca, .slice an e.n.length cn] 109)).heap.size by simp]; exact heap_alloc_new _ _
  have hsz : ((w.alloc (.cells #[.int .i64 e.kind, .int .i64 e.v.kind, .int .i64 e.v.n, .string e.v.s, .slice al e.v.l.length cl, .slice af e.v.f.length cf, .string e.s, .string e.t, .slice aa e.a.length ca, .slice an e.n.length cn] 109)).alloc (.cells #[.int .i64 0, .int .i64 0, .int .i64 0, .string ⟨#[]⟩, .slice none 0 0, .slice none 0 0, .string ⟨#[]⟩, .string ⟨#[]⟩, .slice none 0 0, .slice none 0 0] 109)).heap.size = w.heap.size + 2 := by simp
  have hcn : X.cnt m e ≤ 2000000 := Nat.le_trans (X.cnt_le m e) hbk
  go_enter Try.func69, Try.ntmps69
  go_wp2_with fail
  generalize ((w.alloc (.cells #[.int .i64 e.kind, .int .i64 e.v.kind, .int .i64 e.v.n, .string e.v.s, .slice al e.v.l.length cl, .slice af e.v.f.length cf, .string e.s, .string e.t, .slice aa e.a.length ca, .slice an e.n.length cn] 109)).alloc (.cells #[.int .i64 0, .int .i64 0, .int .i64 0, .string ⟨#[]⟩, .slice none 0 0, .slice none 0 0, .string ⟨#[]⟩, .string ⟨#[]⟩, .slice none 0 0, .slice none 0 0] 109)) = w1 at *
  have hbw0 : Below w1.heap.size w1 (w1.alloc (.cells #[.pointer (some ⟨w.heap.size, 0, none⟩)] 158)) := (Below.refl _ _).alloc (Nat.le_refl _) _
  have hown0 : (w1.alloc (.cells #[.pointer (some ⟨w.heap.size, 0, none⟩)] 158)).ownsRow (w.heap.size + 2) 158 1 (.slice (some ⟨w.heap.size + 2, 0, none⟩) 1 1) 1 ([(m, e, w.heap.size, 0)].map X.ptr) := by
    refine ⟨rfl, .inr ⟨w.heap.size + 2, 1, #[.pointer (some ⟨w.heap.size, 0, none⟩)], rfl, Nat.le_refl _, ?_, Nat.le_refl _, by decide, rfl, rfl⟩⟩
    rw [← hsz]; exact heap_alloc_new _ _
  have hA1 := (hbw0.block w.heap.size (by omega)).trans hA0
  have hB1 := (hbw0.block (w.heap.size + 1) (by omega)).trans hB0
  have hbw1 := hb1.trans (hbw0.mono (by omega))
  have hP0 : X.Pend w (w1.alloc (.cells #[.pointer (some ⟨w.heap.size, 0, none⟩)] 158)) w.heap.size (m, e, w.heap.size, 0) := by
    refine ⟨Nat.le_refl _, ⟨_, hA1⟩, rfl, _, hM, fun j hj => ?_⟩
    show (w1.alloc _).cell? ⟨w.heap.size, 0 + j, none⟩ = _
    rw [Nat.zero_add, cell_of_row _ _ j _ _ _ hA1, ← Array.getElem?_toList]
  have hF0 : X.Form (w1.alloc (.cells #[.pointer (some ⟨w.heap.size, 0, none⟩)] 158)) w.heap.size 0 :=
    ⟨⟨_, hA1⟩, _, _, _, _, _, _, _, _, _, _, _, _, _, _, _, _, _, _, cell_of_block hA1 0 _ rfl, cell_of_block hA1 1 _ rfl, cell_of_block hA1 2 _ rfl, cell_of_block hA1 3 _ rfl, cell_of_block hA1 4 _ rfl, cell_of_block hA1 5 _ rfl, cell_of_block hA1 6 _ rfl, cell_of_block hA1 7 _ rfl, cell_of_block hA1 8 _ rfl, cell_of_block hA1 9 _ rfl⟩
  clear hA0 hB0 hb1 hbw0 hM
  go_loopg [3, 4, 5] (X.cnt m e) (fun gk vt _ _ wr => ∃ (Q : List X.ND) (ao : Option Addr) (cap : Nat), vt = .slice ao Q.length cap ∧ wr.ownsRow (w.heap.size + 2) 158 1 (.slice ao Q.length cap) Q.length (Q.map X.ptr) ∧ (∀ q ∈ Q, X.Pend w wr w.heap.size q ∧ X.bulk q.1 q.2.1 ≤ 2000000 ∧ q.2.2.1 ≠ w.heap.size + 1) ∧ (Q.map X.at_).Nodup ∧ X.Form wr w.heap.size 0 ∧ gk = X.wd Q ∧ gk ≤ 2000000 ∧ wr.heap[w.heap.size + 1]? = some (.cells #[.int .i64 0, .int .i64 0, .int .i64 0, .string ⟨#[]⟩, .slice none 0 0, .slice none 0 0, .string ⟨#[]⟩, .string ⟨#[]⟩, .slice none 0 0, .slice none 0 0] 109 (0, 0)) ∧ Below w.heap.size w wr)
  case atStart => exact ⟨[(m, e, w.heap.size, 0)], some ⟨w.heap.size + 2, 0, none⟩, 1, rfl, hown0, fun q hq => by rw [List.mem_singleton] at hq; subst hq; exact ⟨hP0, hbk, by show w.heap.size ≠ w.heap.size + 1; omega⟩, by simp, hF0, (X.wd_one (m, e, w.heap.size, 0)).symm, hcn, hB1, hbw1⟩
  case round =>
    clear hown0 hA1 hB1 hbw1 hP0 hF0
    obtain ⟨Q, ao, cap, rfl, hown, hok, hnd, hfo, hgk, hgb, hRes, hBw⟩ := hrel
    rcases List.eq_nil_or_concat Q with rfl | ⟨R, q, rfl⟩
    · obtain ⟨hk0, i0', i1', i2', s3, s6, s7, a4, a5, a8, a9, n4, n5, n8, n9, d4, d5, d8, d9, c0, c1, c2, c3, c4, c5, c6, c7, c8, c9⟩ := hfo
      rw [Nat.zero_add] at c1 c2 c3 c4 c5 c6 c7 c8 c9
      have z0 := cell_of_block hRes 0 _ rfl
      have f0 := free_of_block hRes 0
      have z1 := cell_of_block hRes 1 _ rfl
      have f1 := free_of_block hRes 1
      have z2 := cell_of_block hRes 2 _ rfl
      have f2 := free_of_block hRes 2
      have z3 := cell_of_block hRes 3 _ rfl
      have f3 := free_of_block hRes 3
      have z4 := cell_of_block hRes 4 _ rfl
      have f4 := free_of_block hRes 4
      have z5 := cell_of_block hRes 5 _ rfl
      have f5 := free_of_block hRes 5
      have z6 := cell_of_block hRes 6 _ rfl
      have f6 := free_of_block hRes 6
      have z7 := cell_of_block hRes 7 _ rfl
      have f7 := free_of_block hRes 7
      have z8 := cell_of_block hRes 8 _ rfl
      have f8 := free_of_block hRes 8
      have z9 := cell_of_block hRes 9 _ rfl
      have f9 := free_of_block hRes 9
      clear hown hok hgk hnd hk0
      go_wp2_with fail
      have hB2 := set10 hRes (.int .i64 i0') (.int .i64 i1') (.int .i64 i2') (.string s3) (.slice a4 n4 d4) (.slice a5 n5 d5) (.string s6) (.string s7) (.slice a8 n8 d8) (.slice a9 n9 d9)
      have hw2 := below10 hBw (Nat.le_succ w.heap.size) (.int .i64 i0') (.int .i64 i1') (.int .i64 i2') (.string s3) (.slice a4 n4 d4) (.slice a5 n5 d5) (.string s6) (.string s7) (.slice a8 n8 d8) (.slice a9 n9 d9)
      generalize ((((((((((wr.setCell ⟨w.heap.size + 1, 0, none⟩ (.int .i64 i0')).setCell ⟨w.heap.size + 1, 1, none⟩ (.int .i64 i1')).setCell ⟨w.heap.size + 1, 2, none⟩ (.int .i64 i2')).setCell ⟨w.heap.size + 1, 3, none⟩ (.string s3)).setCell ⟨w.heap.size + 1, 4, none⟩ (.slice a4 n4 d4)).setCell ⟨w.heap.size + 1, 5, none⟩ (.slice a5 n5 d5)).setCell ⟨w.heap.size + 1, 6, none⟩ (.string s6)).setCell ⟨w.heap.size + 1, 7, none⟩ (.string s7)).setCell ⟨w.heap.size + 1, 8, none⟩ (.slice a8 n8 d8)).setCell ⟨w.heap.size + 1, 9, none⟩ (.slice a9 n9 d9)) = w5 at *
      have r0 := cell_of_block hB2 0 _ rfl
      have r1 := cell_of_block hB2 1 _ rfl
      have r2 := cell_of_block hB2 2 _ rfl
      have r3 := cell_of_block hB2 3 _ rfl
      have r4 := cell_of_block hB2 4 _ rfl
      have r5 := cell_of_block hB2 5 _ rfl
      have r6 := cell_of_block hB2 6 _ rfl
      have r7 := cell_of_block hB2 7 _ rfl
      have r8 := cell_of_block hB2 8 _ rfl
      have r9 := cell_of_block hB2 9 _ rfl
      exact bodyPost_ret (v := .agg #[.int .i64 i0', .int .i64 i1', .int .i64 i2', .string s3, .slice a4 n4 d4, .slice a5 n5 d5, .string s6, .string s7, .slice a8 n8 d8, .slice a9 n9 d9]) (by simp [results, Try.results69, go_sem, r0, r1, r2, r3, r4, r5, r6, r7, r8, r9]) rfl ⟨⟨_, _, _, _, _, _, _, _, _, _, _, _, _, _, _, _, _, _, rfl⟩, hw2⟩
    · rw [List.concat_eq_append] at *
      obtain ⟨mq, x, b, o⟩ := q
      obtain ⟨hpq, hbq, hneq⟩ := hok (mq, x, b, o) (by simp)
      have hwq : X.wd (R ++ [(mq, x, b, o)]) = X.wd R + X.cnt mq x := by rw [X.wd_append, X.wd_one]
      obtain ⟨cs, hmem, hcell⟩ := hpq.mem
      cases mq with
      | zero => exact hmem.elim
      | succ mq =>
      have hmod : o % 10 = 0 := hpq.mod
      have hE : w.heap.size ≤ b := hpq.le
      have hkd : V.Kind wr b 109 := hpq.blk
      obtain ⟨c0', c1', c2', c3', c4', av', nv', rfl, hv, ha, hn⟩ := id hmem
      obtain ⟨xal, xcl, xaf, xcf, xaa, xca, xan, xcn, e0, e1, e2, e3, e4, e5, e6, e7, e8, e9⟩ := X.Mem.form hmem
      subst e1 e2 e3 e4 e5 e8 e9
      clear e0 e6 e7
      have hcn1 : X.cnt (mq + 1) x = 1 + X.sumA (X.cnt mq) x.a := by rw [X.cnt]
      have hbx : X.bulk (mq + 1) x ≤ 2000000 := hbq
      have hbx2 := id hbx
      rw [X.bulk] at hbx2
      have hal : x.a.length ≤ 2000000 := by omega
      have hnl : x.n.length ≤ 2000000 := by omega
      have hvb : V.bulk (mq + 1) x.v ≤ 2000000 := by omega
      have k0 : wr.cell? ⟨b, o, none⟩ = some (.int .i64 x.kind) := hcell 0 (by omega)
      have k1 : wr.cell? ⟨b, o + 1, none⟩ = some (.int .i64 x.v.kind) := hcell 1 (by omega)
      have k2 : wr.cell? ⟨b, o + 2, none⟩ = some (.int .i64 x.v.n) := hcell 2 (by omega)
      have k3 : wr.cell? ⟨b, o + 3, none⟩ = some (.string x.v.s) := hcell 3 (by omega)
      have k4 : wr.cell? ⟨b, o + 4, none⟩ = some (.slice xal x.v.l.length xcl) := hcell 4 (by omega)
      have k5 : wr.cell? ⟨b, o + 5, none⟩ = some (.slice xaf x.v.f.length xcf) := hcell 5 (by omega)
      have k6 : wr.cell? ⟨b, o + 6, none⟩ = some (.string x.s) := hcell 6 (by omega)
      have k7 : wr.cell? ⟨b, o + 7, none⟩ = some (.string x.t) := hcell 7 (by omega)
      have k8 : wr.cell? ⟨b, o + 8, none⟩ = some (.slice xaa x.a.length xca) := hcell 8 (by omega)
      have k9 : wr.cell? ⟨b, o + 9, none⟩ = some (.slice xan x.n.length xcn) := hcell 9 (by omega)
      have hRlen : R.length ≤ X.wd R := X.len_wd R (fun q hq => (hok q (by simp [hq])).1)
      rw [List.length_append, List.length_singleton] at hown ⊢
      obtain ⟨g, cap', hv', hcap⟩ : ∃ g cap', (Value.slice ao (R.length + 1) cap) = .slice (some ⟨g, 0, none⟩) (R.length + 1) cap' ∧ R.length + 1 ≤ cap' := by
        rcases hown.2 with ⟨h, h0⟩ | ⟨g, c, cur, h, _, _, hc, _⟩
        · omega
        · exact ⟨g, c, h, hc⟩
      simp only [Value.slice.injEq] at hv'
      obtain ⟨rfl, _, rfl⟩ := hv'
      have y0 := hown.cellAt R.length (by omega)
      rw [List.map_append, List.getElem?_append_right (by simp), List.length_map, Nat.sub_self] at y0
      replace y0 : wr.cell? ⟨g, R.length, none⟩ = some (.pointer (some ⟨b, o, none⟩)) := y0
      have hownR : wr.ownsRow (w.heap.size + 2) 158 1 (.slice (some ⟨g, 0, none⟩) R.length cap) R.length (R.map X.ptr) := by
        rw [List.map_append] at hown
        exact ownsRow_pop (by simp) hown
      have hRl : R.length ≤ 2000000 := by omega
      have hwR : X.wd R + X.sumA (X.cnt mq) x.a ≤ 2000000 := by omega
      have HSA : Hid (X.sumA (X.bulk mq) x.a ≤ 2000000) := by show _ ≤ _; omega
      have hcp := copy_any mq wr x.v _ _ _ _ _ (V.Mem.kept _ hv hBw) hvb
      have hndR : (R.map X.at_).Nodup ∧ (b, o) ∉ R.map X.at_ := by
        rw [List.map_append, List.nodup_append] at hnd
        exact ⟨hnd.1, fun h => hnd.2.2 _ h (b, o) (by simp [X.at_]) rfl⟩
      have HCP := hide hcp
      have HOWN := hide hownR
      have HOK := hide (fun q (hq : q ∈ R) => hok q (by simp [hq]))
      have HFO := hide hfo
      have HND := hide hndR
      have HRES := hide hRes
      have HA := hide ha
      have HNN := hide hn
      have HKD := hide hkd
      have HGK := hide hgk
      have HBW := hide hBw
      have HWQ := hide hwq
      have HCN := hide hcn1
      clear hcp hownR hown hok hfo hndR hnd hRes ha hn hv hkd hgk hBw hwq hpq hmem hcell hcn1 hbx hbx2 hbq
      go_wp2_with fail
      refine HCP.out.mono ?_
      rintro o2 w2 ⟨⟨e0, e1, e2, e3, e4, rfl, hm2⟩, hb2⟩
      obtain ⟨bl, dl, bf, df, rfl, rfl, rfl, rfl, rfl⟩ := X.vform hm2
      have HB2 := hide hb2
      clear hm2 HCP
      obtain ⟨t5, kd5, p1, p2, p3, p4, p5, p6⟩ := X.step5 HKD.out hb2 (.int .i64 x.v.kind) (.int .i64 x.v.n) (.string x.v.s) (.slice bl x.v.l.length dl) (.slice bf x.v.f.length df) k1 k2 k3 k4 k5 _ rfl
      have hBw5 : Below w.heap.size w (((((w2.setCell ⟨b, o + 1, none⟩ (.int .i64 x.v.kind)).setCell ⟨b, o + 2, none⟩ (.int .i64 x.v.n)).setCell ⟨b, o + 3, none⟩ (.string x.v.s)).setCell ⟨b, o + 4, none⟩ (.slice bl x.v.l.length dl)).setCell ⟨b, o + 5, none⟩ (.slice bf x.v.f.length df)) := HBW.out.trans (t5.fr.below HBW.out.size (fun c e => by omega))
      have hs5 : V.Source (((((w2.setCell ⟨b, o + 1, none⟩ (.int .i64 x.v.kind)).setCell ⟨b, o + 2, none⟩ (.int .i64 x.v.n)).setCell ⟨b, o + 3, none⟩ (.string x.v.s)).setCell ⟨b, o + 4, none⟩ (.slice bl x.v.l.length dl)).setCell ⟨b, o + 5, none⟩ (.slice bf x.v.f.length df)) 10 xaa x.a.length := X.srcA hBw5 HA.out
      have m8 := p6 8 _ (by omega) k8
      have m9 := p6 9 _ (by omega) k9
      have m0 := p6 0 _ (by omega) k0
      have m6 := p6 6 _ (by omega) k6
      have m7 := p6 7 _ (by omega) k7
      have q1 := kept_cell hb2 k1
      have q2 := kept_cell hb2 k2
      have q3 := kept_cell hb2 k3
      have q4 := kept_cell hb2 k4
      have q5 := kept_cell hb2 k5
      have q8 := kept_cell hb2 k8
      have q9 := kept_cell hb2 k9
      have kd2 : V.Kind w2 b 109 := by obtain ⟨cs, hc⟩ := HKD.out; exact ⟨cs, (hb2.block b (Array.getElem?_eq_some_iff.1 hc).1).trans hc⟩
      have g1 := X.free_kind kd2 (o + 1)
      have g2 := X.free_kind kd2 (o + 2)
      have g3 := X.free_kind kd2 (o + 3)
      have g4 := X.free_kind kd2 (o + 4)
      have g5 := X.free_kind kd2 (o + 5)
      have HP := hide (And.intro t5 (And.intro kd5 (And.intro p1 (And.intro p2 (And.intro p3 (And.intro p4 (And.intro p5 (And.intro m0 (And.intro m6 (And.intro m7 (And.intro m8 (And.intro m9 hBw5))))))))))))
      have HS5 := hide hs5
      clear t5 kd5 p1 p2 p3 p4 p5 p6 m0 m6 m7 m8 m9 hBw5 hs5 kd2 hb2
      go_upto_region 6 with (fail)
      generalize (((((w2.setCell ⟨b, o + 1, none⟩ (.int .i64 x.v.kind)).setCell ⟨b, o + 2, none⟩ (.int .i64 x.v.n)).setCell ⟨b, o + 3, none⟩ (.string x.v.s)).setCell ⟨b, o + 4, none⟩ (.slice bl x.v.l.length dl)).setCell ⟨b, o + 5, none⟩ (.slice bf x.v.f.length df)) = w5 at *
      clear q1 q2 q3 q4 q5 q8 q9 g1 g2 g3 g4 g5
      have q8 := HP.out.2.2.2.2.2.2.2.2.2.2.1
      have q9 := HP.out.2.2.2.2.2.2.2.2.2.2.2.1
      go_wp2_with (first
        | (at_builtin; (refine V.wpList_copy _ rfl (.tmp 33) 106 rfl 109 i1 (.agg #[.int .i64 0, .int .i64 0, .int .i64 0, .string ⟨#[]⟩, .slice none 0 0, .slice none 0 0, .string ⟨#[]⟩, .string ⟨#[]⟩, .slice none 0 0, .slice none 0 0]) 10 168 Try.underlying106 hi1 hy0 hy1 hy2 rfl (by decide) xaa x.a.length xca rfl HS5.out (by unfold maxLen; omega) (by omega) ?_); intro ao1 cap1 w3 hC; have j8 := kept_cell hC.1 HP.out.2.2.2.2.2.2.2.2.2.2.1; have j9 := kept_cell hC.1 HP.out.2.2.2.2.2.2.2.2.2.2.2.1; obtain ⟨t6, kd6, l8, l6⟩ := X.step1 (i := 8) (by omega) HP.out.2.1 hC.1 (.slice ao1 x.a.length cap1) HP.out.2.2.2.2.2.2.2.2.2.2.1 _ rfl; have hBw6 := HP.out.2.2.2.2.2.2.2.2.2.2.2.2.trans (t6.fr.below HP.out.2.2.2.2.2.2.2.2.2.2.2.2.size (fun c e => e ▸ hE)); have hs6 := X.srcN hBw6 HNN.out; have kd3 : V.Kind w3 b 109 := (X.Turn.of_below (o := o) hC.1).kind HP.out.2.1; have g8 := X.free_kind kd3 (o + 8); have HT6 := hide (And.intro t6 (And.intro kd6 (And.intro l8 (And.intro l6 (And.intro hBw6 (And.intro hC kd3)))))); have HS6 := hide hs6; clear t6 kd6 l8 l6 hBw6 hs6 hC kd3)
        | (at_builtin; go_must (refine V.wpList_copy _ rfl (.tmp 41) 107 rfl 9 i2 (.string ⟨#[]⟩) 1 16 Try.underlying107 hi2 hx0 hx1 hx2 rfl (by decide) xan x.n.length xcn rfl HS6.out (by unfold maxLen; omega) (by omega) ?_); intro ao2 cap2 w4 hC2; have h9 := HT6.out.2.2.2.1 9 _ (by omega) HP.out.2.2.2.2.2.2.2.2.2.2.2.1; have i9 := kept_cell hC2.1 h9; have i8 := kept_cell hC2.1 HT6.out.2.2.1; obtain ⟨t7, kd7, l9, l7⟩ := X.step1 (i := 9) (by omega) HT6.out.2.1 hC2.1 (.slice ao2 x.n.length cap2) h9 _ rfl; have kd4 : V.Kind w4 b 109 := (X.Turn.of_below (o := o) hC2.1).kind HT6.out.2.1; have g9 := X.free_kind kd4 (o + 9); have HT7 := hide (And.intro t7 (And.intro kd7 (And.intro l9 (And.intro l7 hC2)))); clear t7 kd7 l9 l7 hC2 kd4))
      have hT : X.Turn wr (w4.setCell ⟨b, o + 9, none⟩ (.slice ao2 x.n.length cap2)) b o := (HP.out.1.trans HT6.out.1).trans HT7.out.1
      have hT3 : X.Turn w3 (w4.setCell ⟨b, o + 9, none⟩ (.slice ao2 x.n.length cap2)) b o := (X.Turn.set (by omega) _).trans HT7.out.1
      have hblt : b < wr.heap.size := by obtain ⟨cs, hc⟩ := HKD.out; exact (Array.getElem?_eq_some_iff.1 hc).1
      have h5s : wr.heap.size ≤ w5.heap.size := HP.out.1.fr.size
      have hrs : w.heap.size + 1 < wr.heap.size := (Array.getElem?_eq_some_iff.1 HRES.out).1
      have hform7 : X.Form (w4.setCell ⟨b, o + 9, none⟩ (.slice ao2 x.n.length cap2)) b o :=
        ⟨HT7.out.2.1, _, _, _, _, _, _, _, _, _, _, _, _, _, _, _, _, _, _, HT7.out.2.2.2.1 0 _ (by omega) (HT6.out.2.2.2.1 0 _ (by omega) HP.out.2.2.2.2.2.2.2.1), HT7.out.2.2.2.1 1 _ (by omega) (HT6.out.2.2.2.1 1 _ (by omega) HP.out.2.2.1), HT7.out.2.2.2.1 2 _ (by omega) (HT6.out.2.2.2.1 2 _ (by omega) HP.out.2.2.2.1), HT7.out.2.2.2.1 3 _ (by omega) (HT6.out.2.2.2.1 3 _ (by omega) HP.out.2.2.2.2.1), HT7.out.2.2.2.1 4 _ (by omega) (HT6.out.2.2.2.1 4 _ (by omega) HP.out.2.2.2.2.2.1), HT7.out.2.2.2.1 5 _ (by omega) (HT6.out.2.2.2.1 5 _ (by omega) HP.out.2.2.2.2.2.2.1), HT7.out.2.2.2.1 6 _ (by omega) (HT6.out.2.2.2.1 6 _ (by omega) HP.out.2.2.2.2.2.2.2.2.1), HT7.out.2.2.2.1 7 _ (by omega) (HT6.out.2.2.2.1 7 _ (by omega) HP.out.2.2.2.2.2.2.2.2.2.1), HT7.out.2.2.2.1 8 _ (by omega) HT6.out.2.2.1, HT7.out.2.2.1⟩
      have hroot : X.Form (w4.setCell ⟨b, o + 9, none⟩ (.slice ao2 x.n.length cap2)) w.heap.size 0 := by
        by_cases he : (w.heap.size, 0) = (b, o)
        · simp only [Prod.mk.injEq] at he
          obtain ⟨e1, e2⟩ := he
          rw [e1, e2]; exact hform7
        · exact HFO.out.turn hT HKD.out hmod rfl he
      have hothers : ∀ q ∈ R, X.Pend w (w4.setCell ⟨b, o + 9, none⟩ (.slice ao2 x.n.length cap2)) w.heap.size q ∧ X.bulk q.1 q.2.1 ≤ 2000000 ∧ q.2.2.1 ≠ w.heap.size + 1 := fun q hq => ⟨(HOK.out q hq).1.turn hT HKD.out hmod (fun e => HND.out.2 (e ▸ List.mem_map_of_mem hq)), (HOK.out q hq).2⟩
      have hch : ∀ (i : Nat) (y : Ex), x.a[i]? = some y → ∃ g', ao1 = some ⟨g', 0, none⟩ ∧ X.Pend w (w4.setCell ⟨b, o + 9, none⟩ (.slice ao2 x.n.length cap2)) w.heap.size (mq, y, g', i * 10) ∧ g' ≠ w.heap.size + 1 ∧ (g', i * 10) ∉ R.map X.at_ := by
        intro i y hy
        obtain ⟨g', e, hg, hp⟩ := X.pendA (E := w.heap.size) HP.out.2.2.2.2.2.2.2.2.2.2.2.2 HA.out HT6.out.2.2.2.2.2.1 HP.out.2.2.2.2.2.2.2.2.2.2.2.2.size i y hy
        refine ⟨g', e, hp.turn hT3 HT6.out.2.2.2.2.2.2 hmod (fun e => ?_), by omega, fun hm => ?_⟩
        · simp only [X.at_, Prod.mk.injEq] at e; omega
        · obtain ⟨q, hq, e2⟩ := List.mem_map.1 hm
          obtain ⟨cs, hc⟩ := (HOK.out q hq).1.blk
          have h1 := (Array.getElem?_eq_some_iff.1 hc).1
          simp only [X.at_, Prod.mk.injEq] at e2
          omega
      have hres7 : (w4.setCell ⟨b, o + 9, none⟩ (.slice ao2 x.n.length cap2)).heap[w.heap.size + 1]? = some (.cells #[.int .i64 0, .int .i64 0, .int .i64 0, .string ⟨#[]⟩, .slice none 0 0, .slice none 0 0, .string ⟨#[]⟩, .string ⟨#[]⟩, .slice none 0 0, .slice none 0 0] 109 (0, 0)) := (hT.fr.block _ hrs (fun e => hneq e.symm)).trans HRES.out
      have hBw7 : Below w.heap.size w (w4.setCell ⟨b, o + 9, none⟩ (.slice ao2 x.n.length cap2)) := HBW.out.trans (hT.fr.below HBW.out.size (fun c e => e ▸ hE))
      have hown7 : (w4.setCell ⟨b, o + 9, none⟩ (.slice ao2 x.n.length cap2)).ownsRow (w.heap.size + 2) 158 1 (.slice (some ⟨g, 0, none⟩) R.length cap) R.length (R.map X.ptr) := by
        refine X.ownsT_frame HOWN.out hT.fr (fun c hc e => ?_)
        obtain ⟨cs, hcs⟩ := HKD.out
        exact X.ownsT_type HOWN.out hcs (by decide) (by rw [hc, e])
      have i8w : (w4.setCell ⟨b, o + 9, none⟩ (.slice ao2 x.n.length cap2)).cell? ⟨b, o + 8, none⟩ = some (.slice ao1 x.a.length cap1) := HT7.out.2.2.2.1 8 _ (by omega) HT6.out.2.2.1
      have hkb7 : V.Kind (w4.setCell ⟨b, o + 9, none⟩ (.slice ao2 x.n.length cap2)) b 109 := HT7.out.2.1
      have hnd7 : (R.map X.at_).Nodup := HND.out.1
      have hsumb : ∀ (i : Nat) (y : Ex), x.a[i]? = some y → X.bulk mq y ≤ 2000000 := fun i y hy => Nat.le_trans (X.sum_le (X.bulk mq) x.a y (List.mem_of_getElem? hy)) HSA.out
      have HSUMB := hide hsumb
      clear hT hT3 hform7 HP HT6 HT7 HS5 HS6 q8 q9 j8 j9 g8 h9 i9 i8 g9 k0 k1 k2 k3 k4 k5 k6 k7 k8 k9 y0 HOK HFO HND HRES HA HNN HKD HBW HOWN HB2 hsumb
      generalize (w4.setCell ⟨b, o + 9, none⟩ (.slice ao2 x.n.length cap2)) = wF at *
      go_loopw [3, 5, 50] (fun vt _ vi wx => ∃ (k : Nat) (ao : Option Addr) (cap : Nat) (Q : List X.ND), k ≤ x.a.length ∧ vi = .int .i64 k ∧ vt = .slice ao Q.length cap ∧ wx.ownsRow (w.heap.size + 2) 158 1 (.slice ao Q.length cap) Q.length (Q.map X.ptr) ∧ (∀ q ∈ Q, X.Pend w wx w.heap.size q ∧ X.bulk q.1 q.2.1 ≤ 2000000 ∧ q.2.2.1 ≠ w.heap.size + 1) ∧ (Q.map X.at_).Nodup ∧ X.Form wx w.heap.size 0 ∧ X.wd Q = X.wd R + X.sumA (X.cnt mq) (x.a.take k) ∧ wx.heap[w.heap.size + 1]? = some (.cells #[.int .i64 0, .int .i64 0, .int .i64 0, .string ⟨#[]⟩, .slice none 0 0, .slice none 0 0, .string ⟨#[]⟩, .string ⟨#[]⟩, .slice none 0 0, .slice none 0 0] 109 (0, 0)) ∧ Below w.heap.size w wx ∧ wx.cell? ⟨b, o + 8, none⟩ = some (.slice ao1 x.a.length cap1) ∧ V.Kind wx b 109 ∧ (∀ (i : Nat) (y : Ex), k ≤ i → x.a[i]? = some y → ∃ g', ao1 = some ⟨g', 0, none⟩ ∧ X.Pend w wx w.heap.size (mq, y, g', i * 10) ∧ g' ≠ w.heap.size + 1 ∧ (g', i * 10) ∉ Q.map X.at_)) (fun _ _ vi _ => x.a.length - (intOf vi).toNat)
      case atStart => exact ⟨0, some ⟨g, 0, none⟩, cap, R, Nat.zero_le _, rfl, rfl, hown7, hothers, hnd7, hroot, by simp [X.sumA], hres7, hBw7, i8w, hkb7, fun i y _ hy => hch i y hy⟩
      case round =>
        clear hown7 hothers hnd7 hroot hres7 hBw7 i8w hkb7 hch
        obtain ⟨wx, hwx⟩ : ∃ z, z = wr := ⟨_, rfl⟩
        subst hwx
        obtain ⟨k, ao, cap2, Q, hk, rfl, rfl, hown, hok, hnd, hfo, hwt, hRes, hBw, k8, hkb, hrest⟩ := hrel
        have hsl := X.sumA_le (X.cnt mq) x.a k
        have hQl : Q.length ≤ 2000000 := by have := X.len_wd Q (fun q hq => (hok q hq).1); omega
        have hxs : w.heap.size + 2 ≤ wx.heap.size := (Array.getElem?_eq_some_iff.1 hRes).1
        by_cases hlt : k < x.a.length
        · obtain ⟨y, hy⟩ : ∃ y, x.a[k]? = some y := ⟨_, List.getElem?_eq_getElem hlt⟩
          obtain ⟨g', e1, hp, hne1, hnot⟩ := hrest k y (Nat.le_refl _) hy
          subst e1
          have hwt2 : X.wd (Q ++ [(mq, y, g', k * 10)]) = X.wd R + X.sumA (X.cnt mq) (x.a.take (k + 1)) := by
            rw [X.wd_append, X.wd_one, X.sumA_take _ _ _ _ hy, hwt]; show _ + X.cnt mq y = _; omega
          have HOW := hide hown
          have HOK2 := hide hok
          have HND2 := hide hnd
          have HFO2 := hide hfo
          have HWT2 := hide hwt2
          have HRES2 := hide hRes
          have HBW2 := hide hBw
          have HKB := hide hkb
          have HREST := hide hrest
          have HPN := hide hp
          have HNOT := hide hnot
          have HBY := hide (HSUMB.out k y hy)
          have HK8 := hide k8
          clear hown hok hnd hfo hwt hwt2 hRes hBw hkb hrest hp hnot hy hsl
          go_wp2_with (at_builtin; go_must (refine wpList_append_lies _ rfl (.tmp 53) (.tmp 60) 159 rfl (w.heap.size + 2) 158 i0 (.pointer none) 1 8 Try.underlying159 hi hz0 hz1 hz2 rfl (by decide) (.slice ao Q.length cap2) Q.length (Q.map X.ptr) rfl (HOW.out.alloc _) ⟨wx.heap.size, 0, none⟩ 1 1 [.pointer (some ⟨g', k * 10, none⟩)] rfl rfl (news_alloc _ #[.pointer (some ⟨g', k * 10, none⟩)] _ _ rfl) (by simp [Value.oneCell']) (by decide) (by unfold maxLen; omega) (by omega) (by simp; omega) _ rfl ?_); intro g4 cap4 w4 hown4 hgrow hat hlt4)
          have hg2 : wx.grownBy w4 (Value.slice ao Q.length cap2).ownBlock := grown_trans (World.grownBy_alloc wx _ _) hgrow
          have hr2 : ∀ c, (Value.slice ao Q.length cap2).ownBlock = some c → V.Kind wx c 158 := fun c e => (X.own158 HOW.out c e).1
          have HG2 := hide hg2
          have HR2 := hide hr2
          clear hg2 hr2 hgrow hat
          go_roundw
          case rel =>
            refine ⟨k + 1, some ⟨g4, 0, none⟩, cap4, Q ++ [(mq, y, g', k * 10)], by omega, by go_num, by simp, ?_, ?_, X.pushed HND2.out HNOT.out, HFO2.out.grown HG2.out HR2.out, HWT2.out, X.kind_grown HG2.out HR2.out HRES2.out, ?_, ?_, ?_, ?_⟩
            · rw [List.map_append, List.length_append]; exact hown4
            · intro q hq
              rcases List.mem_append.1 hq with hq | hq
              · exact ⟨(HOK2.out q hq).1.grown HG2.out HR2.out, (HOK2.out q hq).2⟩
              · rw [List.mem_singleton] at hq; subst hq
                exact ⟨HPN.out.grown HG2.out HR2.out, HBY.out, hne1⟩
            · exact HBW2.out.grown HG2.out (Nat.le_trans HBW2.out.size (Nat.le_refl _)) (fun c e => by have := (X.own158 HOW.out c e).2; omega)
            · obtain ⟨cs, hcs⟩ := HKB.out
              have h1 := X.kind_grown HG2.out HR2.out hcs
              have h2 := HK8.out
              rw [cell_of_row _ _ _ _ _ _ hcs] at h2
              rw [cell_of_row _ _ _ _ _ _ h1]; exact h2
            · obtain ⟨cs, hcs⟩ := HKB.out
              exact ⟨cs, X.kind_grown HG2.out HR2.out hcs⟩
            · intro i z hi2 hz
              obtain ⟨g2, e2, hp2, hn2, hno2⟩ := HREST.out i z (by omega) hz
              refine ⟨g2, e2, hp2.grown HG2.out HR2.out, hn2, fun hm => ?_⟩
              rw [List.map_append] at hm
              rcases List.mem_append.1 hm with hm | hm
              · exact hno2 hm
              · simp [X.at_] at hm; omega
          case measure => simp [intOf]; omega
        · have hkk : k = x.a.length := by omega
          have hwt2 : X.wd Q = X.wd R + X.sumA (X.cnt mq) x.a := by rw [hwt, hkk, List.take_length]
          have hgk2 := HGK.out
          have hwq2 := HWQ.out
          have hcn2 := HCN.out
          have hlt9 : X.wd Q < gk := by omega
          have hle9 : X.wd Q ≤ 2000000 := by omega
          clear hwt hkk hgk2 hwq2 hcn2 hwt2
          go_wp2_with fail
          go_roundg (X.wd Q)
          case measure => exact hlt9
          case rel => exact ⟨Q, ao, cap2, rfl, hown, hok, hnd, hfo, rfl, hle9, hRes, hBw⟩
end Go.Proofs.Ytienhelohfhhfaa.Vx
