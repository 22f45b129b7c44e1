/- ValueSays, the law's own walk: what its parts need. -/
import Derived.Test.YtpoebpknjjfddaaDoorWL
namespace Go.Proofs.YtpoebpknjjfddaaDoor
open Go.RowKit
namespace V
/-- Five cells in a row, from the beginning of a block. -/
def Five (w : World) (g : Nat) (c0 c1 c2 c3 c4 : Value) : Prop :=
  w.cell? ⟨g, 0, none⟩ = some c0 ∧ w.cell? ⟨g, 1, none⟩ = some c1 ∧ w.cell? ⟨g, 2, none⟩ = some c2 ∧ w.cell? ⟨g, 3, none⟩ = some c3 ∧ w.cell? ⟨g, 4, none⟩ = some c4
theorem five_of {w : World} {g : Nat} {c0 c1 c2 c3 c4 : Value} (h : w.heap[g]? = some (.cells #[c0, c1, c2, c3, c4] 34 (0, 0))) : Five w g c0 c1 c2 c3 c4 :=
  ⟨cell_of_block h 0 _ rfl, cell_of_block h 1 _ rfl, cell_of_block h 2 _ rfl, cell_of_block h 3 _ rfl, cell_of_block h 4 _ rfl⟩
theorem Five.kept {w w' : World} {g : Nat} {c0 c1 c2 c3 c4 : Value} (h : Five w g c0 c1 c2 c3 c4) (hb : Below w.heap.size w w') : Five w' g c0 c1 c2 c3 c4 := by
  obtain ⟨h0, h1, h2, h3, h4⟩ := h
  exact ⟨kept_cell hb h0, kept_cell hb h1, kept_cell hb h2, kept_cell hb h3, kept_cell hb h4⟩
theorem five_new (w : World) (c0 c1 c2 c3 c4 : Value) : Five (w.alloc (.cells #[c0, c1, c2, c3, c4] 34)) w.heap.size c0 c1 c2 c3 c4 := five_of (heap_alloc_new _ _)
theorem fields_kept {w w' : World} {fv : Value} {m n : Nat} {l : List (ByteArray × Val)} (hf : Row w fv n 6 (fun i c => ∃ x c', l[i]? = some x ∧ c = .string x.1 :: c' ∧ Mem m w x.2 c')) (hb : Below w.heap.size w w') :
    Row w' fv n 6 (fun i c => ∃ x c', l[i]? = some x ∧ c = .string x.1 :: c' ∧ Mem m w' x.2 c') :=
  hf.kept hb (fun _ _ ⟨x, c', h1, h2, h3⟩ => ⟨x, c', h1, h2, Mem.kept m h3 hb⟩)
/-- What the law has of its arguments, in any world behind the two boxes. -/
def Has (m : Nat) (w : World) (G : Nat) (v o : Val) (c0 c1 c2 c3 c4 d0 d1 d2 d3 d4 fv : Value) (l : List (ByteArray × Val)) : Prop :=
  Five w G c0 c1 c2 c3 c4 ∧ Five w (G + 1) d0 d1 d2 d3 d4 ∧ Mem (m + 1) w v [c0, c1, c2, c3, c4] ∧ Mem (m + 1) w o [d0, d1, d2, d3, d4] ∧
    Row w fv l.length 6 (fun i c => ∃ x c', l[i]? = some x ∧ c = .string x.1 :: c' ∧ Mem m w x.2 c') ∧ Lib.TabIs Tryd.prog w "internal/strconv.uint64pow10" .u64 Lib.pow10Tab
theorem Has.kept {m : Nat} {w w' : World} {G : Nat} {v o : Val} {c0 c1 c2 c3 c4 d0 d1 d2 d3 d4 fv : Value} {l : List (ByteArray × Val)} (h : Has m w G v o c0 c1 c2 c3 c4 d0 d1 d2 d3 d4 fv l) (hb : Below w.heap.size w w') : Has m w' G v o c0 c1 c2 c3 c4 d0 d1 d2 d3 d4 fv l := by
  obtain ⟨h1, h2, h3, h4, h5, h6⟩ := h
  exact ⟨h1.kept hb, h2.kept hb, Mem.kept _ h3 hb, Mem.kept _ h4 hb, fields_kept h5 hb, tab_below h6 hb⟩
theorem has_start {m : Nat} {W : World} {v o : Val} {c0 c1 c2 c3 c4 d0 d1 d2 d3 d4 fv : Value} {l : List (ByteArray × Val)} (hv : Mem (m + 1) W v [c0, c1, c2, c3, c4]) (ho : Mem (m + 1) W o [d0, d1, d2, d3, d4])
    (hf : Row W fv l.length 6 (fun i c => ∃ x c', l[i]? = some x ∧ c = .string x.1 :: c' ∧ Mem m W x.2 c')) (ht : Lib.TabIs Tryd.prog W "internal/strconv.uint64pow10" .u64 Lib.pow10Tab) :
    Has m ((W.alloc (.cells #[c0, c1, c2, c3, c4] 34)).alloc (.cells #[d0, d1, d2, d3, d4] 34)) W.heap.size v o c0 c1 c2 c3 c4 d0 d1 d2 d3 d4 fv l ∧ Below W.heap.size W ((W.alloc (.cells #[c0, c1, c2, c3, c4] 34)).alloc (.cells #[d0, d1, d2, d3, d4] 34)) := by
  have h1 : Below W.heap.size W (W.alloc (.cells #[c0, c1, c2, c3, c4] 34)) := (Below.refl _ _).alloc (Nat.le_refl _) _
  have h2 : Below (W.alloc (.cells #[c0, c1, c2, c3, c4] 34)).heap.size (W.alloc (.cells #[c0, c1, c2, c3, c4] 34)) ((W.alloc (.cells #[c0, c1, c2, c3, c4] 34)).alloc (.cells #[d0, d1, d2, d3, d4] 34)) := (Below.refl _ _).alloc (Nat.le_refl _) _
  have hb := h1.trans (h2.mono h1.size)
  have hs : (W.alloc (.cells #[c0, c1, c2, c3, c4] 34)).heap.size = W.heap.size + 1 := by simp
  have f2 := five_new (W.alloc (.cells #[c0, c1, c2, c3, c4] 34)) d0 d1 d2 d3 d4
  rw [hs] at f2
  exact ⟨⟨(five_new W c0 c1 c2 c3 c4).kept h2, f2, Mem.kept _ hv hb, Mem.kept _ ho hb, fields_kept hf hb, tab_below ht hb⟩, hb⟩
theorem Mem.form5 {m : Nat} {w : World} {v : Val} {e0 e1 e2 e3 e4 : Value} (h : Mem (m + 1) w v [e0, e1, e2, e3, e4]) :
    ∃ al cl af cf, e0 = .int .i64 v.kind ∧ e1 = .int .i64 v.n ∧ e2 = .string v.s ∧ e3 = .slice al v.l.length cl ∧ e4 = .slice af v.f.length cf := by
  obtain ⟨lv, fv, e, hl, hf⟩ := h
  simp only [List.cons.injEq, and_true] at e
  obtain ⟨rfl, rfl, rfl, rfl, rfl⟩ := e
  obtain ⟨al, cl, rfl⟩ := hl.shape
  obtain ⟨af, cf, rfl⟩ := hf.shape
  exact ⟨al, cl, af, cf, rfl, rfl, rfl, rfl, rfl⟩
theorem step {W w w' : World} (h : Below W.heap.size W w) (hb : Below w.heap.size w w') : Below W.heap.size W w' := h.trans (hb.mono h.size)
theorem sumF_perm (g : ByteArray × Val → Nat) {a b : List (ByteArray × Val)} (h : a.Perm b) : sumF g a = sumF g b := by
  unfold sumF; exact (h.map g).sum_nat
theorem bulk_rec (m : Nat) (l : List (ByteArray × Val)) (h : sumF (fun x => x.1.size + bulk m x.2) l + l.length ≤ 1100000) : bulk (m + 1) (recOf l) ≤ 2000000 := by
  have h1 := sumF_perm (fun x => x.1.size + bulk m x.2) (pick_perm l)
  have h2 : (recOf l).f = pickF l (ord l) := rfl
  rw [bulk, h2, h1, pick_len, show (recOf l).s.size = 0 from rfl, show (recOf l).l = [] from rfl]
  simp only [List.length_nil, sumL, List.map_nil, List.sum_nil]
  omega
theorem bulk_got {m : Nat} {w : World} {v : Val} {cs : List Value} (s : ByteArray) (h : Mem (m + 1) w v cs) (hb : bulk (m + 1) v ≤ 2000000) : bulk (m + 1) (found v.f s) ≤ 2000000 := by
  obtain ⟨lv, fv, _, _, hf⟩ := h
  unfold found find
  cases hx : v.f.find? (fun x => x.1.toList == s.toList) with
  | none => show bulk (m + 1) zero ≤ _; rw [bulk]; exact Nat.le_of_ble_eq_true rfl
  | some x =>
    have hmem := List.mem_of_find?_eq_some hx
    obtain ⟨i, hi⟩ := List.mem_iff_getElem?.1 hmem
    obtain ⟨c, y, c', hy, _, hm⟩ := hf.all i (V.lt_of_get hi)
    rw [hi] at hy
    cases hy
    have hs := sumF_mem (fun x => x.1.size + bulk m x.2) v.f x hmem
    show bulk (m + 1) x.2 ≤ _
    rw [bulk_up m hm]
    rw [bulk] at hb
    omega
/-- A list of fields that was copied is the same list. -/
theorem copied_fields {w w2 : World} {m cl cap1 : Nat} {l : List (ByteArray × Val)} {al ao1 : Option Addr} (hf : Row w (.slice al l.length cl) l.length 6 (fun i c => ∃ x c', l[i]? = some x ∧ c = .string x.1 :: c' ∧ Mem m w x.2 c')) (hC : Copied w w2 37 6 al l.length ao1) :
    Row w2 (.slice ao1 l.length cap1) l.length 6 (fun i c => ∃ x c', l[i]? = some x ∧ c = .string x.1 :: c' ∧ Mem m w2 x.2 c') := by
  obtain ⟨hb, h0 | ⟨h, p, off, rfl, rfl, _, _, hc⟩⟩ := hC
  · exact ⟨ao1, cap1, rfl, .inl h0⟩
  · rcases Nat.eq_zero_or_pos l.length with h0 | hpos
    · exact ⟨_, _, rfl, .inl h0⟩
    · obtain ⟨ao, cap, e, h1 | ⟨b, o, e2, hh⟩⟩ := hf
      · omega
      · subst e2
        simp only [Value.slice.injEq, Option.some.injEq, Addr.mk.injEq, and_true] at e
        obtain ⟨⟨rfl, rfl⟩, _, rfl⟩ := e
        refine ⟨_, _, rfl, .inr ⟨h, 0, rfl, fun i hi => ?_⟩⟩
        obtain ⟨cs, hlen, hcs, x, c', hx, e3, hm⟩ := hh i hi
        refine ⟨cs, hlen, fun j hj => ?_, x, c', hx, e3, Mem.kept m hm hb⟩
        obtain ⟨u, hu1, hu2⟩ := hc (i * 6 + j) (by omega)
        rw [Nat.zero_add, hu2, ← hcs j hj, ← hu1, Nat.add_assoc]
end V
end Go.Proofs.YtpoebpknjjfddaaDoor
