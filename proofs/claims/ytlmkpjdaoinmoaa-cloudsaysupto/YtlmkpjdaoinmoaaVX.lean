/- value.Copy. -/
import Derived.Test.YtlmkpjdaoinmoaaVW
namespace Go.Proofs.Ytlmkpjdaoinmoaa
open Go.RowKit
namespace V
theorem free_place {w : World} {b o : Nat} (h : Place w b o) (j : Nat) : w.frozen? ⟨b, j, none⟩ = false := by
  rcases h with ⟨⟨cs, h⟩, _⟩ | ⟨⟨cs, h⟩, _⟩
  · exact free_of_block h j
  · exact free_of_block h j
theorem Place.kept {w w' : World} {b o : Nat} (h : Place w b o) (hb : Below w.heap.size w w') : Place w' b o := by
  rcases h with ⟨⟨cs, h⟩, e⟩ | ⟨⟨cs, h⟩, e⟩
  · exact .inl ⟨⟨cs, (hb.block b (Array.getElem?_eq_some_iff.1 h).1).trans h⟩, e⟩
  · exact .inr ⟨⟨cs, (hb.block b (Array.getElem?_eq_some_iff.1 h).1).trans h⟩, e⟩
theorem Place.set {w : World} {b o : Nat} (p : Addr) (v : Value) (h : Place w b o) : Place (w.setCell p v) b o := by
  rcases h with ⟨h, e⟩ | ⟨h, e⟩
  · exact .inl ⟨h.set p v, e⟩
  · exact .inr ⟨h.set p v, e⟩
theorem ne34 (b o : Nat) : (⟨b, o + 3, none⟩ : Addr) ≠ ⟨b, o + 4, none⟩ := by simp
theorem ne43 (b o : Nat) : (⟨b, o + 4, none⟩ : Addr) ≠ ⟨b, o + 3, none⟩ := by simp
theorem nodeL {w0 wr w2 : World} {Bs S : Nat} {m : Nat} {x : Val} {b o cl cf cap' : Nat} {al af ao' : Option Addr} (hw : Sub w0 wr) {wE : World} (hwE : Below wE.heap.size wE wr) (hE : wE.heap.size ≤ b) (h0 : w0.heap.size ≤ Bs) (hbig : Bs ≤ wr.heap.size ∧ S < wr.heap.size) (hb : Bs ≤ b ∧ b ≠ S) (hp : Place wr b o) (k3 : wr.cell? ⟨b, o + 3, none⟩ = some (.slice al x.l.length cl)) (k4 : wr.cell? ⟨b, o + 4, none⟩ = some (.slice af x.f.length cf))
    (hL : OldL w0 m (.slice al x.l.length cl) x.l ∨ NewL (Nw w0 Bs S m wr) (.slice al x.l.length cl) x.l) (hF : OldF w0 m (.slice af x.f.length cf) x.f ∨ NewF wr (Nw w0 Bs S m wr) (.slice af x.f.length cf) x.f) (hC : Copied wr w2 40 5 al x.l.length ao') (wL : World) (hwL : wL = w2.setCell ⟨b, o + 3, none⟩ (.slice ao' x.l.length cap')) :
    Sub w0 wL ∧ (∀ (m : Nat) (x : Val) (b2 o2 : Nat), Nw w0 Bs S m wr x b2 o2 → Nw w0 Bs S m wL x b2 o2) ∧ NewL (Nw w0 Bs S m wL) (.slice ao' x.l.length cap') x.l ∧ wL.cell? ⟨b, o + 3, none⟩ = some (.slice ao' x.l.length cap') ∧ wL.cell? ⟨b, o + 4, none⟩ = some (.slice af x.f.length cf) ∧
      (OldF w0 m (.slice af x.f.length cf) x.f ∨ NewF wL (Nw w0 Bs S m wL) (.slice af x.f.length cf) x.f) ∧ Source wL 6 af x.f.length ∧ Place wL b o ∧ (∀ c, c < wr.heap.size → c ≠ b → wL.heap[c]? = wr.heap[c]?) ∧ wr.heap.size ≤ wL.heap.size ∧ Below wE.heap.size wE wL ∧ (x.l.length = 0 ∨ ∃ h, ao' = some ⟨h, 0, none⟩ ∧ wE.heap.size ≤ h) := by
  have hs := stepL (cap' := cap') hw hbig hC hp k3
  have hb2 := hC.1
  have hw2 := hw.below hb2
  have hwb : Sub w0 wL := by rw [hwL]; exact hw2.setCell (p := ⟨b, o + 3, none⟩) (Nat.le_trans h0 hb.1) _
  have hrF : OldF w0 m (.slice af x.f.length cf) x.f ∨ NewF wL (Nw w0 Bs S m wL) (.slice af x.f.length cf) x.f := by
    rcases hF with h | h
    · exact .inl h
    · right
      rw [hwL]
      refine h.imp (fun x b2 o2 hn => hs.1 m x b2 o2 hn) (fun c ⟨cs, hc⟩ => Kind.set _ _ ⟨cs, (hb2.block c (Array.getElem?_eq_some_iff.1 hc).1).trans hc⟩) (fun c i u hk hu => ?_)
      obtain ⟨cs, hc⟩ := hk
      exact set_other (name_apart (hp.kept hb2) ⟨cs, (hb2.block c (Array.getElem?_eq_some_iff.1 hc).1).trans hc⟩ 3 (by omega)) (kept_cell hb2 hu)
  refine ⟨hwb, by rw [hwL]; exact hs.1, by rw [hwL]; exact hs.2 m x.l hL, by rw [hwL]; exact set_same (kept_cell hb2 k3), by rw [hwL]; exact set_other (ne34 b o) (kept_cell hb2 k4), hrF, srcF hwb hrF, by rw [hwL]; exact (hp.kept hb2).set _ _, fun c hc hcb => ?_, ?_⟩
  · rw [hwL, heap_setCell_other w2 _ c _ hcb]; exact hb2.block c hc
  · rw [hwL, World.size_setCell]; exact ⟨hb2.size, (hwE.trans (hb2.mono hwE.size)).setCell (p := ⟨b, o + 3, none⟩) hE _, hC.2.imp id (fun ⟨h, _, _, e, _, hh, _⟩ => ⟨h, e, Nat.le_trans hwE.size hh⟩)⟩
theorem nodeF {w0 wr w2 : World} {Bs S : Nat} {m : Nat} {x : Val} {b o cl cf cap' : Nat} {al af ao' : Option Addr} (hw : Sub w0 wr) {wE : World} (hwE : Below wE.heap.size wE wr) (hE : wE.heap.size ≤ b) (h0 : w0.heap.size ≤ Bs) (hbig : Bs ≤ wr.heap.size ∧ S < wr.heap.size) (hb : Bs ≤ b ∧ b ≠ S) (hp : Place wr b o) (k3 : wr.cell? ⟨b, o + 3, none⟩ = some (.slice al x.l.length cl)) (k4 : wr.cell? ⟨b, o + 4, none⟩ = some (.slice af x.f.length cf))
    (hL : NewL (Nw w0 Bs S m wr) (.slice al x.l.length cl) x.l) (hF : OldF w0 m (.slice af x.f.length cf) x.f ∨ NewF wr (Nw w0 Bs S m wr) (.slice af x.f.length cf) x.f) (hC : Copied wr w2 110 6 af x.f.length ao') (wF : World) (hwF : wF = w2.setCell ⟨b, o + 4, none⟩ (.slice ao' x.f.length cap')) :
    Sub w0 wF ∧ (∀ (m : Nat) (x : Val) (b2 o2 : Nat), Nw w0 Bs S m wr x b2 o2 → Nw w0 Bs S m wF x b2 o2) ∧ NewL (Nw w0 Bs S m wF) (.slice al x.l.length cl) x.l ∧ NewF wF (Nw w0 Bs S m wF) (.slice ao' x.f.length cap') x.f ∧ wF.cell? ⟨b, o + 3, none⟩ = some (.slice al x.l.length cl) ∧ wF.cell? ⟨b, o + 4, none⟩ = some (.slice ao' x.f.length cap') ∧
      Place wF b o ∧ (∀ c, c < wr.heap.size → c ≠ b → wF.heap[c]? = wr.heap[c]?) ∧ wr.heap.size ≤ wF.heap.size ∧ Below wE.heap.size wE wF ∧ (x.f.length = 0 ∨ ∃ h, ao' = some ⟨h, 0, none⟩ ∧ wE.heap.size ≤ h) := by
  have hs := stepF (cap' := cap') hw hbig hC hp k4
  have hb2 := hC.1
  have hw2 := hw.below hb2
  have hwb : Sub w0 wF := by rw [hwF]; exact hw2.setCell (p := ⟨b, o + 4, none⟩) (Nat.le_trans h0 hb.1) _
  refine ⟨hwb, by rw [hwF]; exact hs.1, by rw [hwF]; exact hL.imp (hs.1 m), by rw [hwF]; exact hs.2 m x.f hF, by rw [hwF]; exact set_other (ne43 b o) (kept_cell hb2 k3), by rw [hwF]; exact set_same (kept_cell hb2 k4), by rw [hwF]; exact (hp.kept hb2).set _ _, fun c hc hcb => ?_, ?_⟩
  · rw [hwF, heap_setCell_other w2 _ c _ hcb]; exact hb2.block c hc
  · rw [hwF, World.size_setCell]; exact ⟨hb2.size, (hwE.trans (hb2.mono hwE.size)).setCell (p := ⟨b, o + 4, none⟩) hE _, hC.2.imp id (fun ⟨h, _, _, e, _, hh, _⟩ => ⟨h, e, Nat.le_trans hwE.size hh⟩)⟩
theorem repL_len {w0 w : World} {Bs S : Nat} {m : Nat} {lv : Value} {l : List Val} (h : OldL w0 m lv l ∨ NewL (Nw w0 Bs S m w) lv l) : l.length ≤ sumL (parts m) l := by
  cases m with
  | zero =>
    rcases Nat.eq_zero_or_pos l.length with h0 | hpos
    · omega
    · exfalso
      rcases h with ⟨ao, cp, e, hr⟩ | ⟨ao, cp, e, hr⟩
      · rcases hr with hr | ⟨b, o, _, hr⟩
        · omega
        · obtain ⟨_, _, _, z, _, hm⟩ := hr 0 hpos; exact hm
      · rcases hr with hr | ⟨g, _, hr⟩
        · omega
        · exact hr 0 _ (List.getElem?_eq_getElem hpos)
  | succ m =>
    clear h
    induction l with
    | nil => simp
    | cons a l ih => unfold sumL at *; rw [List.map_cons, List.sum_cons, List.length_cons]; have := parts_pos m a; omega
theorem repF_len {w0 w : World} {Bs S : Nat} {m : Nat} {lv : Value} {l : List (ByteArray × Val)} (h : OldF w0 m lv l ∨ NewF w (Nw w0 Bs S m w) lv l) : l.length ≤ sumF (fun x => parts m x.2) l := by
  cases m with
  | zero =>
    rcases Nat.eq_zero_or_pos l.length with h0 | hpos
    · omega
    · exfalso
      rcases h with ⟨ao, cp, e, hr⟩ | ⟨ao, cp, e, hr⟩
      · rcases hr with hr | ⟨b, o, _, hr⟩
        · omega
        · obtain ⟨_, _, _, z, _, _, _, hm⟩ := hr 0 hpos; exact hm
      · rcases hr with hr | ⟨g, _, _, hr⟩
        · omega
        · exact (hr 0 _ (List.getElem?_eq_getElem hpos)).2
  | succ m =>
    clear h
    induction l with
    | nil => simp
    | cons a l ih => unfold sumF at *; rw [List.map_cons, List.sum_cons, List.length_cons]; have := parts_pos m a.2; omega
theorem nw_parts (w0 : World) (Bs S : Nat) : ∀ (m : Nat) {w : World} {x : Val} {b o : Nat}, Nw w0 Bs S m w x b o → Sub w0 w → parts (m + 1) x = parts m x := fun m w x b o h hw => by
  obtain ⟨c0, c1, c2, c3, c4, hm, _⟩ := Nw.at w0 Bs S m h hw
  exact parts_up m hm
/-- What is known while a node's children are put on the list. -/
def St (w0 wE : World) (Bs S : Nat) (m : Nat) (v x : Val) (b o : Nat) (lv fv : Value) (w : World) : Prop :=
  Nw w0 Bs S (m + 1) w v wE.heap.size 0 ∧ NewL (Nw w0 Bs S m w) lv x.l ∧ NewF w (Nw w0 Bs S m w) fv x.f ∧ w.cell? ⟨b, o + 3, none⟩ = some lv ∧ w.cell? ⟨b, o + 4, none⟩ = some fv ∧ Place w b o ∧ w.heap[S]? = some (.cells #[.int .i64 0, .int .i64 0, .string ⟨#[]⟩, .slice none 0 0, .slice none 0 0] 40 (0, 0)) ∧ Sub w0 w ∧ Below wE.heap.size wE w
theorem St.grown {w0 wE : World} {Bs S : Nat} {m : Nat} {v x : Val} {b o : Nat} {lv fv : Value} {w w' : World} {row : Option Nat} (h : St w0 wE Bs S m v x b o lv fv w) (hg : w.grownBy w' row) (hr : ∀ c, row = some c → Kind w c 116 ∧ w0.heap.size ≤ c ∧ wE.heap.size ≤ c) : St w0 wE Bs S m v x b o lv fv w' := by
  obtain ⟨h1, h2, h3, h4, h5, h6, h7, h8, h9⟩ := h
  have hn : ∀ (m : Nat) (x : Val) (b o : Nat), Nw w0 Bs S m w x b o → Nw w0 Bs S m w' x b o := fun m x b o hh => Nw.grown w0 Bs S hg (fun c e => (hr c e).1) m hh
  have hb : ∀ c t, t ≠ 116 → Kind w c t → w'.heap[c]? = w.heap[c]? := fun c t ht hk => by
    obtain ⟨cs, hcs⟩ := hk
    refine hg.block c (Array.getElem?_eq_some_iff.1 hcs).1 (fun e => ?_)
    obtain ⟨cs2, hh⟩ := (hr c e.symm).1
    rw [hcs] at hh
    simp only [Option.some.injEq, Obj.cells.injEq] at hh
    exact ht hh.2.1
  have hc : ∀ (c t j : Nat) (u : Value), t ≠ 116 → Kind w c t → w.cell? ⟨c, j, none⟩ = some u → w'.cell? ⟨c, j, none⟩ = some u := fun c t j u ht hk h => by
    have e := hb c t ht hk
    unfold World.cell? at h ⊢
    simp only at h ⊢
    rw [e]; exact h
  have hpc : ∀ (j : Nat) (u : Value), w.cell? ⟨b, j, none⟩ = some u → w'.cell? ⟨b, j, none⟩ = some u := fun j u h => by
    rcases h6 with ⟨hk, _⟩ | ⟨hk, _⟩
    · exact hc b 40 j u (by decide) hk h
    · exact hc b 110 j u (by decide) hk h
  have hkk : ∀ c t, t ≠ 116 → Kind w c t → Kind w' c t := fun c t ht hk => by
    obtain ⟨cs, hcs⟩ := id hk
    exact ⟨cs, (hb c t ht hk).trans hcs⟩
  refine ⟨hn _ _ _ _ h1, h2.imp (hn m), h3.imp (hn m) (fun c hk => hkk c 110 (by decide) hk) (fun c i u hk hu => hc c 110 _ u (by decide) hk hu), hpc _ _ h4, hpc _ _ h5, ?_, (hb _ 40 (by decide) ⟨_, h7⟩).trans h7, ?_⟩
  · rcases h6 with ⟨hk, e⟩ | ⟨hk, e⟩
    · exact .inl ⟨hkk b 40 (by decide) hk, e⟩
    · exact .inr ⟨hkk b 110 (by decide) hk, e⟩
  · exact ⟨h8.grown hg (fun c e => (hr c e).2.1), h9.grown hg (Nat.le_trans h9.size (Nat.le_refl _)) (fun c e => (hr c e).2.2)⟩
theorem St.alloc {w0 wE : World} {Bs S : Nat} {m : Nat} {v x : Val} {b o : Nat} {lv fv : Value} {w : World} (h : St w0 wE Bs S m v x b o lv fv w) (ob : Obj) : St w0 wE Bs S m v x b o lv fv (w.alloc ob) :=
  h.grown (row := none) ⟨rfl, rfl, rfl, by simp, fun k hk _ => heap_alloc_old w ob hk⟩ (fun c e => by cases e)
theorem own_kind {w : World} {base n cap g : Nat} {xs : List Value} (h : w.ownsRow base 116 1 (.slice (some ⟨g, 0, none⟩) n cap) n xs) : Kind w g 116 ∧ base ≤ g := by
  rcases h.2 with ⟨h, _⟩ | ⟨g2, c2, cur, h, hb, hh, _⟩
  · cases h
  · simp only [Value.slice.injEq, Option.some.injEq, Addr.mk.injEq, and_true] at h
    obtain ⟨rfl, _⟩ := h
    exact ⟨⟨cur, hh⟩, hb⟩
theorem own_row {w : World} {base n cap : Nat} {ao : Option Addr} {xs : List Value} (h : w.ownsRow base 116 1 (.slice ao n cap) n xs) : ∀ c, (Value.slice ao n cap).ownBlock = some c → Kind w c 116 ∧ base ≤ c := by
  intro c hc
  rcases h.2 with ⟨h, _⟩ | ⟨g2, c2, cur, h, hb, hh, _⟩
  · rw [h] at hc; simp [Value.ownBlock] at hc
  · rw [h] at hc
    simp only [Value.ownBlock, Option.some.injEq] at hc
    subst hc
    exact ⟨⟨cur, hh⟩, hb⟩
theorem own_heap {w w' : World} {base n cap g : Nat} {xs : List Value} (h : w.ownsRow base 116 1 (.slice (some ⟨g, 0, none⟩) n cap) n xs) (hg : w'.heap[g]? = w.heap[g]?) : w'.ownsRow base 116 1 (.slice (some ⟨g, 0, none⟩) n cap) n xs := by
  refine ⟨h.1, ?_⟩
  rcases h.2 with h | ⟨g2, c2, cur, e, hb, hh, r⟩
  · exact .inl h
  · have e2 := e
    simp only [Value.slice.injEq, Option.some.injEq, Addr.mk.injEq, and_true] at e2
    obtain ⟨rfl, _⟩ := e2
    exact .inr ⟨g, c2, cur, e, hb, hg.trans hh, r⟩
/-- Five cells of a value that is to be copied. -/
def Core5 (w0 w : World) (Bs S m : Nat) (v : Val) (cs : List Value) : Prop := ∃ lv fv, cs = [.int .i64 v.kind, .int .i64 v.n, .string v.s, lv, fv] ∧ (OldL w0 m lv v.l ∨ NewL (Nw w0 Bs S m w) lv v.l) ∧ (OldF w0 m fv v.f ∨ NewF w (Nw w0 Bs S m w) fv v.f)
theorem Core5.old {w0 w : World} {Bs S m : Nat} {v : Val} {cs : List Value} (h : Mem (m + 1) w0 v cs) : Core5 w0 w Bs S m v cs := by
  obtain ⟨lv, fv, e, hl, hf⟩ := h
  exact ⟨lv, fv, e, .inl hl, .inl hf⟩
theorem Core5.node {w0 w w1 : World} {Bs S m g : Nat} {v : Val} {c0 c1 c2 c3 c4 : Value} (h : Core5 w0 w Bs S m v [c0, c1, c2, c3, c4]) (hw : ∀ c, c < w.heap.size → w1.heap[c]? = w.heap[c]?) (hg : Bs ≤ g ∧ g ≠ S) (hA : w1.heap[g]? = some (.cells #[c0, c1, c2, c3, c4] 40 (0, 0))) : Nw w0 Bs S (m + 1) w1 v g 0 := by
  obtain ⟨lv, fv, e, hl, hf⟩ := h
  simp only [List.cons.injEq, and_true] at e
  obtain ⟨rfl, rfl, rfl, rfl, rfl⟩ := e
  have hc : ∀ (c j : Nat) (u : Value), w.cell? ⟨c, j, none⟩ = some u → w1.cell? ⟨c, j, none⟩ = some u := fun c j u h => by
    have hlt := World.block_lt_of_cell? w _ h
    have e := hw c hlt
    unfold World.cell? at h ⊢
    simp only at h ⊢
    rw [e]; exact h
  refine ⟨hg, .inl ⟨⟨_, hA⟩, rfl⟩, cell_of_block hA 0 _ rfl, cell_of_block hA 1 _ rfl, cell_of_block hA 2 _ rfl, ⟨_, cell_of_block hA 3 _ rfl, hl.imp id (fun h => h.imp (fun _ _ _ q => Nw.kept w0 Bs S hw m q))⟩, ⟨_, cell_of_block hA 4 _ rfl, hf.imp id (fun h => h.imp (fun _ _ _ q => Nw.kept w0 Bs S hw m q) (fun b ⟨cs, h⟩ => ⟨cs, by rw [hw b (Array.getElem?_eq_some_iff.1 h).1]; exact h⟩) (fun _ _ _ _ h => hc _ _ _ h))⟩⟩
end V
end Go.Proofs.Ytlmkpjdaoinmoaa
