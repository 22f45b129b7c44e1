/- Values that are being copied: nodes in new blocks, whose lists lie in old memory or in new blocks. -/
import Derived.Test.YtlmkpjdaoinmoaaV1
namespace Go.Proofs.Ytlmkpjdaoinmoaa
open Go.RowKit
namespace V
def Kind (w : World) (b : Nat) (t : TypeId) : Prop := ∃ cs, w.heap[b]? = some (.cells cs t (0, 0))
/-- A place at which a value may stand in a new block: a value of a list, or the value of a field. -/
def Place (w : World) (b o : Nat) : Prop := (Kind w b 40 ∧ o % 5 = 0) ∨ (Kind w b 110 ∧ o % 6 = 1)
def OldL (w0 : World) (m : Nat) (lv : Value) (l : List Val) : Prop := Row w0 lv l.length 5 (fun i c => ∃ x, l[i]? = some x ∧ Mem m w0 x c)
def OldF (w0 : World) (m : Nat) (fv : Value) (l : List (ByteArray × Val)) : Prop := Row w0 fv l.length 6 (fun i c => ∃ x c', l[i]? = some x ∧ c = .string x.1 :: c' ∧ Mem m w0 x.2 c')
def NewL (N : Val → Nat → Nat → Prop) (lv : Value) (l : List Val) : Prop := ∃ ao cap, lv = .slice ao l.length cap ∧ (l.length = 0 ∨ ∃ h, ao = some ⟨h, 0, none⟩ ∧ ∀ i y, l[i]? = some y → N y h (i * 5))
def NewF (w : World) (N : Val → Nat → Nat → Prop) (fv : Value) (l : List (ByteArray × Val)) : Prop := ∃ ao cap, fv = .slice ao l.length cap ∧ (l.length = 0 ∨ ∃ h, ao = some ⟨h, 0, none⟩ ∧ Kind w h 110 ∧ ∀ (i : Nat) (y : ByteArray × Val), l[i]? = some y → w.cell? ⟨h, i * 6, none⟩ = some (.string y.1) ∧ N y.2 h (i * 6 + 1))
/-- Five cells of a value, whose lists are old or new. -/
def Core (w0 w : World) (m : Nat) (N : Val → Nat → Nat → Prop) (x : Val) (b o : Nat) : Prop :=
  w.cell? ⟨b, o, none⟩ = some (.int .i64 x.kind) ∧ w.cell? ⟨b, o + 1, none⟩ = some (.int .i64 x.n) ∧ w.cell? ⟨b, o + 2, none⟩ = some (.string x.s) ∧
      (∃ lv, w.cell? ⟨b, o + 3, none⟩ = some lv ∧ (OldL w0 m lv x.l ∨ NewL N lv x.l)) ∧ (∃ fv, w.cell? ⟨b, o + 4, none⟩ = some fv ∧ (OldF w0 m fv x.f ∨ NewF w N fv x.f))
/-- A node in a new block. -/
def Nw (w0 : World) (Bs S : Nat) : Nat → World → Val → Nat → Nat → Prop
  | 0, _, _, _, _ => False
  | m + 1, w, x, b, o => (Bs ≤ b ∧ b ≠ S) ∧ Place w b o ∧ Core w0 w m (Nw w0 Bs S m w) x b o
theorem NewL.imp {N N' : Val → Nat → Nat → Prop} {lv : Value} {l : List Val} (h : NewL N lv l) (hN : ∀ x b o, N x b o → N' x b o) : NewL N' lv l := by
  obtain ⟨ao, cap, e, h⟩ := h
  refine ⟨ao, cap, e, ?_⟩
  rcases h with h | ⟨g, e2, h⟩
  · exact .inl h
  · exact .inr ⟨g, e2, fun i y hy => hN _ _ _ (h i y hy)⟩
theorem NewF.imp {w w' : World} {N N' : Val → Nat → Nat → Prop} {lv : Value} {l : List (ByteArray × Val)} (h : NewF w N lv l) (hN : ∀ x b o, N x b o → N' x b o) (hk : ∀ b, Kind w b 110 → Kind w' b 110) (hc : ∀ (b i : Nat) (u : Value), Kind w b 110 → w.cell? ⟨b, i * 6, none⟩ = some u → w'.cell? ⟨b, i * 6, none⟩ = some u) : NewF w' N' lv l := by
  obtain ⟨ao, cap, e, h⟩ := h
  refine ⟨ao, cap, e, ?_⟩
  rcases h with h | ⟨g, e2, hkk, h⟩
  · exact .inl h
  · exact .inr ⟨g, e2, hk g hkk, fun i y hy => ⟨hc g i _ hkk (h i y hy).1, hN _ _ _ (h i y hy).2⟩⟩
theorem Nw.up (w0 : World) (Bs S : Nat) : ∀ (m : Nat) {w : World} {x : Val} {b o : Nat}, Nw w0 Bs S m w x b o → Nw w0 Bs S (m + 1) w x b o
  | 0, _, _, _, _, h => h.elim
  | m + 1, w, x, b, o, ⟨hb, hp, h0, h1, h2, ⟨lv, hl, hL⟩, ⟨fv, hf, hF⟩⟩ => by
    refine ⟨hb, hp, h0, h1, h2, ⟨lv, hl, ?_⟩, ⟨fv, hf, ?_⟩⟩
    · rcases hL with h | h
      · exact .inl (Row.imp h (fun _ _ ⟨x, hx, hm⟩ => ⟨x, hx, Mem.up m hm⟩))
      · exact .inr (h.imp (fun _ _ _ hn => Nw.up w0 Bs S m hn))
    · rcases hF with h | h
      · exact .inl (Row.imp h (fun _ _ ⟨x, c', hx, hc, hm⟩ => ⟨x, c', hx, hc, Mem.up m hm⟩))
      · exact .inr (h.imp (fun _ _ _ hn => Nw.up w0 Bs S m hn) (fun _ h => h) (fun _ _ _ _ h => h))
/-- At the end it is a value like any other. -/
theorem Nw.at (w0 : World) (Bs S : Nat) : ∀ (m : Nat) {w : World} {x : Val} {b o : Nat}, Nw w0 Bs S m w x b o → Sub w0 w → At m w x b o
  | 0, _, _, _, _, h, _ => h.elim
  | m + 1, w, x, b, o, ⟨hb, hp, h0, h1, h2, ⟨lv, hl, hL⟩, ⟨fv, hf, hF⟩⟩, hw => by
    refine ⟨_, _, _, lv, fv, ⟨lv, fv, rfl, ?_, ?_⟩, h0, h1, h2, hl, hf⟩
    · rcases hL with h | ⟨ao, cap, rfl, h⟩
      · exact Row.sub h hw (fun _ _ ⟨x, hx, hm⟩ => ⟨x, hx, Mem.sub m hm hw⟩)
      · refine ⟨ao, cap, rfl, ?_⟩
        rcases h with h | ⟨g, rfl, h⟩
        · exact .inl h
        · refine .inr ⟨g, 0, rfl, fun i hi => ?_⟩
          obtain ⟨c0, c1, c2, c3, c4, hm, p0, p1, p2, p3, p4⟩ := Nw.at w0 Bs S m (h i _ (List.getElem?_eq_getElem hi)) hw
          refine ⟨[c0, c1, c2, c3, c4], rfl, fun j hj => ?_, _, List.getElem?_eq_getElem hi, hm⟩
          rw [Nat.zero_add]
          match j, hj with
          | 0, _ => exact p0
          | 1, _ => exact p1
          | 2, _ => exact p2
          | 3, _ => exact p3
          | 4, _ => exact p4
    · rcases hF with h | ⟨ao, cap, rfl, h⟩
      · exact Row.sub h hw (fun _ _ ⟨x, c', hx, hc, hm⟩ => ⟨x, c', hx, hc, Mem.sub m hm hw⟩)
      · refine ⟨ao, cap, rfl, ?_⟩
        rcases h with h | ⟨g, rfl, _, h⟩
        · exact .inl h
        · refine .inr ⟨g, 0, rfl, fun i hi => ?_⟩
          have hh := h i _ (List.getElem?_eq_getElem hi)
          obtain ⟨c0, c1, c2, c3, c4, hm, p0, p1, p2, p3, p4⟩ := Nw.at w0 Bs S m hh.2 hw
          refine ⟨[.string x.f[i].1, c0, c1, c2, c3, c4], rfl, fun j hj => ?_, _, _, List.getElem?_eq_getElem hi, rfl, hm⟩
          rw [Nat.zero_add]
          match j, hj with
          | 0, _ => exact hh.1
          | 1, _ => exact p0
          | 2, _ => exact p1
          | 3, _ => exact p2
          | 4, _ => exact p3
          | 5, _ => exact p4
/-- What is new stays so where cells of the places, and the blocks' kinds, are as they were, and where a list was put in another one's place it says the same. -/
theorem Nw.turn (w0 : World) (Bs S : Nat) {w w' : World} (hk : ∀ b t, t = 40 ∨ t = 110 → Kind w b t → Kind w' b t) (hn : ∀ (b i : Nat) (u : Value), Kind w b 110 → w.cell? ⟨b, i * 6, none⟩ = some u → w'.cell? ⟨b, i * 6, none⟩ = some u)
    (hc : ∀ (b o j : Nat) (u : Value), Place w b o → j ≤ 2 → w.cell? ⟨b, o + j, none⟩ = some u → w'.cell? ⟨b, o + j, none⟩ = some u)
    (hL : ∀ (b o m : Nat) (lv : Value) (l : List Val), Place w b o → w.cell? ⟨b, o + 3, none⟩ = some lv → (OldL w0 m lv l ∨ NewL (Nw w0 Bs S m w) lv l) → ∃ lv', w'.cell? ⟨b, o + 3, none⟩ = some lv' ∧ (OldL w0 m lv' l ∨ NewL (Nw w0 Bs S m w) lv' l))
    (hF : ∀ (b o m : Nat) (lv : Value) (l : List (ByteArray × Val)), Place w b o → w.cell? ⟨b, o + 4, none⟩ = some lv → (OldF w0 m lv l ∨ NewF w (Nw w0 Bs S m w) lv l) → ∃ lv', w'.cell? ⟨b, o + 4, none⟩ = some lv' ∧ (OldF w0 m lv' l ∨ NewF w (Nw w0 Bs S m w) lv' l)) :
    ∀ (m : Nat) {x : Val} {b o : Nat}, Nw w0 Bs S m w x b o → Nw w0 Bs S m w' x b o
  | 0, _, _, _, h => h.elim
  | m + 1, x, b, o, ⟨hb, hp, h0, h1, h2, ⟨lv, hl, hL1⟩, ⟨fv, hf, hF1⟩⟩ => by
    have ih := @Nw.turn w0 Bs S w w' hk hn hc hL hF m
    refine ⟨hb, ?_, hc b o 0 _ hp (by omega) h0, hc b o 1 _ hp (by omega) h1, hc b o 2 _ hp (by omega) h2, ?_, ?_⟩
    · rcases hp with ⟨h, e⟩ | ⟨h, e⟩
      · exact .inl ⟨hk _ _ (.inl rfl) h, e⟩
      · exact .inr ⟨hk _ _ (.inr rfl) h, e⟩
    · obtain ⟨lv', h3, h4⟩ := hL b o m lv x.l hp hl hL1
      refine ⟨lv', h3, h4.imp id (fun h => h.imp (fun _ _ _ q => ih q))⟩
    · obtain ⟨lv', h3, h4⟩ := hF b o m fv x.f hp hf hF1
      refine ⟨lv', h3, h4.imp id (fun h => h.imp (fun _ _ _ q => ih q) (fun b h => hk b 110 (.inr rfl) h) hn)⟩
/-- Where nothing that was there has turned. -/
theorem Nw.kept (w0 : World) (Bs S : Nat) {w w' : World} (hw : ∀ c, c < w.heap.size → w'.heap[c]? = w.heap[c]?) (m : Nat) {x : Val} {b o : Nat} (h : Nw w0 Bs S m w x b o) : Nw w0 Bs S m w' x b o := by
  have hc : ∀ (c j : Nat) (u : Value), w.cell? ⟨c, j, none⟩ = some u → w'.cell? ⟨c, j, none⟩ = some u := fun c j u h => by
    have hlt := World.block_lt_of_cell? w _ h
    have e := hw c hlt
    unfold World.cell? at h ⊢
    simp only at h ⊢
    rw [e]; exact h
  refine Nw.turn w0 Bs S (fun b t _ ⟨cs, h⟩ => ⟨cs, by rw [hw b (Array.getElem?_eq_some_iff.1 h).1]; exact h⟩) (fun b i u _ h => hc _ _ _ h) (fun b o j u _ _ h => hc _ _ _ h) (fun b o m lv l _ h1 h2 => ⟨lv, hc _ _ _ h1, h2⟩) (fun b o m lv l _ h1 h2 => ⟨lv, hc _ _ _ h1, h2⟩) m h
theorem rep_formL {w0 : World} {m : Nat} {N : Val → Nat → Nat → Prop} {lv : Value} {l : List Val} (h : OldL w0 m lv l ∨ NewL N lv l) : ∃ ao cap, lv = .slice ao l.length cap := by
  rcases h with ⟨ao, cap, h, _⟩ | ⟨ao, cap, h, _⟩
  · exact ⟨ao, cap, h⟩
  · exact ⟨ao, cap, h⟩
theorem rep_formF {w0 w : World} {m : Nat} {N : Val → Nat → Nat → Prop} {lv : Value} {l : List (ByteArray × Val)} (h : OldF w0 m lv l ∨ NewF w N lv l) : ∃ ao cap, lv = .slice ao l.length cap := by
  rcases h with ⟨ao, cap, h, _⟩ | ⟨ao, cap, h, _⟩
  · exact ⟨ao, cap, h⟩
  · exact ⟨ao, cap, h⟩
theorem Core.move {w0 w : World} {m : Nat} {N : Val → Nat → Nat → Prop} {x : Val} {b o b' o' : Nat} (h : Core w0 w m N x b o) (hc : ∀ j, j < 5 → w.cell? ⟨b', o' + j, none⟩ = w.cell? ⟨b, o + j, none⟩) : Core w0 w m N x b' o' := by
  obtain ⟨h0, h1, h2, ⟨lv, hl, hL⟩, ⟨fv, hf, hF⟩⟩ := h
  exact ⟨(hc 0 (by omega)).trans h0, (hc 1 (by omega)).trans h1, (hc 2 (by omega)).trans h2, ⟨lv, (hc 3 (by omega)).trans hl, hL⟩, ⟨fv, (hc 4 (by omega)).trans hf, hF⟩⟩
theorem Core.old {w0 w : World} {m : Nat} (N : Val → Nat → Nat → Prop) {x : Val} {b o : Nat} {cs : List Value} (h : Mem (m + 1) w0 x cs) (hc : ∀ j, j < 5 → w.cell? ⟨b, o + j, none⟩ = cs[j]?) : Core w0 w m N x b o := by
  obtain ⟨lv, fv, rfl, hl, hf⟩ := h
  exact ⟨hc 0 (by omega), hc 1 (by omega), hc 2 (by omega), ⟨lv, hc 3 (by omega), .inl hl⟩, ⟨fv, hc 4 (by omega), .inl hf⟩⟩
/-- Each element of a list that is old or new, where it lies. -/
theorem rep_coreL {w0 w : World} {Bs S : Nat} (hw : Sub w0 w) {m : Nat} {p off n cap : Nat} {l : List Val} (h : OldL w0 (m + 1) (.slice (some ⟨p, off, none⟩) n cap) l ∨ NewL (Nw w0 Bs S (m + 1) w) (.slice (some ⟨p, off, none⟩) n cap) l) (i : Nat) (y : Val) (hy : l[i]? = some y) :
    Core w0 w m (Nw w0 Bs S m w) y p (off + i * 5) := by
  have hi := lt_of_get hy
  rcases h with ⟨ao, cp, e, h⟩ | ⟨ao, cp, e, h⟩
  · simp only [Value.slice.injEq] at e
    obtain ⟨rfl, rfl, rfl⟩ := e
    rcases h with h | ⟨b, o, e, h⟩
    · omega
    · simp only [Option.some.injEq, Addr.mk.injEq, and_true] at e
      obtain ⟨rfl, rfl⟩ := e
      obtain ⟨cs, hl, hc, z, hz, hm⟩ := h i hi
      rw [hy] at hz; cases hz
      refine Core.old _ hm (fun j hj => ?_)
      have : ∃ u, w0.cell? ⟨p, off + i * 5 + j, none⟩ = some u := by rw [hc j hj]; exact ⟨_, List.getElem?_eq_getElem (by omega)⟩
      obtain ⟨u, hu⟩ := this
      rw [hw.cell hu, ← hc j hj, hu]
  · simp only [Value.slice.injEq] at e
    obtain ⟨rfl, rfl, rfl⟩ := e
    rcases h with h | ⟨g, e, h⟩
    · omega
    · simp only [Option.some.injEq, Addr.mk.injEq, and_true] at e
      obtain ⟨rfl, rfl⟩ := e
      rw [Nat.zero_add]
      exact (h i y hy).2.2
theorem rep_coreF {w0 w : World} {Bs S : Nat} (hw : Sub w0 w) {m : Nat} {p off n cap : Nat} {l : List (ByteArray × Val)} (h : OldF w0 (m + 1) (.slice (some ⟨p, off, none⟩) n cap) l ∨ NewF w (Nw w0 Bs S (m + 1) w) (.slice (some ⟨p, off, none⟩) n cap) l) (i : Nat) (y : ByteArray × Val) (hy : l[i]? = some y) :
    w.cell? ⟨p, off + i * 6, none⟩ = some (.string y.1) ∧ Core w0 w m (Nw w0 Bs S m w) y.2 p (off + i * 6 + 1) := by
  have hi := lt_of_get hy
  rcases h with ⟨ao, cp, e, h⟩ | ⟨ao, cp, e, h⟩
  · simp only [Value.slice.injEq] at e
    obtain ⟨rfl, rfl, rfl⟩ := e
    rcases h with h | ⟨b, o, e, h⟩
    · omega
    · simp only [Option.some.injEq, Addr.mk.injEq, and_true] at e
      obtain ⟨rfl, rfl⟩ := e
      obtain ⟨cs, hl, hc, z, c', hz, hcc, hm⟩ := h i hi
      rw [hy] at hz; cases hz
      subst hcc
      have hk : ∀ j, j < 6 → w.cell? ⟨p, off + i * 6 + j, none⟩ = (Value.string y.1 :: c')[j]? := fun j hj => by
        have : ∃ u, w0.cell? ⟨p, off + i * 6 + j, none⟩ = some u := by rw [hc j hj]; exact ⟨_, List.getElem?_eq_getElem (by omega)⟩
        obtain ⟨u, hu⟩ := this
        rw [hw.cell hu, ← hc j hj, hu]
      refine ⟨hk 0 (by omega), Core.old _ hm (fun j hj => ?_)⟩
      have := hk (j + 1) (by omega)
      rw [show off + i * 6 + 1 + j = off + i * 6 + (j + 1) by omega, this]; rfl
  · simp only [Value.slice.injEq] at e
    obtain ⟨rfl, rfl, rfl⟩ := e
    rcases h with h | ⟨g, e, _, h⟩
    · omega
    · simp only [Option.some.injEq, Addr.mk.injEq, and_true] at e
      obtain ⟨rfl, rfl⟩ := e
      rw [Nat.zero_add]
      exact ⟨(h i y hy).1, (h i y hy).2.2.2⟩
/-- A list's copy in a new block says the same. -/
theorem copyL {w0 w : World} {Bs S : Nat} (hw : Sub w0 w) {p off n cap h cap' : Nat} (hh : Bs ≤ h ∧ h ≠ S) (hk : Kind w h 40) (hc : ∀ j, j < n * 5 → w.cell? ⟨h, j, none⟩ = w.cell? ⟨p, off + j, none⟩) (m : Nat) (l : List Val)
    (hr : OldL w0 m (.slice (some ⟨p, off, none⟩) n cap) l ∨ NewL (Nw w0 Bs S m w) (.slice (some ⟨p, off, none⟩) n cap) l) : NewL (Nw w0 Bs S m w) (.slice (some ⟨h, 0, none⟩) n cap') l := by
  obtain ⟨ao, cp, e⟩ := rep_formL hr
  simp only [Value.slice.injEq] at e
  obtain ⟨rfl, rfl, rfl⟩ := e
  refine ⟨_, _, rfl, ?_⟩
  rcases Nat.eq_zero_or_pos l.length with h0 | hpos
  · exact .inl h0
  · refine .inr ⟨h, rfl, fun i y hy => ?_⟩
    have hi := lt_of_get hy
    cases m with
    | zero =>
      exfalso
      rcases hr with ⟨ao, cp, e, hr⟩ | ⟨ao, cp, e, hr⟩
      · rcases hr with hr | ⟨b, o, _, hr⟩
        · omega
        · obtain ⟨_, _, _, z, _, hm⟩ := hr i hi; exact hm
      · rcases hr with hr | ⟨g, _, hr⟩
        · omega
        · exact hr i y hy
    | succ m =>
      refine ⟨hh, .inl ⟨hk, by omega⟩, (rep_coreL hw hr i y hy).move (fun j hj => ?_)⟩
      rw [hc (i * 5 + j) (by omega), show off + i * 5 + j = off + (i * 5 + j) by omega]
theorem copyF {w0 w : World} {Bs S : Nat} (hw : Sub w0 w) {p off n cap h cap' : Nat} (hh : Bs ≤ h ∧ h ≠ S) (hk : Kind w h 110) (hc : ∀ j, j < n * 6 → w.cell? ⟨h, j, none⟩ = w.cell? ⟨p, off + j, none⟩) (m : Nat) (l : List (ByteArray × Val))
    (hr : OldF w0 m (.slice (some ⟨p, off, none⟩) n cap) l ∨ NewF w (Nw w0 Bs S m w) (.slice (some ⟨p, off, none⟩) n cap) l) : NewF w (Nw w0 Bs S m w) (.slice (some ⟨h, 0, none⟩) n cap') l := by
  obtain ⟨ao, cp, e⟩ := rep_formF hr
  simp only [Value.slice.injEq] at e
  obtain ⟨rfl, rfl, rfl⟩ := e
  refine ⟨_, _, rfl, ?_⟩
  rcases Nat.eq_zero_or_pos l.length with h0 | hpos
  · exact .inl h0
  · refine .inr ⟨h, rfl, hk, fun i y hy => ?_⟩
    have hi := lt_of_get hy
    cases m with
    | zero =>
      exfalso
      rcases hr with ⟨ao, cp, e, hr⟩ | ⟨ao, cp, e, hr⟩
      · rcases hr with hr | ⟨b, o, _, hr⟩
        · omega
        · obtain ⟨_, _, _, z, _, _, _, hm⟩ := hr i hi; exact hm
      · rcases hr with hr | ⟨g, _, _, hr⟩
        · omega
        · exact (hr i y hy).2
    | succ m =>
      have hcr := rep_coreF hw hr i y hy
      refine ⟨?_, hh, .inr ⟨hk, by omega⟩, hcr.2.move (fun j hj => ?_)⟩
      · rw [hc (i * 6) (by omega)]; exact hcr.1
      · rw [show i * 6 + 1 + j = i * 6 + (1 + j) by omega, hc (i * 6 + (1 + j)) (by omega), show off + i * 6 + 1 + j = off + (i * 6 + (1 + j)) by omega]
theorem Kind.one {w : World} {b : Nat} (h1 : Kind w b 40) (h2 : Kind w b 110) : False := by
  obtain ⟨c1, h1⟩ := h1; obtain ⟨c2, h2⟩ := h2
  rw [h1] at h2
  simp at h2
theorem Kind.set {w : World} {b : Nat} {t : TypeId} (p : Addr) (v : Value) (h : Kind w b t) : Kind (w.setCell p v) b t := by
  obtain ⟨cs, h⟩ := h
  by_cases hb : b = p.block
  · subst hb
    cases hs : p.spot with
    | none =>
      have := block_set (i := p.off) h v
      rw [show (⟨p.block, p.off, none⟩ : Addr) = p by cases p; simp_all] at this
      exact ⟨_, this⟩
    | some s =>
      refine ⟨cs, ?_⟩
      unfold World.setCell
      simp only [Array.getElem?_modify, h, if_true, Option.map_some, hs, Option.isSome_some]
  · exact ⟨cs, by rw [heap_setCell_other w p b v hb]; exact h⟩
theorem place_apart {w : World} {b o b2 o2 j : Nat} (h1 : Place w b o) (h2 : Place w b2 o2) (hj : j < 5) (k : Nat) (hk : k < 5) (hne : j ≠ k) : (⟨b, o + k, none⟩ : Addr) ≠ ⟨b2, o2 + j, none⟩ := by
  intro h
  simp only [Addr.mk.injEq, and_true] at h
  obtain ⟨rfl, h⟩ := h
  rcases h1 with ⟨k1, e1⟩ | ⟨k1, e1⟩ <;> rcases h2 with ⟨k2, e2⟩ | ⟨k2, e2⟩
  · omega
  · exact k1.one k2
  · exact k2.one k1
  · omega
theorem name_apart {w : World} {b o b2 i : Nat} (h1 : Place w b o) (h2 : Kind w b2 110) (k : Nat) (hk : k < 5) : (⟨b, o + k, none⟩ : Addr) ≠ ⟨b2, i * 6, none⟩ := by
  intro h
  simp only [Addr.mk.injEq, and_true] at h
  obtain ⟨rfl, h⟩ := h
  rcases h1 with ⟨k1, e1⟩ | ⟨k1, e1⟩
  · exact k1.one h2
  · omega
theorem set_other {w : World} {a b : Addr} {v u : Value} (h : a ≠ b) (hu : w.cell? b = some u) : (w.setCell a v).cell? b = some u := by
  rw [World.cell?_setCell_other]
  · exact hu
  · exact h
theorem set_same {w : World} {a : Addr} {v u : Value} (h : w.cell? a = some u) : (w.setCell a v).cell? a = some v := by
  apply World.cell?_setCell_same
  exact h
/-- A list is put in another one's place that says the same: nothing else turns. -/
theorem Nw.setL {w0 w : World} {Bs S : Nat} {b o : Nat} {lv lv' : Value} (hp : Place w b o) (hcell : w.cell? ⟨b, o + 3, none⟩ = some lv) (hcopy : ∀ (m : Nat) (l : List Val), (OldL w0 m lv l ∨ NewL (Nw w0 Bs S m w) lv l) → (OldL w0 m lv' l ∨ NewL (Nw w0 Bs S m w) lv' l))
    (m : Nat) {x : Val} {b2 o2 : Nat} (h : Nw w0 Bs S m w x b2 o2) : Nw w0 Bs S m (w.setCell ⟨b, o + 3, none⟩ lv') x b2 o2 := by
  refine Nw.turn w0 Bs S (fun _ _ _ h => h.set _ _) (fun b2 i u hk hu => ?_) (fun b2 o2 j u hp2 hj hu => ?_) (fun b2 o2 m lv2 l hp2 hu hr => ?_) (fun b2 o2 m lv2 l hp2 hu hr => ⟨lv2, ?_, hr⟩) m h
  · exact set_other (name_apart hp hk 3 (by omega)) hu
  · exact set_other (place_apart (j := j) hp hp2 (by omega) 3 (by omega) (by omega)) hu
  · by_cases he : (⟨b, o + 3, none⟩ : Addr) = ⟨b2, o2 + 3, none⟩
    · rw [← he] at hu ⊢
      rw [hcell] at hu; cases hu
      exact ⟨lv', set_same hcell, hcopy m l hr⟩
    · exact ⟨lv2, set_other he hu, hr⟩
  · exact set_other (place_apart (j := 4) hp hp2 (by omega) 3 (by omega) (by omega)) hu
theorem Nw.setF {w0 w : World} {Bs S : Nat} {b o : Nat} {lv lv' : Value} (hp : Place w b o) (hcell : w.cell? ⟨b, o + 4, none⟩ = some lv) (hcopy : ∀ (m : Nat) (l : List (ByteArray × Val)), (OldF w0 m lv l ∨ NewF w (Nw w0 Bs S m w) lv l) → (OldF w0 m lv' l ∨ NewF w (Nw w0 Bs S m w) lv' l))
    (m : Nat) {x : Val} {b2 o2 : Nat} (h : Nw w0 Bs S m w x b2 o2) : Nw w0 Bs S m (w.setCell ⟨b, o + 4, none⟩ lv') x b2 o2 := by
  refine Nw.turn w0 Bs S (fun _ _ _ h => h.set _ _) (fun b2 i u hk hu => ?_) (fun b2 o2 j u hp2 hj hu => ?_) (fun b2 o2 m lv2 l hp2 hu hr => ⟨lv2, ?_, hr⟩) (fun b2 o2 m lv2 l hp2 hu hr => ?_) m h
  · exact set_other (name_apart hp hk 4 (by omega)) hu
  · exact set_other (place_apart (j := j) hp hp2 (by omega) 4 (by omega) (by omega)) hu
  · exact set_other (place_apart (j := 3) hp hp2 (by omega) 4 (by omega) (by omega)) hu
  · by_cases he : (⟨b, o + 4, none⟩ : Addr) = ⟨b2, o2 + 4, none⟩
    · rw [← he] at hu ⊢
      rw [hcell] at hu; cases hu
      exact ⟨lv', set_same hcell, hcopy m l hr⟩
    · exact ⟨lv2, set_other he hu, hr⟩
/-- Where blocks turn in which no node stands. -/
theorem Nw.apart (w0 : World) (Bs S : Nat) {w w' : World} (hw : ∀ c, Bs ≤ c ∧ c ≠ S → w'.heap[c]? = w.heap[c]?) : ∀ (m : Nat) {x : Val} {b o : Nat}, Nw w0 Bs S m w x b o → Nw w0 Bs S m w' x b o
  | 0, _, _, _, h => h.elim
  | m + 1, x, b, o, ⟨hb, hp, h0, h1, h2, ⟨lv, hl, hL⟩, ⟨fv, hf, hF⟩⟩ => by
    have ih := @Nw.apart w0 Bs S w w' hw m
    have hc : ∀ (c j : Nat) (u : Value), Bs ≤ c ∧ c ≠ S → w.cell? ⟨c, j, none⟩ = some u → w'.cell? ⟨c, j, none⟩ = some u := fun c j u hn h => by
      have e := hw c hn
      unfold World.cell? at h ⊢
      simp only at h ⊢
      rw [e]; exact h
    have hk : ∀ c t, Bs ≤ c ∧ c ≠ S → Kind w c t → Kind w' c t := fun c t hn ⟨cs, h⟩ => ⟨cs, by rw [hw c hn]; exact h⟩
    refine ⟨hb, ?_, hc _ _ _ hb h0, hc _ _ _ hb h1, hc _ _ _ hb h2, ⟨lv, hc _ _ _ hb hl, hL.imp id (fun h => h.imp (fun _ _ _ q => ih q))⟩, ⟨fv, hc _ _ _ hb hf, ?_⟩⟩
    · rcases hp with ⟨h, e⟩ | ⟨h, e⟩
      · exact .inl ⟨hk _ _ hb h, e⟩
      · exact .inr ⟨hk _ _ hb h, e⟩
    · rcases hF with h | ⟨ao, cap, e, h⟩
      · exact .inl h
      · refine .inr ⟨ao, cap, e, ?_⟩
        rcases Nat.eq_zero_or_pos x.f.length with h0 | hpos
        · exact .inl h0
        rcases h with h | ⟨g, e2, hkk, h⟩
        · exact .inl h
        · have hg : Bs ≤ g ∧ g ≠ S := by
            have := (h 0 _ (List.getElem?_eq_getElem hpos)).2
            cases m with
            | zero => exact this.elim
            | succ m => exact this.1
          exact .inr ⟨g, e2, hk g 110 hg hkk, fun i y hy => ⟨hc _ _ _ hg (h i y hy).1, ih (h i y hy).2⟩⟩
end V
end Go.Proofs.Ytlmkpjdaoinmoaa
