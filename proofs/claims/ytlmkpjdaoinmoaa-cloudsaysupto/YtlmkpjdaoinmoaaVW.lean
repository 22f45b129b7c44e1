/- value.Copy. -/
import Derived.Test.YtlmkpjdaoinmoaaVV
namespace Go.Proofs.Ytlmkpjdaoinmoaa
open Go.RowKit
theorem info62 : (Try.prog.info? 116).map (fun i => (i.zero, i.size, i.bytes)) = some (some (.pointer none), 1, 8) := by kernel_rfl
theorem info34 : (Try.prog.info? 40).map (fun i => (i.zero, i.size, i.bytes)) = some (some (.agg #[.int .i64 0, .int .i64 0, .string ⟨#[]⟩, .slice none 0 0, .slice none 0 0]), 5, 80) := by kernel_rfl
theorem info37 : (Try.prog.info? 110).map (fun i => (i.zero, i.size, i.bytes)) = some (some (.agg #[.string ⟨#[]⟩, .int .i64 0, .int .i64 0, .string ⟨#[]⟩, .slice none 0 0, .slice none 0 0]), 6, 96) := by kernel_rfl
namespace V
/-- A node whose lists are still to be copied: the value, and where it stands. -/
abbrev ND := Val × Nat × Nat
def ptrV (q : ND) : Value := .pointer (some ⟨q.2.1, q.2.2, none⟩)
def ndOk (w0 : World) (Bs S E : Nat) (m : Nat) (w : World) (q : ND) : Prop := Nw w0 Bs S (m + 1) w q.1 q.2.1 q.2.2 ∧ E ≤ q.2.1
def wd (m : Nat) (Q : List ND) : Nat := (Q.map (fun q => parts (m + 1) q.1)).sum
theorem len_wd (m : Nat) (L : List ND) : L.length ≤ wd m L := by
  induction L with
  | nil => simp
  | cons q L ih => unfold wd at *; rw [List.map_cons, List.sum_cons, List.length_cons]; have := parts_pos m q.1; omega
theorem wd_append (m : Nat) (L R : List ND) : wd m (L ++ R) = wd m L + wd m R := by unfold wd; rw [List.map_append, List.sum_append]
theorem wd_one (m : Nat) (q : ND) : wd m [q] = parts (m + 1) q.1 := by simp [wd]
/-- What is new stays so where one block turns that holds pointers. -/
theorem Nw.grown (w0 : World) (Bs S : Nat) {w w' : World} {row : Option Nat} (hg : w.grownBy w' row) (hr : ∀ c, row = some c → Kind w c 116) (m : Nat) {x : Val} {b o : Nat} (h : Nw w0 Bs S m w x b o) : Nw w0 Bs S m w' x b o := by
  have hb : ∀ c t, t ≠ 116 → Kind w c t → w'.heap[c]? = w.heap[c]? := fun c t ht hk => by
    obtain ⟨cs, hcs⟩ := hk
    refine hg.block c (Array.getElem?_eq_some_iff.1 hcs).1 (fun e => ?_)
    obtain ⟨cs2, h2⟩ := hr c e.symm
    rw [hcs] at h2
    simp only [Option.some.injEq, Obj.cells.injEq] at h2
    exact ht h2.2.1
  have hc : ∀ (c t j : Nat) (u : Value), t ≠ 116 → Kind w c t → w.cell? ⟨c, j, none⟩ = some u → w'.cell? ⟨c, j, none⟩ = some u := fun c t j u ht hk h => by
    have e := hb c t ht hk
    unfold World.cell? at h ⊢
    simp only at h ⊢
    rw [e]; exact h
  have hpc : ∀ (b o j : Nat) (u : Value), Place w b o → w.cell? ⟨b, j, none⟩ = some u → w'.cell? ⟨b, j, none⟩ = some u := fun b o j u hp h => by
    rcases hp with ⟨hk, _⟩ | ⟨hk, _⟩
    · exact hc b 40 j u (by decide) hk h
    · exact hc b 110 j u (by decide) hk h
  refine Nw.turn w0 Bs S (fun b t ht ⟨cs, h⟩ => ⟨cs, by rw [hb b t (by rcases ht with rfl | rfl <;> decide) ⟨cs, h⟩]; exact h⟩) (fun b i u hk h => hc b 110 _ _ (by decide) hk h) (fun b o j u hp _ h => hpc b o _ u hp h) (fun b o m lv l hp h1 h2 => ⟨lv, hpc b o _ _ hp h1, h2⟩) (fun b o m lv l hp h1 h2 => ⟨lv, hpc b o _ _ hp h1, h2⟩) m h
/-- 'append' of a list to nil: nothing, or a new block with the same cells. -/
def Copied (w w' : World) (e : TypeId) (size : Nat) (ao : Option Addr) (n : Nat) (ao' : Option Addr) : Prop :=
  Below w.heap.size w w' ∧ (n = 0 ∨ ∃ h p off, ao' = some ⟨h, 0, none⟩ ∧ ao = some ⟨p, off, none⟩ ∧ w.heap.size ≤ h ∧ Kind w' h e ∧ ∀ j, j < n * size → ∃ u, w.cell? ⟨p, off + j, none⟩ = some u ∧ w'.cell? ⟨h, j, none⟩ = some u)
def Source (w : World) (size : Nat) (ao : Option Addr) (n : Nat) : Prop := n = 0 ∨ ∃ p off, ao = some ⟨p, off, none⟩ ∧ ∀ j, j < n * size → ∃ u, w.cell? ⟨p, off + j, none⟩ = some u ∧ u.oneCell' = true
theorem plain_add (p off j : Nat) : (⟨p, off, none⟩ : Addr).add j = ⟨p, off + j, none⟩ := by unfold Addr.add; split <;> simp_all
theorem run_append_zero {P : Program} (w : World) (t ty e : TypeId) (i : TypeInfo) (ht : P.underlying t = some (.slice e)) (hi : P.info? e = some i) (ao : Option Addr) (c : Nat) :
    (Builtin.append_ #[t, t] ty #[.slice none 0 0, .slice ao 0 c]).run P w = .ok (.slice none 0 0) w := by
  cases ao with
  | none => simp [Builtin.append_, run_underlying ht, sizeOf, typeInfo, hi, Builtin.lenOf, Builtin.firstCells]
  | some a =>
    have hl : (loadCells a 0).run P w = .ok #[] w := run_loadCells_list (P := P) w a [] (fun j v hj => by simp at hj)
    simp [Builtin.append_, run_underlying ht, sizeOf, typeInfo, hi, Builtin.lenOf, Builtin.firstCells, hl]
theorem run_copy {P : Program} (w : World) (t ty e : TypeId) (i : TypeInfo) (z : Value) (size bytes : Nat) (ht : P.underlying t = some (.slice e)) (hi : P.info? e = some i) (hz : i.zero = some z) (hsize : i.size = size) (hby : i.bytes = bytes) (hzs : z.cells.size = size) (hsz : 0 < size)
    (ao : Option Addr) (n c : Nat) (hsrc : Source w size ao n) (h63 : n ≤ maxLen) (hbytes : n * bytes ≤ 140737488355328) :
    ∃ ao' cap' w', (Builtin.append_ #[t, t] ty #[.slice none 0 0, .slice ao n c]).run P w = .ok (.slice ao' n cap') w' ∧ Copied w w' e size ao n ao' := by
  rcases Nat.eq_zero_or_pos n with rfl | hpos
  · exact ⟨none, 0, w, run_append_zero w t ty e i ht hi ao c, Below.refl _ _, .inl rfl⟩
  · rcases hsrc with h0 | ⟨p, off, rfl, hsrc⟩
    · omega
    · have hcl : ∀ j, j < n * size → w.cell? ⟨p, off + j, none⟩ = some ((w.cell? ⟨p, off + j, none⟩).getD undef) := fun j hj => by
        obtain ⟨u, hu, _⟩ := hsrc j hj; rw [hu]; rfl
      have hadd : ∀ j, (⟨p, off, none⟩ : Addr).add j = ⟨p, off + j, none⟩ := fun j => plain_add p off j
      obtain ⟨g, cap', w', hr, ho, hg, hat, hlt⟩ := run_append_lies (P := P) w t ty w.heap.size e i z size bytes ht hi hz hsize hby hzs hsz (.slice none 0 0) 0 [] (World.ownsRow_nil _ _ _ _) ⟨p, off, none⟩ n c
        ((List.range (n * size)).map (fun j => (w.cell? ⟨p, off + j, none⟩).getD undef)) (by simp) (fun j u hu => by
          rw [List.getElem?_map, Option.map_eq_some_iff] at hu
          obtain ⟨k, hk, rfl⟩ := hu
          obtain ⟨hk1, hk2⟩ := List.getElem?_eq_some_iff.1 hk
          rw [List.getElem_range] at hk2
          subst hk2
          rw [hadd]; exact hcl j (by simpa using hk1)) (fun u hu => by
          rw [List.mem_map] at hu
          obtain ⟨j, hj, rfl⟩ := hu
          obtain ⟨u, hu, h1⟩ := hsrc j (List.mem_range.1 hj)
          rw [hu]; exact h1) hpos (by omega) (by rw [Nat.zero_add]; exact hbytes) (Nat.le_refl _) _ rfl
      rw [Nat.zero_add] at hr ho
      refine ⟨_, cap', w', hr, ⟨hg.os, hg.tape, hg.output, hg.size, fun k hk => hg.block k hk (by simp [Value.ownBlock])⟩, .inr ⟨g, p, off, rfl, rfl, ?_, ?_, fun j hj => ?_⟩⟩
      · rcases hat with h | h
        · simp [Value.ownBlock] at h
        · omega
      · rcases ho.2 with ⟨h, _⟩ | ⟨g2, c2, cur, h, _, hh, _⟩
        · cases h
        · simp only [Value.slice.injEq, Option.some.injEq, Addr.mk.injEq, and_true] at h
          obtain ⟨rfl, _, rfl⟩ := h
          exact ⟨cur, hh⟩
      · refine ⟨_, hcl j hj, ?_⟩
        rw [ho.cellAt j hj, List.nil_append, List.getElem?_map, List.getElem?_range hj]; rfl
theorem wpList_copy {P : Program} (w : World) {ops : Array Oper} {rest : List Oper} {o : Oper} {a : Act} {Q : Exit → Act → World → Prop} (hgd : o.guard = none) (x : Operand) (t : TypeId)
    (ho : o.op = .call { callee := .builtin .append, args := #[.const (.slice none 0 0), x], argTypes := #[t, t] })
    (e : TypeId) (i : TypeInfo) (z : Value) (size bytes : Nat) (ht : P.underlying t = some (.slice e)) (hi : P.info? e = some i) (hz : i.zero = some z) (hsize : i.size = size) (hby : i.bytes = bytes) (hzs : z.cells.size = size) (hsz : 0 < size)
    (ao : Option Addr) (n c : Nat) (hx : a.eval x = .slice ao n c) (hsrc : Source w size ao n) (h63 : n ≤ maxLen) (hbytes : n * bytes ≤ 140737488355328)
    (h : ∀ ao' cap' w', Copied w w' e size ao n ao' → wpList P ops Q rest (a.put o.dst (.slice ao' n cap')) w') : wpList P ops Q (o :: rest) a w := by
  obtain ⟨ao', cap', w', hr, hC⟩ := run_copy (P := P) w t o.type e i z size bytes ht hi hz hsize hby hzs hsz ao n c hsrc h63 hbytes
  refine wpList_plain hgd fun K hK => ?_
  have hs : a.eval (.const (.slice none 0 0)) = .slice none 0 0 := rfl
  unfold Oper.wp execOp
  simp only [ho, resolve, invoke, builtin, Sem.run_bind, Sem.run_pure, Result.andThen_ok, List.map_toArray, List.map_cons, List.map_nil, hs, hx, hr]
  exact hK _ _ (h ao' cap' w' hC)
theorem Core.cells {w0 w : World} {m : Nat} {N : Val → Nat → Nat → Prop} {x : Val} {b o : Nat} (h : Core w0 w m N x b o) : ∀ j, j < 5 → ∃ u, w.cell? ⟨b, o + j, none⟩ = some u ∧ u.oneCell' = true := by
  obtain ⟨h0, h1, h2, ⟨lv, hl, hL⟩, ⟨fv, hf, hF⟩⟩ := h
  obtain ⟨al, cl, rfl⟩ := rep_formL hL
  obtain ⟨af, cf, rfl⟩ := rep_formF hF
  intro j hj
  match j, hj with
  | 0, _ => exact ⟨_, h0, rfl⟩
  | 1, _ => exact ⟨_, h1, rfl⟩
  | 2, _ => exact ⟨_, h2, rfl⟩
  | 3, _ => exact ⟨_, hl, rfl⟩
  | 4, _ => exact ⟨_, hf, rfl⟩
theorem srcL {w0 w : World} {Bs S : Nat} (hw : Sub w0 w) {m : Nat} {ao : Option Addr} {cap : Nat} {l : List Val} (h : OldL w0 m (.slice ao l.length cap) l ∨ NewL (Nw w0 Bs S m w) (.slice ao l.length cap) l) : Source w 5 ao l.length := by
  rcases Nat.eq_zero_or_pos l.length with h0 | hpos
  · exact .inl h0
  right
  obtain ⟨p, off, rfl⟩ : ∃ p off, ao = some ⟨p, off, none⟩ := by
    rcases h with ⟨ao2, c2, e, h⟩ | ⟨ao2, c2, e, h⟩
    · simp only [Value.slice.injEq] at e
      rcases h with h | ⟨b, o, e2, _⟩
      · omega
      · exact ⟨b, o, e.1.trans e2⟩
    · simp only [Value.slice.injEq] at e
      rcases h with h | ⟨g, e2, _⟩
      · omega
      · exact ⟨g, 0, e.1.trans e2⟩
  refine ⟨p, off, rfl, fun j hj => ?_⟩
  have hi : j / 5 < l.length := by omega
  cases m with
  | zero =>
    exfalso
    rcases h with ⟨ao, cp, e, hr⟩ | ⟨ao, cp, e, hr⟩
    · rcases hr with hr | ⟨b, o, _, hr⟩
      · omega
      · obtain ⟨_, _, _, z, _, hm⟩ := hr (j / 5) hi; exact hm
    · rcases hr with hr | ⟨g, _, hr⟩
      · omega
      · exact hr (j / 5) _ (List.getElem?_eq_getElem hi)
  | succ m =>
    have hc := (rep_coreL hw h (j / 5) _ (List.getElem?_eq_getElem hi)).cells (j % 5) (by omega)
    rw [show off + j / 5 * 5 + j % 5 = off + j by omega] at hc
    exact hc
theorem srcF {w0 w : World} {Bs S : Nat} (hw : Sub w0 w) {m : Nat} {ao : Option Addr} {cap : Nat} {l : List (ByteArray × Val)} (h : OldF w0 m (.slice ao l.length cap) l ∨ NewF w (Nw w0 Bs S m w) (.slice ao l.length cap) l) : Source w 6 ao l.length := by
  rcases Nat.eq_zero_or_pos l.length with h0 | hpos
  · exact .inl h0
  right
  obtain ⟨p, off, rfl⟩ : ∃ p off, ao = some ⟨p, off, none⟩ := by
    rcases h with ⟨ao2, c2, e, h⟩ | ⟨ao2, c2, e, h⟩
    · simp only [Value.slice.injEq] at e
      rcases h with h | ⟨b, o, e2, _⟩
      · omega
      · exact ⟨b, o, e.1.trans e2⟩
    · simp only [Value.slice.injEq] at e
      rcases h with h | ⟨g, e2, _⟩
      · omega
      · exact ⟨g, 0, e.1.trans e2⟩
  refine ⟨p, off, rfl, fun j hj => ?_⟩
  have hi : j / 6 < l.length := by omega
  cases m with
  | zero =>
    exfalso
    rcases h with ⟨ao, cp, e, hr⟩ | ⟨ao, cp, e, hr⟩
    · rcases hr with hr | ⟨b, o, _, hr⟩
      · omega
      · obtain ⟨_, _, _, z, _, _, _, hm⟩ := hr (j / 6) hi; exact hm
    · rcases hr with hr | ⟨g, _, _, hr⟩
      · omega
      · exact (hr (j / 6) _ (List.getElem?_eq_getElem hi)).2
  | succ m =>
    have hcc := rep_coreF hw h (j / 6) _ (List.getElem?_eq_getElem hi)
    rcases Nat.eq_zero_or_pos (j % 6) with h0 | h1
    · exact ⟨.string l[j / 6].1, by rw [show off + j = off + j / 6 * 6 by omega]; exact hcc.1, rfl⟩
    · have hc := hcc.2.cells (j % 6 - 1) (by omega)
      rw [show off + j / 6 * 6 + 1 + (j % 6 - 1) = off + j by omega] at hc
      exact hc
theorem stepL {w0 w w2 : World} {Bs S : Nat} (hw : Sub w0 w) (hbig : Bs ≤ w.heap.size ∧ S < w.heap.size) {b o n cap cap' : Nat} {ao ao' : Option Addr} (hC : Copied w w2 40 5 ao n ao') (hp : Place w b o) (hcell : w.cell? ⟨b, o + 3, none⟩ = some (.slice ao n cap)) :
    (∀ (m : Nat) (x : Val) (b2 o2 : Nat), Nw w0 Bs S m w x b2 o2 → Nw w0 Bs S m (w2.setCell ⟨b, o + 3, none⟩ (.slice ao' n cap')) x b2 o2) ∧
    (∀ (m : Nat) (l : List Val), (OldL w0 m (.slice ao n cap) l ∨ NewL (Nw w0 Bs S m w) (.slice ao n cap) l) → NewL (Nw w0 Bs S m (w2.setCell ⟨b, o + 3, none⟩ (.slice ao' n cap'))) (.slice ao' n cap') l) := by
  obtain ⟨hb, hC⟩ := hC
  have hw2 := hw.below hb
  have hp2 : Place w2 b o := by
    rcases hp with ⟨⟨cs, h⟩, e⟩ | ⟨⟨cs, h⟩, e⟩
    · exact .inl ⟨⟨cs, (hb.block b (Array.getElem?_eq_some_iff.1 h).1).trans h⟩, e⟩
    · exact .inr ⟨⟨cs, (hb.block b (Array.getElem?_eq_some_iff.1 h).1).trans h⟩, e⟩
  have hk : ∀ (m : Nat) (x : Val) (b2 o2 : Nat), Nw w0 Bs S m w x b2 o2 → Nw w0 Bs S m w2 x b2 o2 := fun m x b2 o2 h => Nw.kept w0 Bs S (fun c hc => hb.block c hc) m h
  have hcp : ∀ (m : Nat) (l : List Val), (OldL w0 m (.slice ao n cap) l ∨ NewL (Nw w0 Bs S m w2) (.slice ao n cap) l) → NewL (Nw w0 Bs S m w2) (.slice ao' n cap') l := fun m l hr => by
    rcases hC with h0 | ⟨h, p, off, rfl, rfl, hh, hkd, hc⟩
    · obtain ⟨ao2, c2, e⟩ := rep_formL hr
      simp only [Value.slice.injEq] at e
      exact ⟨ao', cap', by rw [e.2.1], .inl (by omega)⟩
    · refine copyL hw2 ⟨Nat.le_trans hbig.1 hh, by omega⟩ hkd (fun j hj => ?_) m l hr
      obtain ⟨u, h1, h2⟩ := hc j hj
      rw [h2, kept_cell hb h1]
  have hs := fun (m : Nat) (x : Val) (b2 o2 : Nat) (h : Nw w0 Bs S m w2 x b2 o2) => Nw.setL (lv' := .slice ao' n cap') hp2 (kept_cell hb hcell) (fun m l hr => .inr (hcp m l hr)) m h
  exact ⟨fun m x b2 o2 h => hs m x b2 o2 (hk m x b2 o2 h), fun m l hr => (hcp m l (hr.imp id (fun h => h.imp (hk m)))).imp (hs m)⟩
theorem stepF {w0 w w2 : World} {Bs S : Nat} (hw : Sub w0 w) (hbig : Bs ≤ w.heap.size ∧ S < w.heap.size) {b o n cap cap' : Nat} {ao ao' : Option Addr} (hC : Copied w w2 110 6 ao n ao') (hp : Place w b o) (hcell : w.cell? ⟨b, o + 4, none⟩ = some (.slice ao n cap)) :
    (∀ (m : Nat) (x : Val) (b2 o2 : Nat), Nw w0 Bs S m w x b2 o2 → Nw w0 Bs S m (w2.setCell ⟨b, o + 4, none⟩ (.slice ao' n cap')) x b2 o2) ∧
    (∀ (m : Nat) (l : List (ByteArray × Val)), (OldF w0 m (.slice ao n cap) l ∨ NewF w (Nw w0 Bs S m w) (.slice ao n cap) l) → NewF (w2.setCell ⟨b, o + 4, none⟩ (.slice ao' n cap')) (Nw w0 Bs S m (w2.setCell ⟨b, o + 4, none⟩ (.slice ao' n cap'))) (.slice ao' n cap') l) := by
  obtain ⟨hb, hC⟩ := hC
  have hw2 := hw.below hb
  have hp2 : Place w2 b o := by
    rcases hp with ⟨⟨cs, h⟩, e⟩ | ⟨⟨cs, h⟩, e⟩
    · exact .inl ⟨⟨cs, (hb.block b (Array.getElem?_eq_some_iff.1 h).1).trans h⟩, e⟩
    · exact .inr ⟨⟨cs, (hb.block b (Array.getElem?_eq_some_iff.1 h).1).trans h⟩, e⟩
  have hk : ∀ (m : Nat) (x : Val) (b2 o2 : Nat), Nw w0 Bs S m w x b2 o2 → Nw w0 Bs S m w2 x b2 o2 := fun m x b2 o2 h => Nw.kept w0 Bs S (fun c hc => hb.block c hc) m h
  have hcp : ∀ (m : Nat) (l : List (ByteArray × Val)), (OldF w0 m (.slice ao n cap) l ∨ NewF w2 (Nw w0 Bs S m w2) (.slice ao n cap) l) → NewF w2 (Nw w0 Bs S m w2) (.slice ao' n cap') l := fun m l hr => by
    rcases hC with h0 | ⟨h, p, off, rfl, rfl, hh, hkd, hc⟩
    · obtain ⟨ao2, c2, e⟩ := rep_formF hr
      simp only [Value.slice.injEq] at e
      exact ⟨ao', cap', by rw [e.2.1], .inl (by omega)⟩
    · refine copyF hw2 ⟨Nat.le_trans hbig.1 hh, by omega⟩ hkd (fun j hj => ?_) m l hr
      obtain ⟨u, h1, h2⟩ := hc j hj
      rw [h2, kept_cell hb h1]
  have hs := fun (m : Nat) (x : Val) (b2 o2 : Nat) (h : Nw w0 Bs S m w2 x b2 o2) => Nw.setF (lv' := .slice ao' n cap') hp2 (kept_cell hb hcell) (fun m l hr => .inr (hcp m l hr)) m h
  exact ⟨fun m x b2 o2 h => hs m x b2 o2 (hk m x b2 o2 h), fun m l hr => (hcp m l (hr.imp id (fun h => h.imp (hk m) (fun b ⟨cs, h⟩ => ⟨cs, (hb.block b (Array.getElem?_eq_some_iff.1 h).1).trans h⟩) (fun _ _ _ _ h => kept_cell hb h)))).imp (hs m) (fun b h => h.set _ _) (fun b i u hk hu => set_other (name_apart hp2 hk 4 (by omega)) hu)⟩
end V
end Go.Proofs.Ytlmkpjdaoinmoaa
