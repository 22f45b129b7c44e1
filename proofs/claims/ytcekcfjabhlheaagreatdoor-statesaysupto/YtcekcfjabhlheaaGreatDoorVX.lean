/- StateSays: VW VX. -/
import Derived.Test.YtcekcfjabhlheaaGreatDoorVV
namespace Go.Proofs.YtcekcfjabhlheaaGreatDoor.Vx
open Go.RowKit
theorem info62 : (Tryz.prog.info? 223).map (fun i => (i.zero, i.size, i.bytes)) = some (some (.pointer none), 1, 8) := by kernel_rfl
theorem info34 : (Tryz.prog.info? 61).map (fun i => (i.zero, i.size, i.bytes)) = some (some (.agg #[.int .i64 0, .int .i64 0, .string ⟨#[]⟩, .slice none 0 0, .slice none 0 0]), 5, 80) := by kernel_rfl
theorem info37 : (Tryz.prog.info? 68).map (fun i => (i.zero, i.size, i.bytes)) = some (some (.agg #[.string ⟨#[]⟩, .int .i64 0, .int .i64 0, .string ⟨#[]⟩, .slice none 0 0, .slice none 0 0]), 6, 96) := by kernel_rfl
namespace V
abbrev ND := Val × Nat × Nat
def ptrV (q : ND) : Value := .pointer (some ⟨q.2.1, q.2.2, none⟩)
def ndOk (w0 : World) (Bs S E : Nat) (m : Nat) (w : World) (q : ND) : Prop := Nw w0 Bs S (m + 1) w q.1 q.2.1 q.2.2 /\ E <= q.2.1
def wd (m : Nat) (Q : List ND) : Nat := (Q.map (fun q => parts (m + 1) q.1)).sum
theorem len_wd (m : Nat) (L : List ND) : L.length <= wd m L := by
 induction L with
 | nil => simp
 | cons q L ih => unfold wd at *; rw [List.map_cons, List.sum_cons, List.length_cons]; have := parts_pos m q.1; omega
theorem wd_append (m : Nat) (L R : List ND) : wd m (L ++ R) = wd m L + wd m R := by unfold wd; rw [List.map_append, List.sum_append]
theorem wd_one (m : Nat) (q : ND) : wd m [q] = parts (m + 1) q.1 := by simp [wd]
theorem Nw.grown (w0 : World) (Bs S : Nat) {w w' : World} {row : Option Nat} (hg : w.grownBy w' row) (hr : ∀ c, row = some c -> Kind w c 223) (m : Nat) {x : Val} {b o : Nat} (h : Nw w0 Bs S m w x b o) : Nw w0 Bs S m w' x b o := by
 have hb : ∀ c t, t ≠ 223 -> Kind w c t -> w'.heap[c]? = w.heap[c]? := fun c t ht hk => by
  obtain ⟨cs, hcs⟩ := hk;refine hg.block c (blt hcs) (fun e => ?_);obtain ⟨cs2, h2⟩ := hr c e.symm;rw [hcs] at h2;simp only [Option.some.injEq, Obj.cells.injEq] at h2;exact ht h2.2.1
 have hc : ∀ (c t j : Nat) (u : Value), t ≠ 223 -> Kind w c t -> w.cell? ⟨c, j, none⟩ = some u -> w'.cell? ⟨c, j, none⟩ = some u := fun c t j u ht hk h => by
  have e := hb c t ht hk;unfold World.cell? at h ⊢;simp only at h ⊢;rw [e]; exact h
 have hpc : ∀ (b o j : Nat) (u : Value), Place w b o -> w.cell? ⟨b, j, none⟩ = some u -> w'.cell? ⟨b, j, none⟩ = some u := fun b o j u hp h => by
  rcases hp with ⟨hk, _⟩ | ⟨hk, _⟩
  ·exact hc b 61 j u (by decide) hk h
  ·exact hc b 68 j u (by decide) hk h
 refine Nw.turn w0 Bs S (fun b t ht ⟨cs, h⟩ => ⟨cs, by rw [hb b t (by rcases ht with rfl | rfl <;> decide) ⟨cs, h⟩]; exact h⟩) (fun b i u hk h => hc b 68 _ _ (by decide) hk h) (fun b o j u hp _ h => hpc b o _ u hp h) (fun b o m lv l hp h1 h2 => ⟨lv, hpc b o _ _ hp h1, h2⟩) (fun b o m lv l hp h1 h2 => ⟨lv, hpc b o _ _ hp h1, h2⟩) m h
def Copied (w w' : World) (e : TypeId) (size : Nat) (ao : Option Addr) (n : Nat) (ao' : Option Addr) : Prop :=
 Below w.heap.size w w' /\ (n = 0 \/ ∃ h p off, ao' = some ⟨h, 0, none⟩ /\ ao = some ⟨p, off, none⟩ /\ w.heap.size <= h /\ Kind w' h e /\ ∀ j, j < n * size -> ∃ u, w.cell? ⟨p, off + j, none⟩ = some u /\ w'.cell? ⟨h, j, none⟩ = some u)
def Source (w : World) (size : Nat) (ao : Option Addr) (n : Nat) : Prop := n = 0 \/ ∃ p off, ao = some ⟨p, off, none⟩ /\ ∀ j, j < n * size -> ∃ u, w.cell? ⟨p, off + j, none⟩ = some u /\ u.oneCell' = true
theorem plain_add (p off j : Nat) : (⟨p, off, none⟩ : Addr).add j = ⟨p, off + j, none⟩ := by unfold Addr.add; split <;> simp_all
theorem run_append_zero {P : Program} (w : World) (t ty e : TypeId) (i : TypeInfo) (ht : P.underlying t = some (.slice e)) (hi : P.info? e = some i) (ao : Option Addr) (c : Nat) :
  (Builtin.append_ #[t, t] ty #[.slice none 0 0, .slice ao 0 c]).run P w = .ok (.slice none 0 0) w := by
 cases ao with
 | none => simp [Builtin.append_, run_underlying ht, sizeOf, typeInfo, hi, Builtin.lenOf, Builtin.firstCells]
 | some a =>
  have hl : (loadCells a 0).run P w = .ok #[] w := run_loadCells_list (P := P) w a [] (fun j v hj => by simp at hj);simp [Builtin.append_, run_underlying ht, sizeOf, typeInfo, hi, Builtin.lenOf, Builtin.firstCells, hl]
theorem run_copy {P : Program} (w : World) (t ty e : TypeId) (i : TypeInfo) (z : Value) (size bytes : Nat) (ht : P.underlying t = some (.slice e)) (hi : P.info? e = some i) (hz : i.zero = some z) (hsize : i.size = size) (hby : i.bytes = bytes) (hzs : z.cells.size = size) (hsz : 0 < size)
  (ao : Option Addr) (n c : Nat) (hsrc : Source w size ao n) (h63 : n <= maxLen) (hbytes : n * bytes <= 140737488355328) :
  ∃ ao' cap' w', (Builtin.append_ #[t, t] ty #[.slice none 0 0, .slice ao n c]).run P w = .ok (.slice ao' n cap') w' /\ Copied w w' e size ao n ao' := by
 rcases Nat.eq_zero_or_pos n with rfl | hpos
 ·exact ⟨none, 0, w, run_append_zero w t ty e i ht hi ao c, Below.refl _ _, .inl rfl⟩
 ·rcases hsrc with h0 | ⟨p, off, rfl, hsrc⟩
  ·omega
  ·have hcl : ∀ j, j < n * size -> w.cell? ⟨p, off + j, none⟩ = some ((w.cell? ⟨p, off + j, none⟩).getD undef) := fun j hj => by
    obtain ⟨u, hu, _⟩ := hsrc j hj; rw [hu]; rfl
   have hadd : ∀ j, (⟨p, off, none⟩ : Addr).add j = ⟨p, off + j, none⟩ := fun j => plain_add p off j
   obtain ⟨g, cap', w', hr, ho, hg, hat, hlt⟩ := run_append_lies (P := P) w t ty w.heap.size e i z size bytes ht hi hz hsize hby hzs hsz (.slice none 0 0) 0 [] (World.ownsRow_nil _ _ _ _) ⟨p, off, none⟩ n c
    ((List.range (n * size)).map (fun j => (w.cell? ⟨p, off + j, none⟩).getD undef)) (by simp) (fun j u hu => by
     rw [List.getElem?_map, Option.map_eq_some_iff] at hu;obtain ⟨k, hk, rfl⟩ := hu;obtain ⟨hk1, hk2⟩ := List.getElem?_eq_some_iff.1 hk;rw [List.getElem_range] at hk2;subst hk2;rw [hadd]; exact hcl j (by simpa using hk1)) (fun u hu => by
     rw [List.mem_map] at hu;obtain ⟨j, hj, rfl⟩ := hu;obtain ⟨u, hu, h1⟩ := hsrc j (List.mem_range.1 hj);rw [hu]; exact h1) hpos (by omega) (by rw [Nat.zero_add]; exact hbytes) (Nat.le_refl _) _ rfl
   rw [Nat.zero_add] at hr ho;refine ⟨_, cap', w', hr, ⟨hg.os, hg.tape, hg.output, hg.size, fun k hk => hg.block k hk (by simp [Value.ownBlock])⟩, .inr ⟨g, p, off, rfl, rfl, ?_, ?_, fun j hj => ?_⟩⟩
   ·rcases hat with h | h
    ·simp [Value.ownBlock] at h
    ·omega
   ·rcases ho.2 with ⟨h, _⟩ | ⟨g2, c2, cur, h, _, hh, _⟩
    ·cases h
    ·simp only [Value.slice.injEq, Option.some.injEq, Addr.mk.injEq, and_true] at h;obtain ⟨rfl, _, rfl⟩ := h;exact ⟨cur, hh⟩
   ·refine ⟨_, hcl j hj, ?_⟩;rw [ho.cellAt j hj, List.nil_append, List.getElem?_map, List.getElem?_range hj]; rfl
theorem wpList_copy {P : Program} (w : World) {ops : Array Oper} {rest : List Oper} {o : Oper} {a : Act} {Q : Exit -> Act -> World -> Prop} (hgd : o.guard = none) (x : Operand) (t : TypeId)
  (ho : o.op = .call { callee := .builtin .append, args := #[.const (.slice none 0 0), x], argTypes := #[t, t] })
  (e : TypeId) (i : TypeInfo) (z : Value) (size bytes : Nat) (ht : P.underlying t = some (.slice e)) (hi : P.info? e = some i) (hz : i.zero = some z) (hsize : i.size = size) (hby : i.bytes = bytes) (hzs : z.cells.size = size) (hsz : 0 < size)
  (ao : Option Addr) (n c : Nat) (hx : a.eval x = .slice ao n c) (hsrc : Source w size ao n) (h63 : n <= maxLen) (hbytes : n * bytes <= 140737488355328)
  (h : ∀ ao' cap' w', Copied w w' e size ao n ao' -> wpList P ops Q rest (a.put o.dst (.slice ao' n cap')) w') : wpList P ops Q (o :: rest) a w := by
 obtain ⟨ao', cap', w', hr, hC⟩ := run_copy (P := P) w t o.type e i z size bytes ht hi hz hsize hby hzs hsz ao n c hsrc h63 hbytes;refine wpList_plain hgd fun K hK => ?_
 have hs : a.eval (.const (.slice none 0 0)) = .slice none 0 0 := rfl;unfold Oper.wp execOp;simp only [ho, resolve, invoke, builtin, Sem.run_bind, Sem.run_pure, Result.andThen_ok, List.map_toArray, List.map_cons, List.map_nil, hs, hx, hr];exact hK _ _ (h ao' cap' w' hC)
theorem Core.cells {w0 w : World} {m : Nat} {N : Val -> Nat -> Nat -> Prop} {x : Val} {b o : Nat} (h : Core w0 w m N x b o) : ∀ j, j < 5 -> ∃ u, w.cell? ⟨b, o + j, none⟩ = some u /\ u.oneCell' = true := by
 obtain ⟨h0, h1, h2, ⟨lv, hl, hL⟩, ⟨fv, hf, hF⟩⟩ := h;obtain ⟨al, cl, rfl⟩ := rep_formL hL;obtain ⟨af, cf, rfl⟩ := rep_formF hF;intro j hj
 match j, hj with
 | 0, _ => exact ⟨_, h0, rfl⟩
 | 1, _ => exact ⟨_, h1, rfl⟩
 | 2, _ => exact ⟨_, h2, rfl⟩
 | 3, _ => exact ⟨_, hl, rfl⟩
 | 4, _ => exact ⟨_, hf, rfl⟩
theorem srcL {w0 w : World} {Bs S : Nat} (hw : Sub w0 w) {m : Nat} {ao : Option Addr} {cap : Nat} {l : List Val} (h : OldL w0 m (.slice ao l.length cap) l \/ NewL (Nw w0 Bs S m w) (.slice ao l.length cap) l) : Source w 5 ao l.length := by
 rcases Nat.eq_zero_or_pos l.length with h0 | hpos
 ·exact .inl h0
 right;obtain ⟨p, off, rfl⟩ : ∃ p off, ao = some ⟨p, off, none⟩ := by
  rcases h with ⟨ao2, c2, e, h⟩ | ⟨ao2, c2, e, h⟩
  ·simp only [Value.slice.injEq] at e;rcases h with h | ⟨b, o, e2, _⟩
   ·omega
   ·exact ⟨b, o, e.1.trans e2⟩
  ·simp only [Value.slice.injEq] at e;rcases h with h | ⟨g, e2, _⟩
   ·omega
   ·exact ⟨g, 0, e.1.trans e2⟩
 refine ⟨p, off, rfl, fun j hj => ?_⟩;have hi : j / 5 < l.length := by omega
 cases m with
 | zero =>
  exfalso;rcases h with ⟨ao, cp, e, hr⟩ | ⟨ao, cp, e, hr⟩
  ·rcases hr with hr | ⟨b, o, _, hr⟩
   ·omega
   ·obtain ⟨_, _, _, z, _, hm⟩ := hr (j / 5) hi; exact hm
  ·rcases hr with hr | ⟨g, _, hr⟩
   ·omega
   ·exact hr (j / 5) _ (List.getElem?_eq_getElem hi)
 | succ m =>
  have hc := (rep_coreL hw h (j / 5) _ (List.getElem?_eq_getElem hi)).cells (j % 5) (by omega);rw [show off + j / 5 * 5 + j % 5 = off + j by omega] at hc;exact hc
theorem srcF {w0 w : World} {Bs S : Nat} (hw : Sub w0 w) {m : Nat} {ao : Option Addr} {cap : Nat} {l : List (ByteArray × Val)} (h : OldF w0 m (.slice ao l.length cap) l \/ NewF w (Nw w0 Bs S m w) (.slice ao l.length cap) l) : Source w 6 ao l.length := by
 rcases Nat.eq_zero_or_pos l.length with h0 | hpos
 ·exact .inl h0
 right;obtain ⟨p, off, rfl⟩ : ∃ p off, ao = some ⟨p, off, none⟩ := by
  rcases h with ⟨ao2, c2, e, h⟩ | ⟨ao2, c2, e, h⟩
  ·simp only [Value.slice.injEq] at e;rcases h with h | ⟨b, o, e2, _⟩
   ·omega
   ·exact ⟨b, o, e.1.trans e2⟩
  ·simp only [Value.slice.injEq] at e;rcases h with h | ⟨g, e2, _⟩
   ·omega
   ·exact ⟨g, 0, e.1.trans e2⟩
 refine ⟨p, off, rfl, fun j hj => ?_⟩;have hi : j / 6 < l.length := by omega
 cases m with
 | zero =>
  exfalso;rcases h with ⟨ao, cp, e, hr⟩ | ⟨ao, cp, e, hr⟩
  ·rcases hr with hr | ⟨b, o, _, hr⟩
   ·omega
   ·obtain ⟨_, _, _, z, _, _, _, hm⟩ := hr (j / 6) hi; exact hm
  ·rcases hr with hr | ⟨g, _, _, hr⟩
   ·omega
   ·exact (hr (j / 6) _ (List.getElem?_eq_getElem hi)).2
 | succ m =>
  have hcc := rep_coreF hw h (j / 6) _ (List.getElem?_eq_getElem hi);rcases Nat.eq_zero_or_pos (j % 6) with h0 | h1
  ·exact ⟨.string l[j / 6].1, by rw [show off + j = off + j / 6 * 6 by omega]; exact hcc.1, rfl⟩
  ·have hc := hcc.2.cells (j % 6 - 1) (by omega);rw [show off + j / 6 * 6 + 1 + (j % 6 - 1) = off + j by omega] at hc;exact hc
theorem stepL {w0 w w2 : World} {Bs S : Nat} (hw : Sub w0 w) (hbig : Bs <= w.heap.size /\ S < w.heap.size) {b o n cap cap' : Nat} {ao ao' : Option Addr} (hC : Copied w w2 61 5 ao n ao') (hp : Place w b o) (hcell : w.cell? ⟨b, o + 3, none⟩ = some (.slice ao n cap)) :
  (∀ (m : Nat) (x : Val) (b2 o2 : Nat), Nw w0 Bs S m w x b2 o2 -> Nw w0 Bs S m (w2.setCell ⟨b, o + 3, none⟩ (.slice ao' n cap')) x b2 o2) /\
  (∀ (m : Nat) (l : List Val), (OldL w0 m (.slice ao n cap) l \/ NewL (Nw w0 Bs S m w) (.slice ao n cap) l) -> NewL (Nw w0 Bs S m (w2.setCell ⟨b, o + 3, none⟩ (.slice ao' n cap'))) (.slice ao' n cap') l) := by
 obtain ⟨hb, hC⟩ := hC;have hw2 := hw.below hb;have hp2 : Place w2 b o := by
  rcases hp with ⟨⟨cs, h⟩, e⟩ | ⟨⟨cs, h⟩, e⟩
  ·exact .inl ⟨⟨cs, (hb.block b (blt h)).trans h⟩, e⟩
  ·exact .inr ⟨⟨cs, (hb.block b (blt h)).trans h⟩, e⟩
 have hk : ∀ (m : Nat) (x : Val) (b2 o2 : Nat), Nw w0 Bs S m w x b2 o2 -> Nw w0 Bs S m w2 x b2 o2 := fun m x b2 o2 h => Nw.kept w0 Bs S (fun c hc => hb.block c hc) m h
 have hcp : ∀ (m : Nat) (l : List Val), (OldL w0 m (.slice ao n cap) l \/ NewL (Nw w0 Bs S m w2) (.slice ao n cap) l) -> NewL (Nw w0 Bs S m w2) (.slice ao' n cap') l := fun m l hr => by
  rcases hC with h0 | ⟨h, p, off, rfl, rfl, hh, hkd, hc⟩
  ·obtain ⟨ao2, c2, e⟩ := rep_formL hr;simp only [Value.slice.injEq] at e;exact ⟨ao', cap', by rw [e.2.1], .inl (by omega)⟩
  ·refine copyL hw2 ⟨Nat.le_trans hbig.1 hh, by omega⟩ hkd (fun j hj => ?_) m l hr;obtain ⟨u, h1, h2⟩ := hc j hj;rw [h2, kept_cell hb h1]
 have hs := fun (m : Nat) (x : Val) (b2 o2 : Nat) (h : Nw w0 Bs S m w2 x b2 o2) => Nw.setL (lv' := .slice ao' n cap') hp2 (kept_cell hb hcell) (fun m l hr => .inr (hcp m l hr)) m h
 exact ⟨fun m x b2 o2 h => hs m x b2 o2 (hk m x b2 o2 h), fun m l hr => (hcp m l (hr.imp id (fun h => h.imp (hk m)))).imp (hs m)⟩
theorem stepF {w0 w w2 : World} {Bs S : Nat} (hw : Sub w0 w) (hbig : Bs <= w.heap.size /\ S < w.heap.size) {b o n cap cap' : Nat} {ao ao' : Option Addr} (hC : Copied w w2 68 6 ao n ao') (hp : Place w b o) (hcell : w.cell? ⟨b, o + 4, none⟩ = some (.slice ao n cap)) :
  (∀ (m : Nat) (x : Val) (b2 o2 : Nat), Nw w0 Bs S m w x b2 o2 -> Nw w0 Bs S m (w2.setCell ⟨b, o + 4, none⟩ (.slice ao' n cap')) x b2 o2) /\
  (∀ (m : Nat) (l : List (ByteArray × Val)), (OldF w0 m (.slice ao n cap) l \/ NewF w (Nw w0 Bs S m w) (.slice ao n cap) l) -> NewF (w2.setCell ⟨b, o + 4, none⟩ (.slice ao' n cap')) (Nw w0 Bs S m (w2.setCell ⟨b, o + 4, none⟩ (.slice ao' n cap'))) (.slice ao' n cap') l) := by
 obtain ⟨hb, hC⟩ := hC;have hw2 := hw.below hb;have hp2 : Place w2 b o := by
  rcases hp with ⟨⟨cs, h⟩, e⟩ | ⟨⟨cs, h⟩, e⟩
  ·exact .inl ⟨⟨cs, (hb.block b (blt h)).trans h⟩, e⟩
  ·exact .inr ⟨⟨cs, (hb.block b (blt h)).trans h⟩, e⟩
 have hk : ∀ (m : Nat) (x : Val) (b2 o2 : Nat), Nw w0 Bs S m w x b2 o2 -> Nw w0 Bs S m w2 x b2 o2 := fun m x b2 o2 h => Nw.kept w0 Bs S (fun c hc => hb.block c hc) m h
 have hcp : ∀ (m : Nat) (l : List (ByteArray × Val)), (OldF w0 m (.slice ao n cap) l \/ NewF w2 (Nw w0 Bs S m w2) (.slice ao n cap) l) -> NewF w2 (Nw w0 Bs S m w2) (.slice ao' n cap') l := fun m l hr => by
  rcases hC with h0 | ⟨h, p, off, rfl, rfl, hh, hkd, hc⟩
  ·obtain ⟨ao2, c2, e⟩ := rep_formF hr;simp only [Value.slice.injEq] at e;exact ⟨ao', cap', by rw [e.2.1], .inl (by omega)⟩
  ·refine copyF hw2 ⟨Nat.le_trans hbig.1 hh, by omega⟩ hkd (fun j hj => ?_) m l hr;obtain ⟨u, h1, h2⟩ := hc j hj;rw [h2, kept_cell hb h1]
 have hs := fun (m : Nat) (x : Val) (b2 o2 : Nat) (h : Nw w0 Bs S m w2 x b2 o2) => Nw.setF (lv' := .slice ao' n cap') hp2 (kept_cell hb hcell) (fun m l hr => .inr (hcp m l hr)) m h
 exact ⟨fun m x b2 o2 h => hs m x b2 o2 (hk m x b2 o2 h), fun m l hr => (hcp m l (hr.imp id (fun h => h.imp (hk m) (fun b ⟨cs, h⟩ => ⟨cs, (hb.block b (blt h)).trans h⟩) (fun _ _ _ _ h => kept_cell hb h)))).imp (hs m) (fun b h => h.set _ _) (fun b i u hk hu => set_other (name_apart hp2 hk 4 (by omega)) hu)⟩
end V
namespace V
theorem free_place {w : World} {b o : Nat} (h : Place w b o) (j : Nat) : w.frozen? ⟨b, j, none⟩ = false := by
 rcases h with ⟨⟨cs, h⟩, _⟩ | ⟨⟨cs, h⟩, _⟩
 ·exact free_of_block h j
 ·exact free_of_block h j
theorem Place.kept {w w' : World} {b o : Nat} (h : Place w b o) (hb : Below w.heap.size w w') : Place w' b o := by
 rcases h with ⟨⟨cs, h⟩, e⟩ | ⟨⟨cs, h⟩, e⟩
 ·exact .inl ⟨⟨cs, (hb.block b (blt h)).trans h⟩, e⟩
 ·exact .inr ⟨⟨cs, (hb.block b (blt h)).trans h⟩, e⟩
theorem Place.set {w : World} {b o : Nat} (p : Addr) (v : Value) (h : Place w b o) : Place (w.setCell p v) b o := by
 rcases h with ⟨h, e⟩ | ⟨h, e⟩
 ·exact .inl ⟨h.set p v, e⟩
 ·exact .inr ⟨h.set p v, e⟩
theorem ne34 (b o : Nat) : (⟨b, o + 3, none⟩ : Addr) ≠ ⟨b, o + 4, none⟩ := by simp
theorem ne43 (b o : Nat) : (⟨b, o + 4, none⟩ : Addr) ≠ ⟨b, o + 3, none⟩ := by simp
theorem nodeL {w0 wr w2 : World} {Bs S : Nat} {m : Nat} {x : Val} {b o cl cf cap' : Nat} {al af ao' : Option Addr} (hw : Sub w0 wr) {wE : World} (hwE : Below wE.heap.size wE wr) (hE : wE.heap.size <= b) (h0 : w0.heap.size <= Bs) (hbig : Bs <= wr.heap.size /\ S < wr.heap.size) (hb : Bs <= b /\ b ≠ S) (hp : Place wr b o) (k3 : wr.cell? ⟨b, o + 3, none⟩ = some (.slice al x.l.length cl)) (k4 : wr.cell? ⟨b, o + 4, none⟩ = some (.slice af x.f.length cf))
  (hL : OldL w0 m (.slice al x.l.length cl) x.l \/ NewL (Nw w0 Bs S m wr) (.slice al x.l.length cl) x.l) (hF : OldF w0 m (.slice af x.f.length cf) x.f \/ NewF wr (Nw w0 Bs S m wr) (.slice af x.f.length cf) x.f) (hC : Copied wr w2 61 5 al x.l.length ao') (wL : World) (hwL : wL = w2.setCell ⟨b, o + 3, none⟩ (.slice ao' x.l.length cap')) :
  Sub w0 wL /\ (∀ (m : Nat) (x : Val) (b2 o2 : Nat), Nw w0 Bs S m wr x b2 o2 -> Nw w0 Bs S m wL x b2 o2) /\ NewL (Nw w0 Bs S m wL) (.slice ao' x.l.length cap') x.l /\ wL.cell? ⟨b, o + 3, none⟩ = some (.slice ao' x.l.length cap') /\ wL.cell? ⟨b, o + 4, none⟩ = some (.slice af x.f.length cf) /\
   (OldF w0 m (.slice af x.f.length cf) x.f \/ NewF wL (Nw w0 Bs S m wL) (.slice af x.f.length cf) x.f) /\ Source wL 6 af x.f.length /\ Place wL b o /\ (∀ c, c < wr.heap.size -> c ≠ b -> wL.heap[c]? = wr.heap[c]?) /\ wr.heap.size <= wL.heap.size /\ Below wE.heap.size wE wL /\ (x.l.length = 0 \/ ∃ h, ao' = some ⟨h, 0, none⟩ /\ wE.heap.size <= h) := by
 have hs := stepL (cap' := cap') hw hbig hC hp k3;have hb2 := hC.1;have hw2 := hw.below hb2;have hwb : Sub w0 wL := by rw [hwL]; exact hw2.setCell (p := ⟨b, o + 3, none⟩) (Nat.le_trans h0 hb.1) _
 have hrF : OldF w0 m (.slice af x.f.length cf) x.f \/ NewF wL (Nw w0 Bs S m wL) (.slice af x.f.length cf) x.f := by
  rcases hF with h | h
  ·exact .inl h
  ·right;rw [hwL];refine h.imp (fun x b2 o2 hn => hs.1 m x b2 o2 hn) (fun c ⟨cs, hc⟩ => Kind.set _ _ ⟨cs, (hb2.block c (blt hc)).trans hc⟩) (fun c i u hk hu => ?_);obtain ⟨cs, hc⟩ := hk;exact set_other (name_apart (hp.kept hb2) ⟨cs, (hb2.block c (blt hc)).trans hc⟩ 3 (by omega)) (kept_cell hb2 hu)
 refine ⟨hwb, by rw [hwL]; exact hs.1, by rw [hwL]; exact hs.2 m x.l hL, by rw [hwL]; exact set_same (kept_cell hb2 k3), by rw [hwL]; exact set_other (ne34 b o) (kept_cell hb2 k4), hrF, srcF hwb hrF, by rw [hwL]; exact (hp.kept hb2).set _ _, fun c hc hcb => ?_, ?_⟩
 ·rw [hwL, heap_setCell_other w2 _ c _ hcb]; exact hb2.block c hc
 ·rw [hwL, World.size_setCell]; exact ⟨hb2.size, (hwE.trans (hb2.mono hwE.size)).setCell (p := ⟨b, o + 3, none⟩) hE _, hC.2.imp id (fun ⟨h, _, _, e, _, hh, _⟩ => ⟨h, e, Nat.le_trans hwE.size hh⟩)⟩
theorem nodeF {w0 wr w2 : World} {Bs S : Nat} {m : Nat} {x : Val} {b o cl cf cap' : Nat} {al af ao' : Option Addr} (hw : Sub w0 wr) {wE : World} (hwE : Below wE.heap.size wE wr) (hE : wE.heap.size <= b) (h0 : w0.heap.size <= Bs) (hbig : Bs <= wr.heap.size /\ S < wr.heap.size) (hb : Bs <= b /\ b ≠ S) (hp : Place wr b o) (k3 : wr.cell? ⟨b, o + 3, none⟩ = some (.slice al x.l.length cl)) (k4 : wr.cell? ⟨b, o + 4, none⟩ = some (.slice af x.f.length cf))
  (hL : NewL (Nw w0 Bs S m wr) (.slice al x.l.length cl) x.l) (hF : OldF w0 m (.slice af x.f.length cf) x.f \/ NewF wr (Nw w0 Bs S m wr) (.slice af x.f.length cf) x.f) (hC : Copied wr w2 68 6 af x.f.length ao') (wF : World) (hwF : wF = w2.setCell ⟨b, o + 4, none⟩ (.slice ao' x.f.length cap')) :
  Sub w0 wF /\ (∀ (m : Nat) (x : Val) (b2 o2 : Nat), Nw w0 Bs S m wr x b2 o2 -> Nw w0 Bs S m wF x b2 o2) /\ NewL (Nw w0 Bs S m wF) (.slice al x.l.length cl) x.l /\ NewF wF (Nw w0 Bs S m wF) (.slice ao' x.f.length cap') x.f /\ wF.cell? ⟨b, o + 3, none⟩ = some (.slice al x.l.length cl) /\ wF.cell? ⟨b, o + 4, none⟩ = some (.slice ao' x.f.length cap') /\
   Place wF b o /\ (∀ c, c < wr.heap.size -> c ≠ b -> wF.heap[c]? = wr.heap[c]?) /\ wr.heap.size <= wF.heap.size /\ Below wE.heap.size wE wF /\ (x.f.length = 0 \/ ∃ h, ao' = some ⟨h, 0, none⟩ /\ wE.heap.size <= h) := by
 have hs := stepF (cap' := cap') hw hbig hC hp k4;have hb2 := hC.1;have hw2 := hw.below hb2;have hwb : Sub w0 wF := by rw [hwF]; exact hw2.setCell (p := ⟨b, o + 4, none⟩) (Nat.le_trans h0 hb.1) _
 refine ⟨hwb, by rw [hwF]; exact hs.1, by rw [hwF]; exact hL.imp (hs.1 m), by rw [hwF]; exact hs.2 m x.f hF, by rw [hwF]; exact set_other (ne43 b o) (kept_cell hb2 k3), by rw [hwF]; exact set_same (kept_cell hb2 k4), by rw [hwF]; exact (hp.kept hb2).set _ _, fun c hc hcb => ?_, ?_⟩
 ·rw [hwF, heap_setCell_other w2 _ c _ hcb]; exact hb2.block c hc
 ·rw [hwF, World.size_setCell]; exact ⟨hb2.size, (hwE.trans (hb2.mono hwE.size)).setCell (p := ⟨b, o + 4, none⟩) hE _, hC.2.imp id (fun ⟨h, _, _, e, _, hh, _⟩ => ⟨h, e, Nat.le_trans hwE.size hh⟩)⟩
theorem repL_len {w0 w : World} {Bs S : Nat} {m : Nat} {lv : Value} {l : List Val} (h : OldL w0 m lv l \/ NewL (Nw w0 Bs S m w) lv l) : l.length <= sumL (parts m) l := by
 cases m with
 | zero =>
  rcases Nat.eq_zero_or_pos l.length with h0 | hpos
  ·omega
  ·exfalso;rcases h with ⟨ao, cp, e, hr⟩ | ⟨ao, cp, e, hr⟩
   ·rcases hr with hr | ⟨b, o, _, hr⟩
    ·omega
    ·obtain ⟨_, _, _, z, _, hm⟩ := hr 0 hpos; exact hm
   ·rcases hr with hr | ⟨g, _, hr⟩
    ·omega
    ·exact hr 0 _ (List.getElem?_eq_getElem hpos)
 | succ m =>
  clear h;induction l with
  | nil => simp
  | cons a l ih => unfold sumL at *; rw [List.map_cons, List.sum_cons, List.length_cons]; have := parts_pos m a; omega
theorem repF_len {w0 w : World} {Bs S : Nat} {m : Nat} {lv : Value} {l : List (ByteArray × Val)} (h : OldF w0 m lv l \/ NewF w (Nw w0 Bs S m w) lv l) : l.length <= sumF (fun x => parts m x.2) l := by
 cases m with
 | zero =>
  rcases Nat.eq_zero_or_pos l.length with h0 | hpos
  ·omega
  ·exfalso;rcases h with ⟨ao, cp, e, hr⟩ | ⟨ao, cp, e, hr⟩
   ·rcases hr with hr | ⟨b, o, _, hr⟩
    ·omega
    ·obtain ⟨_, _, _, z, _, _, _, hm⟩ := hr 0 hpos; exact hm
   ·rcases hr with hr | ⟨g, _, _, hr⟩
    ·omega
    ·exact (hr 0 _ (List.getElem?_eq_getElem hpos)).2
 | succ m =>
  clear h;induction l with
  | nil => simp
  | cons a l ih => unfold sumF at *; rw [List.map_cons, List.sum_cons, List.length_cons]; have := parts_pos m a.2; omega
theorem nw_parts (w0 : World) (Bs S : Nat) : ∀ (m : Nat) {w : World} {x : Val} {b o : Nat}, Nw w0 Bs S m w x b o -> Sub w0 w -> parts (m + 1) x = parts m x := fun m w x b o h hw => by
 obtain ⟨c0, c1, c2, c3, c4, hm, _⟩ := Nw.at w0 Bs S m h hw;exact parts_up m hm
def St (w0 wE : World) (Bs S : Nat) (m : Nat) (v x : Val) (b o : Nat) (lv fv : Value) (w : World) : Prop :=
 Nw w0 Bs S (m + 1) w v wE.heap.size 0 /\ NewL (Nw w0 Bs S m w) lv x.l /\ NewF w (Nw w0 Bs S m w) fv x.f /\ w.cell? ⟨b, o + 3, none⟩ = some lv /\ w.cell? ⟨b, o + 4, none⟩ = some fv /\ Place w b o /\ w.heap[S]? = some (.cells #[.int .i64 0, .int .i64 0, .string ⟨#[]⟩, .slice none 0 0, .slice none 0 0] 61 (0, 0)) /\ Sub w0 w /\ Below wE.heap.size wE w
theorem St.grown {w0 wE : World} {Bs S : Nat} {m : Nat} {v x : Val} {b o : Nat} {lv fv : Value} {w w' : World} {row : Option Nat} (h : St w0 wE Bs S m v x b o lv fv w) (hg : w.grownBy w' row) (hr : ∀ c, row = some c -> Kind w c 223 /\ w0.heap.size <= c /\ wE.heap.size <= c) : St w0 wE Bs S m v x b o lv fv w' := by
 obtain ⟨h1, h2, h3, h4, h5, h6, h7, h8, h9⟩ := h;have hn : ∀ (m : Nat) (x : Val) (b o : Nat), Nw w0 Bs S m w x b o -> Nw w0 Bs S m w' x b o := fun m x b o hh => Nw.grown w0 Bs S hg (fun c e => (hr c e).1) m hh
 have hb : ∀ c t, t ≠ 223 -> Kind w c t -> w'.heap[c]? = w.heap[c]? := fun c t ht hk => by
  obtain ⟨cs, hcs⟩ := hk;refine hg.block c (blt hcs) (fun e => ?_);obtain ⟨cs2, hh⟩ := (hr c e.symm).1;rw [hcs] at hh;simp only [Option.some.injEq, Obj.cells.injEq] at hh;exact ht hh.2.1
 have hc : ∀ (c t j : Nat) (u : Value), t ≠ 223 -> Kind w c t -> w.cell? ⟨c, j, none⟩ = some u -> w'.cell? ⟨c, j, none⟩ = some u := fun c t j u ht hk h => by
  have e := hb c t ht hk;unfold World.cell? at h ⊢;simp only at h ⊢;rw [e]; exact h
 have hpc : ∀ (j : Nat) (u : Value), w.cell? ⟨b, j, none⟩ = some u -> w'.cell? ⟨b, j, none⟩ = some u := fun j u h => by
  rcases h6 with ⟨hk, _⟩ | ⟨hk, _⟩
  ·exact hc b 61 j u (by decide) hk h
  ·exact hc b 68 j u (by decide) hk h
 have hkk : ∀ c t, t ≠ 223 -> Kind w c t -> Kind w' c t := fun c t ht hk => by
  obtain ⟨cs, hcs⟩ := id hk;exact ⟨cs, (hb c t ht hk).trans hcs⟩
 refine ⟨hn _ _ _ _ h1, h2.imp (hn m), h3.imp (hn m) (fun c hk => hkk c 68 (by decide) hk) (fun c i u hk hu => hc c 68 _ u (by decide) hk hu), hpc _ _ h4, hpc _ _ h5, ?_, (hb _ 61 (by decide) ⟨_, h7⟩).trans h7, ?_⟩
 ·rcases h6 with ⟨hk, e⟩ | ⟨hk, e⟩
  ·exact .inl ⟨hkk b 61 (by decide) hk, e⟩
  ·exact .inr ⟨hkk b 68 (by decide) hk, e⟩
 ·exact ⟨h8.grown hg (fun c e => (hr c e).2.1), h9.grown hg (Nat.le_trans h9.size (Nat.le_refl _)) (fun c e => (hr c e).2.2)⟩
theorem St.alloc {w0 wE : World} {Bs S : Nat} {m : Nat} {v x : Val} {b o : Nat} {lv fv : Value} {w : World} (h : St w0 wE Bs S m v x b o lv fv w) (ob : Obj) : St w0 wE Bs S m v x b o lv fv (w.alloc ob) :=
 h.grown (row := none) ⟨rfl, rfl, rfl, by simp, fun k hk _ => heap_alloc_old w ob hk⟩ (fun c e => by cases e)
theorem own_kind {w : World} {base n cap g : Nat} {xs : List Value} (h : w.ownsRow base 223 1 (.slice (some ⟨g, 0, none⟩) n cap) n xs) : Kind w g 223 /\ base <= g := by
 rcases h.2 with ⟨h, _⟩ | ⟨g2, c2, cur, h, hb, hh, _⟩
 ·cases h
 ·simp only [Value.slice.injEq, Option.some.injEq, Addr.mk.injEq, and_true] at h;obtain ⟨rfl, _⟩ := h;exact ⟨⟨cur, hh⟩, hb⟩
theorem own_row {w : World} {base n cap : Nat} {ao : Option Addr} {xs : List Value} (h : w.ownsRow base 223 1 (.slice ao n cap) n xs) : ∀ c, (Value.slice ao n cap).ownBlock = some c -> Kind w c 223 /\ base <= c := by
 intro c hc;rcases h.2 with ⟨h, _⟩ | ⟨g2, c2, cur, h, hb, hh, _⟩
 ·rw [h] at hc; simp [Value.ownBlock] at hc
 ·rw [h] at hc;simp only [Value.ownBlock, Option.some.injEq] at hc;subst hc;exact ⟨⟨cur, hh⟩, hb⟩
theorem own_heap {w w' : World} {base n cap g : Nat} {xs : List Value} (h : w.ownsRow base 223 1 (.slice (some ⟨g, 0, none⟩) n cap) n xs) (hg : w'.heap[g]? = w.heap[g]?) : w'.ownsRow base 223 1 (.slice (some ⟨g, 0, none⟩) n cap) n xs := by
 refine ⟨h.1, ?_⟩;rcases h.2 with h | ⟨g2, c2, cur, e, hb, hh, r⟩
 ·exact .inl h
 ·have e2 := e;simp only [Value.slice.injEq, Option.some.injEq, Addr.mk.injEq, and_true] at e2;obtain ⟨rfl, _⟩ := e2;exact .inr ⟨g, c2, cur, e, hb, hg.trans hh, r⟩
def Core5 (w0 w : World) (Bs S m : Nat) (v : Val) (cs : List Value) : Prop := ∃ lv fv, cs = [.int .i64 v.kind, .int .i64 v.n, .string v.s, lv, fv] /\ (OldL w0 m lv v.l \/ NewL (Nw w0 Bs S m w) lv v.l) /\ (OldF w0 m fv v.f \/ NewF w (Nw w0 Bs S m w) fv v.f)
theorem Core5.old {w0 w : World} {Bs S m : Nat} {v : Val} {cs : List Value} (h : Mem (m + 1) w0 v cs) : Core5 w0 w Bs S m v cs := by
 obtain ⟨lv, fv, e, hl, hf⟩ := h;exact ⟨lv, fv, e, .inl hl, .inl hf⟩
theorem Core5.node {w0 w w1 : World} {Bs S m g : Nat} {v : Val} {c0 c1 c2 c3 c4 : Value} (h : Core5 w0 w Bs S m v [c0, c1, c2, c3, c4]) (hw : ∀ c, c < w.heap.size -> w1.heap[c]? = w.heap[c]?) (hg : Bs <= g /\ g ≠ S) (hA : w1.heap[g]? = some (.cells #[c0, c1, c2, c3, c4] 61 (0, 0))) : Nw w0 Bs S (m + 1) w1 v g 0 := by
 obtain ⟨lv, fv, e, hl, hf⟩ := h;obtain ⟨rfl, rfl, rfl, rfl, rfl⟩ := ij5 e;have hc : ∀ (c j : Nat) (u : Value), w.cell? ⟨c, j, none⟩ = some u -> w1.cell? ⟨c, j, none⟩ = some u := fun c j u h => by
  have hlt := World.block_lt_of_cell? w _ h;have e := hw c hlt;unfold World.cell? at h ⊢;simp only at h ⊢;rw [e]; exact h
 refine ⟨hg, .inl ⟨⟨_, hA⟩, rfl⟩, cell_of_block hA 0 _ rfl, cell_of_block hA 1 _ rfl, cell_of_block hA 2 _ rfl, ⟨_, cell_of_block hA 3 _ rfl, hl.imp id (fun h => h.imp (fun _ _ _ q => Nw.kept w0 Bs S hw m q))⟩, ⟨_, cell_of_block hA 4 _ rfl, hf.imp id (fun h => h.imp (fun _ _ _ q => Nw.kept w0 Bs S hw m q) (fun b ⟨cs, h⟩ => ⟨cs, by rw [hw b (blt h)]; exact h⟩) (fun _ _ _ _ h => hc _ _ _ h))⟩⟩
end V
end Go.Proofs.YtcekcfjabhlheaaGreatDoor.Vx
