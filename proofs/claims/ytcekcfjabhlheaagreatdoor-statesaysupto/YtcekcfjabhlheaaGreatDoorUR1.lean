/- StateSays: UQ UR1. -/
import Derived.Test.YtcekcfjabhlheaaGreatDoorUP
import Derived.WalkSmall
import Derived.Deep.LoopGhost
namespace Go.Proofs.YtcekcfjabhlheaaGreatDoor.Vx
open Go.RowKit
theorem cell_block {w w' : World} {a : Addr} {v : Value} (h : w.cell? a = some v) (hb : w'.heap[a.block]? = w.heap[a.block]?) : w'.cell? a = some v := by
 unfold World.cell? at h ⊢;rw [hb];exact h
theorem hole_exists (w : World) (ex : Nat -> Prop) : ∃ w0 : World, w0.heap.size = w.heap.size /\ (∀ c, ¬ ex c -> w0.heap[c]? = w.heap[c]?) /\ ∀ a v, ex a.block -> w0.cell? a ≠ some v := by
 classical
 refine ⟨{ w with heap := w.heap.mapIdx (fun i o => if ex i then .map #[] 0 else o) }, by simp, fun c hc => ?_, fun a v he h => ?_⟩
 ·simp only [Array.getElem?_mapIdx, if_neg hc];cases w.heap[c]? <;> rfl
 ·unfold World.cell? at h;simp only [Array.getElem?_mapIdx, if_pos he] at h;cases hh : w.heap[a.block]? with
  | none => rw [hh] at h; cases h
  | some o => rw [hh] at h; cases h
namespace P
structure Fm where
 pb : Nat
 po : Nat
 m : Nat
 e : Ex
 gv : Value
 L : List (Val × List Value)
def Fm.cells (f : Fm) : List Value := [.pointer (some ⟨f.pb, f.po, none⟩), f.gv]
structure FmOk (base : Nat) (De D : Nat -> Prop) (w : World) (f : Fm) : Prop where
 plain : ∃ cs t, w.heap[f.pb]? = some (.cells cs t (0, 0))
 pbD : De f.pb
 ex : ∃ cs, (∀ j, j < 10 -> w.cell? ⟨f.pb, f.po + j, none⟩ = cs[j]?) /\ X.MemD De (f.m + 1) w f.e cs
 row : GrowD (BV f.m) 61 5 base D w f.gv f.L
 vals : f.L.map (fun x => x.1) = (f.e.a.take f.L.length).map (X.val f.m)
 few : f.L.length <= f.e.a.length
 fine : X.Fine (f.m + 1) f.e
def Link (m0 : Nat) (e0 : Ex) : List Fm -> Prop
 | [] => False
 | [f] => f.e = e0 /\ f.m = m0
 | f :: g :: r => g.e.a[g.L.length]? = some f.e /\ g.m = f.m + 1 /\ Link m0 e0 (g :: r)
def Dn (base : Nat) (De : Nat -> Prop) (w : World) (cv : Value) (st : List Fm) (c : Nat) : Prop := De c \/ (base <= c /\ c < w.heap.size /\ cv.ownBlock ≠ some c /\ ∀ f ∈ st, f.gv.ownBlock ≠ some c)
structure Stk (base m0 : Nat) (e0 : Ex) (De : Nat -> Prop) (w : World) (cv : Value) (st : List Fm) : Prop where
 own : w.ownsRow base 194 2 cv st.length (st.reverse.flatMap Fm.cells)
 ok : ∀ f ∈ st, FmOk base De (Dn base De w cv st) w f
 link : Link m0 e0 st
 dist : st.Pairwise (fun f g => ∀ c, f.gv.ownBlock = some c -> g.gv.ownBlock ≠ some c)
 de : ∀ c, De c -> c < base
 bw : base <= w.heap.size
theorem Dn.lt {base : Nat} {De : Nat -> Prop} {w : World} {cv : Value} {st : List Fm} (hde : ∀ c, De c -> c < base) (hbw : base <= w.heap.size) {c : Nat} (h : Dn base De w cv st c) : c < w.heap.size := by
 rcases h with h | h
 ·have := hde c h;omega
 ·exact h.2.1
theorem FmOk.keep {base : Nat} {De D D2 : Nat -> Prop} {w w' : World} {f : Fm} {ex : Nat -> Prop} (h : FmOk base De D w f) (hf : Fr w w' ex) (hde : ∀ c, De c -> c < w.heap.size /\ ¬ ex c) (hD : ∀ c, D c -> c < w.heap.size /\ ¬ ex c) (hg : ∀ c, f.gv.ownBlock = some c -> ¬ ex c) (hDD : ∀ c, D c -> D2 c) (hap : ∀ c, f.gv.ownBlock = some c -> ¬ D2 c) : FmOk base De D2 w' f := by
 obtain ⟨⟨cs, t, hp⟩, hpb, ⟨cs2, hc, hm⟩, hr, hv, hfe, hfi⟩ := h;have hb := hf.block f.pb (hde _ hpb).1 (hde _ hpb).2;refine ⟨⟨cs, t, hb.trans hp⟩, hpb, ⟨cs2, fun j hj => ?_, hm.to (fun c hc => hf.block c (hde c hc).1 (hde c hc).2) (fun _ h => h)⟩, hr.keep hf hD hg hDD hap, hv, hfe, hfi⟩;rw [<- hc j hj];unfold World.cell?;rw [hb]
theorem Stk.pos {base m0 : Nat} {e0 : Ex} {De : Nat -> Prop} {w : World} {cv : Value} {st : List Fm} (h : Stk base m0 e0 De w cv st) : ∃ f r, st = f :: r := by
 cases st with
 | nil => exact h.link.elim
 | cons f r => exact ⟨f, r, rfl⟩
theorem Stk.blk {base m0 : Nat} {e0 : Ex} {De : Nat -> Prop} {w : World} {cv : Value} {f : Fm} {r : List Fm} (h : Stk base m0 e0 De w cv (f :: r)) : ∃ C cap, cv = .slice (some ⟨C, 0, none⟩) (r.length + 1) cap /\ base <= C /\ C < w.heap.size /\ (∃ cur, w.heap[C]? = some (.cells cur 194 (0, 0))) /\
  (∀ i, i < r.length + 1 -> ∃ g, (f :: r).reverse[i]? = some g /\ w.cell? ⟨C, i * 2, none⟩ = some (.pointer (some ⟨g.pb, g.po, none⟩)) /\ w.cell? ⟨C, i * 2 + 1, none⟩ = some g.gv) := by
 rcases h.own.2 with ⟨_, hn⟩ | ⟨C, cap, cur, hv, hb, hh, hnc, _, hcs, htk⟩
 ·simp at hn
 ·have hlt := (blt hh)
  refine ⟨C, cap, hv, hb, hlt, ⟨cur, hh⟩, fun i hi => ?_⟩;have hi2 : i < (f :: r).reverse.length := by simpa using hi
  have hx : ((f :: r).reverse.map (fun g => (g, g.cells)))[i]? = some ((f :: r).reverse[i], ((f :: r).reverse[i]).cells) := by
   rw [List.getElem?_map, List.getElem?_eq_getElem hi2];rfl
  obtain ⟨_, h2⟩ := flat_atK 2 ((f :: r).reverse.map (fun g => (g, g.cells))) (fun x hx => by
   obtain ⟨g, _, rfl⟩ := List.mem_map.1 hx;rfl) i _ hx
  have e : ((f :: r).reverse.map (fun g => (g, g.cells))).flatMap (fun x => x.2) = (f :: r).reverse.flatMap Fm.cells := by
   rw [List.flatMap_map]
  rw [e, <- htk] at h2;have hcell : ∀ j, j < 2 -> w.cell? ⟨C, i * 2 + j, none⟩ = (((f :: r).reverse[i]).cells)[j]? := fun j hj => by
   have h3 := h2 j hj;rw [List.getElem?_toArray, List.getElem?_take, if_pos (by simp only [List.length_cons]; omega), Array.getElem?_toList] at h3;rw [cell_of_row w C _ _ _ _ hh];exact h3
  exact ⟨_, List.getElem?_eq_getElem hi2, hcell 0 (by decide), hcell 1 (by decide)⟩
theorem Stk.top {base m0 : Nat} {e0 : Ex} {De : Nat -> Prop} {w : World} {cv : Value} {f : Fm} {r : List Fm} (h : Stk base m0 e0 De w cv (f :: r)) {C cap : Nat} (hcv : cv = .slice (some ⟨C, 0, none⟩) (r.length + 1) cap) : Frm f.m C (r.length * 2) base De (Dn base De w cv (f :: r)) w f.e f.gv f.L := by
 obtain ⟨C', cap', hcv', _, _, _, hc⟩ := h.blk;rw [hcv] at hcv';simp only [Value.slice.injEq, Option.some.injEq, Addr.mk.injEq, and_true, true_and] at hcv';obtain ⟨rfl, rfl⟩ := hcv';obtain ⟨g, hg, h1, h2⟩ := hc r.length (by omega);have e : g = f := by
  rw [List.reverse_cons, List.getElem?_append_right (by simp)] at hg;simpa using hg.symm
 subst e;obtain ⟨_, _, ⟨cs, hce, hm⟩, hr, hv, hfe, hfi⟩ := h.ok g (by simp);exact ⟨⟨g.pb, g.po, cs, h1, hce, hm⟩, h2, hr, hv, hfe, hfi⟩
theorem Stk.gv_off {base m0 : Nat} {e0 : Ex} {De : Nat -> Prop} {w : World} {cv : Value} {st : List Fm} (h : Stk base m0 e0 De w cv st) {f : Fm} (hf : f ∈ st) {c : Nat} (hc : f.gv.ownBlock = some c) (w' : World) (cv' : Value) (st' : List Fm) (hf' : f ∈ st') : ¬ Dn base De w' cv' st' c := by
 rintro (h1 | h1)
 ·have := h.de c h1;have := ((h.ok f hf).row.own.lt c hc).1;omega
 ·exact h1.2.2.2 f hf' hc
theorem Stk.kept {base m0 : Nat} {e0 : Ex} {De : Nat -> Prop} {w w' : World} {cv : Value} {st : List Fm} (h : Stk base m0 e0 De w cv st) (hb : Below w.heap.size w w') : Stk base m0 e0 De w' cv st := by
 have hfr : Fr w w' (fun _ => False) := ⟨hb.os, hb.tape, hb.output, hb.size, fun c hc _ => hb.block c hc⟩
 refine ⟨owns_fr h.own hfr (fun _ _ e => e), fun f hf => ?_, h.link, h.dist, h.de, Nat.le_trans h.bw hb.size⟩;refine (h.ok f hf).keep hfr (fun c hc => ⟨by have := h.de c hc; have := h.bw; omega, fun e => e⟩) (fun c hc => ⟨Dn.lt h.de h.bw hc, fun e => e⟩) (fun _ _ e => e) (fun c hc => ?_) (fun c hc => h.gv_off hf hc _ _ _ hf);rcases hc with h1 | h1
 ·exact .inl h1
 ·exact .inr ⟨h1.1, Nat.lt_of_lt_of_le h1.2.1 hb.size, h1.2.2⟩
theorem Link.len {m0 : Nat} {e0 : Ex} : ∀ {f : Fm} {r : List Fm}, Link m0 e0 (f :: r) -> f.m + r.length = m0
 | f, [], h => by simpa using h.2
 | f, g :: r, h => by
  have h1 := Link.len h.2.2;have h2 := h.2.1;simp only [List.length_cons];omega
theorem Link.work {m0 : Nat} {e0 : Ex} : ∀ {f : Fm} {r : List Fm}, Link m0 e0 (f :: r) -> ∀ g ∈ f :: r, X.work (f.m + 1) f.e <= X.work (g.m + 1) g.e
 | f, [], _, g, hg => by
  rw [List.mem_singleton] at hg;subst hg;exact Nat.le_refl _
 | f, g' :: r, h, g, hg => by
  rcases List.mem_cons.1 hg with rfl | hg
  ·exact Nat.le_refl _
  ·have h1 := Link.work h.2.2 g hg;have h2 := X.work_less (m := g'.m) (List.mem_of_getElem? h.1);have h3 := h.2.1;rw [<- h3];omega
def rem (f : Fm) (k : Nat) : Nat := ((f.e.a.drop k).map (X.work f.m)).sum
def mu : List Fm -> Nat
 | [] => 0
 | f :: r => 1 + rem f f.L.length + (r.map (fun g => 1 + rem g (g.L.length + 1))).sum
theorem rem_next {f : Fm} {k : Nat} {x : Ex} (h : f.e.a[k]? = some x) : rem f k = X.work f.m x + rem f (k + 1) := by
 unfold rem;obtain ⟨hk, rfl⟩ := List.getElem?_eq_some_iff.1 h;rw [List.drop_eq_getElem_cons hk, List.map_cons, List.sum_cons]
theorem mu_push {f c : Fm} {r : List Fm} (hx : f.e.a[f.L.length]? = some c.e) (hm : f.m = c.m + 1) (hL : c.L = []) : mu (c :: f :: r) < mu (f :: r) := by
 simp only [mu];rw [rem_next hx, hm];have : X.work (c.m + 1) c.e = 2 + rem c 0 := by
  rw [X.work];unfold rem;simp
 rw [this, hL];simp only [List.length_nil, List.map_cons, List.sum_cons];omega
theorem mu_pop {f g g' : Fm} {r : List Fm} (he : g'.e = g.e) (hm : g'.m = g.m) (hl : g'.L.length = g.L.length + 1) : mu (g' :: r) < mu (f :: g :: r) := by
 simp only [mu];have : rem g' g'.L.length = rem g (g.L.length + 1) := by
  unfold rem;rw [he, hm, hl]
 rw [this];simp only [List.map_cons, List.sum_cons];omega
theorem child {De : Nat -> Prop} {m : Nat} {w : World} {e : Ex} {cs : List Value} (h : X.MemD De (m + 1) w e cs) {k : Nat} (hk : k < e.a.length) :
  ∃ ab ao ca x cs', cs[8]? = some (.slice (some ⟨ab, ao, none⟩) e.a.length ca) /\ e.a[k]? = some x /\ De ab /\ cs'.length = 10 /\ (∀ j, j < 10 -> w.cell? ⟨ab, ao + k * 10 + j, none⟩ = cs'[j]?) /\ X.MemD De m w x cs' /\ ∃ c t, w.heap[ab]? = some (.cells c t (0, 0)) := by
 obtain ⟨c0, c1, c2, c3, c4, av, nv, hcs, hv, ha, hn⟩ := h w (fun _ _ => rfl);obtain ⟨⟨aa, ca, rfl, h0 | ⟨ab, ao, rfl, hel⟩⟩, hpl⟩ := ha
 ·omega
 ·obtain ⟨cp, hcp⟩ := hpl ab ao _ _ rfl (by omega);obtain ⟨cs', hl, hcell, x, hx, hmx⟩ := hel k hk;have hDe : De ab := by
   apply Classical.byContradiction;intro hnot;obtain ⟨w2, _, hs2, hn2⟩ := hole_exists w (fun c => c = ab);obtain ⟨d0, d1, d2, d3, d4, av', nv', hcs', _, ha', _⟩ := h w2 (fun c hc => hs2 c (fun e => hnot (e ▸ hc)));rw [hcs] at hcs';simp only [List.cons.injEq, and_true, true_and] at hcs';obtain ⟨_, _, _, _, _, rfl, _⟩ := hcs';obtain ⟨⟨_, _, e2, h0 | ⟨ab2, ao2, e3, hel2⟩⟩, _⟩ := ha'
   ·omega
   ·simp only [Value.slice.injEq] at e2;obtain ⟨e2, _⟩ := e2;rw [e3] at e2;simp only [Option.some.injEq, Addr.mk.injEq, and_true] at e2;obtain ⟨rfl, rfl⟩ := e2;obtain ⟨cs2, hl2, hcell2, _⟩ := hel2 k hk;have h3 := hcell2 0 (by decide);rw [List.getElem?_eq_getElem (by omega)] at h3;exact hn2 _ _ rfl h3
  refine ⟨ab, ao, ca, x, cs', by rw [hcs]; rfl, hx, hDe, hl, hcell, fun w2 hw2 => ?_, cp, 170, hcp⟩;obtain ⟨d0, d1, d2, d3, d4, av', nv', hcs', _, ha', _⟩ := h w2 hw2;rw [hcs] at hcs';simp only [List.cons.injEq, and_true, true_and] at hcs';obtain ⟨_, _, _, _, _, rfl, _⟩ := hcs';obtain ⟨⟨_, _, e2, h0 | ⟨ab2, ao2, e3, hel2⟩⟩, _⟩ := ha'
  ·omega
  ·simp only [Value.slice.injEq] at e2;obtain ⟨e2, _⟩ := e2;rw [e3] at e2;simp only [Option.some.injEq, Addr.mk.injEq, and_true] at e2;obtain ⟨rfl, rfl⟩ := e2;obtain ⟨cs2, hl2, hcell2, x2, hx2, hm2⟩ := hel2 k hk;have hb := hw2 ab hDe;have hcc : cs2 = cs' := by
    refine List.ext_getElem? (fun j => ?_);by_cases hj : j < 10
    ·rw [<- hcell2 j hj, <- hcell j hj];unfold World.cell?;rw [hb]
    ·rw [List.getElem?_eq_none (by omega), List.getElem?_eq_none (by omega)]
   subst hcc;rw [hx] at hx2;cases hx2;exact hm2
theorem Stk.away {base m0 : Nat} {e0 : Ex} {De : Nat -> Prop} {w : World} {cv : Value} {f : Fm} {r : List Fm} (h : Stk base m0 e0 De w cv (f :: r)) {x : Ex} {ab ao : Nat} {cs' : List Value} (hx : f.e.a[f.L.length]? = some x) (hc : ∀ j, j < 10 -> w.cell? ⟨ab, ao + j, none⟩ = cs'[j]?) (hl : cs'.length = 10) (hm : X.MemD De f.m w x cs') : ∀ g ∈ f :: r, ¬ (g.pb = ab /\ g.po = ao) := by
 rintro g hg ⟨rfl, rfl⟩;obtain ⟨_, _, ⟨cs, hcg, hmg⟩, _, _, _, hfi⟩ := h.ok g hg;have hlg : cs.length = 10 := by
  obtain ⟨_, _, _, _, _, _, _, e, _⟩ := hmg w (fun _ _ => rfl);rw [e];rfl
 have e : cs = cs' := by
  refine List.ext_getElem? (fun j => ?_);by_cases hj : j < 10
  ·rw [<- hcg j hj, <- hc j hj]
  ·rw [List.getElem?_eq_none (by omega), List.getElem?_eq_none (by omega)]
 subst e;have e2 := X.mem_same _ _ (hmg w (fun _ _ => rfl)) (hm w (fun _ _ => rfl));have h1 := h.link.work g hg;have hfx := (h.ok f (by simp)).fine.2.2.2.2 x (List.mem_of_getElem? hx);have h2 := X.work_less (m := f.m) (List.mem_of_getElem? hx);rw [e2] at hfi h1;rw [X.work_same hfi hfx] at h1;omega
end P
namespace P
theorem Stk.chain_off {base m0 : Nat} {e0 : Ex} {De : Nat -> Prop} {w : World} {cv : Value} {st : List Fm} (h : Stk base m0 e0 De w cv st) {f : Fm} (hf : f ∈ st) : ∀ c, f.gv.ownBlock = some c -> cv.ownBlock ≠ some c := owns_two (h.ok f hf).row.own h.own (by decide)
theorem Stk.push {base m0 : Nat} {e0 : Ex} {De : Nat -> Prop} {w w' : World} {cv : Value} {f : Fm} {r : List Fm} (h : Stk base m0 e0 De w cv (f :: r)) {c : Fm} (hgv : c.gv = .slice none 0 0) (hL : c.L = []) (hpl : ∃ cs t, w.heap[c.pb]? = some (.cells cs t (0, 0))) (hpb : De c.pb)
  (hex : ∃ cs, (∀ j, j < 10 -> w.cell? ⟨c.pb, c.po + j, none⟩ = cs[j]?) /\ X.MemD De (c.m + 1) w c.e cs) (hx : f.e.a[f.L.length]? = some c.e) (hm : f.m = c.m + 1) {g cap : Nat}
  (ho : w'.ownsRow base 194 2 (.slice (some ⟨g, 0, none⟩) (r.length + 2) cap) (r.length + 2) ((f :: r).reverse.flatMap Fm.cells ++ c.cells)) (hg : w.grownBy w' cv.ownBlock) (hat : cv.ownBlock = some g \/ w.heap.size <= g) :
  Stk base m0 e0 De w' (.slice (some ⟨g, 0, none⟩) (r.length + 2) cap) (c :: f :: r) := by
 have hfr : Fr w w' (fun x => cv.ownBlock = some x) := ⟨hg.os, hg.tape, hg.output, hg.size, fun x hx he => hg.block x hx (fun e => he e.symm)⟩
 have hfi : X.Fine (c.m + 1) c.e := by
  have := (h.ok f (by simp)).fine.2.2.2.2 c.e (List.mem_of_getElem? hx);rw [hm] at this;exact this
 have hdeC : ∀ x, De x -> x < w.heap.size /\ ¬ cv.ownBlock = some x := fun x hxd => by
  have h1 := h.de x hxd;have h2 := h.bw;refine ⟨by omega, fun e => ?_⟩;have := (h.own.lt x e).1;omega
 have hDn : ∀ x, Dn base De w cv (f :: r) x -> x < w.heap.size /\ ¬ cv.ownBlock = some x := fun x hxd => by
  rcases hxd with h1 | h1
  ·exact hdeC x h1
  ·exact ⟨h1.2.1, h1.2.2.1⟩
 have hup : ∀ x, Dn base De w cv (f :: r) x -> Dn base De w' (.slice (some ⟨g, 0, none⟩) (r.length + 2) cap) (c :: f :: r) x := fun x hxd => by
  rcases hxd with h1 | h1
  ·exact .inl h1
  ·refine .inr ⟨h1.1, Nat.lt_of_lt_of_le h1.2.1 hg.size, fun e => ?_, fun k hk => ?_⟩
   ·have e2 : g = x := by simpa [Value.ownBlock] using e
    subst e2;rcases hat with h2 | h2
    ·exact h1.2.2.1 h2
    ·have := h1.2.1;omega
   ·rcases List.mem_cons.1 hk with rfl | hk
    ·rw [hgv];simp [Value.ownBlock]
    ·exact h1.2.2.2 k hk
 have hok : FmOk base De (Dn base De w cv (f :: r)) w c := ⟨hpl, hpb, hex, by rw [hgv, hL]; exact GrowD.nil _ _ _ _ _ _, by rw [hL]; rfl, by rw [hL]; exact Nat.zero_le _, hfi⟩
 refine ⟨?_, fun k hk => ?_, ⟨hx, hm, h.link⟩, ?_, h.de, Nat.le_trans h.bw hg.size⟩
 ·have e : (c :: f :: r).reverse.flatMap Fm.cells = (f :: r).reverse.flatMap Fm.cells ++ c.cells := by
   rw [List.reverse_cons, List.flatMap_append];simp
  rw [e];exact ho
 ·rcases List.mem_cons.1 hk with rfl | hk
  ·refine hok.keep hfr hdeC hDn (fun x e => ?_) hup (fun x e => ?_)
   ·rw [hgv] at e;simp [Value.ownBlock] at e
   ·rw [hgv] at e;simp [Value.ownBlock] at e
  ·exact (h.ok k hk).keep hfr hdeC hDn (fun x e => h.chain_off hk x e) hup (fun x e => h.gv_off hk e _ _ _ (List.mem_cons_of_mem _ hk))
 ·refine List.pairwise_cons.2 ⟨fun k _ x e => ?_, h.dist⟩;rw [hgv] at e;simp [Value.ownBlock] at e
theorem Stk.pop {base m0 : Nat} {e0 : Ex} {De : Nat -> Prop} {w w2 : World} {C cap : Nat} {f g : Fm} {r : List Fm} (h : Stk base m0 e0 De w (.slice (some ⟨C, 0, none⟩) (r.length + 2) cap) (f :: g :: r)) {v : Val} {cs : List Value} (hcs : cs.length = 5)
  (hv : KM (BV g.m) (Dn base De w (.slice (some ⟨C, 0, none⟩) (r.length + 1) cap) (g :: r)) w v cs) (hval : v = X.val (f.m + 1) f.e) {q cap2 : Nat} (hF : Fr w w2 (fun x => g.gv.ownBlock = some x))
  (ho : w2.ownsRow base 61 5 (.slice (some ⟨q, 0, none⟩) (g.L.length + 1) cap2) (g.L.length + 1) (g.L.flatMap (fun x => x.2) ++ cs)) (hat : g.gv.ownBlock = some q \/ w.heap.size <= q) :
  Stk base m0 e0 De (w2.setCell ⟨C, r.length * 2 + 1, none⟩ (.slice (some ⟨q, 0, none⟩) (g.L.length + 1) cap2)) (.slice (some ⟨C, 0, none⟩) (r.length + 1) cap) ({ g with gv := .slice (some ⟨q, 0, none⟩) (g.L.length + 1) cap2, L := g.L ++ [(v, cs)] } :: r) := by
 have hgC : ∀ c, g.gv.ownBlock = some c -> C ≠ c := fun c hc e => h.chain_off (f := g) (by simp) c hc (by rw [<- e]; rfl)
 have hClt : base <= C /\ C < w.heap.size := h.own.lt C rfl;have hCq : C ≠ q := by
  rcases hat with h1 | h1
  ·exact hgC q h1
  ·omega
 have hF3 : Fr w2 (w2.setCell ⟨C, r.length * 2 + 1, none⟩ (.slice (some ⟨q, 0, none⟩) (g.L.length + 1) cap2)) (fun c => c = C) := Fr.set1 _ _ _ _;have hown1 : w.ownsRow base 194 2 (.slice (some ⟨C, 0, none⟩) (r.length + 1) cap) (r.length + 1) (r.reverse.flatMap Fm.cells ++ g.cells) := by
  have h1 := h.own;have e : (f :: g :: r).reverse.flatMap Fm.cells = (r.reverse.flatMap Fm.cells ++ g.cells) ++ f.cells := by
   simp [List.flatMap_append]
  rw [e] at h1;refine ownsRow_pop ?_ h1;have hlen : ∀ l : List Fm, (l.flatMap Fm.cells).length = l.length * 2 := fun l => by
   induction l with
   | nil => rfl
   | cons a l ih =>
    rw [List.flatMap_cons, List.length_append, ih];simp only [Fm.cells, List.length_cons, List.length_nil];omega
  rw [List.length_append, hlen, List.length_reverse];simp only [Fm.cells, List.length_cons, List.length_nil];omega
 have hlenA : (r.reverse.flatMap Fm.cells).length = r.length * 2 := by
  have h1 := hown1.1;rw [List.length_append] at h1;simp only [Fm.cells, List.length_cons, List.length_nil] at h1;omega
 have hown2 := owns_fr hown1 hF (fun c hc e => hgC c e (by simpa [Value.ownBlock] using hc));have hown3 := (hown2.stored (r.length * 2 + 1) (.slice (some ⟨q, 0, none⟩) (g.L.length + 1) cap2)).1;have e3 : (r.reverse.flatMap Fm.cells ++ g.cells).set (r.length * 2 + 1) (.slice (some ⟨q, 0, none⟩) (g.L.length + 1) cap2) = r.reverse.flatMap Fm.cells ++ [.pointer (some ⟨g.pb, g.po, none⟩), .slice (some ⟨q, 0, none⟩) (g.L.length + 1) cap2] := by
  rw [List.set_append_right _ _ (by omega), hlenA, show r.length * 2 + 1 - r.length * 2 = 1 by omega];rfl
 rw [e3] at hown3;have hdl := h.de;have hbw := h.bw;have hd := List.pairwise_cons.1 h.dist;have hd2 := List.pairwise_cons.1 hd.2;have hFw : Fr w (w2.setCell ⟨C, r.length * 2 + 1, none⟩ (.slice (some ⟨q, 0, none⟩) (g.L.length + 1) cap2)) (fun x => g.gv.ownBlock = some x \/ x = C) := (hF.weak (fun _ _ e => .inl e)).trans hF3 (fun _ _ e => .inr e);have hdeX : ∀ x, De x -> x < w.heap.size /\ ¬ (g.gv.ownBlock = some x \/ x = C) := fun x hx => by
  have h1 := hdl x hx;refine ⟨by omega, fun e => ?_⟩;rcases e with e | e
  ·have := ((h.ok g (by simp)).row.own.lt x e).1;omega
  ·omega
 have hDx : ∀ x, Dn base De w (.slice (some ⟨C, 0, none⟩) (r.length + 2) cap) (f :: g :: r) x -> x < w.heap.size /\ ¬ (g.gv.ownBlock = some x \/ x = C) := fun x hx => by
  rcases hx with h1 | h1
  ·exact hdeX x h1
  ·refine ⟨h1.2.1, fun e => ?_⟩;rcases e with e | e
   ·exact h1.2.2.2 g (by simp) e
   ·exact h1.2.2.1 (by rw [e]; rfl)
 have hup1 : ∀ x, Dn base De w (.slice (some ⟨C, 0, none⟩) (r.length + 1) cap) (g :: r) x -> Dn base De (w2.setCell ⟨C, r.length * 2 + 1, none⟩ (.slice (some ⟨q, 0, none⟩) (g.L.length + 1) cap2)) (.slice (some ⟨C, 0, none⟩) (r.length + 1) cap) ({ g with gv := .slice (some ⟨q, 0, none⟩) (g.L.length + 1) cap2, L := g.L ++ [(v, cs)] } :: r) x := fun x hx => by
  rcases hx with h1 | h1
  ·exact .inl h1
  ·refine .inr ⟨h1.1, Nat.lt_of_lt_of_le h1.2.1 hFw.size, h1.2.2.1, fun k hk => ?_⟩;rcases List.mem_cons.1 hk with rfl | hk
   ·intro e;have e2 : q = x := by simpa [Value.ownBlock] using e
    subst e2;rcases hat with h2 | h2
    ·exact h1.2.2.2 g (by simp) h2
    ·have := h1.2.1;omega
   ·exact h1.2.2.2 k (by simp [hk])
 have hup0 : ∀ x, Dn base De w (.slice (some ⟨C, 0, none⟩) (r.length + 2) cap) (f :: g :: r) x -> Dn base De w (.slice (some ⟨C, 0, none⟩) (r.length + 1) cap) (g :: r) x := fun x hx => by
  rcases hx with h1 | h1
  ·exact .inl h1
  ·exact .inr ⟨h1.1, h1.2.1, h1.2.2.1, fun k hk => h1.2.2.2 k (by simp [List.mem_cons.1 hk])⟩
 have hgm : g.m = f.m + 1 := h.link.2.1;have hgx := h.link.1;refine ⟨?_, fun k hk => ?_, ?_, ?_, h.de, Nat.le_trans h.bw hFw.size⟩
 ·rw [List.reverse_cons, List.flatMap_append, List.length_cons];simpa [Fm.cells] using hown3
 ·rcases List.mem_cons.1 hk with rfl | hk
  ·obtain ⟨⟨cs0, t0, hp⟩, hpb, ⟨cs2, hc, hm⟩, hr, hvv, hfe, hfi⟩ := h.ok g (by simp);have hb := hFw.block g.pb (hdeX _ hpb).1 (hdeX _ hpb).2;have hglt : g.L.length < g.e.a.length := (List.getElem?_eq_some_iff.1 hgx).1;refine ⟨⟨cs0, t0, hb.trans hp⟩, hpb, ⟨cs2, fun j hj => ?_, hm.to (fun c hc => hFw.block c (hdeX c hc).1 (hdeX c hc).2) (fun _ h => h)⟩, ?_, ?_, ?_, hfi⟩
   ·rw [<- hc j hj];unfold World.cell?;rw [hb]
   ·have hqw : q < w2.heap.size := (ho.lt q rfl).2;have hGD : GrowD (BV g.m) 61 5 base (Dn base De w (.slice (some ⟨C, 0, none⟩) (r.length + 1) cap) (g :: r)) w2 (.slice (some ⟨q, 0, none⟩) (g.L.length + 1) cap2) (g.L ++ [(v, cs)]) := by
     have hkeep : ∀ c, Dn base De w (.slice (some ⟨C, 0, none⟩) (r.length + 1) cap) (g :: r) c -> w2.heap[c]? = w.heap[c]? := fun c hcd => by
      rcases hcd with h1 | h1
      ·exact hF.block c (hdeX c h1).1 (fun e => (hdeX c h1).2 (.inl e))
      ·exact hF.block c h1.2.1 (fun e => h1.2.2.2 g (by simp) e)
     refine ⟨fun y hy => ?_, ?_, fun y hy => ?_, fun c hcq hcd => ?_⟩
     ·rcases List.mem_append.1 hy with h1 | h1
      ·exact hr.len y h1
      ·rw [List.mem_singleton] at h1;subst h1;exact hcs
     ·rw [List.length_append, List.flatMap_append];simpa using ho
     ·rcases List.mem_append.1 hy with h1 | h1
      ·exact (hr.mem y h1).to (fun c hcd => hkeep c (hup0 c hcd)) hup0
      ·rw [List.mem_singleton] at h1;subst h1;exact hv.to hkeep (fun _ h => h)
     ·have e2 : q = c := by simpa [Value.ownBlock] using hcq
      subst e2;rcases hcd with h1 | h1
      ·have := hdl q h1;have := (ho.lt q rfl).1;omega
      ·rcases hat with h2 | h2
       ·exact h1.2.2.2 g (by simp) h2
       ·have := h1.2.1;omega
    refine hGD.keep hF3 (fun c hcd => ?_) (fun c hcq e => ?_) hup1 (fun c hcq hcd => ?_)
    ·rcases hcd with h1 | h1
     ·exact ⟨Nat.lt_of_lt_of_le (hdeX c h1).1 hF.size, fun e => (hdeX c h1).2 (.inr e)⟩
     ·exact ⟨Nat.lt_of_lt_of_le h1.2.1 hF.size, fun e => h1.2.2.1 (by rw [e]; rfl)⟩
    ·have e2 : q = c := by simpa [Value.ownBlock] using hcq
     omega
    ·have e2 : q = c := by simpa [Value.ownBlock] using hcq
     subst e2;rcases hcd with h1 | h1
     ·have := hdl q h1;have := (ho.lt q rfl).1;omega
     ·exact h1.2.2.2 _ (List.mem_cons_self ..) rfl
   ·show (g.L ++ [(v, cs)]).map (fun x => x.1) = (g.e.a.take (g.L ++ [(v, cs)]).length).map (X.val g.m);rw [List.map_append, hvv, List.length_append, List.length_singleton, List.take_add_one, hgx, List.map_append, hval, hgm];rfl
   ·show (g.L ++ [(v, cs)]).length <= g.e.a.length;rw [List.length_append, List.length_singleton];omega
  ·refine (h.ok k (by simp [hk])).keep hFw hdeX hDx (fun x e e2 => ?_) (fun x hx => hup1 x (hup0 x hx)) (fun x e hx => ?_)
   ·rcases e2 with e2 | e2
    ·exact hd2.1 k hk x e2 e
    ·exact h.chain_off (f := k) (by simp [hk]) x e (by rw [e2]; rfl)
   ·rcases hx with h1 | h1
    ·have := hdl x h1;have := ((h.ok k (by simp [hk])).row.own.lt x e).1;omega
    ·exact h1.2.2.2 k (by simp [hk]) e
 ·cases r with
  | nil => exact h.link.2.2
  | cons g2 r2 => exact ⟨h.link.2.2.1, h.link.2.2.2.1, h.link.2.2.2.2⟩
 ·refine List.pairwise_cons.2 ⟨fun k hk c hcq => ?_, hd2.2⟩;have e2 : q = c := by simpa [Value.ownBlock] using hcq
  subst e2;rcases hat with h2 | h2
  ·exact hd2.1 k hk q h2
  ·intro e;have := ((h.ok k (by simp [hk])).row.own.lt q e).2;omega
end P
theorem info194 : (Tryz.prog.info? 194).map (fun i => (i.zero, i.size, i.bytes)) = some (some (.agg #[.pointer none, .slice none 0 0]), 2, 32) := by kernel_rfl
theorem info61 : (Tryz.prog.info? 61).map (fun i => (i.zero, i.size, i.bytes)) = some (some (.agg #[.int .i64 0, .int .i64 0, .string ⟨#[]⟩, .slice none 0 0, .slice none 0 0]), 5, 80) := by kernel_rfl
namespace P
structure Ev (w W1 : World) (e : Ex) (D0 : Nat -> Prop) (wr : World) (cv : Value) (st : List Fm) : Prop where
 stk : Stk (w.heap.size + 3) 5 e (fun c => D0 c \/ c = w.heap.size) wr cv st
 low : Below (w.heap.size + 3) W1 wr
end P
namespace V
theorem Row.cells {w w' : World} (hb : ∀ {a : Addr} {u : Value}, w.cell? a = some u -> w'.cell? a = some u) {v : Value} {n sz : Nat} {P Q : Nat -> List Value -> Prop} (h : Row w v n sz P) (hPQ : ∀ i c, P i c -> Q i c) : Row w' v n sz Q := by
 obtain ⟨ao, cap, rfl, h⟩ := h;refine ⟨ao, cap, rfl, ?_⟩;rcases h with h | ⟨b, off, rfl, h⟩
 ·exact .inl h
 ·refine .inr ⟨b, off, rfl, fun i hi => ?_⟩;obtain ⟨cs, h1, h2, h3⟩ := h i hi;refine ⟨cs, h1, fun j hj => ?_, hPQ i cs h3⟩;rw [<- h2 j hj];have hc : ∃ u, w.cell? ⟨b, off + i * sz + j, none⟩ = some u := by
   rw [h2 j hj]; exact ⟨_, List.getElem?_eq_getElem (by omega)⟩
  obtain ⟨u, hu⟩ := hc;rw [hu, hb hu]
theorem Mem.cells {w w' : World} (hb : ∀ {a : Addr} {u : Value}, w.cell? a = some u -> w'.cell? a = some u) : ∀ (m : Nat) {v : Val} {cs : List Value}, Mem m w v cs -> Mem m w' v cs
 | 0, _, _, h => h.elim
 | m + 1, _, _, ⟨lv, fv, h1, h2, h3⟩ =>
  ⟨lv, fv, h1, h2.cells hb (fun _ _ ⟨x, hx, hm⟩ => ⟨x, hx, Mem.cells hb m hm⟩), h3.cells hb (fun _ _ ⟨x, c', hx, hc, hm⟩ => ⟨x, c', hx, hc, Mem.cells hb m hm⟩)⟩
end V
theorem copyD_any (m : Nat) (D : Nat -> Prop) (w : World) (v : Val) (c0 c1 c2 c3 c4 : Value) (hM : P.KM (P.BV (m + 1)) D w v [c0, c1, c2, c3, c4]) (hD : ∀ c, D c -> c < w.heap.size) (hbk : V.bulk (m + 1) v <= 2000000) :
  Calls Tryz.prog 154 #[.agg #[c0, c1, c2, c3, c4]] w fun e w' => (∃ es, e = .returned (.agg es.toArray) /\ P.Val5 (m + 1) (fun c => D c \/ P.New w w' c) w' v es) /\ Below w.heap.size w w' := by
 obtain ⟨w0, hz, hsame, hnone⟩ := hole_exists w (fun c => ¬ D c);have hin : ∀ {a : Addr} {u : Value}, w0.cell? a = some u -> D a.block := fun {a} {u} hu => Classical.byContradiction (fun he => hnone a u he hu)
 have hM0 : V.Mem (m + 1) w0 v [c0, c1, c2, c3, c4] := hM w0 (fun c hc => hsame c (fun h => h hc));have hs0 : Sub w0 w := ⟨fun {a} {u} hu => cell_block hu (hsame a.block (fun h => h (hin hu))).symm, by omega⟩
 refine (copy_all m w0 w w.heap.size (by omega) (Nat.le_refl _) v c0 c1 c2 c3 c4 hs0 (V.Core5.old hM0) hbk).mono ?_;rintro e w' ⟨⟨e0, e1, e2, e3, e4, rfl, h⟩, hb⟩;refine ⟨⟨[e0, e1, e2, e3, e4], rfl, P.Val5.of (fun w2 hw2 => ?_)⟩, hb⟩;obtain ⟨w3, hz3, hs3, hn3⟩ := hole_exists w' (fun c => ¬ (D c \/ w.heap.size <= c));have hin3 : ∀ {a : Addr} {u : Value}, w3.cell? a = some u -> D a.block \/ w.heap.size <= a.block := fun {a} {u} hu => Classical.byContradiction (fun he => hn3 a u he hu)
 have h3 := h w3 ⟨fun {a} {u} hu => by
  have hd := hin hu;refine cell_block hu ?_;rw [hs3 _ (fun h => h (.inl hd)), hb.block _ (hD _ hd), hsame _ (fun h => h hd)], by have := hb.size; omega⟩ (fun c hc => hs3 c (fun h => h (.inr hc)))
 refine V.Mem.cells (fun {a} {u} hu => ?_) (m + 1) h3;have hlt := World.block_lt_of_cell? _ _ hu;have hd := hin3 hu;refine cell_block hu ?_;rw [hw2 a.block (hd.imp id (fun h => ⟨h, by omega⟩)), hs3 _ (fun h => h hd)]
namespace P
theorem own_last {w : World} {base q n cap : Nat} {ty : TypeId} {xs : List Value} {y0 y1 y2 y3 y4 : Value} (h : w.ownsRow base ty 5 (.slice (some ⟨q, 0, none⟩) (n + 1) cap) (n + 1) (xs ++ [y0, y1, y2, y3, y4])) :
  xs.length = n * 5 /\ w.cell? ⟨q, n * 5, none⟩ = some y0 /\ w.cell? ⟨q, n * 5 + 1, none⟩ = some y1 /\ w.cell? ⟨q, n * 5 + 2, none⟩ = some y2 /\ w.cell? ⟨q, n * 5 + 3, none⟩ = some y3 /\ w.cell? ⟨q, n * 5 + 4, none⟩ = some y4 := by
 have hl : xs.length = n * 5 := by
  have := h.1;rw [List.length_append] at this;simp only [List.length_cons, List.length_nil] at this;omega
 have hc : ∀ j, j < 5 -> w.cell? ⟨q, n * 5 + j, none⟩ = [y0, y1, y2, y3, y4][j]? := fun j hj => by
  rw [h.cellAt (n * 5 + j) (by omega), List.getElem?_append_right (by omega), hl, show n * 5 + j - n * 5 = j by omega]
 exact ⟨hl, hc 0 (by decide), hc 1 (by decide), hc 2 (by decide), hc 3 (by decide), hc 4 (by decide)⟩
theorem own_put {w : World} {base q n cap : Nat} {ty : TypeId} {xs : List Value} {y0 y1 y2 y3 y4 : Value} (h : w.ownsRow base ty 5 (.slice (some ⟨q, 0, none⟩) (n + 1) cap) (n + 1) (xs ++ [y0, y1, y2, y3, y4])) (v0 v1 v2 v3 v4 : Value) :
  (((((w.setCell ⟨q, n * 5, none⟩ v0).setCell ⟨q, n * 5 + 1, none⟩ v1).setCell ⟨q, n * 5 + 2, none⟩ v2).setCell ⟨q, n * 5 + 3, none⟩ v3).setCell ⟨q, n * 5 + 4, none⟩ v4).ownsRow base ty 5 (.slice (some ⟨q, 0, none⟩) (n + 1) cap) (n + 1) (xs ++ [v0, v1, v2, v3, v4]) := by
 have hl := (own_last h).1;have h0 := (h.stored (n * 5) v0).1;have h1 := (h0.stored (n * 5 + 1) v1).1;have h2 := (h1.stored (n * 5 + 2) v2).1;have h3 := (h2.stored (n * 5 + 3) v3).1;have h4 := (h3.stored (n * 5 + 4) v4).1;have e : (((((xs ++ [y0, y1, y2, y3, y4]).set (n * 5) v0).set (n * 5 + 1) v1).set (n * 5 + 2) v2).set (n * 5 + 3) v3).set (n * 5 + 4) v4 = xs ++ [v0, v1, v2, v3, v4] := by
  rw [<- hl, List.set_append_right _ _ (by omega), List.set_append_right _ _ (by omega), List.set_append_right _ _ (by omega), List.set_append_right _ _ (by omega), List.set_append_right _ _ (by omega)];simp [show ∀ k, xs.length + k - xs.length = k from fun k => by omega]
 rw [e] at h4;exact h4
theorem fr_put (w : World) (q n : Nat) (v0 v1 v2 v3 v4 : Value) : Fr w (((((w.setCell ⟨q, n * 5, none⟩ v0).setCell ⟨q, n * 5 + 1, none⟩ v1).setCell ⟨q, n * 5 + 2, none⟩ v2).setCell ⟨q, n * 5 + 3, none⟩ v3).setCell ⟨q, n * 5 + 4, none⟩ v4) (fun c => c = q) :=
 (((((Fr.refl w (fun c => c = q)).set ⟨q, n * 5, none⟩ v0 (fun _ => rfl)).set ⟨q, n * 5 + 1, none⟩ v1 (fun _ => rfl)).set ⟨q, n * 5 + 2, none⟩ v2 (fun _ => rfl)).set ⟨q, n * 5 + 3, none⟩ v3 (fun _ => rfl)).set ⟨q, n * 5 + 4, none⟩ v4 (fun _ => rfl)
end P
theorem P.grown_alloc {w w4 : World} {o : Obj} {row : Option Nat} (hg : (w.alloc o).grownBy w4 row) : w.grownBy w4 row :=
 ⟨hg.os, hg.tape, hg.output, Nat.le_trans (by simp) hg.size, fun c hc he => (hg.block c (by simp; omega) he).trans (heap_alloc_old w o hc)⟩
theorem P.Ev.pop {w W1 wd w3 w4 w6 : World} {e : Ex} {D0 : Nat -> Prop} {C cap q cap2 : Nat} {f g : P.Fm} {r : List P.Fm} {k n : Int} {s : ByteArray} {d1 : Option Addr} {n1 q1 : Nat} {d2 : Option Addr} {n2 q2 : Nat} {ga2 : Option Addr} {gc2 : Nat}
  (hstk : P.Stk (w.heap.size + 3) 5 e (fun c => D0 c \/ c = w.heap.size) wd (.slice (some ⟨C, 0, none⟩) (r.length + 1 + 1) cap) (f :: g :: r)) (hlow : Below (w.heap.size + 3) W1 wd)
  (hK : P.KM (P.BV (f.m + 1)) (fun c => (D0 c \/ c = w.heap.size) \/ P.Dn (w.heap.size + 3) (fun c => D0 c \/ c = w.heap.size) wd (.slice (some ⟨C, 0, none⟩) (r.length + 1 + 1) cap) (f :: g :: r) c \/ f.gv.ownBlock = some c \/ P.New wd w3 c) w3 (X.val (f.m + 1) f.e) [.int .i64 k, .int .i64 n, .string s, .slice d1 n1 q1, .slice d2 n2 q2])
  (hb3 : Below wd.heap.size wd w3) (hbx : Below w3.heap.size w3 w4) (hgv2 : g.gv = .slice ga2 g.L.length gc2)
  (hown6 : w6.ownsRow (w.heap.size + 3) 61 5 (.slice (some ⟨q, 0, none⟩) (g.L.length + 1) cap2) (g.L.length + 1) (g.L.flatMap (fun x => x.2) ++ [.int .i64 0, .int .i64 0, .string ⟨#[]⟩, .slice none 0 0, .slice none 0 0])) (hg46 : w4.grownBy w6 (Value.slice ga2 g.L.length gc2).ownBlock) (hat : (Value.slice ga2 g.L.length gc2).ownBlock = some q \/ w4.heap.size <= q) :
  P.Ev w W1 e D0 ((((((w6.setCell ⟨q, g.L.length * 5, none⟩ (.int .i64 k)).setCell ⟨q, g.L.length * 5 + 1, none⟩ (.int .i64 n)).setCell ⟨q, g.L.length * 5 + 2, none⟩ (.string s)).setCell ⟨q, g.L.length * 5 + 3, none⟩ (.slice d1 n1 q1)).setCell ⟨q, g.L.length * 5 + 4, none⟩ (.slice d2 n2 q2)).setCell ⟨C, r.length * 2 + 1, none⟩ (.slice (some ⟨q, 0, none⟩) (g.L.length + 1) cap2)) (.slice (some ⟨C, 0, none⟩) (r.length + 1) cap) (({ g with gv := .slice (some ⟨q, 0, none⟩) (g.L.length + 1) cap2, L := g.L ++ [(X.val (f.m + 1) f.e, [.int .i64 k, .int .i64 n, .string s, .slice d1 n1 q1, .slice d2 n2 q2])] } : P.Fm) :: r) := by
 have hb4 : Below wd.heap.size wd w4 := hb3.trans (hbx.mono hb3.size);have hstk4 := hstk.kept hb4;have hlow4 := hlow.trans (hb4.mono hstk.bw);have hbw := hstk.bw;have hs3 := hb3.size;have hs4 := hbx.size;have hgm : g.m = f.m + 1 := hstk.link.2.1;have hF46 : Fr w4 (((((w6.setCell ⟨q, g.L.length * 5, none⟩ (.int .i64 k)).setCell ⟨q, g.L.length * 5 + 1, none⟩ (.int .i64 n)).setCell ⟨q, g.L.length * 5 + 2, none⟩ (.string s)).setCell ⟨q, g.L.length * 5 + 3, none⟩ (.slice d1 n1 q1)).setCell ⟨q, g.L.length * 5 + 4, none⟩ (.slice d2 n2 q2)) (fun x => g.gv.ownBlock = some x) := by
  refine Fr.trans (ex1 := fun c => c = q) ⟨hg46.os, hg46.tape, hg46.output, hg46.size, fun c hc he => hg46.block c hc (fun e => he (by rw [hgv2]; exact e.symm))⟩ (P.fr_put w6 q g.L.length _ _ _ _ _) (fun c hc e => ?_);rcases hat with h | h
  ·rw [hgv2, e];exact h
  ·omega
 have hCwd : C < wd.heap.size := (hstk.own.lt C rfl).2;have hgl : ∀ c, f.gv.ownBlock = some c -> w.heap.size + 3 <= c /\ c < wd.heap.size := fun c hc => (hstk.ok f (by simp)).row.own.lt c hc
 have hKM : P.KM (P.BV g.m) (P.Dn (w.heap.size + 3) (fun c => D0 c \/ c = w.heap.size) w4 (.slice (some ⟨C, 0, none⟩) (r.length + 1) cap) (g :: r)) w4 (X.val (f.m + 1) f.e) [.int .i64 k, .int .i64 n, .string s, .slice d1 n1 q1, .slice d2 n2 q2] := by
  rw [hgm];refine hK.to (fun c hc => ?_) (fun c hc => ?_)
  ·refine hbx.block c ?_;rcases hc with h | h | h | h
   ·have := hstk.de c h;omega
   ·have := P.Dn.lt hstk.de hstk.bw h;omega
   ·have := hgl c h;omega
   ·exact h.2
  ·rcases hc with h | h | h | h
   ·exact .inl h
   ·rcases h with h | h
    ·exact .inl h
    ·exact .inr ⟨h.1, by have := h.2.1; omega, h.2.2.1, fun x hx => h.2.2.2 x (List.mem_cons_of_mem _ hx)⟩
   ·have h1 := hgl c h;refine .inr ⟨h1.1, by omega, fun e => ?_, fun x hx => (List.pairwise_cons.1 hstk.dist).1 x hx c h⟩;exact hstk.chain_off (f := f) (by simp) c h e
   ·have h1 := h.1;have h2 := h.2;refine .inr ⟨by omega, by omega, fun e => ?_, fun x hx e => ?_⟩
    ·have e2 : C = c := by simpa [Value.ownBlock] using e
     omega
    ·have := ((hstk.ok x (List.mem_cons_of_mem _ hx)).row.own.lt c e).2;omega
 refine ⟨P.Stk.pop (q := q) (cap2 := cap2) hstk4 rfl hKM rfl hF46 (P.own_put hown6 _ _ _ _ _) (by rw [hgv2]; exact hat), ?_⟩;have hF68 : Fr w4 ((((((w6.setCell ⟨q, g.L.length * 5, none⟩ (.int .i64 k)).setCell ⟨q, g.L.length * 5 + 1, none⟩ (.int .i64 n)).setCell ⟨q, g.L.length * 5 + 2, none⟩ (.string s)).setCell ⟨q, g.L.length * 5 + 3, none⟩ (.slice d1 n1 q1)).setCell ⟨q, g.L.length * 5 + 4, none⟩ (.slice d2 n2 q2)).setCell ⟨C, r.length * 2 + 1, none⟩ (.slice (some ⟨q, 0, none⟩) (g.L.length + 1) cap2)) (fun x => g.gv.ownBlock = some x \/ x = C) := (hF46.weak (fun _ _ e => .inl e)).set ⟨C, r.length * 2 + 1, none⟩ _ (fun _ => .inr rfl);refine hlow4.trans (hF68.below (by omega) (fun c e => ?_));rcases e with e | e
 ·exact ((hstk.ok g (by simp)).row.own.lt c e).1
 ·have := (hstk.own.lt C rfl).1;omega
theorem setCell_swap (w : World) (a b : Addr) (u v : Value) (h : a.block ≠ b.block) : (w.setCell a u).setCell b v = (w.setCell b v).setCell a u := by
 unfold World.setCell;simp only [World.mk.injEq, and_true];apply Array.ext
 ·simp
 ·intro i h1 h2;simp only [Array.getElem_modify];by_cases e1 : b.block = i
  ·by_cases e2 : a.block = i
   ·omega
   ·simp [e1, e2]
  ·by_cases e2 : a.block = i
   ·simp [e1, e2]
   ·simp [e1, e2]
theorem P.swap5 (w : World) (C q i a0 a1 a2 a3 a4 : Nat) (h : C ≠ q) (x v0 v1 v2 v3 v4 : Value) :
  (((((w.setCell ⟨q, a0, none⟩ v0).setCell ⟨q, a1, none⟩ v1).setCell ⟨q, a2, none⟩ v2).setCell ⟨q, a3, none⟩ v3).setCell ⟨q, a4, none⟩ v4).setCell ⟨C, i, none⟩ x = (((((w.setCell ⟨C, i, none⟩ x).setCell ⟨q, a0, none⟩ v0).setCell ⟨q, a1, none⟩ v1).setCell ⟨q, a2, none⟩ v2).setCell ⟨q, a3, none⟩ v3).setCell ⟨q, a4, none⟩ v4 := by
 have hs : ∀ (w : World) (j : Nat) (v : Value), (w.setCell ⟨q, j, none⟩ v).setCell ⟨C, i, none⟩ x = (w.setCell ⟨C, i, none⟩ x).setCell ⟨q, j, none⟩ v := fun w j v => setCell_swap w _ _ _ _ (fun e => h e.symm)
 rw [hs, hs, hs, hs, hs]
end Go.Proofs.YtcekcfjabhlheaaGreatDoor.Vx
