/- TopState: UR1. -/
import Derived.Test.YtcekcfjabhlheaaGreatDoorUQ
import Derived.Deep.LoopGhost
namespace Go.Proofs.YtcekcfjabhlheaaGreatDoor.Vx
open Go.RowKit
theorem info194 : (Tryz.prog.info? 194).map (fun i => (i.zero, i.size, i.bytes)) = some (some (.agg #[.pointer none, .slice none 0 0]), 2, 32) := by kernel_rfl
theorem info61 : (Tryz.prog.info? 61).map (fun i => (i.zero, i.size, i.bytes)) = some (some (.agg #[.int .i64 0, .int .i64 0, .string ⟨#[]⟩, .slice none 0 0, .slice none 0 0]), 5, 80) := by kernel_rfl
namespace P
structure Ev (w W1 : World) (e : Ex) (D0 : Nat -> Prop) (wr : World) (cv : Value) (st : List Fm) : Prop where
 stk : Stk (w.heap.size + 3) 5 e (fun c => D0 c \/ c = w.heap.size) wr cv st
 low : Below (w.heap.size + 3) W1 wr
end P
namespace V
theorem Row.cells {w w' : World} (hb : ∀ {a : Addr} {u : Value}, w.cell? a = some u -> w'.cell? a = some u) {v : Value} {n sz : Nat} {P Q : Nat -> List Value -> Prop} (h : Row w v n sz P) (hPQ : ∀ i c, P i c -> Q i c) : Row w' v n sz Q := by
 obtain ⟨ao, cap, rfl, h⟩ := h
 refine ⟨ao, cap, rfl, ?_⟩
 rcases h with h | ⟨b, off, rfl, h⟩
 ·exact .inl h
 ·refine .inr ⟨b, off, rfl, fun i hi => ?_⟩
  obtain ⟨cs, h1, h2, h3⟩ := h i hi
  refine ⟨cs, h1, fun j hj => ?_, hPQ i cs h3⟩
  rw [<- h2 j hj]
  have hc : ∃ u, w.cell? ⟨b, off + i * sz + j, none⟩ = some u := by
   rw [h2 j hj]; exact ⟨_, List.getElem?_eq_getElem (by omega)⟩
  obtain ⟨u, hu⟩ := hc
  rw [hu, hb hu]
theorem Mem.cells {w w' : World} (hb : ∀ {a : Addr} {u : Value}, w.cell? a = some u -> w'.cell? a = some u) : ∀ (m : Nat) {v : Val} {cs : List Value}, Mem m w v cs -> Mem m w' v cs
 | 0, _, _, h => h.elim
 | m + 1, _, _, ⟨lv, fv, h1, h2, h3⟩ =>
  ⟨lv, fv, h1, h2.cells hb (fun _ _ ⟨x, hx, hm⟩ => ⟨x, hx, Mem.cells hb m hm⟩), h3.cells hb (fun _ _ ⟨x, c', hx, hc, hm⟩ => ⟨x, c', hx, hc, Mem.cells hb m hm⟩)⟩
end V
theorem copyD_any (m : Nat) (D : Nat -> Prop) (w : World) (v : Val) (c0 c1 c2 c3 c4 : Value) (hM : P.KM (P.BV (m + 1)) D w v [c0, c1, c2, c3, c4]) (hD : ∀ c, D c -> c < w.heap.size) (hbk : V.bulk (m + 1) v <= 2000000) :
  Calls Tryz.prog 154 #[.agg #[c0, c1, c2, c3, c4]] w fun e w' => (∃ es, e = .returned (.agg es.toArray) /\ P.Val5 (m + 1) (fun c => D c \/ P.New w w' c) w' v es) /\ Below w.heap.size w w' := by
 obtain ⟨w0, hz, hsame, hnone⟩ := hole_exists w (fun c => ¬ D c)
 have hin : ∀ {a : Addr} {u : Value}, w0.cell? a = some u -> D a.block := fun {a} {u} hu => Classical.byContradiction (fun he => hnone a u he hu)
 have hM0 : V.Mem (m + 1) w0 v [c0, c1, c2, c3, c4] := hM w0 (fun c hc => hsame c (fun h => h hc))
 have hs0 : Sub w0 w := ⟨fun {a} {u} hu => cell_block hu (hsame a.block (fun h => h (hin hu))).symm, by omega⟩
 refine (copy_all m w0 w w.heap.size (by omega) (Nat.le_refl _) v c0 c1 c2 c3 c4 hs0 (V.Core5.old hM0) hbk).mono ?_
 rintro e w' ⟨⟨e0, e1, e2, e3, e4, rfl, h⟩, hb⟩
 refine ⟨⟨[e0, e1, e2, e3, e4], rfl, P.Val5.of (fun w2 hw2 => ?_)⟩, hb⟩
 obtain ⟨w3, hz3, hs3, hn3⟩ := hole_exists w' (fun c => ¬ (D c \/ w.heap.size <= c))
 have hin3 : ∀ {a : Addr} {u : Value}, w3.cell? a = some u -> D a.block \/ w.heap.size <= a.block := fun {a} {u} hu => Classical.byContradiction (fun he => hn3 a u he hu)
 have h3 := h w3 ⟨fun {a} {u} hu => by
  have hd := hin hu
  refine cell_block hu ?_
  rw [hs3 _ (fun h => h (.inl hd)), hb.block _ (hD _ hd), hsame _ (fun h => h hd)], by have := hb.size; omega⟩ (fun c hc => hs3 c (fun h => h (.inr hc)))
 refine V.Mem.cells (fun {a} {u} hu => ?_) (m + 1) h3
 have hlt := World.block_lt_of_cell? _ _ hu
 have hd := hin3 hu
 refine cell_block hu ?_
 rw [hw2 a.block (hd.imp id (fun h => ⟨h, by omega⟩)), hs3 _ (fun h => h hd)]
namespace P
theorem own_last {w : World} {base q n cap : Nat} {ty : TypeId} {xs : List Value} {y0 y1 y2 y3 y4 : Value} (h : w.ownsRow base ty 5 (.slice (some ⟨q, 0, none⟩) (n + 1) cap) (n + 1) (xs ++ [y0, y1, y2, y3, y4])) :
  xs.length = n * 5 /\ w.cell? ⟨q, n * 5, none⟩ = some y0 /\ w.cell? ⟨q, n * 5 + 1, none⟩ = some y1 /\ w.cell? ⟨q, n * 5 + 2, none⟩ = some y2 /\ w.cell? ⟨q, n * 5 + 3, none⟩ = some y3 /\ w.cell? ⟨q, n * 5 + 4, none⟩ = some y4 := by
 have hl : xs.length = n * 5 := by
  have := h.1
  rw [List.length_append] at this
  simp only [List.length_cons, List.length_nil] at this
  omega
 have hc : ∀ j, j < 5 -> w.cell? ⟨q, n * 5 + j, none⟩ = [y0, y1, y2, y3, y4][j]? := fun j hj => by
  rw [h.cellAt (n * 5 + j) (by omega), List.getElem?_append_right (by omega), hl, show n * 5 + j - n * 5 = j by omega]
 exact ⟨hl, hc 0 (by decide), hc 1 (by decide), hc 2 (by decide), hc 3 (by decide), hc 4 (by decide)⟩
theorem own_put {w : World} {base q n cap : Nat} {ty : TypeId} {xs : List Value} {y0 y1 y2 y3 y4 : Value} (h : w.ownsRow base ty 5 (.slice (some ⟨q, 0, none⟩) (n + 1) cap) (n + 1) (xs ++ [y0, y1, y2, y3, y4])) (v0 v1 v2 v3 v4 : Value) :
  (((((w.setCell ⟨q, n * 5, none⟩ v0).setCell ⟨q, n * 5 + 1, none⟩ v1).setCell ⟨q, n * 5 + 2, none⟩ v2).setCell ⟨q, n * 5 + 3, none⟩ v3).setCell ⟨q, n * 5 + 4, none⟩ v4).ownsRow base ty 5 (.slice (some ⟨q, 0, none⟩) (n + 1) cap) (n + 1) (xs ++ [v0, v1, v2, v3, v4]) := by
 have hl := (own_last h).1
 have h0 := (h.stored (n * 5) v0).1
 have h1 := (h0.stored (n * 5 + 1) v1).1
 have h2 := (h1.stored (n * 5 + 2) v2).1
 have h3 := (h2.stored (n * 5 + 3) v3).1
 have h4 := (h3.stored (n * 5 + 4) v4).1
 have e : (((((xs ++ [y0, y1, y2, y3, y4]).set (n * 5) v0).set (n * 5 + 1) v1).set (n * 5 + 2) v2).set (n * 5 + 3) v3).set (n * 5 + 4) v4 = xs ++ [v0, v1, v2, v3, v4] := by
  rw [<- hl, List.set_append_right _ _ (by omega), List.set_append_right _ _ (by omega), List.set_append_right _ _ (by omega), List.set_append_right _ _ (by omega), List.set_append_right _ _ (by omega)]
  simp [show ∀ k, xs.length + k - xs.length = k from fun k => by omega]
 rw [e] at h4
 exact h4
theorem fr_put (w : World) (q n : Nat) (v0 v1 v2 v3 v4 : Value) : Fr w (((((w.setCell ⟨q, n * 5, none⟩ v0).setCell ⟨q, n * 5 + 1, none⟩ v1).setCell ⟨q, n * 5 + 2, none⟩ v2).setCell ⟨q, n * 5 + 3, none⟩ v3).setCell ⟨q, n * 5 + 4, none⟩ v4) (fun c => c = q) :=
 (((((Fr.refl w (fun c => c = q)).set ⟨q, n * 5, none⟩ v0 (fun _ => rfl)).set ⟨q, n * 5 + 1, none⟩ v1 (fun _ => rfl)).set ⟨q, n * 5 + 2, none⟩ v2 (fun _ => rfl)).set ⟨q, n * 5 + 3, none⟩ v3 (fun _ => rfl)).set ⟨q, n * 5 + 4, none⟩ v4 (fun _ => rfl)
end P
theorem P.grown_alloc {w w4 : World} {o : Obj} {row : Option Nat} (hg : (w.alloc o).grownBy w4 row) : w.grownBy w4 row :=
 ⟨hg.os, hg.tape, hg.output, Nat.le_trans (by simp) hg.size, fun c hc he => (hg.block c (by simp; omega) he).trans (heap_alloc_old w o hc)⟩
theorem P.Ev.pop {w W1 wd w3 w4 w6 : World} {e : Ex} {D0 : Nat -> Prop} {C cap q cap2 : Nat} {f g : P.Fm} {r : List P.Fm} {k n : Int} {s : ByteArray} {d1 : Option Addr} {n1 q1 : Nat} {d2 : Option Addr} {n2 q2 : Nat} {ga2 : Option Addr} {gc2 : Nat}
  (hstk : P.Stk (w.heap.size + 3) 5 e (fun c => D0 c \/ c = w.heap.size) wd (.slice (some ⟨C, 0, none⟩) (r.length + 1 + 1) cap) (f :: g :: r)) (hlow : Below (w.heap.size + 3) W1 wd)
  (hK : P.KM (P.BV (f.m + 1)) (fun c => (D0 c \/ c = w.heap.size) \/ P.Dn (w.heap.size + 3) (fun c => D0 c \/ c = w.heap.size) wd (.slice (some ⟨C, 0, none⟩) (r.length + 1 + 1) cap) (f :: g :: r) c \/ f.gv.ownBlock = some c \/ P.New wd w3 c) w3 (X.val (f.m + 1) f.e) [.int .i64 k, .int .i64 n, .string s, .slice d1 n1 q1, .slice d2 n2 q2])
  (hb3 : Below wd.heap.size wd w3) (hbx : Below w3.heap.size w3 w4) (hgv2 : g.gv = .slice ga2 g.L.length gc2)
  (hown6 : w6.ownsRow (w.heap.size + 3) 61 5 (.slice (some ⟨q, 0, none⟩) (g.L.length + 1) cap2) (g.L.length + 1) (g.L.flatMap (fun x => x.2) ++ [.int .i64 0, .int .i64 0, .string ⟨#[]⟩, .slice none 0 0, .slice none 0 0])) (hg46 : w4.grownBy w6 (Value.slice ga2 g.L.length gc2).ownBlock) (hat : (Value.slice ga2 g.L.length gc2).ownBlock = some q \/ w4.heap.size <= q) :
  P.Ev w W1 e D0 ((((((w6.setCell ⟨q, g.L.length * 5, none⟩ (.int .i64 k)).setCell ⟨q, g.L.length * 5 + 1, none⟩ (.int .i64 n)).setCell ⟨q, g.L.length * 5 + 2, none⟩ (.string s)).setCell ⟨q, g.L.length * 5 + 3, none⟩ (.slice d1 n1 q1)).setCell ⟨q, g.L.length * 5 + 4, none⟩ (.slice d2 n2 q2)).setCell ⟨C, r.length * 2 + 1, none⟩ (.slice (some ⟨q, 0, none⟩) (g.L.length + 1) cap2)) (.slice (some ⟨C, 0, none⟩) (r.length + 1) cap) (({ g with gv := .slice (some ⟨q, 0, none⟩) (g.L.length + 1) cap2, L := g.L ++ [(X.val (f.m + 1) f.e, [.int .i64 k, .int .i64 n, .string s, .slice d1 n1 q1, .slice d2 n2 q2])] } : P.Fm) :: r) := by
 have hb4 : Below wd.heap.size wd w4 := hb3.trans (hbx.mono hb3.size)
 have hstk4 := hstk.kept hb4
 have hlow4 := hlow.trans (hb4.mono hstk.bw)
 have hbw := hstk.bw
 have hs3 := hb3.size
 have hs4 := hbx.size
 have hgm : g.m = f.m + 1 := hstk.link.2.1
 have hF46 : Fr w4 (((((w6.setCell ⟨q, g.L.length * 5, none⟩ (.int .i64 k)).setCell ⟨q, g.L.length * 5 + 1, none⟩ (.int .i64 n)).setCell ⟨q, g.L.length * 5 + 2, none⟩ (.string s)).setCell ⟨q, g.L.length * 5 + 3, none⟩ (.slice d1 n1 q1)).setCell ⟨q, g.L.length * 5 + 4, none⟩ (.slice d2 n2 q2)) (fun x => g.gv.ownBlock = some x) := by
  refine Fr.trans (ex1 := fun c => c = q) ⟨hg46.os, hg46.tape, hg46.output, hg46.size, fun c hc he => hg46.block c hc (fun e => he (by rw [hgv2]; exact e.symm))⟩ (P.fr_put w6 q g.L.length _ _ _ _ _) (fun c hc e => ?_)
  rcases hat with h | h
  ·rw [hgv2, e]
   exact h
  ·omega
 have hCwd : C < wd.heap.size := (hstk.own.lt C rfl).2
 have hgl : ∀ c, f.gv.ownBlock = some c -> w.heap.size + 3 <= c /\ c < wd.heap.size := fun c hc => (hstk.ok f (by simp)).row.own.lt c hc
 have hKM : P.KM (P.BV g.m) (P.Dn (w.heap.size + 3) (fun c => D0 c \/ c = w.heap.size) w4 (.slice (some ⟨C, 0, none⟩) (r.length + 1) cap) (g :: r)) w4 (X.val (f.m + 1) f.e) [.int .i64 k, .int .i64 n, .string s, .slice d1 n1 q1, .slice d2 n2 q2] := by
  rw [hgm]
  refine hK.to (fun c hc => ?_) (fun c hc => ?_)
  ·refine hbx.block c ?_
   rcases hc with h | h | h | h
   ·have := hstk.de c h
    omega
   ·have := P.Dn.lt hstk.de hstk.bw h
    omega
   ·have := hgl c h
    omega
   ·exact h.2
  ·rcases hc with h | h | h | h
   ·exact .inl h
   ·rcases h with h | h
    ·exact .inl h
    ·exact .inr ⟨h.1, by have := h.2.1; omega, h.2.2.1, fun x hx => h.2.2.2 x (List.mem_cons_of_mem _ hx)⟩
   ·have h1 := hgl c h
    refine .inr ⟨h1.1, by omega, fun e => ?_, fun x hx => (List.pairwise_cons.1 hstk.dist).1 x hx c h⟩
    exact hstk.chain_off (f := f) (by simp) c h e
   ·have h1 := h.1
    have h2 := h.2
    refine .inr ⟨by omega, by omega, fun e => ?_, fun x hx e => ?_⟩
    ·have e2 : C = c := by simpa [Value.ownBlock] using e
     omega
    ·have := ((hstk.ok x (List.mem_cons_of_mem _ hx)).row.own.lt c e).2
     omega
 refine ⟨P.Stk.pop (q := q) (cap2 := cap2) hstk4 rfl hKM rfl hF46 (P.own_put hown6 _ _ _ _ _) (by rw [hgv2]; exact hat), ?_⟩
 have hF68 : Fr w4 ((((((w6.setCell ⟨q, g.L.length * 5, none⟩ (.int .i64 k)).setCell ⟨q, g.L.length * 5 + 1, none⟩ (.int .i64 n)).setCell ⟨q, g.L.length * 5 + 2, none⟩ (.string s)).setCell ⟨q, g.L.length * 5 + 3, none⟩ (.slice d1 n1 q1)).setCell ⟨q, g.L.length * 5 + 4, none⟩ (.slice d2 n2 q2)).setCell ⟨C, r.length * 2 + 1, none⟩ (.slice (some ⟨q, 0, none⟩) (g.L.length + 1) cap2)) (fun x => g.gv.ownBlock = some x \/ x = C) := (hF46.weak (fun _ _ e => .inl e)).set ⟨C, r.length * 2 + 1, none⟩ _ (fun _ => .inr rfl)
 refine hlow4.trans (hF68.below (by omega) (fun c e => ?_))
 rcases e with e | e
 ·exact ((hstk.ok g (by simp)).row.own.lt c e).1
 ·have := (hstk.own.lt C rfl).1
  omega
theorem setCell_swap (w : World) (a b : Addr) (u v : Value) (h : a.block ≠ b.block) : (w.setCell a u).setCell b v = (w.setCell b v).setCell a u := by
 unfold World.setCell
 simp only [World.mk.injEq, and_true]
 apply Array.ext
 ·simp
 ·intro i h1 h2
  simp only [Array.getElem_modify]
  by_cases e1 : b.block = i
  ·by_cases e2 : a.block = i
   ·omega
   ·simp [e1, e2]
  ·by_cases e2 : a.block = i
   ·simp [e1, e2]
   ·simp [e1, e2]
theorem P.swap5 (w : World) (C q i a0 a1 a2 a3 a4 : Nat) (h : C ≠ q) (x v0 v1 v2 v3 v4 : Value) :
  (((((w.setCell ⟨q, a0, none⟩ v0).setCell ⟨q, a1, none⟩ v1).setCell ⟨q, a2, none⟩ v2).setCell ⟨q, a3, none⟩ v3).setCell ⟨q, a4, none⟩ v4).setCell ⟨C, i, none⟩ x = (((((w.setCell ⟨C, i, none⟩ x).setCell ⟨q, a0, none⟩ v0).setCell ⟨q, a1, none⟩ v1).setCell ⟨q, a2, none⟩ v2).setCell ⟨q, a3, none⟩ v3).setCell ⟨q, a4, none⟩ v4 := by
 have hs : ∀ (w : World) (j : Nat) (v : Value), (w.setCell ⟨q, j, none⟩ v).setCell ⟨C, i, none⟩ x = (w.setCell ⟨C, i, none⟩ x).setCell ⟨q, j, none⟩ v := fun w j v => setCell_swap w _ _ _ _ (fun e => h e.symm)
 rw [hs, hs, hs, hs, hs]
end Go.Proofs.YtcekcfjabhlheaaGreatDoor.Vx
