/- graph.add: one more that is needed. -/
import Derived.Test.YtienhelohfhhfaaGC
import Derived.Deep.RegionLaw
namespace Go.Proofs.Ytienhelohfhhfaa
open Go.RowKit
attribute [local go_sem ↓] Go.wp_at_zero Go.wp_at_succ
open Gr (Ints Lists Bools hide Fam cells)
theorem grown_trans {w w1 w2 : World} {row : Option Nat} (h : w.grownBy w1 row) (k : w1.grownBy w2 row) : w.grownBy w2 row :=
  ⟨k.os.trans h.os, k.tape.trans h.tape, k.output.trans h.output, Nat.le_trans h.size k.size, fun j hj hr => (k.block j (Nat.lt_of_lt_of_le hj h.size) hr).trans (h.block j hj hr)⟩
theorem grown_drew (w : World) (row : Option Nat) : w.grownBy w.drew row := ⟨rfl, rfl, rfl, Nat.le_refl _, fun _ _ _ => rfl⟩
theorem grown_drewN (w : World) (n : Nat) (row : Option Nat) : w.grownBy (w.drewN n) row := ⟨rfl, rfl, rfl, Nat.le_refl _, fun _ _ _ => rfl⟩
namespace Gr
/-- A graph that is being made: its two lists lie at bn and bu, what they name lies from base on. -/
structure Big (w : World) (B0 base b bn bu n : Nat) (VN VU : List Value) (LN LU : List (List Int)) : Prop where
  hb0 : w.cell? ⟨b, 0, none⟩ = some (.slice (some ⟨bn, 0, none⟩) n n)
  hb1 : w.cell? ⟨b, 1, none⟩ = some (.slice (some ⟨bu, 0, none⟩) n n)
  hn : w.heap[bn]? = some (.cells VN.toArray 37 (0, 0))
  hu : w.heap[bu]? = some (.cells VU.toArray 37 (0, 0))
  fam : Fam w base 3 (VN ++ VU) (LN ++ LU)
  ln : VN.length = n
  lu : VU.length = n
  kn : LN.length = n
  ku : LU.length = n
  lo : B0 ≤ b ∧ B0 ≤ bn ∧ B0 ≤ bu
  hi : b < base ∧ bn < base ∧ bu < base ∧ base ≤ w.heap.size
  ne : b ≠ bn ∧ b ≠ bu ∧ bn ≠ bu
theorem addr_add (g j : Nat) : (⟨g, 0, none⟩ : Addr).add j = ⟨g, j, none⟩ := by unfold Addr.add; split <;> simp_all
theorem row_cell {w : World} {g i : Nat} {V : List Value} {t : TypeId} {v : Value} (h : w.heap[g]? = some (.cells V.toArray t (0, 0))) (hv : V[i]? = some v) : w.cell? ⟨g, i, none⟩ = some v := by
  rw [cell_of_row w g i V.toArray t (0, 0) h]; simpa using hv
theorem row_free {w : World} {g i : Nat} {V : List Value} {t : TypeId} (h : w.heap[g]? = some (.cells V.toArray t (0, 0))) : w.frozen? ⟨g, i, none⟩ = false := by
  simp [World.frozen?, h]
theorem row_set {w : World} {g i : Nat} {V : List Value} {t : TypeId} (v : Value) (h : w.heap[g]? = some (.cells V.toArray t (0, 0))) : (w.setCell ⟨g, i, none⟩ v).heap[g]? = some (.cells (V.set i v).toArray t (0, 0)) := by
  rw [heap_setCell_same w g i V.toArray t v h]; simp
/-- What grows lies above. -/
theorem Big.far {w : World} {B0 base b bn bu n : Nat} {VN VU : List Value} {LN LU : List (List Int)} (h : Big w B0 base b bn bu n VN VU LN LU) {i : Nat} {v : Value} (hv : (VN ++ VU)[i]? = some v) : ∀ k, v.ownBlock = some k → base ≤ k := by
  intro k hk
  have hl : i < (LN ++ LU).length := by
    rw [← h.fam.len]; exact (List.getElem?_eq_some_iff.1 hv).1
  exact ((h.fam.own i v _ hv (List.getElem?_eq_getElem hl)).lt k hk).1
theorem Big.add {w w' : World} {B0 base b bn bu n : Nat} {VN VU : List Value} {LN LU : List (List Int)} (h : Big w B0 base b bn bu n VN VU LN LU) {k : Nat} {v : Value}
    (hv : (VN ++ VU)[k]? = some v) (hg : w.grownBy w' v.ownBlock) : w'.cell? ⟨b, 0, none⟩ = some (.slice (some ⟨bn, 0, none⟩) n n) ∧ w'.cell? ⟨b, 1, none⟩ = some (.slice (some ⟨bu, 0, none⟩) n n) ∧
      w'.heap[bn]? = some (.cells VN.toArray 37 (0, 0)) ∧ w'.heap[bu]? = some (.cells VU.toArray 37 (0, 0)) ∧ Below base w w' := by
  have hfar := h.far hv
  have hh := h.hi
  have hblk : ∀ c, c < base → w'.heap[c]? = w.heap[c]? := fun c hc => hg.block c (by omega) (fun e => by have := hfar c e.symm; omega)
  have hB : Below base w w' := ⟨hg.os, hg.tape, hg.output, hg.size, hblk⟩
  exact ⟨(hB.cell (p := ⟨b, 0, none⟩) hh.1).trans h.hb0, (hB.cell (p := ⟨b, 1, none⟩) hh.1).trans h.hb1, (hblk bn hh.2.1).trans h.hn, (hblk bu hh.2.2.1).trans h.hu, hB⟩
theorem Big.addN {w w' : World} {B0 base b bn bu n : Nat} {VN VU : List Value} {LN LU : List (List Int)} (h : Big w B0 base b bn bu n VN VU LN LU) {i : Nat} {v v' : Value} {l l' : List Int}
    (hv : VN[i]? = some v) (hl : LN[i]? = some l) (ho : w'.ownsRow base 3 1 v' l'.length (cells l')) (hg : w.grownBy w' v.ownBlock) (hat : v'.ownBlock = v.ownBlock ∨ ∃ g, v'.ownBlock = some g ∧ w.heap.size ≤ g) :
    Big (w'.setCell ⟨bn, i, none⟩ v') B0 base b bn bu n (VN.set i v') VU (LN.set i l') LU ∧ Below B0 w (w'.setCell ⟨bn, i, none⟩ v') := by
  have hiV : i < VN.length := (List.getElem?_eq_some_iff.1 hv).1
  have hiL : i < LN.length := (List.getElem?_eq_some_iff.1 hl).1
  have hv' : (VN ++ VU)[i]? = some v := by rw [List.getElem?_append_left hiV]; exact hv
  have hl' : (LN ++ LU)[i]? = some l := by rw [List.getElem?_append_left hiL]; exact hl
  obtain ⟨c0, c1, hn, hu, hB⟩ := h.add hv' hg
  have hh := h.hi
  have hne := h.ne
  have hbs := h.hi.2.2.2
  have hlo := h.lo
  refine ⟨⟨?_, ?_, row_set v' hn, ?_, ?_, by simp [h.ln], h.lu, by simp [h.kn], h.ku, hlo, ⟨hh.1, hh.2.1, hh.2.2.1, by have := hg.size; simp; omega⟩, hne⟩, ?_⟩
  · rw [World.cell?_of_block (w := w') (Below.heap_setCell w' ⟨bn, i, none⟩ v' b hne.1)]; exact c0
  · rw [World.cell?_of_block (w := w') (Below.heap_setCell w' ⟨bn, i, none⟩ v' b hne.1)]; exact c1
  · rw [Below.heap_setCell w' ⟨bn, i, none⟩ v' bu (Ne.symm hne.2.2)]; exact hu
  · have := (h.fam.grow hv' hl' ho hg hat).store ⟨bn, i, none⟩ v' hh.2.1
    rw [List.set_append_left i v' hiV, List.set_append_left i l' hiL] at this
    exact this
  · exact (hB.mono (by omega)).setCell (p := ⟨bn, i, none⟩) hlo.2.1 v'
theorem Big.addU {w w' : World} {B0 base b bn bu n : Nat} {VN VU : List Value} {LN LU : List (List Int)} (h : Big w B0 base b bn bu n VN VU LN LU) {i : Nat} {v v' : Value} {l l' : List Int}
    (hv : VU[i]? = some v) (hl : LU[i]? = some l) (ho : w'.ownsRow base 3 1 v' l'.length (cells l')) (hg : w.grownBy w' v.ownBlock) (hat : v'.ownBlock = v.ownBlock ∨ ∃ g, v'.ownBlock = some g ∧ w.heap.size ≤ g) :
    Big (w'.setCell ⟨bu, i, none⟩ v') B0 base b bn bu n VN (VU.set i v') LN (LU.set i l') ∧ Below B0 w (w'.setCell ⟨bu, i, none⟩ v') := by
  have hiV : i < VU.length := (List.getElem?_eq_some_iff.1 hv).1
  have hiL : i < LU.length := (List.getElem?_eq_some_iff.1 hl).1
  have hv' : (VN ++ VU)[n + i]? = some v := by rw [List.getElem?_append_right (by rw [h.ln]; omega), h.ln, Nat.add_sub_cancel_left]; exact hv
  have hl' : (LN ++ LU)[n + i]? = some l := by rw [List.getElem?_append_right (by rw [h.kn]; omega), h.kn, Nat.add_sub_cancel_left]; exact hl
  obtain ⟨c0, c1, hn, hu, hB⟩ := h.add hv' hg
  have hh := h.hi
  have hne := h.ne
  have hbs := h.hi.2.2.2
  have hlo := h.lo
  refine ⟨⟨?_, ?_, ?_, row_set v' hu, ?_, h.ln, by simp [h.lu], h.kn, by simp [h.ku], hlo, ⟨hh.1, hh.2.1, hh.2.2.1, by have := hg.size; simp; omega⟩, hne⟩, ?_⟩
  · rw [World.cell?_of_block (w := w') (Below.heap_setCell w' ⟨bu, i, none⟩ v' b hne.2.1)]; exact c0
  · rw [World.cell?_of_block (w := w') (Below.heap_setCell w' ⟨bu, i, none⟩ v' b hne.2.1)]; exact c1
  · rw [Below.heap_setCell w' ⟨bu, i, none⟩ v' bn hne.2.2]; exact hn
  · have := (h.fam.grow hv' hl' ho hg hat).store ⟨bu, i, none⟩ v' hh.2.2.1
    rw [List.set_append_right (n + i) v' (by rw [h.ln]; omega), List.set_append_right (n + i) l' (by rw [h.kn]; omega), h.ln, h.kn, Nat.add_sub_cancel_left] at this
    exact this
  · exact (hB.mono (by omega)).setCell (p := ⟨bu, i, none⟩) hlo.2.2 v'
end Gr
theorem other_cell {w : World} {b j bn i : Nat} {u v : Value} (hne : b ≠ bn) (h : w.cell? ⟨b, j, none⟩ = some u) : (w.setCell ⟨bn, i, none⟩ v).cell? ⟨b, j, none⟩ = some u := by
  rw [World.cell?_of_block (w := w) (Below.heap_setCell w ⟨bn, i, none⟩ v b hne)]; exact h
theorem grown_alloc_drew {w w4 : World} {o : Obj} {row : Option Nat} (hg : (w.alloc o).drew.grownBy w4 row) : w.grownBy w4 row := grown_trans (grown_trans (World.grownBy_alloc w o _) (grown_drew _ _)) hg
theorem at_append {w : World} {v : Value} {g m cap H : Nat} (hat : v.ownBlock = some g ∨ g = H) (hH : w.heap.size ≤ H) :
    (Value.slice (some ⟨g, 0, none⟩) m cap).ownBlock = v.ownBlock ∨ ∃ k, (Value.slice (some ⟨g, 0, none⟩) m cap).ownBlock = some k ∧ w.heap.size ≤ k := by
  rcases hat with h | h
  · exact .inl h.symm
  · exact .inr ⟨g, rfl, by omega⟩
theorem news_of {w : World} {g : Nat} {cs : Array Value} {e : TypeId} {fr : Nat × Nat} (h : w.heap[g]? = some (.cells cs e fr)) : ∀ j u, cs.toList[j]? = some u → w.cell? ((⟨g, 0, none⟩ : Addr).add j) = some u := World.news_of_block h
theorem news_alloc (w : World) (cs : Array Value) (e : TypeId) (g : Nat) (h : w.heap.size = g) : ∀ j u, cs.toList[j]? = some u → (w.alloc (.cells cs e)).cell? ((⟨g, 0, none⟩ : Addr).add j) = some u := by
  subst h
  exact news_of (heap_alloc_new w _)
theorem news_alloc_drew (w : World) (cs : Array Value) (e : TypeId) (g : Nat) (h : w.heap.size = g) : ∀ j u, cs.toList[j]? = some u → (w.alloc (.cells cs e)).drew.cell? ((⟨g, 0, none⟩ : Addr).add j) = some u := news_alloc w cs e g h
theorem info3 : (Try.prog.info? 3).map (fun i => (i.zero, i.size, i.bytes)) = some (some (.int .i64 0), 1, 8) := by kernel_rfl
set_option maxRecDepth 100000 in
set_option maxHeartbeats 1000000 in
theorem add_new (w : World) (B0 base b bn bu n i x : Nat) (VN VU : List Value) (LN LU : List (List Int)) (ln lu : List Int) (h : Gr.Big w B0 base b bn bu n VN VU LN LU)
    (hi : LN[i]? = some ln) (hx : LU[x]? = some lu) (hln : ln.length ≤ 1000) (hlu : lu.length ≤ 1000) (hnew : (x : Int) ∉ ln) :
    Calls Try.prog 35 #[.pointer (some ⟨b, 0, none⟩), .int .i64 i, .int .i64 x] w fun e w' => e = .returned (.tuple #[]) ∧ Below B0 w w' ∧
      ∃ VN' VU', Gr.Big w' B0 base b bn bu n VN' VU' (LN.set i (ln ++ [(x : Int)])) (LU.set x (lu ++ [(i : Int)])) := by
  have hin : i < n := by rw [← h.kn]; exact (List.getElem?_eq_some_iff.1 hi).1
  have hxn : x < n := by rw [← h.ku]; exact (List.getElem?_eq_some_iff.1 hx).1
  obtain ⟨v, hv⟩ := getElem_some (l := VN) (k := i) (by rw [h.ln]; exact hin)
  have hown := h.fam.own i v ln (by rw [List.getElem?_append_left (by rw [h.ln]; exact hin)]; exact hv) (by rw [List.getElem?_append_left (by rw [h.kn]; exact hin)]; exact hi)
  have hI : Ints w v ln := Ints.of_owns hown
  have c0 := h.hb0
  have c1 := Gr.row_cell h.hn hv
  have f1 := Gr.row_free (i := i) h.hn
  have hne := h.ne
  have hbs := h.hi.2.2.2
  have hcc := contains_any v ln x w (by omega) hI
  rw [decide_eq_false hnew] at hcc
  have H := hide h
  have HOW := hide hown
  clear h hown hI
  go_enter Try.func35, Try.ntmps35
  go_wp2_with fail
  refine hcc.mono ?_
  rintro e w' ⟨rfl, hw⟩
  rw [hw]; clear hw w' hcc
  go_wp2_with fail
  obtain ⟨i0, hi0, hz0, hz1, hz2⟩ := info_parts info3
  go_cut [] (fun wr => Below B0 w wr ∧ ∃ VN', Gr.Big wr B0 base b bn bu n VN' VU (LN.set i (ln ++ [(x : Int)])) LU)
  case first =>
    have KG : Hid (∀ (o : Obj) (w4 : World), (w.alloc o).drew.grownBy w4 v.ownBlock → w4.cell? ⟨b, 0, none⟩ = some (.slice (some ⟨bn, 0, none⟩) n n) ∧ w4.cell? ⟨bn, i, none⟩ = some v ∧ w4.frozen? ⟨bn, i, none⟩ = false) := by
      intro o w4 hg
      obtain ⟨q0, _, q1, _⟩ := H.out.add (k := i) (by rw [List.getElem?_append_left (by rw [H.out.ln]; exact hin)]; exact hv) (grown_alloc_drew hg)
      exact ⟨q0, Gr.row_cell q1 hv, Gr.row_free q1⟩
    have c1a : (w.alloc (.cells #[.int .i64 x] 3)).drew.cell? ⟨bn, i, none⟩ = some v := (Below.cell (((Below.refl w.heap.size w).alloc (Nat.le_refl _) _).drew) (p := ⟨bn, i, none⟩) (World.block_lt_of_cell? w _ c1)).trans c1
    have c0a : (w.alloc (.cells #[.int .i64 x] 3)).drew.cell? ⟨b, 0, none⟩ = some (.slice (some ⟨bn, 0, none⟩) n n) := (Below.cell (((Below.refl w.heap.size w).alloc (Nat.le_refl _) _).drew) (p := ⟨b, 0, none⟩) (World.block_lt_of_cell? w _ c0)).trans c0
    go_region_law
      (first
        | (refine step_append_lies _ ?_ (.tmp 26) (.tmp 28) 37 ?_ base 3 i0 (.int .i64 0) 1 8 Try.underlying37 hi0 hz0 hz1 hz2 rfl Nat.one_pos v ln.length (cells ln) ?_ ?_ ⟨w.heap.size, 0, none⟩ 1 1 [.int .i64 x] ?_ rfl ?_ ?_ Nat.one_pos ?_ ?_ ?_ _ rfl ?_; rfl; rfl; rfl; exact (HOW.out.alloc _).drew; rfl; exact news_alloc_drew w #[.int .i64 x] 3 _ rfl; simp [Value.oneCell']; (unfold maxLen; omega); omega; (simp; omega); intro g4 cap4 w4 hown4 hgrow hat hlt4; obtain ⟨r0, r1, r2⟩ := KG.out _ _ hgrow))
    all_goals
      go_wp2_with fail
      go_meet
      obtain ⟨h1, h2⟩ := H.out.addN hv hi (l' := ln ++ [(x : Int)]) (by rw [Gr.cells_append, List.length_append]; exact hown4) (grown_alloc_drew hgrow) (at_append hat (by simp))
      exact ⟨h2, _, h1⟩
  case rest =>
    obtain ⟨hBel1, VN1, h1⟩ := hcut
    clear HOW H c0 c1 f1 hbs hv v
    obtain ⟨u, hu⟩ := getElem_some (l := VU) (k := x) (by rw [h1.lu]; exact hxn)
    have hown := h1.fam.own (n + x) u lu (by rw [List.getElem?_append_right (by rw [h1.ln]; omega), h1.ln, Nat.add_sub_cancel_left]; exact hu) (by rw [List.getElem?_append_right (by rw [h1.kn]; omega), h1.kn, Nat.add_sub_cancel_left]; exact hx)
    have c0 := h1.hb1
    have c1 := Gr.row_cell h1.hu hu
    have f1 := Gr.row_free (i := x) h1.hu
    have hbs := h1.hi.2.2.2
    have H := hide h1
    have HOW := hide hown
    have HB1 := hide hBel1
    clear h1 hown hBel1
    have KG : Hid (∀ (o : Obj) (w4 : World), (wc.alloc o).drew.grownBy w4 u.ownBlock → w4.cell? ⟨b, 1, none⟩ = some (.slice (some ⟨bu, 0, none⟩) n n) ∧ w4.cell? ⟨bu, x, none⟩ = some u ∧ w4.frozen? ⟨bu, x, none⟩ = false) := by
      intro o w4 hg
      obtain ⟨_, q0, _, q1, _⟩ := H.out.add (k := n + x) (by rw [List.getElem?_append_right (by rw [H.out.ln]; omega), H.out.ln, Nat.add_sub_cancel_left]; exact hu) (grown_alloc_drew hg)
      exact ⟨q0, Gr.row_cell q1 hu, Gr.row_free q1⟩
    have c1a : (wc.alloc (.cells #[.int .i64 i] 3)).drew.cell? ⟨bu, x, none⟩ = some u := (Below.cell (((Below.refl wc.heap.size wc).alloc (Nat.le_refl _) _).drew) (p := ⟨bu, x, none⟩) (World.block_lt_of_cell? wc _ c1)).trans c1
    have c0a : (wc.alloc (.cells #[.int .i64 i] 3)).drew.cell? ⟨b, 1, none⟩ = some (.slice (some ⟨bu, 0, none⟩) n n) := (Below.cell (((Below.refl wc.heap.size wc).alloc (Nat.le_refl _) _).drew) (p := ⟨b, 1, none⟩) (World.block_lt_of_cell? wc _ c0)).trans c0
    go_wp2_with fail
    go_region_law
      (first
        | (refine step_append_lies _ ?_ (.tmp 42) (.tmp 44) 37 ?_ base 3 i0 (.int .i64 0) 1 8 Try.underlying37 hi0 hz0 hz1 hz2 rfl Nat.one_pos u lu.length (cells lu) ?_ ?_ ⟨wc.heap.size, 0, none⟩ 1 1 [.int .i64 i] ?_ rfl ?_ ?_ Nat.one_pos ?_ ?_ ?_ _ rfl ?_; rfl; rfl; rfl; exact (HOW.out.alloc _).drew; rfl; exact news_alloc_drew wc #[.int .i64 i] 3 _ rfl; simp [Value.oneCell']; (unfold maxLen; omega); omega; (simp; omega); intro g4 cap4 w4 hown4 hgrow hat hlt4; obtain ⟨r0, r1, r2⟩ := KG.out _ _ hgrow))
    all_goals
      go_wp2_with fail
      go_end0
      obtain ⟨h1, h2⟩ := H.out.addU hu hx (l' := lu ++ [(i : Int)]) (by rw [Gr.cells_append, List.length_append]; exact hown4) (grown_alloc_drew hgrow) (at_append hat (by simp))
      exact ⟨rfl, HB1.out.trans h2, _, _, h1⟩
set_option maxRecDepth 100000 in
theorem add_old (w : World) (B0 base b bn bu n i x : Nat) (VN VU : List Value) (LN LU : List (List Int)) (ln : List Int) (h : Gr.Big w B0 base b bn bu n VN VU LN LU)
    (hi : LN[i]? = some ln) (hln : ln.length ≤ 1000) (hold : (x : Int) ∈ ln) :
    Calls Try.prog 35 #[.pointer (some ⟨b, 0, none⟩), .int .i64 i, .int .i64 x] w fun e w' => e = .returned (.tuple #[]) ∧ w' = w := by
  have hin : i < n := by rw [← h.kn]; exact (List.getElem?_eq_some_iff.1 hi).1
  obtain ⟨v, hv⟩ := getElem_some (l := VN) (k := i) (by rw [h.ln]; exact hin)
  have hown := h.fam.own i v ln (by rw [List.getElem?_append_left (by rw [h.ln]; exact hin)]; exact hv) (by rw [List.getElem?_append_left (by rw [h.kn]; exact hin)]; exact hi)
  have hI : Ints w v ln := Ints.of_owns hown
  have c0 := h.hb0
  have c1 := Gr.row_cell h.hn hv
  have hcc := contains_any v ln x w (by omega) hI
  rw [decide_eq_true hold] at hcc
  clear h hown hI
  go_enter Try.func35, Try.ntmps35
  go_wp2_with fail
  refine hcc.mono ?_
  rintro e w' ⟨rfl, hw⟩
  rw [hw]; clear hw w' hcc
  go_wp2_with fail
  (try simp only [Exit.inBlock, Exit.then]); refine bodyPost_ret (results_none rfl _ _ _) rfl ?_
  exact ⟨rfl, rfl⟩
namespace Gr
/-- The lists behind 'i needs x'. -/
def putN (LN : List (List Int)) (i x : Nat) : List (List Int) := if (x : Int) ∈ LN.getD i [] then LN else LN.set i (LN.getD i [] ++ [(x : Int)])
def putU (LN LU : List (List Int)) (i x : Nat) : List (List Int) := if (x : Int) ∈ LN.getD i [] then LU else LU.set x (LU.getD x [] ++ [(i : Int)])
end Gr
theorem add_any (w : World) (B0 base b bn bu n i x : Nat) (VN VU : List Value) (LN LU : List (List Int)) (h : Gr.Big w B0 base b bn bu n VN VU LN LU)
    (hi : i < n) (hx : x < n) (hln : (LN.getD i []).length ≤ 1000) (hlu : (LU.getD x []).length ≤ 1000) :
    Calls Try.prog 35 #[.pointer (some ⟨b, 0, none⟩), .int .i64 i, .int .i64 x] w fun e w' => e = .returned (.tuple #[]) ∧ Below B0 w w' ∧
      ∃ VN' VU', Gr.Big w' B0 base b bn bu n VN' VU' (Gr.putN LN i x) (Gr.putU LN LU i x) := by
  obtain ⟨ln, h1⟩ := getElem_some (l := LN) (k := i) (by rw [h.kn]; exact hi)
  obtain ⟨lu, h2⟩ := getElem_some (l := LU) (k := x) (by rw [h.ku]; exact hx)
  have e1 : LN.getD i [] = ln := by rw [List.getD_eq_getElem?_getD, h1]; rfl
  have e2 : LU.getD x [] = lu := by rw [List.getD_eq_getElem?_getD, h2]; rfl
  unfold Gr.putN Gr.putU
  rw [e1] at hln ⊢
  rw [e2] at hlu ⊢
  by_cases hm : (x : Int) ∈ ln
  · rw [if_pos hm, if_pos hm]
    refine (add_old w B0 base b bn bu n i x VN VU LN LU ln h h1 hln hm).mono ?_
    rintro e w' ⟨rfl, rfl⟩
    exact ⟨rfl, Below.refl _ _, VN, VU, h⟩
  · rw [if_neg hm, if_neg hm]
    exact add_new w B0 base b bn bu n i x VN VU LN LU ln lu h h1 h2 hln hlu hm
end Go.Proofs.Ytienhelohfhhfaa
