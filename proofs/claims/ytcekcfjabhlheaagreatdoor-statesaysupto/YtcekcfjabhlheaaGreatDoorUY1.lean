/- StateSays: UX2 UX UY1. -/
import Derived.Test.YtcekcfjabhlheaaGreatDoorUS
import Derived.Test.YtcekcfjabhlheaaGreatDoorUX1
import Derived.RangeFuncNested
import Derived.RangeFuncCalls
import Derived.Shelf.SlIter.Collect
import Derived.OwnWalkIn
import Derived.TacticsInMore
import Derived.RegionIn
import Derived.LoopNIn
import Derived.LoopIn
import Derived.Shelf.RegionOpen
set_option maxRecDepth 100000
set_option maxHeartbeats 6400000
namespace Go.Proofs.YtcekcfjabhlheaaGreatDoor.Vx
open Go.RowKit
namespace P
theorem own_last6 {w : World} {base q n cap : Nat} {ty : TypeId} {xs : List Value} {y0 y1 y2 y3 y4 y5 : Value} (h : w.ownsRow base ty 6 (.slice (some ⟨q, 0, none⟩) (n + 1) cap) (n + 1) (xs ++ [y0, y1, y2, y3, y4, y5])) :
  xs.length = n * 6 /\ w.cell? ⟨q, n * 6, none⟩ = some y0 /\ w.cell? ⟨q, n * 6 + 1, none⟩ = some y1 /\ w.cell? ⟨q, n * 6 + 2, none⟩ = some y2 /\ w.cell? ⟨q, n * 6 + 3, none⟩ = some y3 /\ w.cell? ⟨q, n * 6 + 4, none⟩ = some y4 /\ w.cell? ⟨q, n * 6 + 5, none⟩ = some y5 := by
 have hl : xs.length = n * 6 := by
  have := h.1;rw [List.length_append] at this;simp only [List.length_cons, List.length_nil] at this;omega
 have hc : ∀ j, j < 6 -> w.cell? ⟨q, n * 6 + j, none⟩ = [y0, y1, y2, y3, y4, y5][j]? := fun j hj => by
  rw [h.cellAt (n * 6 + j) (by omega), List.getElem?_append_right (by omega), hl, show n * 6 + j - n * 6 = j by omega]
 exact ⟨hl, hc 0 (by decide), hc 1 (by decide), hc 2 (by decide), hc 3 (by decide), hc 4 (by decide), hc 5 (by decide)⟩
theorem own_put6 {w : World} {base q n cap : Nat} {ty : TypeId} {xs : List Value} {y0 y1 y2 y3 y4 y5 : Value} (h : w.ownsRow base ty 6 (.slice (some ⟨q, 0, none⟩) (n + 1) cap) (n + 1) (xs ++ [y0, y1, y2, y3, y4, y5])) (v0 v1 v2 v3 v4 v5 : Value) :
  ((((((w.setCell ⟨q, n * 6, none⟩ v0).setCell ⟨q, n * 6 + 1, none⟩ v1).setCell ⟨q, n * 6 + 2, none⟩ v2).setCell ⟨q, n * 6 + 3, none⟩ v3).setCell ⟨q, n * 6 + 4, none⟩ v4).setCell ⟨q, n * 6 + 5, none⟩ v5).ownsRow base ty 6 (.slice (some ⟨q, 0, none⟩) (n + 1) cap) (n + 1) (xs ++ [v0, v1, v2, v3, v4, v5]) := by
 have hl := (own_last6 h).1;have h0 := (h.stored (n * 6) v0).1;have h1 := (h0.stored (n * 6 + 1) v1).1;have h2 := (h1.stored (n * 6 + 2) v2).1;have h3 := (h2.stored (n * 6 + 3) v3).1;have h4 := (h3.stored (n * 6 + 4) v4).1;have h5 := (h4.stored (n * 6 + 5) v5).1;have e : ((((((xs ++ [y0, y1, y2, y3, y4, y5]).set (n * 6) v0).set (n * 6 + 1) v1).set (n * 6 + 2) v2).set (n * 6 + 3) v3).set (n * 6 + 4) v4).set (n * 6 + 5) v5 = xs ++ [v0, v1, v2, v3, v4, v5] := by
  rw [<- hl, List.set_append_right _ _ (by omega), List.set_append_right _ _ (by omega), List.set_append_right _ _ (by omega), List.set_append_right _ _ (by omega), List.set_append_right _ _ (by omega), List.set_append_right _ _ (by omega)];simp [show ∀ k, xs.length + k - xs.length = k from fun k => by omega]
 rw [e] at h5;exact h5
theorem fr_put6 (w : World) (q n : Nat) (v0 v1 v2 v3 v4 v5 : Value) : Fr w ((((((w.setCell ⟨q, n * 6, none⟩ v0).setCell ⟨q, n * 6 + 1, none⟩ v1).setCell ⟨q, n * 6 + 2, none⟩ v2).setCell ⟨q, n * 6 + 3, none⟩ v3).setCell ⟨q, n * 6 + 4, none⟩ v4).setCell ⟨q, n * 6 + 5, none⟩ v5) (fun c => c = q) :=
 ((((((Fr.refl w (fun c => c = q)).set ⟨q, n * 6, none⟩ v0 (fun _ => rfl)).set ⟨q, n * 6 + 1, none⟩ v1 (fun _ => rfl)).set ⟨q, n * 6 + 2, none⟩ v2 (fun _ => rfl)).set ⟨q, n * 6 + 3, none⟩ v3 (fun _ => rfl)).set ⟨q, n * 6 + 4, none⟩ v4 (fun _ => rfl)).set ⟨q, n * 6 + 5, none⟩ v5 (fun _ => rfl)
theorem swap6 (w : World) (C q i n : Nat) (h : C ≠ q) (x v0 v1 v2 v3 v4 v5 : Value) : ((((((w.setCell ⟨q, n * 6, none⟩ v0).setCell ⟨q, n * 6 + 1, none⟩ v1).setCell ⟨q, n * 6 + 2, none⟩ v2).setCell ⟨q, n * 6 + 3, none⟩ v3).setCell ⟨q, n * 6 + 4, none⟩ v4).setCell ⟨q, n * 6 + 5, none⟩ v5).setCell ⟨C, i, none⟩ x = (((((((w.setCell ⟨C, i, none⟩ x).setCell ⟨q, n * 6, none⟩ v0).setCell ⟨q, n * 6 + 1, none⟩ v1).setCell ⟨q, n * 6 + 2, none⟩ v2).setCell ⟨q, n * 6 + 3, none⟩ v3).setCell ⟨q, n * 6 + 4, none⟩ v4).setCell ⟨q, n * 6 + 5, none⟩ v5) := by
 have hs : ∀ (w : World) (j : Nat) (v : Value), (w.setCell ⟨q, j, none⟩ v).setCell ⟨C, i, none⟩ x = (w.setCell ⟨C, i, none⟩ x).setCell ⟨q, j, none⟩ v := fun w j v => setCell_swap w _ _ _ _ (fun e => h e.symm)
 rw [hs, hs, hs, hs, hs, hs]
end P
theorem S.Rd.outPut {base B : Nat} {D : Nat -> Prop} {w wz w6 : World} {s : St} {hv iv ov : Value} {LH : List (Hd × List Value)} {LI : List (It × List Value)} {LO : List ((ByteArray × Val) × List Value)} {x : ByteArray × Val} {av : Option Addr} {cv q cap2 : Nat} {v0 v1 v2 v3 v4 v5 y0 y1 y2 y3 y4 y5 : Value} (hR : S.Rd base B D wz s hv iv ov LH LI LO) (hK : P.KM (P.BF 6) D wz x [v0, v1, v2, v3, v4, v5]) (hve : ov = .slice av LO.length cv)
  (hown6 : w6.ownsRow base 68 6 (.slice (some ⟨q, 0, none⟩) (LO.length + 1) cap2) (LO.length + 1) (LO.flatMap (fun x => x.2) ++ [y0, y1, y2, y3, y4, y5])) (hg : wz.grownBy w6 (Value.slice av LO.length cv).ownBlock) (hat : (Value.slice av LO.length cv).ownBlock = some q \/ wz.heap.size <= q) (hBw : Below w.heap.size w wz) :
  S.Rd base B D (((((((w6.setCell ⟨q, LO.length * 6, none⟩ v0).setCell ⟨q, LO.length * 6 + 1, none⟩ v1).setCell ⟨q, LO.length * 6 + 2, none⟩ v2).setCell ⟨q, LO.length * 6 + 3, none⟩ v3).setCell ⟨q, LO.length * 6 + 4, none⟩ v4).setCell ⟨q, LO.length * 6 + 5, none⟩ v5).setCell ⟨B, 3, none⟩ (.slice (some ⟨q, 0, none⟩) (LO.length + 1) cap2)) { s with outs := s.outs ++ [x] } hv iv (.slice (some ⟨q, 0, none⟩) (LO.length + 1) cap2) LH LI (LO ++ [(x, [v0, v1, v2, v3, v4, v5])]) /\ Fr w (((((((w6.setCell ⟨q, LO.length * 6, none⟩ v0).setCell ⟨q, LO.length * 6 + 1, none⟩ v1).setCell ⟨q, LO.length * 6 + 2, none⟩ v2).setCell ⟨q, LO.length * 6 + 3, none⟩ v3).setCell ⟨q, LO.length * 6 + 4, none⟩ v4).setCell ⟨q, LO.length * 6 + 5, none⟩ v5).setCell ⟨B, 3, none⟩ (.slice (some ⟨q, 0, none⟩) (LO.length + 1) cap2)) (fun c => c = B \/ base <= c) := by
 have hO := hR.hO.own;rw [hve] at hO;have hown7 := P.own_put6 hown6 v0 v1 v2 v3 v4 v5;have hF7 := P.fr_put6 w6 q LO.length v0 v1 v2 v3 v4 v5;generalize ((((((w6.setCell _ _).setCell _ _).setCell _ _).setCell _ _).setCell _ _).setCell _ _) = w7 at *;have hg7 : wz.grownBy w7 (Value.slice av LO.length cv).ownBlock := ⟨hF7.os.trans hg.os, hF7.tape.trans hg.tape, hF7.output.trans hg.output, Nat.le_trans hg.size hF7.size, fun c hc he => (hF7.block c (Nat.lt_of_lt_of_le hc hg.size) (fun e => by
  rcases hat with h | h
  ·exact he (by rw [e]; exact h.symm)
  ·omega)).trans (hg.block c hc he)⟩
 refine ⟨S.Rd.addO (g := q) (cap := cap2) hR rfl hK hown7 (by rw [hve]; exact hg7) (by rw [hve]; exact hat), ?_⟩;exact (show Fr w w7 (fun c => c = B \/ base <= c) from ⟨hg7.os.trans hBw.os, hg7.tape.trans hBw.tape, hg7.output.trans hBw.output, Nat.le_trans hBw.size hg7.size, fun c hc he => (hg7.block c (Nat.lt_of_lt_of_le hc hBw.size) (fun e => he (.inr (hO.lt c e.symm).1))).trans (hBw.block c hc)⟩).set ⟨B, 3, none⟩ _ (fun _ => .inl rfl)
theorem S.Rd.outPut2 {base B : Nat} {D : Nat -> Prop} {w wz w6 : World} {s : St} {hv iv ov : Value} {LH : List (Hd × List Value)} {LI : List (It × List Value)} {LO : List ((ByteArray × Val) × List Value)} {x : ByteArray × Val} {av : Option Addr} {cv q cap2 : Nat} {v0 v1 v2 v3 v4 v5 y0 y1 y2 y3 y4 y5 : Value} (hR : S.Rd base B D wz s hv iv ov LH LI LO) (hK : P.KM (P.BF 6) D wz x [v0, v1, v2, v3, v4, v5]) (hve : ov = .slice av LO.length cv)
  (hown6 : w6.ownsRow base 68 6 (.slice (some ⟨q, 0, none⟩) (LO.length + 1) cap2) (LO.length + 1) (LO.flatMap (fun x => x.2) ++ [y0, y1, y2, y3, y4, y5])) (hg : wz.grownBy w6 (Value.slice av LO.length cv).ownBlock) (hat : (Value.slice av LO.length cv).ownBlock = some q \/ wz.heap.size <= q) (hBw : Below w.heap.size w wz) :
  S.Rd base B D (((((((w6.setCell ⟨B, 3, none⟩ (.slice (some ⟨q, 0, none⟩) (LO.length + 1) cap2)).setCell ⟨q, LO.length * 6, none⟩ v0).setCell ⟨q, LO.length * 6 + 1, none⟩ v1).setCell ⟨q, LO.length * 6 + 2, none⟩ v2).setCell ⟨q, LO.length * 6 + 3, none⟩ v3).setCell ⟨q, LO.length * 6 + 4, none⟩ v4).setCell ⟨q, LO.length * 6 + 5, none⟩ v5) { s with outs := s.outs ++ [x] } hv iv (.slice (some ⟨q, 0, none⟩) (LO.length + 1) cap2) LH LI (LO ++ [(x, [v0, v1, v2, v3, v4, v5])]) /\ Fr w (((((((w6.setCell ⟨B, 3, none⟩ (.slice (some ⟨q, 0, none⟩) (LO.length + 1) cap2)).setCell ⟨q, LO.length * 6, none⟩ v0).setCell ⟨q, LO.length * 6 + 1, none⟩ v1).setCell ⟨q, LO.length * 6 + 2, none⟩ v2).setCell ⟨q, LO.length * 6 + 3, none⟩ v3).setCell ⟨q, LO.length * 6 + 4, none⟩ v4).setCell ⟨q, LO.length * 6 + 5, none⟩ v5) (fun c => c = B \/ base <= c) := by
 have hBq : B ≠ q := by
  have := hR.bB;have := (hown6.lt q rfl).1;omega
 rw [<- P.swap6 _ _ _ _ _ hBq];exact S.Rd.outPut hR hK hve hown6 hg hat hBw
theorem info68' : (Tryz.prog.info? 68).map (fun i => (i.zero, i.size, i.bytes)) = some (some (.agg #[.string ⟨#[]⟩, .int .i64 0, .int .i64 0, .string ⟨#[]⟩, .slice none 0 0, .slice none 0 0]), 6, 96) := by kernel_rfl
theorem readLineO_any (x : ByteArray × Val) {base B : Nat} {D : Nat -> Prop} {w : World} {s : St} {hv iv ov : Value} {LH : List (Hd × List Value)} {LI : List (It × List Value)} {LO : List ((ByteArray × Val) × List Value)} (hR : S.Rd base B D w s hv iv ov LH LI LO) (hfit : S.Ln.Fit (.inr (.inr (.inr x)))) (hlen : (S.Ln.bare 6 (.inr (.inr (.inr x)))).length <= 4000) (hfew : LO.length <= 1000) :
  Calls Tryz.prog 74 #[.pointer (some ⟨B, 0, none⟩), .string (V.str (S.Ln.bare 6 (.inr (.inr (.inr x)))))] w fun r w' => r = .returned .nilIface /\ (∃ D' v' cs, S.Rd base B D' w' { s with outs := s.outs ++ [x] } hv iv v' LH LI (LO ++ [(x, cs)])) /\ Fr w w' (fun c => c = B \/ base <= c) := by
 obtain ⟨i0, hi0, hz0, hz1, hz2⟩ := info_parts info68';have hxe : (V.str (V.bl x.1), x.2) = x := by rw [V.str_bl]
 have hlr : (V.bl x.1 ++ 32 :: V.text 6 x.2).length <= 4000 := by
  have h1 : (S.Ln.bare 6 (.inr (.inr (.inr x)))).length = (S.kOut).length + ((V.bl x.1 ++ 32 :: V.text 6 x.2).length + 1) := by
   show ((S.kOut) ++ 32 :: (V.bl x.1 ++ 32 :: V.text 6 x.2)).length = _;rw [List.length_append, List.length_cons]
  omega
 have HCUT : Hid (∀ w : World, Calls Tryz.prog 90 #[.string (V.str (S.Ln.bare 6 (.inr (.inr (.inr x))))), .string ⟨#[32]⟩] w fun e w' => e = .returned (.tuple #[.string ⟨#[111, 117, 116]⟩, .string (V.str (V.bl x.1 ++ 32 :: V.text 6 x.2)), .bool true]) /\ ∃ nn, w' = w.drewN nn) := fun w => cut_any S.kOut (V.bl x.1 ++ 32 :: V.text 6 x.2) 32 (S.word_off (.inr (.inr (.inr x))) (.inl rfl)) (by show (S.Ln.bare 6 (.inr (.inr (.inr x)))).length <= _; omega) w
 have HRD := hide (fun w => readOut_any (V.bl x.1) x.2 w (S.name_off hfit.1 (.inl rfl)) hfit.2.2.1 hfit.2.1 hfit.2.2.2 hlr);rw [hxe] at HRD;have HR := hide hR;have hsh := own_shape hR.hO.own;obtain ⟨av, cv, hve⟩ := hsh;generalize V.str (S.Ln.bare 6 (.inr (.inr (.inr x)))) = tx at *;generalize V.str (V.bl x.1 ++ 32 :: V.text 6 x.2) = ty at *;clear hR hlr hlen hfit hxe;go_enter Tryz.func74, Tryz.ntmps74;go_wp2_with fail;refine (HCUT.out w).mono ?_;rintro r w1 ⟨rfl, nn, hw1⟩;rw [hw1];clear hw1 HCUT;have HB1 : Hid (Below w.heap.size w (w.drewN nn)) := below_drewN (Below.refl _ _) nn;generalize w.drewN nn = w2 at *;have hba : Below w2.heap.size w2 (w2.alloc (.cells #[.string ⟨#[]⟩, .int .i64 0, .int .i64 0, .string ⟨#[]⟩, .slice none 0 0, .slice none 0 0] 68)) := ba;have hA := heap_alloc_new w2 (.cells #[.string ⟨#[]⟩, .int .i64 0, .int .i64 0, .string ⟨#[]⟩, .slice none 0 0, .slice none 0 0] 68);have HSA : Hid ((w2.alloc (.cells #[.string ⟨#[]⟩, .int .i64 0, .int .i64 0, .string ⟨#[]⟩, .slice none 0 0, .slice none 0 0] 68)).heap.size = w2.heap.size + 1) := by
  show _ = _;simp
 obtain ⟨HBA, HA⟩ := hd2 hba hA;clear hba hA;go_wp2_with fail;generalize (w2.alloc _) = wa at *;refine (HRD.out wa).mono ?_;rintro r w3 ⟨⟨es, rfl, ⟨nm, k, n, s9, d1, n1, q1, d2, n2, q2, rfl⟩, hK⟩, hb3⟩;have hA3 := (hb3.block w2.heap.size (by have := HSA.out; omega)).trans HA.out;obtain ⟨HA3, HK, HB3⟩ := hd3 hA3 hK hb3;have hs0 := HB1.out.size;have HS3 : Hid (w.heap.size <= w2.heap.size /\ wa.heap.size <= w3.heap.size) := ⟨hs0, hb3.size⟩
 obtain ⟨mm0, mm1, mm2, mm3, mm4, mm5⟩ := cl6 hA3;obtain ⟨f0, f1, f2, f3, f4, f5⟩ := fl6 hA3;clear hK hb3 hs0 HRD HA hA3;go_wp2_with fail;have hFz : Fr w3 _ (fun c => c = w2.heap.size) := (((((((Fr.refl w3 (fun c => c = w2.heap.size)).set ⟨w2.heap.size, 0, none⟩ (.string nm) (fun _ => rfl)).set ⟨w2.heap.size, 1, none⟩ (.int .i64 k) (fun _ => rfl)).set ⟨w2.heap.size, 2, none⟩ (.int .i64 n) (fun _ => rfl)).set ⟨w2.heap.size, 3, none⟩ (.string s9) (fun _ => rfl)).set ⟨w2.heap.size, 4, none⟩ (.slice d1 n1 q1) (fun _ => rfl)).set ⟨w2.heap.size, 5, none⟩ (.slice d2 n2 q2) (fun _ => rfl))
 have hBz : ((((((w3.setCell ⟨w2.heap.size, 0, none⟩ (.string nm)).setCell ⟨w2.heap.size, 1, none⟩ (.int .i64 k)).setCell ⟨w2.heap.size, 2, none⟩ (.int .i64 n)).setCell ⟨w2.heap.size, 3, none⟩ (.string s9)).setCell ⟨w2.heap.size, 4, none⟩ (.slice d1 n1 q1)).setCell ⟨w2.heap.size, 5, none⟩ (.slice d2 n2 q2)).heap[w2.heap.size]? = some (.cells #[.string nm, .int .i64 k, .int .i64 n, .string s9, .slice d1 n1 q1, .slice d2 n2 q2] 68 (0, 0)) := by
  have bq0 : (w3.setCell ⟨w2.heap.size, 0, none⟩ (.string nm)).heap[w2.heap.size]? = _ := block_set (i := 0) HA3.out (.string nm);have bq1 := block_set (i := 1) bq0 (.int .i64 k);have bq2 := block_set (i := 2) bq1 (.int .i64 n);have bq3 := block_set (i := 3) bq2 (.string s9);have bq4 := block_set (i := 4) bq3 (.slice d1 n1 q1);exact block_set (i := 5) bq4 (.slice d2 n2 q2)
 generalize ((((((w3.setCell _ _).setCell _ _).setCell _ _).setCell _ _).setCell _ _).setCell _ _) = wz at *;obtain ⟨r0, r1, r2, r3, r4, r5⟩ := cl6 hBz;have hBw : Below w.heap.size w wz := by
  have h1 : Below w2.heap.size w2 w3 := HBA.out.trans (HB3.out.mono HBA.out.size);have h2 : Below w2.heap.size w2 wz := h1.trans (hFz.below h1.size (fun c e => by omega));exact HB1.out.trans (h2.mono HB1.out.size)
 have hRz : S.Rd base B (fun c => D c \/ P.New wa w3 c) wz s hv iv ov LH LI LO := HR.out.to hBw (fun _ h => .inl h) (fun c h => h.imp id (fun h => by
  have h1 := h.1;have h2 := h.2;have h3 := HSA.out;have h4 := HS3.out;have h5 := hFz.size;exact ⟨by omega, by omega⟩))
 have HKz : Hid (P.KM (P.BF 6) (fun c => D c \/ P.New wa w3 c) wz x [.string nm, .int .i64 k, .int .i64 n, .string s9, .slice d1 n1 q1, .slice d2 n2 q2]) := HK.out.to (fun c hc => hFz.block c hc.2 (by have h1 := hc.1; have h3 := HSA.out; omega)) (fun _ h => .inr h);obtain ⟨HBW, HRZ⟩ := hd2 hBw hRz;have hOz := hRz.hO.own;rw [hve] at hOz;have hgB := hRz.blk;rw [hve] at hgB;have hba : Below wz.heap.size wz (wz.alloc (.cells #[.string ⟨#[]⟩, .int .i64 0, .int .i64 0, .string ⟨#[]⟩, .slice none 0 0, .slice none 0 0] 68)) := ba;have y1 := cell_of_block hgB 3 _ rfl;have y1c := kept_cell hba y1;have ra0 := kept_cell hba r0;have ra1 := kept_cell hba r1;have ra2 := kept_cell hba r2;have ra3 := kept_cell hba r3;have ra4 := kept_cell hba r4;have ra5 := kept_cell hba r5;obtain ⟨HO, HGB, HBB, HSW⟩ := hd4 hOz hgB hRz.bB hRz.bw;have hiq : (↑LO.length : Int) < ↑LO.length + 1 := by omega
 clear hBw hRz hOz hgB hFz hBz hba HA3 HK HB3 HS3 HBA HSA HB1 HR;go_wp2_with fail;go_region_law
  (first
   | (refine step_append_lies _ ?_ (.tmp 73) (.tmp 76) 24 ?_ base 68 i0 (.agg #[.string ⟨#[]⟩, .int .i64 0, .int .i64 0, .string ⟨#[]⟩, .slice none 0 0, .slice none 0 0]) 6 96 Tryz.underlying24 hi0 hz0 hz1 hz2 rfl (by decide) (.slice av LO.length cv) LO.length (LO.flatMap (fun x => x.2)) ?_ ?_ ⟨wz.heap.size, 0, none⟩ 1 1 [.string ⟨#[]⟩, .int .i64 0, .int .i64 0, .string ⟨#[]⟩, .slice none 0 0, .slice none 0 0] ?_ rfl ?_ ?_ Nat.one_pos ?_ ?_ ?_ _ rfl ?_; rfl; rfl; rfl; exact (HO.out.alloc _).drew; rfl; exact news_alloc_drew wz #[.string ⟨#[]⟩, .int .i64 0, .int .i64 0, .string ⟨#[]⟩, .slice none 0 0, .slice none 0 0] 68 _ rfl; simp [Value.oneCell']; (unfold maxLen; omega); omega; (have := HSW.out; simp; omega); intro q cap2 w6 hown6 hgrow hat hlt6; obtain ⟨hxl, a0, a1', a2, a3, a4, a5⟩ := P.own_last6 hown6; have fq := hown6.frozenAt; have hBq : B ≠ q := (by have := HBB.out; have := (hown6.lt q rfl).1; omega); have h6 := ((P.grown_alloc_drew hgrow).block B (by have := HSW.out; have := HBB.out; omega) (fun e => by have := (HO.out.lt _ e.symm).1; have := HBB.out; omega)).trans HGB.out; have y6 := cell_of_block h6 3 _ rfl; have g6 := free_of_block h6 3; have h7 := ((P.fr_put6 w6 q LO.length (.string nm) (.int .i64 k) (.int .i64 n) (.string s9) (.slice d1 n1 q1) (.slice d2 n2 q2)).block B (blt h6) hBq).trans h6; have y7 := cell_of_block h7 3 _ rfl; have g7 := free_of_block h7 3))
 all_goals
  have hg := P.grown_alloc_drew hgrow;have hat2 : (Value.slice av LO.length cv).ownBlock = some q \/ wz.heap.size <= q := by
   rcases hat with h | h
   ·exact .inl h
   ·exact .inr (by rw [h]; simp)
  have HN := hide (S.Rd.outPut HRZ.out HKz.out hve hown6 hg hat2 HBW.out);have HN2 := hide (S.Rd.outPut2 HRZ.out HKz.out hve hown6 hg hat2 HBW.out);clear hg hat2 hown6 hgrow hat hlt6 hxl a0 a1' a2 a3 a4 a5 fq hBq h6 y6 g6 h7 y7 g7 y1 y1c ra0 ra1 ra2 ra3 ra4 ra5 r0 r1 r2 r3 r4 r5;go_wp2_with fail;refine bodyPost_ret (v := .nilIface) (by simp [results, Tryz.results74, go_sem]) rfl ?_
  first
   | with_reducible exact ⟨rfl, ⟨_, _, _, HN.out.1⟩, HN.out.2⟩
   | with_reducible exact ⟨rfl, ⟨_, _, _, HN2.out.1⟩, HN2.out.2⟩
def S.RdS (base B : Nat) (w : World) (s : St) : Prop := ∃ D hv iv ov LH LI LO, S.Rd base B D w s hv iv ov LH LI LO
theorem readLine_any (x : Ln) {base B : Nat} {w : World} {s : St} (hR : S.RdS base B w s) (hfit : S.Ln.Fit x) (hlen : (S.Ln.bare 6 x).length <= 4000) (h1 : s.held.length <= 1000) (h2 : s.its.length <= 1000) (h3 : s.outs.length <= 1000) :
  Calls Tryz.prog 74 #[.pointer (some ⟨B, 0, none⟩), .string (V.str (S.Ln.bare 6 x))] w fun r w' => r = .returned .nilIface /\ S.RdS base B w' (S.Ln.put s x) /\ Fr w w' (fun c => c = B \/ base <= c) := by
 obtain ⟨D, hv, iv, ov, LH, LI, LO, hR⟩ := hR;rcases x with n | x | x | x
 ·exact (readSerial_any n hR hfit.1 hfit.2).mono (fun e w' ⟨a, ⟨D', b⟩, c⟩ => ⟨a, ⟨D', _, _, _, _, _, _, b⟩, c⟩)
 ·refine (readLineH_any x hR hfit hlen ?_).mono (fun e w' ⟨a, ⟨D', _, _, b⟩, c⟩ => ⟨a, ⟨D', _, _, _, _, _, _, b⟩, c⟩);have := congrArg List.length hR.mH;rw [List.length_map] at this;omega
 ·refine (readLineI_any x hR hfit hlen ?_).mono (fun e w' ⟨a, ⟨D', _, _, b⟩, c⟩ => ⟨a, ⟨D', _, _, _, _, _, _, b⟩, c⟩);have := congrArg List.length hR.mI;rw [List.length_map] at this;omega
 ·refine (readLineO_any x hR hfit hlen ?_).mono (fun e w' ⟨a, ⟨D', _, _, b⟩, c⟩ => ⟨a, ⟨D', _, _, _, _, _, _, b⟩, c⟩);have := congrArg List.length hR.mO;rw [List.length_map] at this;omega
end Go.Proofs.YtcekcfjabhlheaaGreatDoor.Vx
namespace Go.Proofs.YtcekcfjabhlheaaGreatDoor.Vx
open Go.RowKit Go.Shelf
attribute [local go_sem] Oper.semAt_some
def rlAssign : Code := (Code.region 3 #[{ dst := some 5, op := Op.assign (Operand.tmp 9), type := 9, pos := "parse.go:35", after := #[], guard := none }] false)
def rlBody : Code := (Code.block 1 ((Code.region 4 #[{ dst := some 10, op := Op.move (Operand.tmp 5), type := 9, pos := "parse.go:36", after := #[], guard := none }, { dst := some 11, op := Op.call { callee := Callee.value (Operand.func 75), args := #[Operand.tmp 10, Operand.const (Value.string { data := #[10] })], argTypes := #[9, 9] }, type := 9, pos := "parse.go:36", after := #[{ on := 0, ground := Ground.data }], guard := none }, { dst := some 12, op := Op.call { callee := Callee.value (Operand.func 74), args := #[Operand.tmp 4, Operand.tmp 11], argTypes := #[117, 9] }, type := 30, pos := "parse.go:36", after := #[{ on := 1, ground := Ground.data }, { on := 1, ground := Ground.chain }], guard := none }, { dst := some 6, op := Op.assign (Operand.tmp 12), type := 30, pos := "parse.go:36", after := #[{ on := 2, ground := Ground.data }, { on := 2, ground := Ground.chain }, { on := 0, ground := Ground.phase }, { on := 1, ground := Ground.phase }, { on := 2, ground := Ground.phase }], guard := none }] false).seq ((Code.region 5 #[{ dst := some 13, op := Op.move (Operand.tmp 6), type := 30, pos := "parse.go:36", after := #[], guard := none }, { dst := some 14, op := Op.binOp BinOp.neq 30 (Operand.tmp 13) (Operand.const Value.nilIface) 30, type := 4, pos := "parse.go:36", after := #[{ on := 0, ground := Ground.data }], guard := none }] false).seq (Code.cond (Operand.tmp 14) ((Code.region 6 #[{ dst := some 15, op := Op.build 26 #[], type := 26, pos := "parse.go:37", after := #[], guard := none }, { dst := some 16, op := Op.move (Operand.tmp 6), type := 30, pos := "parse.go:37", after := #[{ on := 2, ground := Ground.gcOnly Departure.lateStores }], guard := none }, { dst := none, op := Op.store 26 (Operand.tmp 2) (Operand.tmp 15), type := 0, pos := "parse.go:37", after := #[{ on := 0, ground := Ground.data }, { on := 0, ground := Ground.phase }, { on := 1, ground := Ground.textOnly Departure.lateStores }], guard := none }, { dst := none, op := Op.store 30 (Operand.tmp 3) (Operand.tmp 16), type := 0, pos := "parse.go:37", after := #[{ on := 1, ground := Ground.data }, { on := 2, ground := Ground.chain }, { on := 0, ground := Ground.phase }, { on := 1, ground := Ground.phase }, { on := 2, ground := Ground.phase }], guard := none }] false).seq Code.ret) Code.skip))))
def rlRec (fn : FuncId) (tx : ByteArray) (g : Nat) (st : LoopState) (pend : Option Code) : Loop :=
 { state := st, pending := pend, fn, tmps := #[.string tx, undef, .pointer (some ⟨g, 0, none⟩), .pointer (some ⟨g + 1, 0, none⟩), .pointer (some ⟨g + 2, 0, none⟩), undef, undef, .string tx, .func (.func 88) #[] #[.pointer (some ⟨g + 3, 0, none⟩)], undef, undef, undef, undef, undef, undef, undef, undef, undef], params := #[9], assign := rlAssign, body := rlBody, defers := g + 4 }
structure RlAt (w0 : World) (fn : FuncId) (tx : ByteArray) (rest : List UInt8) (s : St) (W : World) : Prop where
 res : W.heap[w0.heap.size]? = some (.cells #[.int .i64 0, .slice none 0 0, .slice none 0 0, .slice none 0 0] 26 (0, 0))
 err : W.heap[w0.heap.size + 1]? = some (.cells #[.nilIface] 30 (0, 0))
 box : W.heap[w0.heap.size + 3]? = some (.cells #[.string (V.str rest)] 9 (0, 0))
 K : W.heap[w0.heap.size + 4]? = some (.deferred (some []))
 L : W.heap[w0.heap.size + 5]? = some (.loop (rlRec fn tx w0.heap.size .ready none))
 rd : S.RdS (w0.heap.size + 6) (w0.heap.size + 2) W s
 below : Below w0.heap.size w0 W
theorem S.Rd.side {base B : Nat} {D ex : Nat -> Prop} {w w' : World} {s : St} {hv iv ov : Value} {LH : List (Hd × List Value)} {LI : List (It × List Value)} {LO : List ((ByteArray × Val) × List Value)} (h : S.Rd base B D w s hv iv ov LH LI LO) (hF : Fr w w' ex) (hex : ∀ c, ex c -> c < base /\ c ≠ B) : S.Rd base B D w' s hv iv ov LH LI LO := by
 have hd : ∀ c, D c -> c < w.heap.size /\ ¬ ex c := fun c hc => ⟨(h.dd c hc).2, fun e => by have := (hex c e).1; have := (h.dd c hc).1; omega⟩
 refine ⟨(hF.block B (by have := h.bB; have := h.bw; omega) (fun e => (hex B e).2 rfl)).trans h.blk, h.bB, by have := h.bw; have := hF.size; omega, ?_, ?_, ?_, h.mH, h.mI, h.mO, fun c hc => ⟨(h.dd c hc).1, by have := (h.dd c hc).2; have := hF.size; omega⟩, h.hi, h.ho, h.io⟩
 ·exact h.hH.keep hF hd (fun c hc e => by have := (h.hH.own.lt c hc).1; have := (hex c e).1; omega) (fun _ x => x) h.hH.apart
 ·exact h.hI.keep hF hd (fun c hc e => by have := (h.hI.own.lt c hc).1; have := (hex c e).1; omega) (fun _ x => x) h.hI.apart
 ·exact h.hO.keep hF hd (fun c hc e => by have := (h.hO.own.lt c hc).1; have := (hex c e).1; omega) (fun _ x => x) h.hO.apart
theorem S.RdS.side {base B : Nat} {ex : Nat -> Prop} {w w' : World} {s : St} (h : S.RdS base B w s) (hF : Fr w w' ex) (hex : ∀ c, ex c -> c < base /\ c ≠ B) : S.RdS base B w' s := by
 obtain ⟨D, hv, iv, ov, LH, LI, LO, h⟩ := h;exact ⟨D, hv, iv, ov, LH, LI, LO, h.side hF hex⟩
theorem fr_putObj (w : World) (l : Nat) (o : Obj) : Fr w (w.putObj l o) (fun c => c = l) := ⟨rfl, rfl, rfl, by simp, fun _ _ hk => World.putObj_heap_other (fun e => hk e)⟩
theorem trim_line (a : List UInt8) (hl : a.length <= 1000000) (w : World) : Calls Tryz.prog 75 #[.string (V.str (a ++ [10])), .string ⟨#[10]⟩] w fun e w' => e = .returned (.string (V.str a)) /\ w' = w := by
 refine (sh_strings_TrimSuffix (V.str (a ++ [10])) ⟨#[10]⟩ w (by rw [S.size_str]; simp; omega)).mono ?_;rintro e w' ⟨rfl, hw⟩;refine ⟨?_, hw⟩;have e1 : (V.str (a ++ [10])).data.toList = a ++ [10] := V.bl_str _;rw [e1];have e2 : Lib.trimSuffix (a ++ [10]) (⟨#[10]⟩ : ByteArray).data.toList = a := by
  show Lib.trimSuffix (a ++ [10]) [10] = a;simp [Lib.trimSuffix, Lib.hasSuffix]
 rw [e2];rfl
theorem rlYield (m : Nat) (w0 : World) (fn : FuncId) (tx : ByteArray) (rest : List UInt8) (s : St) (x : Ln) (W : World) (h : RlAt w0 fn tx rest s W) (hfit : S.Ln.Fit x) (hlen : (S.Ln.bare 6 x).length <= 4000) (h1 : s.held.length <= 1000) (h2 : s.its.length <= 1000) (h3 : s.outs.length <= 1000) :
  YieldAt Fence.wide m Tryz.prog (w0.heap.size + 5) #[.string (V.str (S.Ln.bare 6 x ++ [10]))] W fun e W' => e = .returned (.bool true) /\ RlAt w0 fn tx rest (S.Ln.put s x) W' := by
 refine ⟨fn, #[.string tx, undef, .pointer (some ⟨w0.heap.size, 0, none⟩), .pointer (some ⟨w0.heap.size + 1, 0, none⟩), .pointer (some ⟨w0.heap.size + 2, 0, none⟩), undef, undef, .string tx, .func (.func 88) #[] #[.pointer (some ⟨w0.heap.size + 3, 0, none⟩)], .string (V.str (S.Ln.bare 6 x ++ [10])), undef, undef, undef, undef, undef, undef, undef, undef], rlAssign, rlBody, by simpa [rlRec] using run_yield (P := Tryz.prog) (args := #[.string (V.str (S.Ln.bare 6 x ++ [10]))]) h.L rfl, roundIn_of_wpIn trivial ?_⟩;have hl := blt h.L;have hbr := run_beginRound (P := Tryz.prog) h.L rfl;obtain ⟨W2, hW2⟩ : ∃ W2, W.putObj (w0.heap.size + 5) (.loop { rlRec fn tx w0.heap.size .ready none with state := .busy }) = W2 := ⟨_, rfl⟩
 rw [hW2] at hbr;have hF2 : Fr W W2 (fun c => c = w0.heap.size + 5) := by rw [<- hW2]; exact fr_putObj _ _ _
 have hL2 : W2.heap[w0.heap.size + 5]? = some (.loop { rlRec fn tx w0.heap.size .ready none with state := .busy }) := by rw [<- hW2]; exact World.putObj_heap_same hl
 have hR2 := h.rd.side hF2 (fun c e => by omega);have HT := hide (trim_line (S.Ln.bare 6 x) (by omega) W2);have HRL := hide (readLine_any x hR2 hfit hlen h1 h2 h3);obtain ⟨HF2, HL2, HH⟩ := hd3 hF2 hL2 h;generalize V.str (S.Ln.bare 6 x ++ [10]) = tl at *;generalize V.str (S.Ln.bare 6 x) = tb at *;generalize S.Ln.put s x = s2 at *;clear hW2 hF2 hL2 hR2 h hl hfit hlen h1 h2 h3;unfold rlAssign
 gi_wp2
 unfold rlBody
 gi_wp2
 refine ⟨trivial, fun h => (by cases h), (CallsIn.inRound (w0.heap.size + 5) (callsIn_wide.2 HT.out)).mono ?_⟩;rintro e w' ⟨rfl, hw⟩;rw [hw];clear hw
 gi_wp2
 refine ⟨trivial, fun h => (by cases h), (CallsIn.inRound (w0.heap.size + 5) (callsIn_wide.2 HRL.out)).mono ?_⟩;rintro e W3 ⟨rfl, hR3, hF3⟩;obtain ⟨HR3, HF3⟩ := hd2 hR3 hF3;clear hR3 hF3 HT HRL hbr
 gi_wp2
 have h := HH.out;have hF2 := HF2.out;have hF3 := HF3.out;have hlt := blt h.L;have hs2 := hF2.size;have hs3 := hF3.size;have hL3 : W3.heap[w0.heap.size + 5]? = some (.loop { rlRec fn tx w0.heap.size .ready none with state := .busy }) := (hF3.block _ (by omega) (by omega)).trans HL2.out;have hF4 := fr_putObj W3 (w0.heap.size + 5) (.loop (rlRec fn tx w0.heap.size .ready none));have keep : ∀ j, j < w0.heap.size + 5 -> j ≠ w0.heap.size + 2 -> (W3.putObj (w0.heap.size + 5) (.loop (rlRec fn tx w0.heap.size .ready none))).heap[j]? = W.heap[j]? := fun j h1 h2 => by
  rw [hF4.block j (by omega) (by omega), hF3.block j (by omega) (by omega), hF2.block j (by omega) (by omega)]
 refine ⟨_, _, run_endRound none hL3, rfl, ?_⟩;have hl4 := blt hL3;refine ⟨(keep _ (by omega) (by omega)).trans h.res, (keep _ (by omega) (by omega)).trans h.err, (keep _ (by omega) (by omega)).trans h.box, (keep _ (by omega) (by omega)).trans h.K, World.putObj_heap_same hl4, HR3.out.side hF4 (fun c e => by omega), ?_⟩;have hb2 := hF2.below (B := w0.heap.size) h.below.size (fun c e => by omega);have hb3 := hF3.below (B := w0.heap.size) (by have := h.below.size; omega) (fun c e => by omega);have hb4 := hF4.below (B := w0.heap.size) (by have := h.below.size; omega) (fun c e => by omega);exact ((h.below.trans hb2).trans hb3).trans hb4
theorem S.ext_head1 (a b : List UInt8) (c : UInt8) : (V.str (a ++ c :: b)).extract 0 (a.length + 1) = V.str (a ++ [c]) := by
 have : V.bl ((V.str (a ++ c :: b)).extract 0 (a.length + 1)) = V.bl (V.str (a ++ [c])) := by
  unfold V.bl;rw [Lib.extract_data];show ((a ++ c :: b).drop 0).take (a.length + 1 - 0) = a ++ [c];rw [show a ++ c :: b = (a ++ [c]) ++ b by simp, List.drop_zero, Nat.sub_zero];exact List.take_left' (by simp)
 rw [<- V.str_bl ((V.str (a ++ c :: b)).extract 0 (a.length + 1)), this, V.str_bl]
theorem S.fold_few : ∀ (l : List Ln) (s : St), (l.foldl S.Ln.put s).held.length <= s.held.length + l.length /\ (l.foldl S.Ln.put s).its.length <= s.its.length + l.length /\ (l.foldl S.Ln.put s).outs.length <= s.outs.length + l.length
 | [], s => by simp
 | x :: l, s => by
  have h := S.fold_few l (S.Ln.put s x);have k : (S.Ln.put s x).held.length <= s.held.length + 1 /\ (S.Ln.put s x).its.length <= s.its.length + 1 /\ (S.Ln.put s x).outs.length <= s.outs.length + 1 := by
   rcases x with n | x | x | x <;> simp [S.Ln.put]
  simp only [List.foldl_cons, List.length_cons];omega
theorem RlAt.rest {w0 : World} {fn : FuncId} {tx : ByteArray} {r : List UInt8} {s : St} {W : World} (h : RlAt w0 fn tx r s W) (r2 : List UInt8) (b : ByteArray) (hb : b = V.str r2) : RlAt w0 fn tx r2 s (W.setCell ⟨w0.heap.size + 3, 0, none⟩ (.string b)) := by
 subst hb;have hF : Fr W (W.setCell ⟨w0.heap.size + 3, 0, none⟩ (.string (V.str r2))) (fun c => c = w0.heap.size + 3) := Fr.set1 _ _ _ _;have hl := blt h.L;have keep : ∀ j, j < w0.heap.size + 6 -> j ≠ w0.heap.size + 3 -> (W.setCell ⟨w0.heap.size + 3, 0, none⟩ (.string (V.str r2))).heap[j]? = W.heap[j]? := fun j h1 h2 => hF.block j (by omega) (by omega)
 exact ⟨(keep _ (by omega) (by omega)).trans h.res, (keep _ (by omega) (by omega)).trans h.err, heap_setCell_box_a _ h.box, (keep _ (by omega) (by omega)).trans h.K, (keep _ (by omega) (by omega)).trans h.L, h.rd.side hF (fun c e => by omega), h.below.trans (hF.below h.below.size (fun c e => by omega))⟩
theorem RlAt.drew {w0 : World} {fn : FuncId} {tx : ByteArray} {r : List UInt8} {s : St} {W : World} (h : RlAt w0 fn tx r s W) (n : Nat) : RlAt w0 fn tx r s (W.drewN n) := by
 have hb : Below W.heap.size W (W.drewN n) := below_drewN (Below.refl _ _) n;have hF : Fr W (W.drewN n) (fun _ => False) := ⟨hb.os, hb.tape, hb.output, hb.size, fun c hc _ => hb.block c hc⟩
 have hl := blt h.L;have keep : ∀ j, j < w0.heap.size + 6 -> (W.drewN n).heap[j]? = W.heap[j]? := fun j h1 => hF.block j (by omega) (fun e => e)
 exact ⟨(keep _ (by omega)).trans h.res, (keep _ (by omega)).trans h.err, (keep _ (by omega)).trans h.box, (keep _ (by omega)).trans h.K, (keep _ (by omega)).trans h.L, h.rd.side hF (fun c e => e.elim), h.below.trans (hF.below h.below.size (fun c e => e.elim))⟩
def boxLen (g : Nat) (w : World) : Nat := match w.cell? ⟨g, 0, none⟩ with
 | some (.string s) => s.size
 | _ => 0
theorem lines_in (n : Nat) (w0 : World) (fn : FuncId) (tx : ByteArray) (xs : List Ln) (hfit : ∀ x ∈ xs, S.Ln.Fit x) (hlen : (xs.flatMap (fun x => S.Ln.bare 6 x ++ [10])).length <= 4000) (W : World) (h : RlAt w0 fn tx (xs.flatMap (fun x => S.Ln.bare 6 x ++ [10])) ⟨0, [], [], []⟩ W) (hfew : xs.length <= 1000) :
  CallsIn Fence.wide n Tryz.prog 88 #[.func (.yield (w0.heap.size + 5)) #[] #[], .pointer (some ⟨w0.heap.size + 3, 0, none⟩)] W fun e W' => (∃ v, e = .returned v) /\ RlAt w0 fn tx [] (xs.foldl S.Ln.put ⟨0, [], [], []⟩) W' := by
 refine callsIn_of_wp Tryz.func88 rfl trivial ?_ rfl;simp only [Tryz.ntmps88, List.size_toArray, List.length_cons, List.length_nil, Nat.reduceAdd, Nat.reduceSub, Array.replicate_succ, Array.replicate_zero, List.push_toArray, List.append_toArray, List.nil_append, List.cons_append];obtain ⟨HF, HL, HW, H0⟩ := hd4 hfit hlen hfew h;clear hfit hlen hfew h
 gi_wp2
 gi_loopw [] (fun wr => ∃ ys zs, xs = ys ++ zs /\ RlAt w0 fn tx (zs.flatMap (fun x => S.Ln.bare 6 x ++ [10])) (ys.foldl S.Ln.put ⟨0, [], [], []⟩) wr) (fun wr => boxLen (w0.heap.size + 3) wr)
 case atStart => exact ⟨[], xs, rfl, H0.out⟩
 case round =>
  obtain ⟨ys, zs, hx, hR⟩ := hrel;obtain ⟨HX, HR⟩ := hd2 hx hR;have hbx := hR.box;have b0 : wr.cell? ⟨w0.heap.size + 3, 0, none⟩ = some (.string (V.str (zs.flatMap (fun x => S.Ln.bare 6 x ++ [10])))) := cell_of_block hbx 0 _ rfl;have f0 := free_of_block hbx 0;clear hx hR H0;cases zs with
  | nil =>
   have e0 : V.str (([] : List Ln).flatMap (fun x => S.Ln.bare 6 x ++ [10])) = ⟨#[]⟩ := rfl;rw [e0] at b0;clear hbx
   gi_wp2
   go_end0;have hx := HX.out;rw [List.append_nil] at hx;subst hx;exact ⟨⟨_, rfl⟩, HR.out⟩
  | cons x zs =>
   have hle : ((x :: zs).flatMap (fun x => S.Ln.bare 6 x ++ [10])).length <= 4000 := by
    have := HL.out;rw [HX.out, List.flatMap_append, List.length_append] at this;omega
   have hxm : S.Ln.Fit x := HF.out x (by rw [HX.out]; simp);have ecat : (x :: zs).flatMap (fun x => S.Ln.bare 6 x ++ [10]) = S.Ln.bare 6 x ++ 10 :: zs.flatMap (fun x => S.Ln.bare 6 x ++ [10]) := by simp
   have hoff := S.bare_off hxm;have hlen1 : (S.Ln.bare 6 x).length + 1 <= 4000 := by
    rw [ecat, List.length_append, List.length_cons] at hle;omega
   have hfw := S.fold_few ys ⟨0, [], [], []⟩;simp only [List.length_nil, Nat.zero_add] at hfw;have hyl : ys.length <= 1000 := by
    have := HW.out;rw [HX.out, List.length_append] at this;omega
   have HY := hide (fun (W2 : World) (h2 : RlAt w0 fn tx (zs.flatMap (fun x => S.Ln.bare 6 x ++ [10])) (ys.foldl S.Ln.put ⟨0, [], [], []⟩) W2) => rlYield (n - 1) w0 fn tx (zs.flatMap (fun x => S.Ln.bare 6 x ++ [10])) (ys.foldl S.Ln.put ⟨0, [], [], []⟩) x W2 h2 hxm (by omega) (by omega) (by omega) (by omega));have HIB := hide (fun w => sh_strings_IndexByte (V.str ((x :: zs).flatMap (fun x => S.Ln.bare 6 x ++ [10]))) 10 w);rw [show (V.str ((x :: zs).flatMap (fun x => S.Ln.bare 6 x ++ [10]))).data.toList = S.Ln.bare 6 x ++ 10 :: zs.flatMap (fun x => S.Ln.bare 6 x ++ [10]) from (V.bl_str _).trans ecat, show (10 : Int).toNat.toUInt8 = 10 from rfl, S.index_at _ _ _ hoff] at HIB;have e1 := S.ext_head1 (S.Ln.bare 6 x) (zs.flatMap (fun x => S.Ln.bare 6 x ++ [10])) 10;have hsz := S.size_str (S.Ln.bare 6 x ++ 10 :: zs.flatMap (fun x => S.Ln.bare 6 x ++ [10]));have e2 := S.ext_tail (S.Ln.bare 6 x) (zs.flatMap (fun x => S.Ln.bare 6 x ++ [10])) 10 _ hsz;have hsl : (V.str (S.Ln.bare 6 x ++ 10 :: zs.flatMap (fun x => S.Ln.bare 6 x ++ [10]))).size <= 4000 := by rw [hsz, <- ecat]; exact hle
   have hs1 : (S.Ln.bare 6 x).length + 1 <= (V.str (S.Ln.bare 6 x ++ 10 :: zs.flatMap (fun x => S.Ln.bare 6 x ++ [10]))).size := by rw [hsz]; simp
   have HBL : Hid (boxLen (w0.heap.size + 3) wr = (V.str (S.Ln.bare 6 x ++ 10 :: zs.flatMap (fun x => S.Ln.bare 6 x ++ [10]))).size) := by
    show boxLen _ _ = _;unfold boxLen;rw [b0, ecat]
   rw [ecat] at HIB HR b0;have HREST := hide (fun (b : ByteArray) (hb : b = V.str (zs.flatMap (fun x => S.Ln.bare 6 x ++ [10]))) => HR.out.rest _ b hb);have HE2 := hide e2;generalize V.str (S.Ln.bare 6 x ++ 10 :: zs.flatMap (fun x => S.Ln.bare 6 x ++ [10])) = tt at *;generalize hla : (S.Ln.bare 6 x).length = la at *;generalize V.str (S.Ln.bare 6 x ++ [10]) = tl at *;have HTR := hide (Eq.refl (V.str (zs.flatMap (fun x => S.Ln.bare 6 x ++ [10]))));generalize hqq : V.str (zs.flatMap (fun x => S.Ln.bare 6 x ++ [10])) = tr at e2 HE2 HREST;have HQQ := hide hqq;clear hqq HTR;have c1 : (0 : Int) <= ↑la := by omega
   have c3 : (0 : Int) <= ↑la + 1 := by omega
   have c4 : (↑la + 1 : Int) <= ↑tt.size := by omega
   have c5 : (0 : Int) < ↑tt.size := by omega
   clear hle hxm ecat hoff hfw hyl hsz hbx hla
   gi_wp2
   refine ⟨trivial, fun h => (by cases h), (callsIn_wide.2 (HIB.out wr)).mono ?_⟩;rintro e w' ⟨rfl, hw⟩;rw [hw];clear hw HIB
   gi_wp2
   have hmx : Tryz.prog.follows .mixedOrders = true := by kernel_rfl
   have hw1 : wrap64 ((la : Int) + 1) = la + 1 := by
    unfold wrap64;omega
   have hw2 : IntKind.i64.wrap ((la : Int) + 1) = la + 1 := by rw [IntKind.wrap_i64]; omega
   gi_region_with_o (fail)
   all_goals
    have hR2 : RlAt w0 fn tx (zs.flatMap (fun x => S.Ln.bare 6 x ++ [10])) (ys.foldl S.Ln.put ⟨0, [], [], []⟩) (wr.setCell ⟨w0.heap.size + 3, 0, none⟩ (.string tr)).drew := (HREST.out _ rfl).drew 1;obtain ⟨fn2, tmps, assign, body, hy, hRd⟩ := HY.out _ hR2;have HS : Hid (tr.size < tt.size) := by
     show _ < _;rw [<- HE2.out, ByteArray.size_extract];omega
    clear hR2 HREST HY HR HE2 e2 b0 f0 c1 c3 c4 c5 hw1 hw2 hs1 hsl hlen1 e1
    gi_wp2
    refine ⟨fun h => (by cases h), hRd.mono ?_⟩;rintro e W3 ⟨rfl, hJ3⟩;have HJ3 := hide hJ3;clear hJ3 hRd hy
    gi_wp2
    go_roundw
    case rel =>
     refine ⟨ys ++ [x], zs, by rw [HX.out]; simp, ?_⟩;rw [List.foldl_append];exact HJ3.out
    case measure =>
     rw [HBL.out];have hb3 : W3.cell? ⟨w0.heap.size + 3, 0, none⟩ = some (.string (V.str (zs.flatMap (fun x => S.Ln.bare 6 x ++ [10])))) := cell_of_block HJ3.out.box 0 _ rfl;unfold boxLen;rw [hb3, HQQ.out];exact HS.out
end Go.Proofs.YtcekcfjabhlheaaGreatDoor.Vx
