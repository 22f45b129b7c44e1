/- TopState: UW. -/
import Derived.Test.YtcekcfjabhlheaaGreatDoorUV
import Derived.Test.YtcekcfjabhlheaaGreatDoorUP
namespace Go.Proofs.YtcekcfjabhlheaaGreatDoor.Vx
open Go.RowKit
namespace S
structure Rd (base B : Nat) (D : Nat -> Prop) (w : World) (s : St) (hv iv ov : Value) (LH : List (Hd × List Value)) (LI : List (It × List Value)) (LO : List ((ByteArray × Val) × List Value)) : Prop where
 blk : w.heap[B]? = some (.cells #[.int .i64 s.serial, hv, iv, ov] 26 (0, 0))
 bB : B < base
 bw : base <= w.heap.size
 hH : P.GrowD (P.BH 6) 63 8 base D w hv LH
 hI : P.GrowD (P.BI 6) 66 10 base D w iv LI
 hO : P.GrowD (P.BF 6) 68 6 base D w ov LO
 mH : LH.map (fun x => x.1) = s.held
 mI : LI.map (fun x => x.1) = s.its
 mO : LO.map (fun x => x.1) = s.outs
 dd : ∀ c, D c -> base <= c /\ c < w.heap.size
 hi : ∀ c, hv.ownBlock = some c -> iv.ownBlock ≠ some c
 ho : ∀ c, hv.ownBlock = some c -> ov.ownBlock ≠ some c
 io : ∀ c, iv.ownBlock = some c -> ov.ownBlock ≠ some c
theorem Rd.start {base B : Nat} {w : World} (h : w.heap[B]? = some (.cells #[.int .i64 0, .slice none 0 0, .slice none 0 0, .slice none 0 0] 26 (0, 0))) (hB : B < base) (hw : base <= w.heap.size) :
  Rd base B (fun _ => False) w ⟨0, [], [], []⟩ (.slice none 0 0) (.slice none 0 0) (.slice none 0 0) [] [] [] :=
 ⟨h, hB, hw, P.GrowD.nil _ _ _ _ _ _, P.GrowD.nil _ _ _ _ _ _, P.GrowD.nil _ _ _ _ _ _, rfl, rfl, rfl, fun _ h => h.elim, (fun _ h => by cases h), (fun _ h => by cases h), (fun _ h => by cases h)⟩
theorem Rd.more {base B : Nat} {D : Nat -> Prop} {w w' : World} {s : St} {hv iv ov : Value} {LH : List (Hd × List Value)} {LI : List (It × List Value)} {LO : List ((ByteArray × Val) × List Value)} (h : Rd base B D w s hv iv ov LH LI LO) (hb : Below w.heap.size w w') :
  Rd base B (fun c => D c \/ P.New w w' c) w' s hv iv ov LH LI LO := by
 have hF : Fr w w' (fun _ => False) := ⟨hb.os, hb.tape, hb.output, hb.size, fun c hc _ => hb.block c hc⟩
 refine ⟨(hb.block B (by have := h.bB; have := h.bw; omega)).trans h.blk, h.bB, by have := h.bw; have := hb.size; omega, ?_, ?_, ?_, h.mH, h.mI, h.mO, fun c hc => ?_, h.hi, h.ho, h.io⟩
 ·exact h.hH.keep hF (fun c hc => ⟨(h.dd c hc).2, fun x => x⟩) (fun _ _ x => x) (fun _ x => .inl x) (fun c hc k => k.elim (h.hH.apart c hc) (fun k => by have := (h.hH.own.lt c hc).2; have := k.1; omega))
 ·exact h.hI.keep hF (fun c hc => ⟨(h.dd c hc).2, fun x => x⟩) (fun _ _ x => x) (fun _ x => .inl x) (fun c hc k => k.elim (h.hI.apart c hc) (fun k => by have := (h.hI.own.lt c hc).2; have := k.1; omega))
 ·exact h.hO.keep hF (fun c hc => ⟨(h.dd c hc).2, fun x => x⟩) (fun _ _ x => x) (fun _ x => .inl x) (fun c hc k => k.elim (h.hO.apart c hc) (fun k => by have := (h.hO.own.lt c hc).2; have := k.1; omega))
 ·rcases hc with k | k
  ·have := h.dd c k
   have := hb.size
   omega
  ·have := h.bw
   exact ⟨by have := k.1; omega, k.2⟩
theorem Rd.to {base B : Nat} {D D2 : Nat -> Prop} {w w' : World} {s : St} {hv iv ov : Value} {LH : List (Hd × List Value)} {LI : List (It × List Value)} {LO : List ((ByteArray × Val) × List Value)} (h : Rd base B D w s hv iv ov LH LI LO) (hb : Below w.heap.size w w') (hD : ∀ c, D c -> D2 c) (h2 : ∀ c, D2 c -> D c \/ P.New w w' c) :
  Rd base B D2 w' s hv iv ov LH LI LO := by
 have hF : Fr w w' (fun _ => False) := ⟨hb.os, hb.tape, hb.output, hb.size, fun c hc _ => hb.block c hc⟩
 refine ⟨(hb.block B (by have := h.bB; have := h.bw; omega)).trans h.blk, h.bB, by have := h.bw; have := hb.size; omega, ?_, ?_, ?_, h.mH, h.mI, h.mO, fun c hc => ?_, h.hi, h.ho, h.io⟩
 ·exact h.hH.keep hF (fun c hc => ⟨(h.dd c hc).2, fun x => x⟩) (fun _ _ x => x) hD (fun c hc k => (h2 c k).elim (h.hH.apart c hc) (fun k => by have := (h.hH.own.lt c hc).2; have := k.1; omega))
 ·exact h.hI.keep hF (fun c hc => ⟨(h.dd c hc).2, fun x => x⟩) (fun _ _ x => x) hD (fun c hc k => (h2 c k).elim (h.hI.apart c hc) (fun k => by have := (h.hI.own.lt c hc).2; have := k.1; omega))
 ·exact h.hO.keep hF (fun c hc => ⟨(h.dd c hc).2, fun x => x⟩) (fun _ _ x => x) hD (fun c hc k => (h2 c k).elim (h.hO.apart c hc) (fun k => by have := (h.hO.own.lt c hc).2; have := k.1; omega))
 ·rcases h2 c hc with k | k
  ·have := h.dd c k
   have := hb.size
   omega
  ·have := h.bw
   exact ⟨by have := k.1; omega, k.2⟩
theorem Rd.serial {base B : Nat} {D : Nat -> Prop} {w : World} {s : St} {hv iv ov : Value} {LH : List (Hd × List Value)} {LI : List (It × List Value)} {LO : List ((ByteArray × Val) × List Value)} (h : Rd base B D w s hv iv ov LH LI LO) (n : Int) :
  Rd base B D (w.setCell ⟨B, 0, none⟩ (.int .i64 n)) { s with serial := n } hv iv ov LH LI LO := by
 have hF : Fr w (w.setCell ⟨B, 0, none⟩ (.int .i64 n)) (fun c => c = B) := Fr.set1 _ _ _ _
 have hB := h.bB
 have hd : ∀ c, D c -> c < w.heap.size /\ ¬ c = B := fun c hc => ⟨(h.dd c hc).2, by have := (h.dd c hc).1; omega⟩
 refine ⟨block_set (i := 0) h.blk _, h.bB, by have := h.bw; have := hF.size; omega, ?_, ?_, ?_, h.mH, h.mI, h.mO, fun c hc => ⟨(h.dd c hc).1, by have := (h.dd c hc).2; have := hF.size; omega⟩, h.hi, h.ho, h.io⟩
 ·exact h.hH.keep hF hd (fun c hc e => by have := (h.hH.own.lt c hc).1; omega) (fun _ x => x) h.hH.apart
 ·exact h.hI.keep hF hd (fun c hc e => by have := (h.hI.own.lt c hc).1; omega) (fun _ x => x) h.hI.apart
 ·exact h.hO.keep hF hd (fun c hc e => by have := (h.hO.own.lt c hc).1; omega) (fun _ x => x) h.hO.apart
theorem Rd.addH {base B g cap : Nat} {D : Nat -> Prop} {w w4 : World} {s : St} {hv iv ov : Value} {LH : List (Hd × List Value)} {LI : List (It × List Value)} {LO : List ((ByteArray × Val) × List Value)} {x : Hd} {cs : List Value} (h : Rd base B D w s hv iv ov LH LI LO) (hl : cs.length = 8)
  (hm : P.KM (P.BH 6) D w x cs) (ho : w4.ownsRow base 63 8 (.slice (some ⟨g, 0, none⟩) (LH.length + 1) cap) (LH.length + 1) (LH.flatMap (fun x => x.2) ++ cs)) (hg : w.grownBy w4 hv.ownBlock) (hat : hv.ownBlock = some g \/ w.heap.size <= g) :
  Rd base B D (w4.setCell ⟨B, 1, none⟩ (.slice (some ⟨g, 0, none⟩) (LH.length + 1) cap)) { s with held := s.held ++ [x] } (.slice (some ⟨g, 0, none⟩) (LH.length + 1) cap) iv ov (LH ++ [(x, cs)]) LI LO := by
 have hB := h.bB
 have hown : ∀ c, hv.ownBlock = some c -> base <= c /\ c < w.heap.size := fun c hc => h.hH.own.lt c hc
 have hF0 : Fr w4 (w4.setCell ⟨B, 1, none⟩ (.slice (some ⟨g, 0, none⟩) (LH.length + 1) cap)) (fun c => c = B) := Fr.set1 _ _ _ _
 have hF : Fr w (w4.setCell ⟨B, 1, none⟩ (.slice (some ⟨g, 0, none⟩) (LH.length + 1) cap)) (fun c => c = B \/ hv.ownBlock = some c) := (show Fr w w4 (fun c => c = B \/ hv.ownBlock = some c) from ⟨hg.os, hg.tape, hg.output, hg.size, fun c hc hn => hg.block c hc (fun e => hn (.inr e.symm))⟩).set ⟨B, 1, none⟩ _ (fun _ => .inl rfl)
 have hgb : base <= g := (ho.lt g rfl).1
 have hs := hF.size
 have hbw := h.bw
 have hA := P.GrowD.app (g := g) (cap := cap) h.hH (fun c hc => (h.dd c hc).2) hl hm ho hg hat
 have e1 : (LH ++ [(x, cs)]).length = LH.length + 1 := by simp
 rw [e1] at hA
 have hnew : ∀ c, Value.ownBlock (.slice (some ⟨g, 0, none⟩) (LH.length + 1) cap) = some c -> c = g := fun c hc => by simpa [Value.ownBlock] using hc.symm
 refine ⟨block_set (i := 1) ((hg.block B (by omega) (fun e => by have := (hown B e.symm).1; omega)).trans h.blk) _, h.bB, by omega, ?_, ?_, ?_, by rw [List.map_append, h.mH]; rfl, h.mI, h.mO, fun c hc => ⟨(h.dd c hc).1, by have := (h.dd c hc).2; omega⟩, (fun c hc e => by have hc2 := hnew c hc; subst hc2; rcases hat with k | k; exact (fun c hc e => h.hi c hc e) c k e; (have := (h.hI.own.lt c e).2; omega)), (fun c hc e => by have hc2 := hnew c hc; subst hc2; rcases hat with k | k; exact (fun c hc e => h.ho c hc e) c k e; (have := (h.hO.own.lt c e).2; omega)), h.io⟩
 ·exact hA.keep hF0 (fun c hc => ⟨by have := (h.dd c hc).2; have := hg.size; omega, by have := (h.dd c hc).1; omega⟩) (fun c hc e => by have := hnew c hc; omega) (fun _ x => x) hA.apart
 ·exact h.hI.keep hF (fun c hc => ⟨(h.dd c hc).2, fun e => e.elim (fun e => by have := (h.dd c hc).1; omega) (fun e => h.hH.apart c e hc)⟩) (fun c hc e => e.elim (fun e => by have := (h.hI.own.lt c hc).1; omega) (fun e => (fun c hc e => h.hi c e hc) c hc e)) (fun _ x => x) h.hI.apart
 ·exact h.hO.keep hF (fun c hc => ⟨(h.dd c hc).2, fun e => e.elim (fun e => by have := (h.dd c hc).1; omega) (fun e => h.hH.apart c e hc)⟩) (fun c hc e => e.elim (fun e => by have := (h.hO.own.lt c hc).1; omega) (fun e => (fun c hc e => h.ho c e hc) c hc e)) (fun _ x => x) h.hO.apart
theorem Rd.addI {base B g cap : Nat} {D : Nat -> Prop} {w w4 : World} {s : St} {hv iv ov : Value} {LH : List (Hd × List Value)} {LI : List (It × List Value)} {LO : List ((ByteArray × Val) × List Value)} {x : It} {cs : List Value} (h : Rd base B D w s hv iv ov LH LI LO) (hl : cs.length = 10)
  (hm : P.KM (P.BI 6) D w x cs) (ho : w4.ownsRow base 66 10 (.slice (some ⟨g, 0, none⟩) (LI.length + 1) cap) (LI.length + 1) (LI.flatMap (fun x => x.2) ++ cs)) (hg : w.grownBy w4 iv.ownBlock) (hat : iv.ownBlock = some g \/ w.heap.size <= g) :
  Rd base B D (w4.setCell ⟨B, 2, none⟩ (.slice (some ⟨g, 0, none⟩) (LI.length + 1) cap)) { s with its := s.its ++ [x] } hv (.slice (some ⟨g, 0, none⟩) (LI.length + 1) cap) ov LH (LI ++ [(x, cs)]) LO := by
 have hB := h.bB
 have hown : ∀ c, iv.ownBlock = some c -> base <= c /\ c < w.heap.size := fun c hc => h.hI.own.lt c hc
 have hF0 : Fr w4 (w4.setCell ⟨B, 2, none⟩ (.slice (some ⟨g, 0, none⟩) (LI.length + 1) cap)) (fun c => c = B) := Fr.set1 _ _ _ _
 have hF : Fr w (w4.setCell ⟨B, 2, none⟩ (.slice (some ⟨g, 0, none⟩) (LI.length + 1) cap)) (fun c => c = B \/ iv.ownBlock = some c) := (show Fr w w4 (fun c => c = B \/ iv.ownBlock = some c) from ⟨hg.os, hg.tape, hg.output, hg.size, fun c hc hn => hg.block c hc (fun e => hn (.inr e.symm))⟩).set ⟨B, 2, none⟩ _ (fun _ => .inl rfl)
 have hgb : base <= g := (ho.lt g rfl).1
 have hs := hF.size
 have hbw := h.bw
 have hA := P.GrowD.app (g := g) (cap := cap) h.hI (fun c hc => (h.dd c hc).2) hl hm ho hg hat
 have e1 : (LI ++ [(x, cs)]).length = LI.length + 1 := by simp
 rw [e1] at hA
 have hnew : ∀ c, Value.ownBlock (.slice (some ⟨g, 0, none⟩) (LI.length + 1) cap) = some c -> c = g := fun c hc => by simpa [Value.ownBlock] using hc.symm
 refine ⟨block_set (i := 2) ((hg.block B (by omega) (fun e => by have := (hown B e.symm).1; omega)).trans h.blk) _, h.bB, by omega, ?_, ?_, ?_, h.mH, by rw [List.map_append, h.mI]; rfl, h.mO, fun c hc => ⟨(h.dd c hc).1, by have := (h.dd c hc).2; omega⟩, (fun c hc e => by have hc2 := hnew c e; subst hc2; rcases hat with k | k; exact (fun c hc e => h.hi c e hc) c k hc; (have := (h.hH.own.lt c hc).2; omega)), h.ho, (fun c hc e => by have hc2 := hnew c hc; subst hc2; rcases hat with k | k; exact (fun c hc e => h.io c hc e) c k e; (have := (h.hO.own.lt c e).2; omega))⟩
 ·exact h.hH.keep hF (fun c hc => ⟨(h.dd c hc).2, fun e => e.elim (fun e => by have := (h.dd c hc).1; omega) (fun e => h.hI.apart c e hc)⟩) (fun c hc e => e.elim (fun e => by have := (h.hH.own.lt c hc).1; omega) (fun e => (fun c hc e => h.hi c hc e) c hc e)) (fun _ x => x) h.hH.apart
 ·exact hA.keep hF0 (fun c hc => ⟨by have := (h.dd c hc).2; have := hg.size; omega, by have := (h.dd c hc).1; omega⟩) (fun c hc e => by have := hnew c hc; omega) (fun _ x => x) hA.apart
 ·exact h.hO.keep hF (fun c hc => ⟨(h.dd c hc).2, fun e => e.elim (fun e => by have := (h.dd c hc).1; omega) (fun e => h.hI.apart c e hc)⟩) (fun c hc e => e.elim (fun e => by have := (h.hO.own.lt c hc).1; omega) (fun e => (fun c hc e => h.io c e hc) c hc e)) (fun _ x => x) h.hO.apart
theorem Rd.addO {base B g cap : Nat} {D : Nat -> Prop} {w w4 : World} {s : St} {hv iv ov : Value} {LH : List (Hd × List Value)} {LI : List (It × List Value)} {LO : List ((ByteArray × Val) × List Value)} {x : ByteArray × Val} {cs : List Value} (h : Rd base B D w s hv iv ov LH LI LO) (hl : cs.length = 6)
  (hm : P.KM (P.BF 6) D w x cs) (ho : w4.ownsRow base 68 6 (.slice (some ⟨g, 0, none⟩) (LO.length + 1) cap) (LO.length + 1) (LO.flatMap (fun x => x.2) ++ cs)) (hg : w.grownBy w4 ov.ownBlock) (hat : ov.ownBlock = some g \/ w.heap.size <= g) :
  Rd base B D (w4.setCell ⟨B, 3, none⟩ (.slice (some ⟨g, 0, none⟩) (LO.length + 1) cap)) { s with outs := s.outs ++ [x] } hv iv (.slice (some ⟨g, 0, none⟩) (LO.length + 1) cap) LH LI (LO ++ [(x, cs)]) := by
 have hB := h.bB
 have hown : ∀ c, ov.ownBlock = some c -> base <= c /\ c < w.heap.size := fun c hc => h.hO.own.lt c hc
 have hF0 : Fr w4 (w4.setCell ⟨B, 3, none⟩ (.slice (some ⟨g, 0, none⟩) (LO.length + 1) cap)) (fun c => c = B) := Fr.set1 _ _ _ _
 have hF : Fr w (w4.setCell ⟨B, 3, none⟩ (.slice (some ⟨g, 0, none⟩) (LO.length + 1) cap)) (fun c => c = B \/ ov.ownBlock = some c) := (show Fr w w4 (fun c => c = B \/ ov.ownBlock = some c) from ⟨hg.os, hg.tape, hg.output, hg.size, fun c hc hn => hg.block c hc (fun e => hn (.inr e.symm))⟩).set ⟨B, 3, none⟩ _ (fun _ => .inl rfl)
 have hgb : base <= g := (ho.lt g rfl).1
 have hs := hF.size
 have hbw := h.bw
 have hA := P.GrowD.app (g := g) (cap := cap) h.hO (fun c hc => (h.dd c hc).2) hl hm ho hg hat
 have e1 : (LO ++ [(x, cs)]).length = LO.length + 1 := by simp
 rw [e1] at hA
 have hnew : ∀ c, Value.ownBlock (.slice (some ⟨g, 0, none⟩) (LO.length + 1) cap) = some c -> c = g := fun c hc => by simpa [Value.ownBlock] using hc.symm
 refine ⟨block_set (i := 3) ((hg.block B (by omega) (fun e => by have := (hown B e.symm).1; omega)).trans h.blk) _, h.bB, by omega, ?_, ?_, ?_, h.mH, h.mI, by rw [List.map_append, h.mO]; rfl, fun c hc => ⟨(h.dd c hc).1, by have := (h.dd c hc).2; omega⟩, h.hi, (fun c hc e => by have hc2 := hnew c e; subst hc2; rcases hat with k | k; exact (fun c hc e => h.ho c e hc) c k hc; (have := (h.hH.own.lt c hc).2; omega)), (fun c hc e => by have hc2 := hnew c e; subst hc2; rcases hat with k | k; exact (fun c hc e => h.io c e hc) c k hc; (have := (h.hI.own.lt c hc).2; omega))⟩
 ·exact h.hH.keep hF (fun c hc => ⟨(h.dd c hc).2, fun e => e.elim (fun e => by have := (h.dd c hc).1; omega) (fun e => h.hO.apart c e hc)⟩) (fun c hc e => e.elim (fun e => by have := (h.hH.own.lt c hc).1; omega) (fun e => (fun c hc e => h.ho c hc e) c hc e)) (fun _ x => x) h.hH.apart
 ·exact h.hI.keep hF (fun c hc => ⟨(h.dd c hc).2, fun e => e.elim (fun e => by have := (h.dd c hc).1; omega) (fun e => h.hO.apart c e hc)⟩) (fun c hc e => e.elim (fun e => by have := (h.hI.own.lt c hc).1; omega) (fun e => (fun c hc e => h.io c hc e) c hc e)) (fun _ x => x) h.hI.apart
 ·exact hA.keep hF0 (fun c hc => ⟨by have := (h.dd c hc).2; have := hg.size; omega, by have := (h.dd c hc).1; omega⟩) (fun c hc e => by have := hnew c hc; omega) (fun _ x => x) hA.apart
end S
end Go.Proofs.YtcekcfjabhlheaaGreatDoor.Vx
