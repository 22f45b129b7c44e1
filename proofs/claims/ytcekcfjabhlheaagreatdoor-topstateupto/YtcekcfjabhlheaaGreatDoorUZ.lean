/- TopState: UZ. -/
import Derived.Test.YtcekcfjabhlheaaGreatDoorUX
namespace Go.Proofs.YtcekcfjabhlheaaGreatDoor.Vx
open Go.RowKit
namespace P
theorem bulk_lay : ∀ (k m : Nat) (v : Val), Lay k v -> k <= m -> V.bulk m v = V.bulk k v
 | 0, _, _, h, _ => h.elim
 | k + 1, 0, _, _, h => absurd h (by omega)
 | k + 1, m + 1, v, h, hk => by
  have h1 : v.l.map (V.bulk m) = v.l.map (V.bulk k) := List.map_congr_left (fun x hx => bulk_lay k m x (h.1 x hx) (by omega))
  have h2 : v.f.map (fun x => x.1.size + V.bulk m x.2) = v.f.map (fun x => x.1.size + V.bulk k x.2) := List.map_congr_left (fun x hx => by rw [bulk_lay k m x.2 (h.2 x hx) (by omega)])
  rw [V.bulk, V.bulk, V.sumL, V.sumL, V.sumF, V.sumF, h1, h2]
theorem six_bulk {m : Nat} {v : Val} (h : Lay m v) (hf : V.fault m v = 0) : V.bulk 6 v = V.bulk m v := by
 unfold V.fault at hf
 split at hf
 ·cases hf
 ·have hd : V.deep m v <= 6 := by omega
  exact (bulk_lay _ 6 v h.deep hd).trans (bulk_lay _ m v h.deep (deep_lay m v)).symm
end P
namespace S
structure Six (s : St) : Prop where
 fault : S.fault 6 s = 0
 fit : ∀ x ∈ items s, Ln.Fit x
 bulk : S.bulk 6 s <= 2000000
 few : (items s).length <= 1000
 ser : in64 s.serial
theorem row_each {α : Type} {w : World} {v : Value} {l : List α} {sz : Nat} {Q : α -> List Value -> Prop} (h : V.Row w v l.length sz (fun i c => ∃ x, l[i]? = some x /\ Q x c)) : ∀ x ∈ l, ∃ c, Q x c := by
 intro x hx
 obtain ⟨i, hi, rfl⟩ := List.getElem_of_mem hx
 obtain ⟨ao, cap, _, h | ⟨b, off, _, h⟩⟩ := h
 ·omega
 ·obtain ⟨c, _, _, y, hy, hm⟩ := h i hi
  rw [List.getElem?_eq_getElem hi] at hy
  cases hy
  exact ⟨c, hm⟩
theorem faultH_six {m : Nat} {h : Hd} (hl : P.Lay m h.v) (k : faultH m h = 0) : faultH 6 h = 0 := by
 obtain ⟨h1, h2, h3, h4, h5⟩ := faultH_zero k
 unfold faultH
 rw [if_pos ⟨h1, h2, h3, h4⟩]
 exact (P.six_of hl h5).2.1
theorem first_none {f : Nat -> Nat} {n : Nat} (h : ∀ k, k < n -> f k = 0) : X.firstErr ((List.range n).map f) = 0 := by
 refine X.firstErr_none (fun j hj => ?_)
 rw [List.length_map, List.length_range] at hj
 rw [List.getElem?_map, List.getElem?_range hj]
 simp [h j hj]
theorem held_six {m : Nat} {l : List Hd} (hl : ∀ x ∈ l, P.Lay m x.v) (k : heldFault m l = 0) : heldFault 6 l = 0 := by
 refine first_none (fun i hi => ?_)
 have h := firstErr_zero k i hi
 have hx : l[i]? = some l[i] := List.getElem?_eq_getElem hi
 unfold heldF at h ⊢
 rw [hx] at h ⊢
 simp only at h ⊢
 split at h
 ·rename_i h1
  exact absurd h h1
 ·rename_i h1
  have h2 := faultH_six (hl _ (List.getElem_mem hi)) (Classical.byContradiction h1)
  rw [if_neg (fun e => e h2)]
  exact h
theorem it_six {m : Nat} {l : List It} (hl : ∀ x ∈ l, P.Lay m x.h.v) (k : itFault m l = 0) : itFault 6 l = 0 := by
 refine first_none (fun i hi => ?_)
 have h := firstErr_zero k i hi
 have hx : l[i]? = some l[i] := List.getElem?_eq_getElem hi
 unfold itF at h ⊢
 rw [hx] at h ⊢
 simp only at h ⊢
 split at h
 ·rename_i h1
  exact absurd h h1
 ·rename_i h1
  have h2 := faultH_six (hl _ (List.getElem_mem hi)) (Classical.byContradiction h1)
  rw [if_neg (fun e => e h2)]
  exact h
theorem out_six {m : Nat} {l : List (ByteArray × Val)} (hl : ∀ x ∈ l, P.Lay m x.2) (k : outFault m l = 0) : outFault 6 l = 0 := by
 refine first_none (fun i hi => ?_)
 have h := firstErr_zero k i hi
 have hx : l[i]? = some l[i] := List.getElem?_eq_getElem hi
 unfold outF at h ⊢
 rw [hx] at h ⊢
 simp only at h ⊢
 split at h
 ·cases h
 ·rename_i h1
  rw [if_neg h1]
  exact (P.six_of (hl _ (List.getElem_mem hi)) h).2.1
theorem fault_six {m : Nat} {s : St} (h1 : ∀ x ∈ s.held, P.Lay m x.v) (h2 : ∀ x ∈ s.its, P.Lay m x.h.v) (h3 : ∀ x ∈ s.outs, P.Lay m x.2) (k : fault m s = 0) : fault 6 s = 0 := by
 unfold fault at k ⊢
 split at k
 ·cases k
 ·rename_i c1
  split at k
  ·cases k
  ·rename_i c2
   rw [if_neg c1, if_neg c2]
   split at k
   ·rename_i c3
    exact absurd k c3
   ·rename_i c3
    rw [if_neg (fun e => e (held_six h1 (Classical.byContradiction c3)))]
    split at k
    ·rename_i c4
     exact absurd k c4
    ·rename_i c4
     rw [if_neg (fun e => e (it_six h2 (Classical.byContradiction c4)))]
     exact out_six h3 k
theorem sum_same {α : Type} {f g : α -> Nat} : ∀ {l : List α}, (∀ x ∈ l, f x = g x) -> (l.map f).sum = (l.map g).sum
 | l, h => by rw [List.map_congr_left h]
theorem Six.of {m : Nat} {w : World} {s : St} {cs : List Value} (h : Mem m w s cs) (hf : S.fault m s = 0) (hb : S.bulk m s <= 2000000) : Six s /\ text m s = text 6 s := by
 obtain ⟨hv, iv, ov, _, hh, hi, ho, h64⟩ := h
 have lH : ∀ x ∈ s.held, P.Lay m x.v /\ in64 x.id := fun x hx => by
  obtain ⟨c, a0, a1, a2, a3, a4, _, k, k2⟩ := row_each hh x hx
  exact ⟨P.Lay.of_mem k, k2⟩
 have lI : ∀ x ∈ s.its, P.Lay m x.h.v /\ in64 x.h.id := fun x hx => by
  obtain ⟨c, a0, a1, a2, a3, a4, _, k, k2, _⟩ := row_each hi x hx
  exact ⟨P.Lay.of_mem k, k2⟩
 have lO : ∀ x ∈ s.outs, P.Lay m x.2 := fun x hx => by
  obtain ⟨i, hi, rfl⟩ := List.getElem_of_mem hx
  obtain ⟨ao, cap, _, h | ⟨b, off, _, h⟩⟩ := ho
  ·omega
  ·obtain ⟨c, _, _, y, c', hy, _, hm⟩ := h i hi
   rw [List.getElem?_eq_getElem hi] at hy
   cases hy
   exact P.Lay.of_mem hm
 have ok := Ok.of hf
 have few := Few.of hb
 have sH : ∀ x ∈ s.held, P.Lay 6 x.v /\ V.fault 6 x.v = 0 /\ V.text m x.v = V.text 6 x.v /\ V.bulk 6 x.v = V.bulk m x.v := fun x hx => by
  have k := P.six_of (lH x hx).1 (ok.held x hx).2.2.2.2
  exact ⟨k.1, k.2.1, k.2.2, P.six_bulk (lH x hx).1 (ok.held x hx).2.2.2.2⟩
 have sI : ∀ x ∈ s.its, P.Lay 6 x.h.v /\ V.fault 6 x.h.v = 0 /\ V.text m x.h.v = V.text 6 x.h.v /\ V.bulk 6 x.h.v = V.bulk m x.h.v := fun x hx => by
  have k := P.six_of (lI x hx).1 (ok.its x hx).2.2.2.2.1
  exact ⟨k.1, k.2.1, k.2.2, P.six_bulk (lI x hx).1 (ok.its x hx).2.2.2.2.1⟩
 have sO : ∀ x ∈ s.outs, P.Lay 6 x.2 /\ V.fault 6 x.2 = 0 /\ V.text m x.2 = V.text 6 x.2 /\ V.bulk 6 x.2 = V.bulk m x.2 := fun x hx => by
  have k := P.six_of (lO x hx) (ok.outs x hx).2
  exact ⟨k.1, k.2.1, k.2.2, P.six_bulk (lO x hx) (ok.outs x hx).2⟩
 have eb : S.bulk 6 s = S.bulk m s := by
  unfold S.bulk
  rw [sum_same (g := bulkH m) (l := s.held) (fun x hx => by unfold bulkH; rw [(sH x hx).2.2.2]), sum_same (g := bulkI m) (l := s.its) (fun x hx => by unfold bulkI bulkH; rw [(sI x hx).2.2.2]), sum_same (g := bulkO m) (l := s.outs) (fun x hx => by unfold bulkO; rw [(sO x hx).2.2.2])]
 have flat_same : ∀ {α : Type} {f g : α -> List UInt8} {l : List α}, (∀ x ∈ l, f x = g x) -> l.flatMap f = l.flatMap g := fun {α f g l} h => by
  rw [List.flatMap_def, List.flatMap_def, List.map_congr_left h]
 have el : lines m s = lines 6 s := by
  unfold lines
  rw [flat_same (g := heldLine 6) (l := s.held) (fun x hx => by unfold heldLine heldText; rw [(sH x hx).2.2.1]), flat_same (g := itLine 6) (l := s.its) (fun x hx => by unfold itLine heldText; rw [(sI x hx).2.2.1]), flat_same (g := outLine 6) (l := s.outs) (fun x hx => by unfold outLine; rw [(sO x hx).2.2.1])]
 refine ⟨⟨fault_six (fun x hx => (lH x hx).1) (fun x hx => (lI x hx).1) lO hf, fun x hx => ?_, by rw [eb]; exact hb, ?_, h64⟩, by unfold text; rw [el]⟩
 ·unfold items at hx
  rcases List.mem_append.1 hx with hx | hx
  ·rcases List.mem_append.1 hx with hx | hx
   ·rcases List.mem_cons.1 hx with rfl | hx
    ·exact ok.serial
    ·obtain ⟨y, hy, rfl⟩ := List.mem_map.1 hx
     have k := ok.held y hy
     have := few.held y hy
     exact ⟨k.1, k.2.1, k.2.2.1, (lH y hy).2, (sH y hy).2.1, (sH y hy).1, by rw [(sH y hy).2.2.2]; exact this.2.2⟩
   ·obtain ⟨y, hy, rfl⟩ := List.mem_map.1 hx
    have k := ok.its y hy
    have h0 : V.bulk m y.h.v <= 2000000 := by
     have := X.sum_le (bulkI m) s.its y hy
     unfold S.bulk at hb
     unfold bulkI bulkH at this hb
     omega
    exact ⟨k.1, k.2.1, k.2.2.1, (lI y hy).2, (sI y hy).2.1, (sI y hy).1, by rw [(sI y hy).2.2.2]; exact h0, k.2.2.2.2.2.1, k.2.2.2.2.2.2.1, k.2.2.2.2.2.2.2⟩
  ·obtain ⟨y, hy, rfl⟩ := List.mem_map.1 hx
   have k := ok.outs y hy
   have h0 : V.bulk m y.2 <= 2000000 := by
    have := X.sum_le (bulkO m) s.outs y hy
    unfold S.bulk at hb
    unfold bulkO at this hb
    omega
   exact ⟨k.1, (sO y hy).2.1, (sO y hy).1, by rw [(sO y hy).2.2.2]; exact h0⟩
 ·unfold items
  simp only [List.length_append, List.length_cons, List.length_map]
  have := ok.nHeld
  have := ok.nIts
  have := ok.nOuts
  omega
end S
end Go.Proofs.YtcekcfjabhlheaaGreatDoor.Vx
