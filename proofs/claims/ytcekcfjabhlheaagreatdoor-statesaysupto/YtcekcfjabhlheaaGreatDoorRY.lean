/- StateSays: RP RY. -/
import Derived.Test.YtcekcfjabhlheaaGreatDoorRO
import Derived.Test.YtcekcfjabhlheaaGreatDoorRG
namespace Go.Proofs.YtcekcfjabhlheaaGreatDoor.Vx
open Go.RowKit
namespace P
theorem nrow {base cap : Nat} {w w2 : World} {an : Option Addr} {N : List ByteArray} (h : w.ownsRow base 9 1 (.slice an N.length cap) N.length (N.map Value.string)) (hw : ∀ c, base <= c /\ c < w.heap.size -> w2.heap[c]? = w.heap[c]?) :
  V.Row w2 (.slice an N.length cap) N.length 1 (fun i c => ∃ x, N[i]? = some x /\ c = [.string x]) := by
 rcases h.2 with ⟨hv, hn⟩ | ⟨g, cap', cur, hv, hg, hh, hnc, _, hcs, htk⟩
 ·exact ⟨_, _, rfl, .inl hn⟩
 ·simp only [Value.slice.injEq, true_and] at hv;obtain ⟨rfl, rfl⟩ := hv;have hlt := (blt hh)
  have hg2 := (hw g ⟨hg, hlt⟩).trans hh;refine ⟨_, _, rfl, .inr ⟨g, 0, rfl, fun i hi => ⟨[.string N[i]], rfl, fun j hj => ?_, N[i], List.getElem?_eq_getElem hi, rfl⟩⟩⟩;have hj0 : j = 0 := by omega
  subst hj0;rw [cell_of_row w2 g _ cur 9 (0, 0) hg2];have h3 : (N.map Value.string)[i]? = some (.string N[i]) := by rw [List.getElem?_map, List.getElem?_eq_getElem hi]; rfl
  rw [<- htk, List.getElem?_take, if_pos (by omega), Array.getElem?_toList] at h3;rw [show 0 + i * 1 + 0 = i by omega, h3];rfl
theorem arow {base d cap : Nat} {D : Nat -> Prop} {w w2 : World} {ao : Option Addr} {L : List (Ex × List Value)} (ten : ∀ x ∈ L, x.2.length = 10) (own : w.ownsRow base 170 10 (.slice ao L.length cap) L.length (L.flatMap (fun x => x.2)))
  (hD : ∀ c, base <= c /\ c < w.heap.size -> D c) (mem : ∀ x ∈ L, X.MemD D d w x.1 x.2) (hw : ∀ c, D c -> w2.heap[c]? = w.heap[c]?) :
  X.RowA w2 (.slice ao L.length cap) (L.map (·.1)).length (fun i c => ∃ x, (L.map (·.1))[i]? = some x /\ X.Mem d w2 x c) := by
 rcases own.2 with ⟨hv, hn⟩ | ⟨g, cap', cur, hv, hg, hh, hnc, _, hcs, htk⟩
 ·have hL : L = [] := List.length_eq_zero_iff.1 hn;subst hL;exact ⟨⟨_, _, rfl, .inl rfl⟩, fun _ _ _ _ _ h => absurd rfl h⟩
 ·simp only [Value.slice.injEq, true_and] at hv;obtain ⟨rfl, rfl⟩ := hv;have hlt := (blt hh)
  refine X.rowD (l := L) hh (fun i x hx => ?_) mem (hD g ⟨hg, hlt⟩) hw;obtain ⟨h1, h2⟩ := flat_at L ten i x hx;refine ⟨h1, fun j hj => ?_⟩;have hi : i < L.length := (List.getElem?_eq_some_iff.1 hx).1;have h3 := h2 j hj;rw [<- htk, List.getElem?_toArray, List.getElem?_take, if_pos (by omega), Array.getElem?_toList] at h3;exact h3
theorem growF_node {base d : Nat} {w : World} {an ao : Option Addr} {capn cap : Nat} {N : List ByteArray} {L : List (Ex × List Value)} (h : GrowF base d w (.slice an N.length capn) (.slice ao L.length cap) N L) (k : Int) (s t : ByteArray) :
  X.MemD (fun c => base <= c /\ c < w.heap.size) (d + 1) w ⟨k, V.zero, s, t, L.map (·.1), N⟩ (xc k V.zero s t ao L.length cap an N.length capn) :=
 fun w2 hw => ⟨_, _, _, _, _, _, _, rfl, vmem d w2 0 0 ⟨#[]⟩, arow h.ten h.own (fun _ h => h) (fun x hx => (h.mem x hx).to (fun _ _ => rfl) (fun _ hc => ⟨hc.1, hc.2.1⟩)) hw, nrow h.ownN hw⟩
def nbox (an : Option Addr) (n cap : Nat) : Obj := .cells #[.slice an n cap] 102 (0, 0)
def lbox (ao : Option Addr) (n cap : Nat) : Obj := .cells #[.slice ao n cap] 168 (0, 0)
structure ItF (w1 : World) (R Bn Bl d M : Nat) (ts : List K) (acc : List (ByteArray × Ex)) (w : World) : Prop where
 fr : Fr w1 w (fun c => c = R \/ c = Bn \/ c = Bl)
 rdr : Rdr R w ts
 row : ∃ an capn ao cap N L, acc.map (·.1) = N /\ acc.map (·.2) = L.map (fun x : Ex × List Value => x.1) /\ w.heap[Bn]? = some (nbox an N.length capn) /\ w.heap[Bl]? = some (lbox ao L.length cap) /\
  GrowF w1.heap.size d w (.slice an N.length capn) (.slice ao L.length cap) N L
 bulk : 2 * acc.length + X.sumN (acc.map (·.1)) + X.sumA (X.bulk d) (acc.map (·.2)) + 60 * ts.length <= M
 len : acc.length + ts.length <= 4200
def ItFBad (w1 : World) (R Bn Bl : Nat) (w : World) : Prop := Fr w1 w (fun c => c = R \/ c = Bn \/ c = Bl) /\ (∃ ts', Rdr R w ts') /\ (∃ an n cap, w.heap[Bn]? = some (nbox an n cap)) /\ ∃ ao n cap, w.heap[Bl]? = some (lbox ao n cap)
theorem ItF.move {w1 : World} {R Bn Bl d M : Nat} {ts ts' : List K} {acc : List (ByteArray × Ex)} {w w' : World} (h : ItF w1 R Bn Bl d M ts acc w) (hR : R < w1.heap.size) (hBn : Bn ≠ R) (hBl : Bl ≠ R) (hf : Fr w w' (fun c => c = R)) (hl : ts'.length <= ts.length) (hr : Rdr R w' ts') : ItF w1 R Bn Bl d M ts' acc w' := by
 obtain ⟨an, capn, ao, cap, N, L, e1, e2, hb1, hb2, hg⟩ := h.row;exact ⟨h.fr.trans hf (fun _ _ e => .inl e), hr, ⟨an, capn, ao, cap, N, L, e1, e2, (hf.block Bn (blt hb1) hBn).trans hb1, (hf.block Bl (blt hb2) hBl).trans hb2, hg.fr hf (fun c e => by omega)⟩, by have := h.bulk; omega, by have := h.len; omega⟩
theorem ItF.bad {w1 : World} {R Bn Bl d M : Nat} {ts ts' : List K} {acc : List (ByteArray × Ex)} {w w' : World} (h : ItF w1 R Bn Bl d M ts acc w) (hBn : Bn ≠ R) (hBl : Bl ≠ R) (hf : Fr w w' (fun c => c = R)) (hr : Rdr R w' ts') : ItFBad w1 R Bn Bl w' := by
 obtain ⟨an, capn, ao, cap, N, L, e1, e2, hb1, hb2, hg⟩ := h.row;exact ⟨h.fr.trans hf (fun _ _ e => .inl e), ⟨_, hr⟩, ⟨an, _, capn, (hf.block Bn (blt hb1) hBn).trans hb1⟩, ⟨ao, _, cap, (hf.block Bl (blt hb2) hBl).trans hb2⟩⟩
end P
end Go.Proofs.YtcekcfjabhlheaaGreatDoor.Vx
namespace Go.Proofs.YtcekcfjabhlheaaGreatDoor.Vx
namespace Lt
section
variable {P : Program} {ops : Array Oper} {Q : Exit -> Act -> World -> Prop} {md : Region.Mode} {S : World -> Prop} {ls : List Nat}
def Cl (md : Region.Mode) (ops : Array Oper) (listed : Array Bool) : Prop := ∀ k ok, ops[k]? = some ok -> listed.getD k false = true -> ∀ e ∈ ok.after, Region.binds md e = true -> listed.getD e.on false = true
def closed (md : Region.Mode) (ops : Array Oper) (listed : Array Bool) : Bool := (List.range ops.size).all fun k => !listed.getD k false || ((ops[k]?).map (·.after.all fun e => !Region.binds md e || listed.getD e.on false)).getD true
theorem closed_spec {listed : Array Bool} (h : closed md ops listed = true) : Cl md ops listed := by
 intro k ok hk hl e he hb;have hlt : k < ops.size := (Array.getElem?_eq_some_iff.1 hk).1;have h1 := List.all_eq_true.1 h k (List.mem_range.2 hlt);rw [hk, hl] at h1;have h2 : (ok.after.all fun e => !Region.binds md e || listed.getD e.on false) = true := by simpa only [Option.map_some, Option.getD_some, Bool.not_true, Bool.false_or] using h1
 have h3 := Array.all_eq_true'.1 h2 e he;rw [hb] at h3;simpa only [Bool.not_true, Bool.false_or] using h3
theorem Cl.set {listed : Array Bool} {j : Nat} (h : Cl md ops listed) (hj : j ∈ Region.ready md ops listed) : Cl md ops (listed.setIfInBounds j true) := by
 intro k ok hk hl e he hb;by_cases hkj : j = k
 ·subst hkj;obtain ⟨_, o, ho, hall⟩ := mem_ready.1 hj;rw [hk] at ho;have e1 := Option.some.inj ho;subst e1;exact getD_set_true (hall e he hb)
 ·rw [getD_set_ne false hkj] at hl;exact getD_set_true (h k ok hk hl e he hb)
def far (md : Region.Mode) (ops : Array Oper) : Nat -> Nat -> Nat -> Bool
 | 0, _, _ => false
 | f + 1, j, i => ((ops[j]?).map (·.after.any fun e => Region.binds md e && (e.on == i || far md ops f e.on i))).getD false
theorem far_spec {listed : Array Bool} {i : Nat} (hc : Cl md ops listed) : ∀ (f j : Nat) (oj : Oper), ops[j]? = some oj -> (∀ e ∈ oj.after, Region.binds md e = true -> listed.getD e.on false = true) -> far md ops f j i = true -> listed.getD i false = true
 | 0, _, _, _, _, h => by cases h
 | f + 1, j, oj, hj, hall, h => by
  rw [far, hj] at h;have h1 : (oj.after.any fun e => Region.binds md e && (e.on == i || far md ops f e.on i)) = true := by simpa only [Option.map_some, Option.getD_some] using h
  obtain ⟨e, he, h2⟩ := Array.any_eq_true'.1 h1;rw [Bool.and_eq_true, Bool.or_eq_true] at h2;have h3 := hall e he h2.1;rcases h2.2 with h4 | h4
  ·rw [beq_iff_eq] at h4;rw [<- h4];exact h3
  ·cases hm : ops[e.on]? with
   | none =>
    cases f with
    | zero => cases h4
    | succ f =>
     rw [far, hm] at h4;cases h4
   | some om => exact far_spec hc f e.on om hm (hc e.on om hm h3) h4
theorem wpAnyG_firstT {i F : Nat} {oi : Oper} {v : Value} (hi : ops[i]? = some oi) (hsel : ∀ (j : Nat) (o : Oper) cs b, ops[j]? = some o -> o.op ≠ .select cs b)
  (hQ : ∀ c a w, Q (.panic c) (a.put oi.dst v) w -> Q (.panic c) a w) (hil : i ∉ ls) (hT : ∀ j ∈ ls, far md ops F j i = true) :
  ∀ (fuel : Nat) (listed : Array Bool) (a : Act) (w : World), Cl md ops listed ->
   (∀ j oj, ops[j]? = some oj -> j ≠ i -> listed.getD j true = false -> (∀ e ∈ oj.after, Region.binds md e = true -> e.on ≠ i) -> oi.apart ops oj = true) ->
   i ∈ Region.ready md ops listed -> YieldsIf P ops S oi v a -> late ls listed = false -> S w ->
   wpAnyG P md ops Q S ls fuel (listed.setIfInBounds i true) (a.put oi.dst v) w -> wpAnyG P md ops Q S ls (fuel + 1) listed a w := by
 intro fuel;induction fuel with
 | zero =>
  intro listed a w _ _ hr hy hn hS H;refine ⟨fun h => (by rw [h] at hr; cases hr), fun j hj => ?_⟩;by_cases hji : j = i
  ·subst hji; exact hy.wpOp hi hS ⟨fun _ => hS, H⟩
  ·have := ready_mono hj hji;rw [H.1] at this;cases this
 | succ fuel ih =>
  intro listed a w hcl hfree hr hy hn hS H;refine ⟨fun h => (by rw [h] at hr; cases hr), fun j hj => ?_⟩;by_cases hji : j = i
  ·subst hji; exact hy.wpOp hi hS ⟨fun _ => hS, H⟩
  ·have h1 := H.2 j (ready_mono hj hji);obtain ⟨hjun, oj, hoj, hall⟩ := mem_ready.1 hj;have h0 := (mem_ready.1 hr).1;have hnl : ¬ listed.getD i false = true := fun h1 => by
    rcases Nat.lt_or_ge i listed.size with h' | h'
    ·simp [h'] at h0 h1; rw [h0] at h1; cases h1
    ·simp [Array.getElem?_eq_none h'] at h1
   have hnot : ∀ e ∈ oj.after, Region.binds md e = true -> e.on ≠ i := fun e he hb heq => hnl (by
    have h1 := hall e he hb;rw [heq] at h1;exact h1)
   have hjl : j ∉ ls := fun hm => hnl (far_spec hcl F j oj hoj hall (hT j hm))
   have h2 := wpOp_putIf hoj (hfree j oj hoj hji hjun hnot) (fun cs b => hsel i oi cs b hi) (fun cs b => hsel j oj cs b hoj) hQ hy h1;have hfree' : ∀ k ok, ops[k]? = some ok -> k ≠ i -> (listed.setIfInBounds j true).getD k true = false ->
     (∀ e ∈ ok.after, Region.binds md e = true -> e.on ≠ i) -> oi.apart ops ok = true := fun k ok hk hki hun hno => by
    refine hfree k ok hk hki ?_ hno;by_cases hjk : j = k
    ·subst hjk; exact hjun
    ·rw [getD_set_ne true hjk] at hun; exact hun
   have hcomm : (listed.setIfInBounds i true).setIfInBounds j true = (listed.setIfInBounds j true).setIfInBounds i true := Array.setIfInBounds_comm _ _ (Ne.symm hji);have hlt : late ls ((listed.setIfInBounds i true).setIfInBounds j true) = late ls (listed.setIfInBounds j true) := by rw [hcomm, late_set hil]
   have hn' : late ls (listed.setIfInBounds j true) = false := by rw [late_set hjl]; exact hn
   refine wpOp_mono (fun a' w' h3 => ⟨fun hl => h3.2.1 (by rw [hlt]; exact hl), ih (listed.setIfInBounds j true) a' w' (hcl.set hj) hfree' (ready_mono hr (Ne.symm hji)) h3.1 hn' (h3.2.1 (by rw [hlt]; exact hn')) ?_⟩) h2;rw [<- hcomm];exact h3.2.2
theorem takeT (F : Nat) {i : Nat} {oi : Oper} {v : Value} {fuel : Nat} {listed : Array Bool} {a : Act} {w : World} (hi : ops[i]? = some oi)
  (hs : Region.noSelect ops = true) (hf : Region.free md ops listed i = true) (hr : (Region.ready md ops listed).contains i = true) (hil : ls.contains i = false) (hw : (ls.all fun j => far md ops F j i) = true) (hl : late ls listed = false) (hc : closed md ops listed = true)
  (hQ : ∀ c a w, Q (.panic c) (a.put oi.dst v) w -> Q (.panic c) a w) (hy : YieldsIf P ops S oi v a) (hS : S w)
  (h : wpAnyG P md ops Q S ls fuel (listed.setIfInBounds i true) (a.put oi.dst v) w) : wpAnyG P md ops Q S ls (fuel + 1) listed a w :=
 wpAnyG_firstT (F := F) hi (Region.noSelect_spec hs) hQ (by simpa using hil) (fun j hj => List.all_eq_true.1 hw j hj) fuel listed a w (closed_spec hc) (Region.free_spec hi hf) (by simpa using hr) hy hl hS h
end
end Lt
end Go.Proofs.YtcekcfjabhlheaaGreatDoor.Vx
