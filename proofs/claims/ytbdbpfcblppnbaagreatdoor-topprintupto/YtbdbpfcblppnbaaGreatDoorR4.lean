/- Drawn regions whose late stores wait for a load by a chain of others: the load may be taken first all the same. -/
import Derived.Test.YtbdbpfcblppnbaaGreatDoorV1
import Derived.OrdersHeld
import Derived.RegionTactic
namespace Go.Proofs.YtbdbpfcblppnbaaGreatDoor.Vx
namespace Lt
section
variable {P : Program} {ops : Array Oper} {Q : Exit → Act → World → Prop} {md : Region.Mode} {S : World → Prop} {ls : List Nat}
/-- Has one of the late ones come up? -/
def late (ls : List Nat) (listed : Array Bool) : Bool := ls.any (fun j => listed.getD j false)
/-- Whatever order is picked from here on; S holds behind every operation, until a late one has come up. -/
def wpAnyG (P : Program) (md : Region.Mode) (ops : Array Oper) (Q : Exit → Act → World → Prop) (S : World → Prop) (ls : List Nat) : Nat → Array Bool → Act → World → Prop
 | 0, listed, a, w => Region.ready md ops listed = [] ∧ Q .normal a w
 | fuel + 1, listed, a, w =>
  (Region.ready md ops listed = [] → Q .normal a w) ∧
  ∀ i ∈ Region.ready md ops listed, wpOp P ops Q i (fun a' w' => (late ls (listed.setIfInBounds i true) = false → S w') ∧ wpAnyG P md ops Q S ls fuel (listed.setIfInBounds i true) a' w') a w
theorem wpAny_of_G : ∀ (fuel : Nat) (listed : Array Bool) (a : Act) (w : World), wpAnyG P md ops Q S ls fuel listed a w → wpAny P md ops Q fuel listed a w
 | 0, _, _, _, h => h
 | fuel + 1, _, _, _, h => ⟨h.1, fun i hi => wpOp_mono (fun a' w' h' => wpAny_of_G fuel _ a' w' h'.2) (h.2 i hi)⟩
theorem late_set {listed : Array Bool} {i : Nat} (hi : i ∉ ls) : late ls (listed.setIfInBounds i true) = late ls listed := by
 unfold late
 apply Bool.eq_iff_iff.2
 simp only [List.any_eq_true]
 constructor
 ·rintro ⟨j, hj, h⟩
  have hne : i ≠ j := fun e => hi (by rw [e]; exact hj)
  rw [getD_set_ne false hne] at h
  exact ⟨j, hj, h⟩
 ·rintro ⟨j, hj, h⟩
  have hne : i ≠ j := fun e => hi (by rw [e]; exact hj)
  refine ⟨j, hj, ?_⟩
  rw [getD_set_ne false hne]; exact h
/-- What yields its value in every world that meets S, and for which the late ones wait, or yields it in whatever world, may be taken first. -/
theorem wpAnyG_first {i : Nat} {oi : Oper} {v : Value} (hi : ops[i]? = some oi) (hsel : ∀ (j : Nat) (o : Oper) cs b, ops[j]? = some o → o.op ≠ .select cs b)
  (hQ : ∀ c a w, Q (.panic c) (a.put oi.dst v) w → Q (.panic c) a w) (hil : i ∉ ls) {T : World → Prop}
  (hT : (∀ w, T w) ∨ ((∀ w, S w → T w) ∧ ∀ j ∈ ls, ∀ oj, ops[j]? = some oj → ∃ e ∈ oj.after, Region.binds md e = true ∧ e.on = i)) :
  ∀ (fuel : Nat) (listed : Array Bool) (a : Act) (w : World),
   (∀ j oj, ops[j]? = some oj → j ≠ i → listed.getD j true = false → (∀ e ∈ oj.after, Region.binds md e = true → e.on ≠ i) → oi.apart ops oj = true) →
   i ∈ Region.ready md ops listed → YieldsIf P ops T oi v a → ((∀ w, T w) ∨ late ls listed = false) → (late ls listed = false → S w) →
   wpAnyG P md ops Q S ls fuel (listed.setIfInBounds i true) (a.put oi.dst v) w → wpAnyG P md ops Q S ls (fuel + 1) listed a w := by
 have hTw : ∀ {listed : Array Bool} {w : World}, ((∀ w, T w) ∨ late ls listed = false) → (late ls listed = false → S w) → T w := by
  intro listed w hn hS
  rcases hT with h | ⟨h, _⟩
  ·exact h w
  ·rcases hn with h1 | h1
   ·exact h1 w
   ·exact h w (hS h1)
 intro fuel
 induction fuel with
 | zero =>
  intro listed a w _ hr hy hn hS H
  refine ⟨fun h => (by rw [h] at hr; cases hr), fun j hj => ?_⟩
  by_cases hji : j = i
  ·subst hji; exact hy.wpOp hi (hTw hn hS) ⟨fun h => hS (by rw [late_set hil] at h; exact h), H⟩
  ·have := ready_mono hj hji
   rw [H.1] at this
   cases this
 | succ fuel ih =>
  intro listed a w hfree hr hy hn hS H
  refine ⟨fun h => (by rw [h] at hr; cases hr), fun j hj => ?_⟩
  by_cases hji : j = i
  ·subst hji; exact hy.wpOp hi (hTw hn hS) ⟨fun h => hS (by rw [late_set hil] at h; exact h), H⟩
  ·have h1 := H.2 j (ready_mono hj hji)
   obtain ⟨hjun, oj, hoj, hall⟩ := mem_ready.1 hj
   have hnot : ∀ e ∈ oj.after, Region.binds md e = true → e.on ≠ i := fun e he hb heq => by
    have h1 := hall e he hb
    have h0 := (mem_ready.1 hr).1
    rw [heq] at h1
    rcases Nat.lt_or_ge i listed.size with h' | h'
    ·simp [h'] at h0 h1; rw [h0] at h1; cases h1
    ·simp [Array.getElem?_eq_none h'] at h1
   have h2 := wpOp_putIf hoj (hfree j oj hoj hji hjun hnot) (fun cs b => hsel i oi cs b hi) (fun cs b => hsel j oj cs b hoj) hQ hy h1
   have hfree' : ∀ k ok, ops[k]? = some ok → k ≠ i → (listed.setIfInBounds j true).getD k true = false →
     (∀ e ∈ ok.after, Region.binds md e = true → e.on ≠ i) → oi.apart ops ok = true := fun k ok hk hki hun hno => by
    refine hfree k ok hk hki ?_ hno
    by_cases hjk : j = k
    ·subst hjk; exact hjun
    ·rw [getD_set_ne true hjk] at hun; exact hun
   have hcomm : (listed.setIfInBounds i true).setIfInBounds j true = (listed.setIfInBounds j true).setIfInBounds i true := Array.setIfInBounds_comm _ _ (Ne.symm hji)
   have hlt : late ls ((listed.setIfInBounds i true).setIfInBounds j true) = late ls (listed.setIfInBounds j true) := by rw [hcomm, late_set hil]
   have hn' : (∀ w, T w) ∨ late ls (listed.setIfInBounds j true) = false := by
    rcases hn with h | h
    ·exact .inl h
    ·rcases hT with h3 | ⟨_, h3⟩
     ·exact .inl h3
     ·refine .inr ?_
      rw [late_set (fun hm => ?_)]
      ·exact h
      ·obtain ⟨e, he, hb, heq⟩ := h3 j hm oj hoj
       exact hnot e he hb heq
   refine wpOp_mono (fun a' w' h3 => ⟨fun hl => h3.2.1 (by rw [hlt]; exact hl), ih (listed.setIfInBounds j true) a' w' hfree' (ready_mono hr (Ne.symm hji)) h3.1 hn' (fun hl => h3.2.1 (by rw [hlt]; exact hl)) ?_⟩) h2
   rw [← hcomm]
   exact h3.2.2
/-- Do the late ones wait for it? -/
def waits (md : Region.Mode) (ops : Array Oper) (ls : List Nat) (i : Nat) : Bool := ls.all (fun j => match ops[j]? with | none => true | some oj => oj.after.any (fun e => Region.binds md e && e.on == i))
theorem waits_spec {i : Nat} (h : waits md ops ls i = true) : ∀ j ∈ ls, ∀ oj, ops[j]? = some oj → ∃ e ∈ oj.after, Region.binds md e = true ∧ e.on = i := by
 intro j hj oj hoj
 unfold waits at h
 have h1 := List.all_eq_true.1 h j hj
 rw [hoj] at h1
 obtain ⟨e, he, hb⟩ := Array.any_eq_true'.1 h1
 simp only [Bool.and_eq_true, beq_iff_eq] at hb
 exact ⟨e, he, hb.1, hb.2⟩
/-- A load, taken first. -/
theorem takeS {i : Nat} {oi : Oper} {v : Value} {fuel : Nat} {listed : Array Bool} {a : Act} {w : World} (hi : ops[i]? = some oi)
  (hs : Region.noSelect ops = true) (hf : Region.free md ops listed i = true) (hr : (Region.ready md ops listed).contains i = true) (hil : ls.contains i = false) (hw : waits md ops ls i = true) (hl : late ls listed = false)
  (hQ : ∀ c a w, Q (.panic c) (a.put oi.dst v) w → Q (.panic c) a w) (hy : YieldsIf P ops S oi v a) (hS : S w)
  (h : wpAnyG P md ops Q S ls fuel (listed.setIfInBounds i true) (a.put oi.dst v) w) : wpAnyG P md ops Q S ls (fuel + 1) listed a w :=
 wpAnyG_first hi (Region.noSelect_spec hs) hQ (by simpa using hil) (.inr ⟨fun _ h => h, waits_spec hw⟩) fuel listed a w (Region.free_spec hi hf) (by simpa using hr) hy (.inr hl) (fun _ => hS) h
/-- What yields in whatever world, taken first. -/
theorem takeY {i : Nat} {oi : Oper} {v : Value} {fuel : Nat} {listed : Array Bool} {a : Act} {w : World} (hi : ops[i]? = some oi)
  (hs : Region.noSelect ops = true) (hf : Region.free md ops listed i = true) (hr : (Region.ready md ops listed).contains i = true) (hil : ls.contains i = false)
  (hQ : ∀ c a w, Q (.panic c) (a.put oi.dst v) w → Q (.panic c) a w) (hy : Yields P ops oi v a) (hS : S w)
  (h : wpAnyG P md ops Q S ls fuel (listed.setIfInBounds i true) (a.put oi.dst v) w) : wpAnyG P md ops Q S ls (fuel + 1) listed a w :=
 wpAnyG_first (T := fun _ => True) hi (Region.noSelect_spec hs) hQ (by simpa using hil) (.inl fun _ => trivial) fuel listed a w (Region.free_spec hi hf) (by simpa using hr) hy.yieldsIf (.inl fun _ => trivial) (fun _ => hS) h
theorem ready1 {fuel : Nat} {listed : Array Bool} {a : Act} {w : World} {i : Nat} {o : Oper} (hr : Region.ready md ops listed = [i]) (ho : ops[i]? = some o)
  (h : ∀ K' : Act → World → Prop, (∀ a w, (late ls (listed.setIfInBounds i true) = false → S w) → wpAnyG P md ops Q S ls fuel (listed.setIfInBounds i true) a w → K' a w) → if Region.wanted o (yielded ops a.tmps) = true then Oper.wp P o a w K' Q else K' (a.put o.dst undef) w) :
  wpAnyG P md ops Q S ls (fuel + 1) listed a w := by
 refine ⟨fun h0 => (by rw [hr] at h0; cases h0), fun j hj => ?_⟩
 rw [hr, List.mem_singleton] at hj
 subst hj
 exact wpOp_step ho (fun K' hK => h K' (fun a w h1 h2 => hK a w ⟨h1, h2⟩))
theorem ready2 {fuel : Nat} {listed : Array Bool} {a : Act} {w : World} {i j : Nat} {o o2 : Oper} (hr : Region.ready md ops listed = [i, j]) (ho : ops[i]? = some o) (ho2 : ops[j]? = some o2)
  (h : ∀ K' : Act → World → Prop, (∀ a w, (late ls (listed.setIfInBounds i true) = false → S w) → wpAnyG P md ops Q S ls fuel (listed.setIfInBounds i true) a w → K' a w) → if Region.wanted o (yielded ops a.tmps) = true then Oper.wp P o a w K' Q else K' (a.put o.dst undef) w)
  (h2 : ∀ K' : Act → World → Prop, (∀ a w, (late ls (listed.setIfInBounds j true) = false → S w) → wpAnyG P md ops Q S ls fuel (listed.setIfInBounds j true) a w → K' a w) → if Region.wanted o2 (yielded ops a.tmps) = true then Oper.wp P o2 a w K' Q else K' (a.put o2.dst undef) w) :
  wpAnyG P md ops Q S ls (fuel + 1) listed a w := by
 refine ⟨fun h0 => (by rw [hr] at h0; cases h0), fun k hk => ?_⟩
 rw [hr] at hk
 rcases List.mem_cons.1 hk with rfl | hk
 ·exact wpOp_step ho (fun K' hK => h K' (fun a w h1 h2 => hK a w ⟨h1, h2⟩))
 ·rw [List.mem_singleton] at hk
  subst hk
  exact wpOp_step ho2 (fun K' hK => h2 K' (fun a w h1 h2 => hK a w ⟨h1, h2⟩))
theorem done {listed : Array Bool} {a : Act} {w : World} (hr : Region.ready md ops listed = []) (h : Q .normal a w) : ∀ fuel, wpAnyG P md ops Q S ls fuel listed a w
 | 0 => ⟨hr, h⟩
 | _ + 1 => ⟨fun _ => h, by rw [hr]; simp⟩
theorem start {id : Nat} {a : Act} {w : World} (S : World → Prop) (ls : List Nat) (hm : P.follows .mixedOrders = true)
  (h : wpAnyG P .any ops Q S ls ops.size (Array.replicate ops.size false) a w.drew) : (Code.region id ops true).wp P Q a w :=
 wp_region_any hm (wpAny_of_G _ _ _ _ h)
end
end Lt
end Go.Proofs.YtbdbpfcblppnbaaGreatDoor.Vx
namespace Go.Proofs.YtbdbpfcblppnbaaGreatDoor.Vx
namespace Lt
section
variable {P : Program} {ops : Array Oper} {Q : Exit → Act → World → Prop} {md : Region.Mode} {S : World → Prop} {ls : List Nat}
/-- What has come up has all behind it that it waits for. -/
def Cl (md : Region.Mode) (ops : Array Oper) (listed : Array Bool) : Prop := ∀ k ok, ops[k]? = some ok → listed.getD k false = true → ∀ e ∈ ok.after, Region.binds md e = true → listed.getD e.on false = true
def closed (md : Region.Mode) (ops : Array Oper) (listed : Array Bool) : Bool := (List.range ops.size).all fun k => !listed.getD k false || ((ops[k]?).map (·.after.all fun e => !Region.binds md e || listed.getD e.on false)).getD true
theorem closed_spec {listed : Array Bool} (h : closed md ops listed = true) : Cl md ops listed := by
 intro k ok hk hl e he hb
 have hlt : k < ops.size := (blt hk)
 have h1 := List.all_eq_true.1 h k (List.mem_range.2 hlt)
 rw [hk, hl] at h1
 have h2 : (ok.after.all fun e => !Region.binds md e || listed.getD e.on false) = true := by simpa only [Option.map_some, Option.getD_some, Bool.not_true, Bool.false_or] using h1
 have h3 := Array.all_eq_true'.1 h2 e he
 rw [hb] at h3
 simpa only [Bool.not_true, Bool.false_or] using h3
theorem Cl.set {listed : Array Bool} {j : Nat} (h : Cl md ops listed) (hj : j ∈ Region.ready md ops listed) : Cl md ops (listed.setIfInBounds j true) := by
 intro k ok hk hl e he hb
 by_cases hkj : j = k
 ·subst hkj
  obtain ⟨_, o, ho, hall⟩ := mem_ready.1 hj
  rw [hk] at ho
  have e1 := Option.some.inj ho
  subst e1
  exact getD_set_true (hall e he hb)
 ·rw [getD_set_ne false hkj] at hl
  exact getD_set_true (h k ok hk hl e he hb)
/-- Does j wait for i, by so many steps at most? -/
def far (md : Region.Mode) (ops : Array Oper) : Nat → Nat → Nat → Bool
 | 0, _, _ => false
 | f + 1, j, i => ((ops[j]?).map (·.after.any fun e => Region.binds md e && (e.on == i || far md ops f e.on i))).getD false
theorem far_spec {listed : Array Bool} {i : Nat} (hc : Cl md ops listed) : ∀ (f j : Nat) (oj : Oper), ops[j]? = some oj → (∀ e ∈ oj.after, Region.binds md e = true → listed.getD e.on false = true) → far md ops f j i = true → listed.getD i false = true
 | 0, _, _, _, _, h => by cases h
 | f + 1, j, oj, hj, hall, h => by
  rw [far, hj] at h
  have h1 : (oj.after.any fun e => Region.binds md e && (e.on == i || far md ops f e.on i)) = true := by simpa only [Option.map_some, Option.getD_some] using h
  obtain ⟨e, he, h2⟩ := Array.any_eq_true'.1 h1
  rw [Bool.and_eq_true, Bool.or_eq_true] at h2
  have h3 := hall e he h2.1
  rcases h2.2 with h4 | h4
  ·rw [beq_iff_eq] at h4
   rw [← h4]
   exact h3
  ·cases hm : ops[e.on]? with
   | none =>
    cases f with
    | zero => cases h4
    | succ f =>
     rw [far, hm] at h4
     cases h4
   | some om => exact far_spec hc f e.on om hm (hc e.on om hm h3) h4
theorem wpAnyG_firstT {i F : Nat} {oi : Oper} {v : Value} (hi : ops[i]? = some oi) (hsel : ∀ (j : Nat) (o : Oper) cs b, ops[j]? = some o → o.op ≠ .select cs b)
  (hQ : ∀ c a w, Q (.panic c) (a.put oi.dst v) w → Q (.panic c) a w) (hil : i ∉ ls) (hT : ∀ j ∈ ls, far md ops F j i = true) :
  ∀ (fuel : Nat) (listed : Array Bool) (a : Act) (w : World), Cl md ops listed →
   (∀ j oj, ops[j]? = some oj → j ≠ i → listed.getD j true = false → (∀ e ∈ oj.after, Region.binds md e = true → e.on ≠ i) → oi.apart ops oj = true) →
   i ∈ Region.ready md ops listed → YieldsIf P ops S oi v a → late ls listed = false → S w →
   wpAnyG P md ops Q S ls fuel (listed.setIfInBounds i true) (a.put oi.dst v) w → wpAnyG P md ops Q S ls (fuel + 1) listed a w := by
 intro fuel
 induction fuel with
 | zero =>
  intro listed a w _ _ hr hy hn hS H
  refine ⟨fun h => (by rw [h] at hr; cases hr), fun j hj => ?_⟩
  by_cases hji : j = i
  ·subst hji; exact hy.wpOp hi hS ⟨fun _ => hS, H⟩
  ·have := ready_mono hj hji
   rw [H.1] at this
   cases this
 | succ fuel ih =>
  intro listed a w hcl hfree hr hy hn hS H
  refine ⟨fun h => (by rw [h] at hr; cases hr), fun j hj => ?_⟩
  by_cases hji : j = i
  ·subst hji; exact hy.wpOp hi hS ⟨fun _ => hS, H⟩
  ·have h1 := H.2 j (ready_mono hj hji)
   obtain ⟨hjun, oj, hoj, hall⟩ := mem_ready.1 hj
   have h0 := (mem_ready.1 hr).1
   have hnl : ¬ listed.getD i false = true := fun h1 => by
    rcases Nat.lt_or_ge i listed.size with h' | h'
    ·simp [h'] at h0 h1; rw [h0] at h1; cases h1
    ·simp [Array.getElem?_eq_none h'] at h1
   have hnot : ∀ e ∈ oj.after, Region.binds md e = true → e.on ≠ i := fun e he hb heq => hnl (by
    have h1 := hall e he hb
    rw [heq] at h1
    exact h1)
   have hjl : j ∉ ls := fun hm => hnl (far_spec hcl F j oj hoj hall (hT j hm))
   have h2 := wpOp_putIf hoj (hfree j oj hoj hji hjun hnot) (fun cs b => hsel i oi cs b hi) (fun cs b => hsel j oj cs b hoj) hQ hy h1
   have hfree' : ∀ k ok, ops[k]? = some ok → k ≠ i → (listed.setIfInBounds j true).getD k true = false →
     (∀ e ∈ ok.after, Region.binds md e = true → e.on ≠ i) → oi.apart ops ok = true := fun k ok hk hki hun hno => by
    refine hfree k ok hk hki ?_ hno
    by_cases hjk : j = k
    ·subst hjk; exact hjun
    ·rw [getD_set_ne true hjk] at hun; exact hun
   have hcomm : (listed.setIfInBounds i true).setIfInBounds j true = (listed.setIfInBounds j true).setIfInBounds i true := Array.setIfInBounds_comm _ _ (Ne.symm hji)
   have hlt : late ls ((listed.setIfInBounds i true).setIfInBounds j true) = late ls (listed.setIfInBounds j true) := by rw [hcomm, late_set hil]
   have hn' : late ls (listed.setIfInBounds j true) = false := by rw [late_set hjl]; exact hn
   refine wpOp_mono (fun a' w' h3 => ⟨fun hl => h3.2.1 (by rw [hlt]; exact hl), ih (listed.setIfInBounds j true) a' w' (hcl.set hj) hfree' (ready_mono hr (Ne.symm hji)) h3.1 hn' (h3.2.1 (by rw [hlt]; exact hn')) ?_⟩) h2
   rw [← hcomm]
   exact h3.2.2
/-- A load, taken first, for which the late ones wait by whatever way. -/
theorem takeT (F : Nat) {i : Nat} {oi : Oper} {v : Value} {fuel : Nat} {listed : Array Bool} {a : Act} {w : World} (hi : ops[i]? = some oi)
  (hs : Region.noSelect ops = true) (hf : Region.free md ops listed i = true) (hr : (Region.ready md ops listed).contains i = true) (hil : ls.contains i = false) (hw : (ls.all fun j => far md ops F j i) = true) (hl : late ls listed = false) (hc : closed md ops listed = true)
  (hQ : ∀ c a w, Q (.panic c) (a.put oi.dst v) w → Q (.panic c) a w) (hy : YieldsIf P ops S oi v a) (hS : S w)
  (h : wpAnyG P md ops Q S ls fuel (listed.setIfInBounds i true) (a.put oi.dst v) w) : wpAnyG P md ops Q S ls (fuel + 1) listed a w :=
 wpAnyG_firstT (F := F) hi (Region.noSelect_spec hs) hQ (by simpa using hil) (fun j hj => List.all_eq_true.1 hw j hj) fuel listed a w (closed_spec hc) (Region.free_spec hi hf) (by simpa using hr) hy hl hS h
end
end Lt
end Go.Proofs.YtbdbpfcblppnbaaGreatDoor.Vx
