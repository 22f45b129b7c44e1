/- check.Check. -/
import Derived.Test.YtienhelohfhhfaaVA
import Derived.OrdersHeld
import Derived.RegionTactic
import Derived.Test.YtienhelohfhhfaaXXc
import Derived.Deep.DeepFit
import Derived.Deep.RegionLaw
import Derived.Deep.CutRange
import Derived.OwnWalk
namespace Go.Proofs.Ytienhelohfhhfaa.Vx
namespace Lt
section
variable {P : Program} {ops : Array Oper} {Q : Exit → Act → World → Prop} {md : Region.Mode} {S : World → Prop} {ls : List Nat}
/-- Has one of the late ones come up? -/
def late (ls : List Nat) (listed : Array Bool) : Bool := ls.any (fun j => listed.getD j false)
/-- Whatever order is picked from here on; S holds behind every operation, until a late one has come up. -/
def wpAnyG (P : Program) (md : Region.Mode) (ops : Array Oper) (Q : Exit → Act → World → Prop) (S : World → Prop) (ls : List Nat) : Nat → Array Bool → Act → World → Prop
  | 0, listed, a, w => Region.ready md ops listed = [] ∧ Q .normal a w
  | fuel + 1, listed, a, w =>
    (Region.ready md ops listed = [] → Q .normal a w) ∧
    ∀ i ∈ Region.ready md ops listed, wpOp P ops Q i (fun a' w' => (late ls (listed.setIfInBounds i true) = false → S w') ∧ wpAnyG P md ops Q S ls fuel (listed.setIfInBounds i true) a' w') a w
theorem wpAny_of_G : ∀ (fuel : Nat) (listed : Array Bool) (a : Act) (w : World), wpAnyG P md ops Q S ls fuel listed a w → wpAny P md ops Q fuel listed a w
  | 0, _, _, _, h => h
  | fuel + 1, _, _, _, h => ⟨h.1, fun i hi => wpOp_mono (fun a' w' h' => wpAny_of_G fuel _ a' w' h'.2) (h.2 i hi)⟩
theorem late_set {listed : Array Bool} {i : Nat} (hi : i ∉ ls) : late ls (listed.setIfInBounds i true) = late ls listed := by
  unfold late
  apply Bool.eq_iff_iff.2
  simp only [List.any_eq_true]
  constructor
  · rintro ⟨j, hj, h⟩
    have hne : i ≠ j := fun e => hi (by rw [e]; exact hj)
    rw [getD_set_ne false hne] at h
    exact ⟨j, hj, h⟩
  · rintro ⟨j, hj, h⟩
    have hne : i ≠ j := fun e => hi (by rw [e]; exact hj)
    refine ⟨j, hj, ?_⟩
    rw [getD_set_ne false hne]; exact h
/-- What yields its value in every world that meets S, and for which the late ones wait, or yields it in whatever world, may be taken first. -/
theorem wpAnyG_first {i : Nat} {oi : Oper} {v : Value} (hi : ops[i]? = some oi) (hsel : ∀ (j : Nat) (o : Oper) cs b, ops[j]? = some o → o.op ≠ .select cs b)
    (hQ : ∀ c a w, Q (.panic c) (a.put oi.dst v) w → Q (.panic c) a w) (hil : i ∉ ls) {T : World → Prop}
    (hT : (∀ w, T w) ∨ ((∀ w, S w → T w) ∧ ∀ j ∈ ls, ∀ oj, ops[j]? = some oj → ∃ e ∈ oj.after, Region.binds md e = true ∧ e.on = i)) :
    ∀ (fuel : Nat) (listed : Array Bool) (a : Act) (w : World),
      (∀ j oj, ops[j]? = some oj → j ≠ i → listed.getD j true = false → (∀ e ∈ oj.after, Region.binds md e = true → e.on ≠ i) → oi.apart ops oj = true) →
      i ∈ Region.ready md ops listed → YieldsIf P ops T oi v a → ((∀ w, T w) ∨ late ls listed = false) → (late ls listed = false → S w) →
      wpAnyG P md ops Q S ls fuel (listed.setIfInBounds i true) (a.put oi.dst v) w → wpAnyG P md ops Q S ls (fuel + 1) listed a w := by
  have hTw : ∀ {listed : Array Bool} {w : World}, ((∀ w, T w) ∨ late ls listed = false) → (late ls listed = false → S w) → T w := by
    intro listed w hn hS
    rcases hT with h | ⟨h, _⟩
    · exact h w
    · rcases hn with h1 | h1
      · exact h1 w
      · exact h w (hS h1)
  intro fuel
  induction fuel with
  | zero =>
    intro listed a w _ hr hy hn hS H
    refine ⟨fun h => (by rw [h] at hr; cases hr), fun j hj => ?_⟩
    by_cases hji : j = i
    · subst hji; exact hy.wpOp hi (hTw hn hS) ⟨fun h => hS (by rw [late_set hil] at h; exact h), H⟩
    · have := ready_mono hj hji
      rw [H.1] at this
      cases this
  | succ fuel ih =>
    intro listed a w hfree hr hy hn hS H
    refine ⟨fun h => (by rw [h] at hr; cases hr), fun j hj => ?_⟩
    by_cases hji : j = i
    · subst hji; exact hy.wpOp hi (hTw hn hS) ⟨fun h => hS (by rw [late_set hil] at h; exact h), H⟩
    · have h1 := H.2 j (ready_mono hj hji)
      obtain ⟨hjun, oj, hoj, hall⟩ := mem_ready.1 hj
      have hnot : ∀ e ∈ oj.after, Region.binds md e = true → e.on ≠ i := fun e he hb heq => by
        have h1 := hall e he hb
        have h0 := (mem_ready.1 hr).1
        rw [heq] at h1
        rcases Nat.lt_or_ge i listed.size with h' | h'
        · simp [h'] at h0 h1; rw [h0] at h1; cases h1
        · simp [Array.getElem?_eq_none h'] at h1
      have h2 := wpOp_putIf hoj (hfree j oj hoj hji hjun hnot) (fun cs b => hsel i oi cs b hi) (fun cs b => hsel j oj cs b hoj) hQ hy h1
      have hfree' : ∀ k ok, ops[k]? = some ok → k ≠ i → (listed.setIfInBounds j true).getD k true = false →
          (∀ e ∈ ok.after, Region.binds md e = true → e.on ≠ i) → oi.apart ops ok = true := fun k ok hk hki hun hno => by
        refine hfree k ok hk hki ?_ hno
        by_cases hjk : j = k
        · subst hjk; exact hjun
        · rw [getD_set_ne true hjk] at hun; exact hun
      have hcomm : (listed.setIfInBounds i true).setIfInBounds j true = (listed.setIfInBounds j true).setIfInBounds i true := Array.setIfInBounds_comm _ _ (Ne.symm hji)
      have hlt : late ls ((listed.setIfInBounds i true).setIfInBounds j true) = late ls (listed.setIfInBounds j true) := by rw [hcomm, late_set hil]
      have hn' : (∀ w, T w) ∨ late ls (listed.setIfInBounds j true) = false := by
        rcases hn with h | h
        · exact .inl h
        · rcases hT with h3 | ⟨_, h3⟩
          · exact .inl h3
          · refine .inr ?_
            rw [late_set (fun hm => ?_)]
            · exact h
            · obtain ⟨e, he, hb, heq⟩ := h3 j hm oj hoj
              exact hnot e he hb heq
      refine wpOp_mono (fun a' w' h3 => ⟨fun hl => h3.2.1 (by rw [hlt]; exact hl), ih (listed.setIfInBounds j true) a' w' hfree' (ready_mono hr (Ne.symm hji)) h3.1 hn' (fun hl => h3.2.1 (by rw [hlt]; exact hl)) ?_⟩) h2
      rw [← hcomm]
      exact h3.2.2
/-- Do the late ones wait for it? -/
def waits (md : Region.Mode) (ops : Array Oper) (ls : List Nat) (i : Nat) : Bool := ls.all (fun j => match ops[j]? with | none => true | some oj => oj.after.any (fun e => Region.binds md e && e.on == i))
theorem waits_spec {i : Nat} (h : waits md ops ls i = true) : ∀ j ∈ ls, ∀ oj, ops[j]? = some oj → ∃ e ∈ oj.after, Region.binds md e = true ∧ e.on = i := by
  intro j hj oj hoj
  unfold waits at h
  have h1 := List.all_eq_true.1 h j hj
  rw [hoj] at h1
  obtain ⟨e, he, hb⟩ := Array.any_eq_true'.1 h1
  simp only [Bool.and_eq_true, beq_iff_eq] at hb
  exact ⟨e, he, hb.1, hb.2⟩
/-- A load, taken first. -/
theorem takeS {i : Nat} {oi : Oper} {v : Value} {fuel : Nat} {listed : Array Bool} {a : Act} {w : World} (hi : ops[i]? = some oi)
    (hs : Region.noSelect ops = true) (hf : Region.free md ops listed i = true) (hr : (Region.ready md ops listed).contains i = true) (hil : ls.contains i = false) (hw : waits md ops ls i = true) (hl : late ls listed = false)
    (hQ : ∀ c a w, Q (.panic c) (a.put oi.dst v) w → Q (.panic c) a w) (hy : YieldsIf P ops S oi v a) (hS : S w)
    (h : wpAnyG P md ops Q S ls fuel (listed.setIfInBounds i true) (a.put oi.dst v) w) : wpAnyG P md ops Q S ls (fuel + 1) listed a w :=
  wpAnyG_first hi (Region.noSelect_spec hs) hQ (by simpa using hil) (.inr ⟨fun _ h => h, waits_spec hw⟩) fuel listed a w (Region.free_spec hi hf) (by simpa using hr) hy (.inr hl) (fun _ => hS) h
/-- What yields in whatever world, taken first. -/
theorem takeY {i : Nat} {oi : Oper} {v : Value} {fuel : Nat} {listed : Array Bool} {a : Act} {w : World} (hi : ops[i]? = some oi)
    (hs : Region.noSelect ops = true) (hf : Region.free md ops listed i = true) (hr : (Region.ready md ops listed).contains i = true) (hil : ls.contains i = false)
    (hQ : ∀ c a w, Q (.panic c) (a.put oi.dst v) w → Q (.panic c) a w) (hy : Yields P ops oi v a) (hS : S w)
    (h : wpAnyG P md ops Q S ls fuel (listed.setIfInBounds i true) (a.put oi.dst v) w) : wpAnyG P md ops Q S ls (fuel + 1) listed a w :=
  wpAnyG_first (T := fun _ => True) hi (Region.noSelect_spec hs) hQ (by simpa using hil) (.inl fun _ => trivial) fuel listed a w (Region.free_spec hi hf) (by simpa using hr) hy.yieldsIf (.inl fun _ => trivial) (fun _ => hS) h
theorem ready1 {fuel : Nat} {listed : Array Bool} {a : Act} {w : World} {i : Nat} {o : Oper} (hr : Region.ready md ops listed = [i]) (ho : ops[i]? = some o)
    (h : ∀ K' : Act → World → Prop, (∀ a w, (late ls (listed.setIfInBounds i true) = false → S w) → wpAnyG P md ops Q S ls fuel (listed.setIfInBounds i true) a w → K' a w) → if Region.wanted o (yielded ops a.tmps) = true then Oper.wp P o a w K' Q else K' (a.put o.dst undef) w) :
    wpAnyG P md ops Q S ls (fuel + 1) listed a w := by
  refine ⟨fun h0 => (by rw [hr] at h0; cases h0), fun j hj => ?_⟩
  rw [hr, List.mem_singleton] at hj
  subst hj
  exact wpOp_step ho (fun K' hK => h K' (fun a w h1 h2 => hK a w ⟨h1, h2⟩))
theorem ready2 {fuel : Nat} {listed : Array Bool} {a : Act} {w : World} {i j : Nat} {o o2 : Oper} (hr : Region.ready md ops listed = [i, j]) (ho : ops[i]? = some o) (ho2 : ops[j]? = some o2)
    (h : ∀ K' : Act → World → Prop, (∀ a w, (late ls (listed.setIfInBounds i true) = false → S w) → wpAnyG P md ops Q S ls fuel (listed.setIfInBounds i true) a w → K' a w) → if Region.wanted o (yielded ops a.tmps) = true then Oper.wp P o a w K' Q else K' (a.put o.dst undef) w)
    (h2 : ∀ K' : Act → World → Prop, (∀ a w, (late ls (listed.setIfInBounds j true) = false → S w) → wpAnyG P md ops Q S ls fuel (listed.setIfInBounds j true) a w → K' a w) → if Region.wanted o2 (yielded ops a.tmps) = true then Oper.wp P o2 a w K' Q else K' (a.put o2.dst undef) w) :
    wpAnyG P md ops Q S ls (fuel + 1) listed a w := by
  refine ⟨fun h0 => (by rw [hr] at h0; cases h0), fun k hk => ?_⟩
  rw [hr] at hk
  rcases List.mem_cons.1 hk with rfl | hk
  · exact wpOp_step ho (fun K' hK => h K' (fun a w h1 h2 => hK a w ⟨h1, h2⟩))
  · rw [List.mem_singleton] at hk
    subst hk
    exact wpOp_step ho2 (fun K' hK => h2 K' (fun a w h1 h2 => hK a w ⟨h1, h2⟩))
theorem done {listed : Array Bool} {a : Act} {w : World} (hr : Region.ready md ops listed = []) (h : Q .normal a w) : ∀ fuel, wpAnyG P md ops Q S ls fuel listed a w
  | 0 => ⟨hr, h⟩
  | _ + 1 => ⟨fun _ => h, by rw [hr]; simp⟩
theorem start {id : Nat} {a : Act} {w : World} (S : World → Prop) (ls : List Nat) (hm : P.follows .mixedOrders = true)
    (h : wpAnyG P .any ops Q S ls ops.size (Array.replicate ops.size false) a w.drew) : (Code.region id ops true).wp P Q a w :=
  wp_region_any hm (wpAny_of_G _ _ _ _ h)
end
end Lt
end Go.Proofs.Ytienhelohfhhfaa.Vx
namespace Go.Proofs.Ytienhelohfhhfaa.Vx
open Go.RowKit
attribute [local go_sem ↓] Go.wp_at_zero Go.wp_at_succ
/-- A call of lang.Copy, as one step of a region that draws its order. -/
theorem step_call43 {ops : Array Oper} {o : Oper} {a : Act} {w : World} {K : Act → World → Prop} {Q : Exit → Act → World → Prop} {E : Prop} (hgd : o.guard = none) (x : Operand) (t : TypeId)
    (ho : o.op = .call { callee := .value (.func 43), args := #[x], argTypes := #[t] }) (v : Value) (hx : a.eval x = v)
    (h : Calls Try.prog 43 #[v] w fun e w' => ∃ u, e = .returned u ∧ K (a.put o.dst u) w') :
    if Region.wanted o (yielded ops a.tmps) = true then Oper.wp Try.prog o a w K Q else E := by
  have hw : Region.wanted o (yielded ops a.tmps) = true := by simp [Region.wanted, hgd]
  rw [if_pos hw]
  have hr : (execOp a.eval o).run Try.prog w = .ok (.enter 43 #[v]) w := by
    unfold execOp
    simp [ho, resolve, invoke, go_sem]
    rw [← hx]
    cases x <;> simp [Act.eval]
  unfold Oper.wp
  rw [hr, Oper.upon_enter]
  refine h.mono ?_
  rintro e w' ⟨u, rfl, hK⟩
  exact hK
theorem Lt.is_late {ls : List Nat} {x : Array Bool} {p : Prop} (h : Lt.late ls x = true) : Lt.late ls x = false → p := fun h2 => by rw [h] at h2; cases h2
namespace X
theorem owns_base {w : World} {base base' n z : Nat} {t : TypeId} {v : Value} {xs : List Value} (h : w.ownsRow base t z v n xs) (hb : base' ≤ base) : w.ownsRow base' t z v n xs := by
  refine ⟨h.1, ?_⟩
  rcases h.2 with h1 | ⟨g, cap, cur, e, hg, r⟩
  · exact .inl h1
  · exact .inr ⟨g, cap, cur, e, Nat.le_trans hb hg, r⟩
theorem CK.push {w wB : World} {base Bw : Nat} {nv st ov st' ov' r : Value} {k : Nat} {XS XS' VO : List Value} {OR : List (List Nat)} {L : List Nat} (h : CK w base Bw nv st ov k XS VO OR) (hf : Frame w wB (ExA st ov))
    (hs : wB.ownsRow base 66 4 st' (k + 1) XS') (ho : wB.ownsRow base 37 1 ov' (VO ++ [r]).length (VO ++ [r])) (hr : w.ownsRow base 3 1 r L.length (Gr.cells (Gr.ofN L))) :
    CK ((wB.setCell ⟨Bw, 0, none⟩ st').setCell ⟨Bw, 2, none⟩ ov') base Bw nv st' ov' (k + 1) XS' (VO ++ [r]) (OR ++ [L]) := by
  have hB : wB.heap[Bw]? = some (.cells #[st, nv, ov] 59 (0, 0)) := by
    rw [hf.block Bw (Array.getElem?_eq_some_iff.1 h.hb).1 (fun e => e.elim (ownsS_type h.os h.hb (by decide)) (ownsS_type h.oo h.hb (by decide)))]
    exact h.hb
  have h0 : (wB.setCell ⟨Bw, 0, none⟩ st').heap[Bw]? = some (.cells #[st', nv, ov] 59 (0, 0)) := block_set (i := 0) hB st'
  have h2 : ((wB.setCell ⟨Bw, 0, none⟩ st').setCell ⟨Bw, 2, none⟩ ov').heap[Bw]? = some (.cells #[st', nv, ov'] 59 (0, 0)) := block_set (i := 2) h0 ov'
  have hfr : Frame wB ((wB.setCell ⟨Bw, 0, none⟩ st').setCell ⟨Bw, 2, none⟩ ov') (fun c => c = Bw) :=
    ⟨rfl, rfl, rfl, by simp, fun c _ he => by rw [Below.heap_setCell _ ⟨Bw, 2, none⟩ _ c (fun e => he e), Below.heap_setCell _ ⟨Bw, 0, none⟩ _ c (fun e => he e)]⟩
  have hne : ∀ {t : TypeId} {z n : Nat} {v : Value} {xs : List Value}, wB.ownsRow base t z v n xs → ∀ c, v.ownBlock = some c → ¬ c = Bw := by
    intro t z n v xs ho c hc e
    have := (ho.lt c hc).1
    have := h.lt
    omega
  have hrow : ∀ v (L : List Nat), w.ownsRow base 3 1 v L.length (Gr.cells (Gr.ofN L)) → ((wB.setCell ⟨Bw, 0, none⟩ st').setCell ⟨Bw, 2, none⟩ ov').ownsRow base 3 1 v L.length (Gr.cells (Gr.ofN L)) := by
    intro v L hv
    have h1 : wB.ownsRow base 3 1 v L.length (Gr.cells (Gr.ofN L)) := ownsS_frame hv hf (fun c hc e => by
      rcases e with e | e
      · rcases owns_twoS hv h.os (by decide) with h3 | h3
        · rw [h3] at hc; cases hc
        · exact h3 (hc.trans e.symm)
      · rcases owns_twoS hv h.oo (by decide) with h3 | h3
        · rw [h3] at hc; cases hc
        · exact h3 (hc.trans e.symm))
    exact ownsS_frame h1 hfr (fun c hc => hne h1 c hc)
  refine ⟨h2, ownsS_frame hs hfr (fun c hc => hne hs c hc), ownsS_frame ho hfr (fun c hc => hne ho c hc), by simp [h.len], fun i v L' hv hL => ?_, ?_, h.lt⟩
  · rcases get_snoc hv with h3 | ⟨h3, rfl⟩
    · have hi : i < OR.length := by rw [← h.len]; exact (List.getElem?_eq_some_iff.1 h3).1
      rw [List.getElem?_append_left hi] at hL
      exact hrow v L' (h.row i v L' h3 hL)
    · rw [h3, h.len, List.getElem?_append_right (Nat.le_refl _), Nat.sub_self] at hL
      have : L = L' := by simpa using hL
      rw [← this]; exact hrow _ L hr
  · have h4 := hf.size
    have h5 := h.le
    simp; omega
theorem CK.pushB {w wB : World} {w3 : World} {base Bw : Nat} {nv st ov st' ov' : Value} {k : Nat} {XS VO : List Value} {OR : List (List Nat)} (h : CK w base Bw nv st ov k XS VO OR) (hf : Frame w wB (ExA st ov)) (hb : Below w3.heap.size w3 w) (hB : Bw = w3.heap.size) :
    Below w3.heap.size w3 ((wB.setCell ⟨Bw, 0, none⟩ st').setCell ⟨Bw, 2, none⟩ ov') := by
  have h1 : Below w3.heap.size w wB := hf.below hb.size (fun c e => by
    have h2 : base ≤ c := by
      rcases e with e | e
      · exact (h.os.lt c e).1
      · exact (h.oo.lt c e).1
    have := h.lt
    omega)
  exact ((hb.trans h1).setCell (p := ⟨Bw, 0, none⟩) (by show w3.heap.size ≤ Bw; omega) _).setCell (p := ⟨Bw, 2, none⟩) (by show w3.heap.size ≤ Bw; omega) _
theorem CK.lists {w wz : World} {base Bw e : Nat} {nv st ov : Value} {k : Nat} {XS VO : List Value} {OR : List (List Nat)} (h : CK w base Bw nv st ov k XS VO OR) (hf : Frame w wz (fun c => c = e)) (he : e < base) : Gr.Lists wz ov (OR.map Gr.ofN) := by
  have hne : ∀ {t : TypeId} {z n : Nat} {v : Value} {xs : List Value}, w.ownsRow base t z v n xs → ∀ c, v.ownBlock = some c → ¬ c = e := by
    intro t z n v xs ho c hc e
    have := (ho.lt c hc).1
    omega
  have ho := ownsS_frame h.oo hf (fun c hc => hne h.oo c hc)
  rcases ho.2 with ⟨rfl, h0⟩ | ⟨g, cap, cur, rfl, _, hg, _⟩
  · have : OR = [] := List.eq_nil_of_length_eq_zero (by have := h.len; omega)
    subst this
    exact ⟨none, 0, rfl, .inl rfl⟩
  · refine ⟨some ⟨g, 0, none⟩, cap, by rw [List.length_map, h.len], .inr ⟨g, 0, rfl, fun i l hl => ?_⟩⟩
    rw [List.getElem?_map] at hl
    obtain ⟨L, hL, rfl⟩ := Option.map_eq_some_iff.1 hl
    have hi : i < VO.length := by rw [h.len]; exact (List.getElem?_eq_some_iff.1 hL).1
    have hv : VO[i]? = some VO[i] := List.getElem?_eq_getElem hi
    have h1 := ho.cells (g := g) rfl i VO[i] hv
    have ea : (⟨g, 0, none⟩ : Addr).add i = ⟨g, i, none⟩ := by unfold Addr.add; split <;> simp_all
    rw [ea] at h1
    refine ⟨VO[i], by rw [Nat.zero_add]; exact h1, ?_⟩
    have hr := h.row i _ L hv hL
    have hr2 := ownsS_frame hr hf (fun c hc => hne hr c hc)
    exact Gr.Ints.of_owns (base := base) (e := 3) (by rw [Gr.ofN_length]; exact hr2)
theorem newsA1 {w : World} (cs : Array Value) (e : TypeId) (o : Obj) : ∀ j u, cs.toList[j]? = some u → ((w.alloc (.cells cs e)).alloc o).cell? ((⟨w.heap.size, 0, none⟩ : Addr).add j) = some u := news1 cs e o
theorem newsA2 {w : World} (cs : Array Value) (e : TypeId) (o : Obj) : ∀ j u, cs.toList[j]? = some u → ((w.alloc o).alloc (.cells cs e)).cell? ((⟨w.heap.size + 1, 0, none⟩ : Addr).add j) = some u := news2 cs e o
theorem newsB {w w' : World} {row : Option Nat} {ad : Addr} {news : List Value} (hq : ∀ j u, news[j]? = some u → w.cell? (ad.add j) = some u) (hg : w.grownBy w' row) (hr : ∀ c, row = some c → c ≠ ad.block) : ∀ j u, news[j]? = some u → w'.cell? (ad.add j) = some u := by
  intro j u hu
  have h1 := hq j u hu
  have hlt := World.block_lt_of_cell? w _ h1
  have hbl : (ad.add j).block = ad.block := by unfold Addr.add; split <;> rfl
  have h2 := hg.block (ad.add j).block hlt (fun e => hr _ e.symm hbl)
  rw [← h1]
  unfold World.cell?
  rw [h2]
end X
set_option maxRecDepth 100000 in
set_option maxHeartbeats 4000000 in
theorem check_any2 (sm : Val → Val → Bool) (hsm : V.Says sm) (m : Nat) (w : World) (v : Value) (l : List Sk) (h : X.Stks (m + 1) w v l) (hbk : X.sumS (m + 1) l ≤ 2000000) (hll : l.length ≤ 2000000) :
    Calls Try.prog 28 #[v] w fun o w' => X.Checked sm (m + 1) l w' o ∧ Below w.heap.size w w' := by
  obtain ⟨ah, ch, rfl⟩ := V.Row.shape h
  have hb0 : Below w.heap.size w (w.alloc (.cells #[.slice none 0 0, .slice none 0 0, .slice none 0 0] 59)) := (Below.refl _ _).alloc (Nat.le_refl _) _
  have hE0 : (w.alloc (.cells #[.slice none 0 0, .slice none 0 0, .slice none 0 0] 59)).heap[w.heap.size]? = some (.cells #[.slice none 0 0, .slice none 0 0, .slice none 0 0] 59 (0, 0)) := heap_alloc_new _ _
  have hal := alone_any sm hsm m (w.alloc (.cells #[.slice none 0 0, .slice none 0 0, .slice none 0 0] 59)) _ l (h.kept hb0) hbk
  have H := hide h
  have HBK := hide hbk
  have HAL := hide hal
  clear h hbk hal
  go_enter Try.func28, Try.ntmps28
  go_wp2_with fail
  generalize w.alloc (.cells #[.slice none 0 0, .slice none 0 0, .slice none 0 0] 59) = w0 at *
  refine HAL.out.mono ?_
  rintro o w1 ⟨rfl, hb1⟩
  have hE1 := (hb1.block w.heap.size (Array.getElem?_eq_some_iff.1 hE0).1).trans hE0
  have hB1 := hb0.trans (hb1.mono hb0.size)
  clear hb1 hE0 hb0 HAL
  by_cases ha : X.aloneErr sm (m + 1) l = 0
  · rw [show V.errOf (X.aloneErr sm (m + 1) l) = .nilIface by rw [ha]; rfl]
    obtain ⟨h8, hsm8⟩ := X.alone_small ha
    have hnt := nameTwice_any (m + 1) w1 _ l (H.out.kept hB1) HBK.out hll
    have HNT := hide hnt
    have HA := hide ha
    have HE1 := hide hE1
    have HB1 := hide hB1
    have HSM := hide hsm8
    clear hnt ha hE1 hB1 hsm8
    go_wp2_with fail
    refine HNT.out.mono ?_
    rintro o w2 ⟨rfl, hb2⟩
    have hE2 := (hb2.block w.heap.size (Array.getElem?_eq_some_iff.1 HE1.out).1).trans HE1.out
    have hB2 := HB1.out.trans (hb2.mono HB1.out.size)
    clear hb2 HE1 HB1 HNT
    cases hd : X.dups l with
    | true =>
      have HD := hide hd
      clear hd
      have z0 := cell_of_block hE2 0 _ rfl
      have z1 := cell_of_block hE2 1 _ rfl
      have z2 := cell_of_block hE2 2 _ rfl
      have f0 := free_of_block hE2 0
      have f1 := free_of_block hE2 1
      have f2 := free_of_block hE2 2
      go_wp2_with fail
      have hs3 := X.set3 hE2 (.slice none 0 0) (.slice none 0 0) (.slice none 0 0)
      have hb3 := X.below3 hB2 (Nat.le_refl _) (.slice none 0 0) (.slice none 0 0) (.slice none 0 0)
      generalize (((w2.setCell ⟨w.heap.size, 0, none⟩ (.slice none 0 0)).setCell ⟨w.heap.size, 1, none⟩ (.slice none 0 0)).setCell ⟨w.heap.size, 2, none⟩ (.slice none 0 0)) = wz at *
      have r0 := cell_of_block hs3 0 _ rfl
      have r1 := cell_of_block hs3 1 _ rfl
      have r2 := cell_of_block hs3 2 _ rfl
      refine bodyPost_ret (by simp [results, Try.results28, go_sem, r0, r1, r2]; rfl) rfl ⟨?_, hb3⟩
      refine .inl ⟨fun p hp => ?_, _, rfl⟩
      rw [hp.2.1] at HD
      exact absurd HD.out (by decide)
    | false =>
      have han := allNeeds_any (m + 1) l _ w2 (H.out.kept hB2) h8 HSM.out (fun x hx => X.sumS_mem hx HBK.out)
      have HD := hide hd
      have HAN := hide han
      have HE2 := hide hE2
      have HB2 := hide hB2
      have hEl2 : w.heap.size < w2.heap.size := (Array.getElem?_eq_some_iff.1 HE2.out).1
      clear hd han hE2 hB2
      go_wp2_with fail
      refine HAN.out.mono ?_
      rintro o w3 ⟨hn, hb3⟩
      have hE3 := (hb3.block w.heap.size (Array.getElem?_eq_some_iff.1 HE2.out).1).trans HE2.out
      have hB3 := HB2.out.trans (hb3.mono HB2.out.size)
      clear hb3 HE2 HB2 HAN
      rcases hn with ⟨hno, rfl⟩ | ⟨p, ar, cr, sv, hp, rfl, hLr, hRes⟩
      · have HNO := hide hno
        clear hno
        skip
        have z0 := cell_of_block hE3 0 _ rfl
        have z1 := cell_of_block hE3 1 _ rfl
        have z2 := cell_of_block hE3 2 _ rfl
        have f0 := free_of_block hE3 0
        have f1 := free_of_block hE3 1
        have f2 := free_of_block hE3 2
        go_wp2_with fail
        have hs3 := X.set3 hE3 (.slice none 0 0) (.slice none 0 0) (.slice none 0 0)
        have hb3 := X.below3 hB3 (Nat.le_refl _) (.slice none 0 0) (.slice none 0 0) (.slice none 0 0)
        generalize (((w3.setCell ⟨w.heap.size, 0, none⟩ (.slice none 0 0)).setCell ⟨w.heap.size, 1, none⟩ (.slice none 0 0)).setCell ⟨w.heap.size, 2, none⟩ (.slice none 0 0)) = wz at *
        have r0 := cell_of_block hs3 0 _ rfl
        have r1 := cell_of_block hs3 1 _ rfl
        have r2 := cell_of_block hs3 2 _ rfl
        refine bodyPost_ret (by simp [results, Try.results28, go_sem, r0, r1, r2]; rfl) rfl ⟨?_, hb3⟩
        refine .inl ⟨fun p hp => ?_, _, rfl⟩
        have := hp.2.2.1
        rw [HNO.out] at this
        cases this
      · have hLs := hLr w3 (fun _ _ _ => rfl)
        obtain ⟨as_, cs, e1, _⟩ := id hLs
        have HLR := hide hLr
        clear hLr
        rw [List.length_map] at e1
        subst e1
        obtain ⟨hp1, hp2, hpa⟩ := X.an_all hp
        have hgood : ∀ (i : Nat) R, p.1[i]? = some R → R.length ≤ 8 ∧ ∀ r ∈ R, X.Good R.length r := by
          intro i R hR
          have hi : i < l.length := by rw [← hp1]; exact (List.getElem?_eq_some_iff.1 hR).1
          obtain ⟨z, hz, a, _⟩ := hpa i l[i] (List.getElem?_eq_getElem hi)
          rw [hR] at a
          have ez : R = z.1 := by simpa using a
          obtain ⟨hg1, hg2⟩ := X.la_good hz
          rw [ez, hg2]
          exact ⟨(HSM.out _ (List.getElem_mem hi)).1, hg1.1⟩
        have hgoodS : ∀ r ∈ p.2, X.Good p.2.length r := by
          intro r hr
          obtain ⟨i, hi, e⟩ := List.getElem_of_mem hr
          have hi2 : i < l.length := by rw [← hp2]; exact hi
          obtain ⟨z, hz, _, b⟩ := hpa i l[i] (List.getElem?_eq_getElem hi2)
          rw [List.getElem?_eq_getElem hi, e] at b
          have ez : r = z.2 := by simpa using b
          rw [ez, hp2]
          exact (X.la_good hz).1.2
        have hbA : Below w3.heap.size w3 (w3.alloc (.cells #[.slice none 0 0, .slice as_ p.2.length cs, .slice none 0 0] 59)) := (Below.refl _ _).alloc (Nat.le_refl _) _
        have hCK0 : X.CK (w3.alloc (.cells #[.slice none 0 0, .slice as_ p.2.length cs, .slice none 0 0] 59)) (w3.heap.size + 1) w3.heap.size (.slice as_ p.2.length cs) (.slice none 0 0) (.slice none 0 0) 0 [] [] [] :=
          ⟨heap_alloc_new _ _, World.ownsRow_nil .., World.ownsRow_nil .., rfl, (fun _ _ _ hv => by cases hv), by simp, Nat.lt_succ_self _⟩
        have HP := hide hp
        have HLS := hide hLs
        have HRES := hide hRes
        have HGD := hide hgood
        have HGS := hide hgoodS
        have HBA := hide hbA
        have HCK0 := hide hCK0
        have HE3 := hide hE3
        have HB3 := hide hB3
        have hElt : w.heap.size < w3.heap.size := (Array.getElem?_eq_some_iff.1 hE3).1
        clear hp hLs hRes hgood hgoodS hbA hCK0 hE3 hB3 hpa hp2
        go_wp2_with fail
        go_loopw [38, 9, 10, 11] (fun vi _ _ _ wx => ∃ (k : Nat) (st ov : Value) (XS VO : List Value), k ≤ l.length ∧ vi = .int .i64 k ∧ (∀ R ∈ p.1.take k, X.Fine R) ∧ X.CK wx (w3.heap.size + 1) w3.heap.size (.slice as_ p.2.length cs) st ov k XS VO ((p.1.take k).map X.ord) ∧ Below w3.heap.size w3 wx) (fun vi _ _ _ _ => l.length - (intOf vi).toNat)
        case atStart => exact ⟨0, _, _, _, _, Nat.zero_le _, rfl, (fun R hR => by simp at hR), HCK0.out, HBA.out⟩
        case round =>
          clear HCK0 HBA
          obtain ⟨wx, hwx⟩ : ∃ z, z = wr := ⟨_, rfl⟩
          subst hwx
          obtain ⟨k, st, ov, XS, VO, hk, rfl, hfi, hCK, hBx⟩ := hrel
          have hEx := (hBx.block w.heap.size hElt).trans HE3.out
          have hBwx := HB3.out.trans (hBx.mono HB3.out.size)
          obtain ⟨a5, c5, e5⟩ := X.ownsS_shape hCK.os
          obtain ⟨a6, c6, e6⟩ := X.ownsS_shape hCK.oo
          subst e5 e6
          by_cases hlt : k < l.length
          · obtain ⟨R, hR⟩ : ∃ R, p.1[k]? = some R := ⟨_, List.getElem?_eq_getElem (by omega)⟩
            obtain ⟨b7, off7, u, rfl, hu, hLu⟩ : ∃ b off u, ar = some ⟨b, off, none⟩ ∧ wx.cell? ⟨b, off + k, none⟩ = some u ∧ Gr.Lists wx u (R.map Gr.ofN) := by
              rcases HRES.out with h0 | ⟨b, off, e, h1⟩
              · omega
              · obtain ⟨u, h2, h3⟩ := h1 k R hR
                exact ⟨b, off, u, e, kept_cell hBx h2, h3.kept hBx (Nat.le_refl _)⟩
            obtain ⟨au, cu, eu, _⟩ := id hLu
            rw [List.length_map] at eu
            subst eu
            have hod := orderOf_nat2 R _ wx hLu (HGD.out k R hR).1 (HGD.out k R hR).2
            have HOD := hide hod
            have HCK := hide hCK
            have HBX := hide hBx
            have HEX := hide hEx
            have HBWX := hide hBwx
            have HFI := hide hfi
            have HR := hide hR
            clear hod hCK hBx hEx hBwx hfi hR hLu
            go_wp2_with fail
            go_fit HOD.out
            rintro o w5 ⟨⟨hf, a9, c9, rfl, hI⟩ | ⟨hf, a9, n9, c9, rfl⟩, hb5⟩
            · have hE5 := (hb5.block w.heap.size (Array.getElem?_eq_some_iff.1 HEX.out).1).trans HEX.out
              have hB5 := HBWX.out.trans (hb5.mono HBWX.out.size)
              have hBx5 := HBX.out.trans (hb5.mono HBX.out.size)
              have hC5 := HCK.out.keep hb5
              have hIr := X.owns_base hI HCK.out.le
              obtain ⟨b, off, cap, x, ai, ci, ar2, cr2, ao, co, e1, hx, hxI, hxR, hxO, y0, y1, y2, y3⟩ := X.elemS H.out k hlt
              simp only [Value.slice.injEq] at e1
              obtain ⟨rfl, _, rfl⟩ := e1
              have hxm : x ∈ l := List.mem_of_getElem? hx
              have z0 := y0
              replace y0 := kept_cell hB5 y0
              replace y1 := kept_cell hB5 y1
              replace y2 := kept_cell hB5 y2
              replace y3 := kept_cell hB5 y3
              have K43 : Hid (∀ W, X.Frame w5 W (fun _ => False) → Calls Try.prog 43 #[.agg #[.string x.name, .slice ai x.ins.length ci, .slice ar2 x.res.length cr2, .slice ao x.outs.length co]] W fun o w' => X.Any4 o ∧ X.Frame w5 w' (fun _ => False) ∧ Below W.heap.size W w') := by
                intro W hW
                have hbW : Below w.heap.size w W := hB5.trans (hW.below hB5.size (fun c e => e.elim))
                refine (lcopy_any (m + 1) W x ai ar2 ao ci cr2 co (hxI.kept hbW) (hxR.kept hbW) (hxO.kept hbW) (X.sumS_mem hxm HBK.out) (HSM.out x hxm).2).mono ?_
                rintro o w' ⟨h1, h2⟩
                exact ⟨h1, hW.trans (X.Frame.of_below h2 _) (fun c _ e => e), h2⟩
              have HOS := hide hC5.os
              have HOO := hide hC5.oo
              have HC5 := hide hC5
              have HIR := hide hIr
              have HF := hide hf
              have HB5 := hide hB5
              have HBX5 := hide hBx5
              have hlen8 : VO.length ≤ 8 := by
                have h1 := hC5.len
                rw [List.length_map, List.length_take] at h1
                omega
              have hle5 := hC5.le
              obtain ⟨i6, hi6, hx0, hx1, hx2⟩ := info_parts info66
              obtain ⟨i7, hi7, hz0, hz1, hz2⟩ := info_parts info37
              have h4pos : 0 < 4 := by decide
              have NF : Hid (∀ c, (Value.slice a5 k c5).ownBlock = some c → ¬ False) := fun _ _ h => h
              have HF0 : Hid (X.Frame w5 w5.drew (fun _ => False)) := (X.Frame.refl _ _).drew
              have HF1 : Hid (∀ ob, X.Frame w5 (w5.alloc ob).drew (fun _ => False)) := fun ob => ((X.Frame.refl _ _).alloc ob).drew
              have KC0 : Hid (∀ W, X.Frame w5 W (X.ExA (.slice a5 k c5) (.slice a6 VO.length c6)) → W.cell? ⟨w3.heap.size, 0, none⟩ = some (.slice a5 k c5)) := by
                intro W hW
                have h1 := hW.block _ (Array.getElem?_eq_some_iff.1 HC5.out.hb).1 (fun e => e.elim (X.ownsS_type HOS.out HC5.out.hb (by decide)) (X.ownsS_type HOO.out HC5.out.hb (by decide)))
                exact cell_of_block (h1.trans HC5.out.hb) 0 _ rfl
              have KC2 : Hid (∀ W, X.Frame w5 W (X.ExA (.slice a5 k c5) (.slice a6 VO.length c6)) → W.cell? ⟨w3.heap.size, 2, none⟩ = some (.slice a6 VO.length c6)) := by
                intro W hW
                have h1 := hW.block _ (Array.getElem?_eq_some_iff.1 HC5.out.hb).1 (fun e => e.elim (X.ownsS_type HOS.out HC5.out.hb (by decide)) (X.ownsS_type HOO.out HC5.out.hb (by decide)))
                exact cell_of_block (h1.trans HC5.out.hb) 2 _ rfl
              have KG0 : Hid (∀ W, X.Frame w5 W (X.ExA (.slice a5 k c5) (.slice a6 VO.length c6)) → ∀ ob, (W.alloc ob).cell? ⟨w3.heap.size, 0, none⟩ = some (.slice a5 k c5)) := fun W hW ob => KC0.out _ (hW.alloc ob)
              have KG2 : Hid (∀ W, X.Frame w5 W (X.ExA (.slice a5 k c5) (.slice a6 VO.length c6)) → ∀ ob, (W.alloc ob).cell? ⟨w3.heap.size, 2, none⟩ = some (.slice a6 VO.length c6)) := fun W hW ob => KC2.out _ (hW.alloc ob)
              have KH0 : Hid (∀ W, X.Frame w5 W (X.ExA (.slice a5 k c5) (.slice a6 VO.length c6)) → ∀ ob ob2, ((W.alloc ob).alloc ob2).cell? ⟨w3.heap.size, 0, none⟩ = some (.slice a5 k c5)) := fun W hW ob ob2 => KC0.out _ ((hW.alloc ob).alloc ob2)
              have KH2 : Hid (∀ W, X.Frame w5 W (X.ExA (.slice a5 k c5) (.slice a6 VO.length c6)) → ∀ ob ob2, ((W.alloc ob).alloc ob2).cell? ⟨w3.heap.size, 2, none⟩ = some (.slice a6 VO.length c6)) := fun W hW ob ob2 => KC2.out _ ((hW.alloc ob).alloc ob2)
              have KF0 : Hid (∀ W, X.Frame w5 W (X.ExA (.slice a5 k c5) (.slice a6 VO.length c6)) → W.frozen? ⟨w3.heap.size, 0, none⟩ = false) := by
                intro W hW
                have h1 := hW.block _ (Array.getElem?_eq_some_iff.1 HC5.out.hb).1 (fun e => e.elim (X.ownsS_type HOS.out HC5.out.hb (by decide)) (X.ownsS_type HOO.out HC5.out.hb (by decide)))
                exact free_of_block (h1.trans HC5.out.hb) 0
              have KF2 : Hid (∀ W, X.Frame w5 W (X.ExA (.slice a5 k c5) (.slice a6 VO.length c6)) → W.frozen? ⟨w3.heap.size, 2, none⟩ = false) := by
                intro W hW
                have h1 := hW.block _ (Array.getElem?_eq_some_iff.1 HC5.out.hb).1 (fun e => e.elim (X.ownsS_type HOS.out HC5.out.hb (by decide)) (X.ownsS_type HOO.out HC5.out.hb (by decide)))
                exact free_of_block (h1.trans HC5.out.hb) 2
              have KA1 : Hid (∀ w6 W wA, X.Frame w5 w6 (fun _ => False) → ((∃ ob, W = w6.alloc ob) ∨ ∃ ob ob2, W = (w6.alloc ob).alloc ob2) → W.grownBy wA (Value.slice a5 k c5).ownBlock → X.Frame w5 wA (X.ExA (.slice a5 k c5) (.slice a6 VO.length c6))) := by
                intro w6 W wA hW hE hg
                have hW2 : X.Frame w5 W (fun _ => False) := by
                  rcases hE with ⟨ob, rfl⟩ | ⟨ob, ob2, rfl⟩
                  · exact hW.alloc ob
                  · exact (hW.alloc ob).alloc ob2
                exact (hW2.weak _).grown hg (fun c e => .inl e)
              have KA2 : Hid (∀ w6 W wA, X.Frame w5 w6 (fun _ => False) → ((∃ ob, W = w6.alloc ob) ∨ ∃ ob ob2, W = (w6.alloc ob).alloc ob2) → W.grownBy wA (Value.slice a5 k c5).ownBlock → wA.ownsRow (w3.heap.size + 1) 37 1 (.slice a6 VO.length c6) VO.length VO) := by
                intro w6 W wA hW hE hg
                have hW2 : X.Frame w5 W (fun _ => False) := by
                  rcases hE with ⟨ob, rfl⟩ | ⟨ob, ob2, rfl⟩
                  · exact hW.alloc ob
                  · exact (hW.alloc ob).alloc ob2
                exact (X.ownsS_frame HOO.out hW2 (fun _ _ h => h)).kept hg (X.owns_twoS HOO.out HOS.out (by decide))
              have KB3 : Hid (∀ wA W wB, X.Frame w5 wA (X.ExA (.slice a5 k c5) (.slice a6 VO.length c6)) → ((∃ ob, W = wA.alloc ob) ∨ W = wA) → W.grownBy wB (Value.slice a6 VO.length c6).ownBlock → X.Frame w5 wB (X.ExA (.slice a5 k c5) (.slice a6 VO.length c6))) := by
                intro wA W wB hW hE hg
                rcases hE with ⟨ob, rfl⟩ | rfl
                · exact (hW.alloc ob).grown hg (fun c e => .inr e)
                · exact hW.grown hg (fun c e => .inr e)
              have LA : Hid (∀ (W : World), w5.heap.size ≤ W.heap.size → ∀ (g : Nat), W.heap.size ≤ g → ∀ c, (Value.slice a5 k c5).ownBlock = some c → c ≠ g) := by
                intro W h1 g h2 c hc
                have := (HOS.out.lt c hc).2
                omega
              have KQ : Hid (∀ w6, Below (w5.alloc (.cells #[.slice a9 (X.ord R).length c9] 37)).drew.heap.size (w5.alloc (.cells #[.slice a9 (X.ord R).length c9] 37)).drew w6 → ∀ o j u, ([.slice a9 (X.ord R).length c9] : List Value)[j]? = some u → (w6.alloc o).cell? ((⟨w5.heap.size, 0, none⟩ : Addr).add j) = some u) := by
                intro w6 hb o j u hu
                have h1 := news_alloc_drew w5 #[.slice a9 (X.ord R).length c9] 37 _ rfl j u hu
                have h2 := kept_cell hb h1
                exact kept_cell ((Below.refl _ _).alloc (Nat.le_refl _) _) h2
              have hR5 := HR.out
              have HTK : Hid (((p.1.take k).map X.ord) ++ [X.ord R] = (p.1.take (k + 1)).map X.ord) := by
                show _ = _
                rw [List.take_add_one, hR5, Option.toList_some, List.map_append]; rfl
              have HFI2 : Hid (∀ R' ∈ p.1.take (k + 1), X.Fine R') := by
                intro R' hR'
                rw [List.take_add_one, hR5, Option.toList_some, List.mem_append] at hR'
                rcases hR' with h1 | h1
                · exact HFI.out R' h1
                · rw [List.mem_singleton] at h1; rw [h1]; exact HF.out
              clear hR5
              have KY : Hid (∀ W, X.Frame w5 W (X.ExA (.slice a5 k c5) (.slice a6 VO.length c6)) → W.cell? ⟨b, off + k * 4, none⟩ = some (.string x.name) ∧ W.cell? ⟨b, off + k * 4 + 1, none⟩ = some (.slice ai x.ins.length ci) ∧ W.cell? ⟨b, off + k * 4 + 2, none⟩ = some (.slice ar2 x.res.length cr2) ∧ W.cell? ⟨b, off + k * 4 + 3, none⟩ = some (.slice ao x.outs.length co)) := by
                intro W hW
                have hbb : b < w.heap.size := World.block_lt_of_cell? w _ z0
                have h1 := hW.block b (Nat.lt_of_lt_of_le hbb HB5.out.size) (fun e => by
                  rcases e with e | e
                  · have := (HOS.out.lt b e).1; omega
                  · have := (HOO.out.lt b e).1; omega)
                have key : ∀ o u, w5.cell? ⟨b, o, none⟩ = some u → W.cell? ⟨b, o, none⟩ = some u := by
                  intro o u hu
                  rw [← hu]
                  unfold World.cell?
                  rw [h1]
                exact ⟨key _ _ y0, key _ _ y1, key _ _ y2, key _ _ y3⟩
              have HAL : Hid (∀ {a : Addr} {u : Value}, w5.cell? a = some u → ∀ ob, (w5.alloc ob).cell? a = some u) := fun h ob => kept_cell ((Below.refl _ _).alloc (Nat.le_refl _) ob) h
              have y0a := HAL.out y0
              have y1a := HAL.out y1
              have y2a := HAL.out y2
              have y3a := HAL.out y3
              have q0 := KC0.out _ (X.Frame.refl _ _)
              have q2 := KC2.out _ (X.Frame.refl _ _)
              have q0a := KC0.out (w5.alloc (.cells #[.slice a9 (X.ord R).length c9] 37)) ((X.Frame.refl _ _).alloc _)
              have q2a := KC2.out (w5.alloc (.cells #[.slice a9 (X.ord R).length c9] 37)) ((X.Frame.refl _ _).alloc _)
              clear hf hu hI hIr hC5 hB5 hBx5 hE5 hb5 hx hxI hxR hxO HOD hxm
              go_wp2_with fail
              refine Lt.start (fun W => X.Frame w5 W (X.ExA (.slice a5 k c5) (.slice a6 VO.length c6))) [15, 17] (by kernel_rfl) ?_
              have HS0 : X.Frame w5 w5.drew (X.ExA (.slice a5 k c5) (.slice a6 VO.length c6)) := (X.Frame.refl _ _).drew
              refine Lt.takeY (i := 0) (v := .pointer (some ⟨w3.heap.size, 0, none⟩)) rfl (by kernel_rfl) (by kernel_rfl) (by kernel_rfl) (by kernel_rfl) (fun _ _ _ h => h) (Or.inl ⟨by rfl, ?_⟩) (HS0) ?_
              · intro w
                go_simp
              refine Lt.takeS (i := 1) (v := .slice a5 k c5) rfl (by kernel_rfl) (by kernel_rfl) (by kernel_rfl) (by kernel_rfl) (by kernel_rfl) (by kernel_rfl) (fun _ _ _ h => h) (Or.inl ⟨by rfl, ?_⟩) (HS0) ?_
              · intro W hW
                have h0 := KC0.out W hW
                go_simp
              refine Lt.takeY (i := 2) (v := .slice (some ⟨b, off, none⟩) l.length ch) rfl (by kernel_rfl) (by kernel_rfl) (by kernel_rfl) (by kernel_rfl) (fun _ _ _ h => h) (Or.inl ⟨by rfl, ?_⟩) (HS0) ?_
              · intro w
                go_simp
              refine Lt.takeY (i := 3) (v := .int .i64 k) rfl (by kernel_rfl) (by kernel_rfl) (by kernel_rfl) (by kernel_rfl) (fun _ _ _ h => h) (Or.inl ⟨by rfl, ?_⟩) (HS0) ?_
              · intro w
                go_simp
              refine Lt.takeY (i := 4) (v := .pointer (some ⟨b, off + k * 4, none⟩)) rfl (by kernel_rfl) (by kernel_rfl) (by kernel_rfl) (by kernel_rfl) (fun _ _ _ h => h) (Or.inl ⟨by rfl, ?_⟩) (HS0) ?_
              · intro w
                go_simp
              refine Lt.takeS (i := 5) (v := .agg #[.string x.name, .slice ai x.ins.length ci, .slice ar2 x.res.length cr2, .slice ao x.outs.length co]) rfl (by kernel_rfl) (by kernel_rfl) (by kernel_rfl) (by kernel_rfl) (by kernel_rfl) (by kernel_rfl) (fun _ _ _ h => h) (Or.inl ⟨by rfl, ?_⟩) (HS0) ?_
              · intro W hW
                obtain ⟨h0, h1, h2, h3⟩ := KY.out W hW
                go_simp
              refine Lt.takeY (i := 9) (v := .pointer (some ⟨w3.heap.size, 2, none⟩)) rfl (by kernel_rfl) (by kernel_rfl) (by kernel_rfl) (by kernel_rfl) (fun _ _ _ h => h) (Or.inl ⟨by rfl, ?_⟩) (HS0) ?_
              · intro w
                go_simp
              refine Lt.takeS (i := 10) (v := .slice a6 VO.length c6) rfl (by kernel_rfl) (by kernel_rfl) (by kernel_rfl) (by kernel_rfl) (by kernel_rfl) (by kernel_rfl) (fun _ _ _ h => h) (Or.inl ⟨by rfl, ?_⟩) (HS0) ?_
              · intro W hW
                have h0 := KC2.out W hW
                go_simp
              refine Lt.takeY (i := 11) (v := .slice a9 (X.ord R).length c9) rfl (by kernel_rfl) (by kernel_rfl) (by kernel_rfl) (by kernel_rfl) (fun _ _ _ h => h) (Or.inl ⟨by rfl, ?_⟩) (HS0) ?_
              · intro w
                go_simp
              go_simp
              refine Lt.ready2 (i := 6) (j := 12) (by kernel_rfl) rfl rfl (fun K hK => ?_) (fun K hK => ?_)
              · skip
                refine step_call43 ?_ (.tmp 58) 66 ?_ (.agg #[.string x.name, .slice ai x.ins.length ci, .slice ar2 x.res.length cr2, .slice ao x.outs.length co]) ?_ ?_
                rfl
                rfl
                rfl
                (with_reducible refine Calls.mono (K43.out _ HF0.out) ?_)
                rintro o6 w6 ⟨⟨s6, a61, a62, a63, n61, n62, n63, d61, d62, d63, rfl⟩, hF6, hb6⟩
                refine ⟨_, rfl, ?_⟩
                have q60 := KC0.out _ (X.Frame.weak hF6 _)
                have q62 := KC2.out _ (X.Frame.weak hF6 _)
                have le6 := hF6.size
                have q60a := KG0.out _ (X.Frame.weak hF6 _)
                have q60b := KH0.out _ (X.Frame.weak hF6 _)
                have q62a := KG2.out _ (X.Frame.weak hF6 _)
                have q62b := KH2.out _ (X.Frame.weak hF6 _)
                try go_simp
                refine hK _ _ (fun _ => X.Frame.weak hF6 _) ?_
                clear hK K
                refine Lt.ready2 (i := 7) (j := 12) (by kernel_rfl) rfl rfl (fun K hK => ?_) (fun K hK => ?_)
                · skip
                  go_simp
                  refine hK _ _ (fun _ => (X.Frame.weak hF6 _).alloc _) ?_
                  clear hK K
                  refine Lt.ready2 (i := 8) (j := 12) (by kernel_rfl) rfl rfl (fun K hK => ?_) (fun K hK => ?_)
                  · skip
                    refine step_append_lies _ ?_ (.tmp 54) (.tmp 60) 57 ?_ (w3.heap.size + 1) 66 i6 (.agg #[.string ⟨#[]⟩, .slice none 0 0, .slice none 0 0, .slice none 0 0]) 4 88 Try.underlying57 hi6 hx0 hx1 hx2 rfl h4pos (.slice a5 k c5) k XS ?_ ?_ ⟨w6.heap.size, 0, none⟩ 1 1 [.string s6, .slice a61 n61 d61, .slice a62 n62 d62, .slice a63 n63 d63] ?_ rfl ?_ ?_ Nat.one_pos ?_ ?_ ?_ _ rfl ?_
                    rfl
                    rfl
                    rfl
                    exact (X.ownsS_frame HOS.out hF6 NF.out).alloc _
                    rfl
                    exact news_alloc w6 #[.string s6, .slice a61 n61 d61, .slice a62 n62 d62, .slice a63 n63 d63] 66 _ rfl
                    simp [Value.oneCell']
                    (unfold maxLen; omega)
                    omega
                    (first | omega | (simp; omega))
                    intro gA capA wA hownA hgrowA hatA hltA
                    have nA := KA1.out w6 _ wA hF6 (.inl ⟨_, rfl⟩) hgrowA
                    have oB := KA2.out w6 _ wA hF6 (.inl ⟨_, rfl⟩) hgrowA
                    have leA := nA.size
                    have qA2 := KC2.out _ nA
                    have qA2a := KG2.out _ nA
                    try go_simp
                    refine hK _ _ (fun _ => nA) ?_
                    clear hK K
                    refine Lt.takeY (i := 14) (v := .pointer (some ⟨w3.heap.size, 0, none⟩)) rfl (by kernel_rfl) (by kernel_rfl) (by kernel_rfl) (by kernel_rfl) (fun _ _ _ h => h) (Or.inl ⟨by rfl, ?_⟩) (nA) ?_
                    · intro w
                      go_simp
                    go_simp
                    refine Lt.ready1 (i := 12) (by kernel_rfl) rfl (fun K hK => ?_)
                    go_simp
                    refine hK _ _ (fun _ => nA.alloc _) ?_
                    clear hK K
                    refine Lt.ready1 (i := 13) (by kernel_rfl) rfl (fun K hK => ?_)
                    refine step_append_lies _ ?_ (.tmp 63) (.tmp 65) 36 ?_ (w3.heap.size + 1) 37 i7 (.slice none 0 0) 1 24 Try.underlying36 hi7 hz0 hz1 hz2 rfl Nat.one_pos (.slice a6 VO.length c6) VO.length VO ?_ ?_ ⟨wA.heap.size, 0, none⟩ 1 1 [.slice a9 (X.ord R).length c9] ?_ rfl ?_ ?_ Nat.one_pos ?_ ?_ ?_ _ rfl ?_
                    rfl
                    rfl
                    rfl
                    exact oB.alloc _
                    rfl
                    exact news_alloc wA #[.slice a9 (X.ord R).length c9] 37 _ rfl
                    simp [Value.oneCell']
                    (unfold maxLen; omega)
                    omega
                    (first | omega | (simp; omega))
                    intro gB capB wB hownB hgrowB hatB hltB
                    have nB : X.Frame w5 wB (X.ExA (.slice a5 k c5) (.slice a6 VO.length c6)) := KB3.out _ _ wB nA (.inl ⟨_, rfl⟩) hgrowB
                    have r0 := KC0.out _ nB
                    have r2 := KC2.out _ nB
                    have s0 := KF0.out _ nB
                    have s2 := KF2.out _ nB
                    try go_simp
                    refine hK _ _ (fun _ => nB) ?_
                    clear hK K
                    refine Lt.ready1 (i := 15) (by kernel_rfl) rfl (fun K hK => ?_)
                    go_simp
                    refine hK _ _ (Lt.is_late (by kernel_rfl)) ?_
                    clear hK K
                    refine Lt.ready1 (i := 16) (by kernel_rfl) rfl (fun K hK => ?_)
                    go_simp
                    refine hK _ _ (Lt.is_late (by kernel_rfl)) ?_
                    clear hK K
                    refine Lt.ready1 (i := 17) (by kernel_rfl) rfl (fun K hK => ?_)
                    go_simp
                    refine hK _ _ (Lt.is_late (by kernel_rfl)) ?_
                    clear hK K
                    refine Lt.done (by kernel_rfl) ?_ _
                    have hrs : wB.ownsRow (w3.heap.size + 1) 66 4 (.slice (some ⟨gA, 0, none⟩) (k + 1) capA) (k + 1) (XS ++ [.string s6, .slice a61 n61 d61, .slice a62 n62 d62, .slice a63 n63 d63]) := by
                      first
                        | exact (World.ownsRow.alloc hownA _).kept hgrowB (X.owns_twoS hownA oB (by decide))
                        | exact World.ownsRow.kept hownA hgrowB (X.owns_twoS hownA oB (by decide))
                    have hro : wB.ownsRow (w3.heap.size + 1) 37 1 (.slice (some ⟨gB, 0, none⟩) (VO.length + 1) capB) (VO ++ [Value.slice a9 (X.ord R).length c9]).length (VO ++ [Value.slice a9 (X.ord R).length c9]) := by
                      rw [List.length_append]; exact hownB
                    have hCK' := HC5.out.push nB hrs hro HIR.out
                    have hBB' := HC5.out.pushB (st' := .slice (some ⟨gA, 0, none⟩) (k + 1) capA) (ov' := .slice (some ⟨gB, 0, none⟩) (VO.length + 1) capB) nB HBX5.out rfl
                    rw [HTK.out] at hCK'
                    have HCK' := hide hCK'
                    have HBB' := hide hBB'
                    clear hCK' hBB' hrs hro hownA hownB hgrowA hgrowB hatA hatB nA nB oB qA2 qA2a r0 r2 s0 s2 q60 q60a q60b q62 q62a q62b
                    go_wp2_with fail
                    go_roundw
                    case rel => exact ⟨k + 1, _, _, _, _, by omega, by go_num, HFI2.out, HCK'.out, HBB'.out⟩
                    case measure => simp [intOf]; omega
                  · skip
                    go_simp
                    refine hK _ _ (fun _ => ((X.Frame.weak hF6 _).alloc _).alloc _) ?_
                    clear hK K
                    refine Lt.ready1 (i := 8) (by kernel_rfl) rfl (fun K hK => ?_)
                    refine step_append_lies _ ?_ (.tmp 54) (.tmp 60) 57 ?_ (w3.heap.size + 1) 66 i6 (.agg #[.string ⟨#[]⟩, .slice none 0 0, .slice none 0 0, .slice none 0 0]) 4 88 Try.underlying57 hi6 hx0 hx1 hx2 rfl h4pos (.slice a5 k c5) k XS ?_ ?_ ⟨w6.heap.size, 0, none⟩ 1 1 [.string s6, .slice a61 n61 d61, .slice a62 n62 d62, .slice a63 n63 d63] ?_ rfl ?_ ?_ Nat.one_pos ?_ ?_ ?_ _ rfl ?_
                    rfl
                    rfl
                    rfl
                    exact ((X.ownsS_frame HOS.out hF6 NF.out).alloc _).alloc _
                    rfl
                    exact X.newsA1 #[.string s6, .slice a61 n61 d61, .slice a62 n62 d62, .slice a63 n63 d63] 66 _
                    simp [Value.oneCell']
                    (unfold maxLen; omega)
                    omega
                    (first | omega | (simp; omega))
                    intro gA capA wA hownA hgrowA hatA hltA
                    have nA := KA1.out w6 _ wA hF6 (.inr ⟨_, _, rfl⟩) hgrowA
                    have oB := KA2.out w6 _ wA hF6 (.inr ⟨_, _, rfl⟩) hgrowA
                    have leA := nA.size
                    have qA2 := KC2.out _ nA
                    have qA2a := KG2.out _ nA
                    try go_simp
                    refine hK _ _ (fun _ => nA) ?_
                    clear hK K
                    refine Lt.takeY (i := 14) (v := .pointer (some ⟨w3.heap.size, 0, none⟩)) rfl (by kernel_rfl) (by kernel_rfl) (by kernel_rfl) (by kernel_rfl) (fun _ _ _ h => h) (Or.inl ⟨by rfl, ?_⟩) (nA) ?_
                    · intro w
                      go_simp
                    go_simp
                    refine Lt.ready1 (i := 13) (by kernel_rfl) rfl (fun K hK => ?_)
                    refine step_append_lies _ ?_ (.tmp 63) (.tmp 65) 36 ?_ (w3.heap.size + 1) 37 i7 (.slice none 0 0) 1 24 Try.underlying36 hi7 hz0 hz1 hz2 rfl Nat.one_pos (.slice a6 VO.length c6) VO.length VO ?_ ?_ ⟨w6.heap.size + 1, 0, none⟩ 1 1 [.slice a9 (X.ord R).length c9] ?_ rfl ?_ ?_ Nat.one_pos ?_ ?_ ?_ _ rfl ?_
                    rfl
                    rfl
                    rfl
                    exact oB
                    rfl
                    exact X.newsB (X.newsA2 #[.slice a9 (X.ord R).length c9] 37 _) hgrowA (LA.out w6 le6 _ (Nat.le_succ _))
                    simp [Value.oneCell']
                    (unfold maxLen; omega)
                    omega
                    (first | omega | (simp; omega))
                    intro gB capB wB hownB hgrowB hatB hltB
                    have nB : X.Frame w5 wB (X.ExA (.slice a5 k c5) (.slice a6 VO.length c6)) := KB3.out _ _ wB nA (.inr rfl) hgrowB
                    have r0 := KC0.out _ nB
                    have r2 := KC2.out _ nB
                    have s0 := KF0.out _ nB
                    have s2 := KF2.out _ nB
                    try go_simp
                    refine hK _ _ (fun _ => nB) ?_
                    clear hK K
                    refine Lt.ready1 (i := 15) (by kernel_rfl) rfl (fun K hK => ?_)
                    go_simp
                    refine hK _ _ (Lt.is_late (by kernel_rfl)) ?_
                    clear hK K
                    refine Lt.ready1 (i := 16) (by kernel_rfl) rfl (fun K hK => ?_)
                    go_simp
                    refine hK _ _ (Lt.is_late (by kernel_rfl)) ?_
                    clear hK K
                    refine Lt.ready1 (i := 17) (by kernel_rfl) rfl (fun K hK => ?_)
                    go_simp
                    refine hK _ _ (Lt.is_late (by kernel_rfl)) ?_
                    clear hK K
                    refine Lt.done (by kernel_rfl) ?_ _
                    have hrs : wB.ownsRow (w3.heap.size + 1) 66 4 (.slice (some ⟨gA, 0, none⟩) (k + 1) capA) (k + 1) (XS ++ [.string s6, .slice a61 n61 d61, .slice a62 n62 d62, .slice a63 n63 d63]) := by
                      first
                        | exact (World.ownsRow.alloc hownA _).kept hgrowB (X.owns_twoS hownA oB (by decide))
                        | exact World.ownsRow.kept hownA hgrowB (X.owns_twoS hownA oB (by decide))
                    have hro : wB.ownsRow (w3.heap.size + 1) 37 1 (.slice (some ⟨gB, 0, none⟩) (VO.length + 1) capB) (VO ++ [Value.slice a9 (X.ord R).length c9]).length (VO ++ [Value.slice a9 (X.ord R).length c9]) := by
                      rw [List.length_append]; exact hownB
                    have hCK' := HC5.out.push nB hrs hro HIR.out
                    have hBB' := HC5.out.pushB (st' := .slice (some ⟨gA, 0, none⟩) (k + 1) capA) (ov' := .slice (some ⟨gB, 0, none⟩) (VO.length + 1) capB) nB HBX5.out rfl
                    rw [HTK.out] at hCK'
                    have HCK' := hide hCK'
                    have HBB' := hide hBB'
                    clear hCK' hBB' hrs hro hownA hownB hgrowA hgrowB hatA hatB nA nB oB qA2 qA2a r0 r2 s0 s2 q60 q60a q60b q62 q62a q62b
                    go_wp2_with fail
                    go_roundw
                    case rel => exact ⟨k + 1, _, _, _, _, by omega, by go_num, HFI2.out, HCK'.out, HBB'.out⟩
                    case measure => simp [intOf]; omega
                · skip
                  go_simp
                  refine hK _ _ (fun _ => (X.Frame.weak hF6 _).alloc _) ?_
                  clear hK K
                  refine Lt.ready1 (i := 7) (by kernel_rfl) rfl (fun K hK => ?_)
                  go_simp
                  refine hK _ _ (fun _ => ((X.Frame.weak hF6 _).alloc _).alloc _) ?_
                  clear hK K
                  refine Lt.ready1 (i := 8) (by kernel_rfl) rfl (fun K hK => ?_)
                  refine step_append_lies _ ?_ (.tmp 54) (.tmp 60) 57 ?_ (w3.heap.size + 1) 66 i6 (.agg #[.string ⟨#[]⟩, .slice none 0 0, .slice none 0 0, .slice none 0 0]) 4 88 Try.underlying57 hi6 hx0 hx1 hx2 rfl h4pos (.slice a5 k c5) k XS ?_ ?_ ⟨w6.heap.size + 1, 0, none⟩ 1 1 [.string s6, .slice a61 n61 d61, .slice a62 n62 d62, .slice a63 n63 d63] ?_ rfl ?_ ?_ Nat.one_pos ?_ ?_ ?_ _ rfl ?_
                  rfl
                  rfl
                  rfl
                  exact ((X.ownsS_frame HOS.out hF6 NF.out).alloc _).alloc _
                  rfl
                  exact X.newsA2 #[.string s6, .slice a61 n61 d61, .slice a62 n62 d62, .slice a63 n63 d63] 66 _
                  simp [Value.oneCell']
                  (unfold maxLen; omega)
                  omega
                  (first | omega | (simp; omega))
                  intro gA capA wA hownA hgrowA hatA hltA
                  have nA := KA1.out w6 _ wA hF6 (.inr ⟨_, _, rfl⟩) hgrowA
                  have oB := KA2.out w6 _ wA hF6 (.inr ⟨_, _, rfl⟩) hgrowA
                  have leA := nA.size
                  have qA2 := KC2.out _ nA
                  have qA2a := KG2.out _ nA
                  try go_simp
                  refine hK _ _ (fun _ => nA) ?_
                  clear hK K
                  refine Lt.takeY (i := 14) (v := .pointer (some ⟨w3.heap.size, 0, none⟩)) rfl (by kernel_rfl) (by kernel_rfl) (by kernel_rfl) (by kernel_rfl) (fun _ _ _ h => h) (Or.inl ⟨by rfl, ?_⟩) (nA) ?_
                  · intro w
                    go_simp
                  go_simp
                  refine Lt.ready1 (i := 13) (by kernel_rfl) rfl (fun K hK => ?_)
                  refine step_append_lies _ ?_ (.tmp 63) (.tmp 65) 36 ?_ (w3.heap.size + 1) 37 i7 (.slice none 0 0) 1 24 Try.underlying36 hi7 hz0 hz1 hz2 rfl Nat.one_pos (.slice a6 VO.length c6) VO.length VO ?_ ?_ ⟨w6.heap.size, 0, none⟩ 1 1 [.slice a9 (X.ord R).length c9] ?_ rfl ?_ ?_ Nat.one_pos ?_ ?_ ?_ _ rfl ?_
                  rfl
                  rfl
                  rfl
                  exact oB
                  rfl
                  exact X.newsB (X.newsA1 #[.slice a9 (X.ord R).length c9] 37 _) hgrowA (LA.out w6 le6 _ (Nat.le_refl _))
                  simp [Value.oneCell']
                  (unfold maxLen; omega)
                  omega
                  (first | omega | (simp; omega))
                  intro gB capB wB hownB hgrowB hatB hltB
                  have nB : X.Frame w5 wB (X.ExA (.slice a5 k c5) (.slice a6 VO.length c6)) := KB3.out _ _ wB nA (.inr rfl) hgrowB
                  have r0 := KC0.out _ nB
                  have r2 := KC2.out _ nB
                  have s0 := KF0.out _ nB
                  have s2 := KF2.out _ nB
                  try go_simp
                  refine hK _ _ (fun _ => nB) ?_
                  clear hK K
                  refine Lt.ready1 (i := 15) (by kernel_rfl) rfl (fun K hK => ?_)
                  go_simp
                  refine hK _ _ (Lt.is_late (by kernel_rfl)) ?_
                  clear hK K
                  refine Lt.ready1 (i := 16) (by kernel_rfl) rfl (fun K hK => ?_)
                  go_simp
                  refine hK _ _ (Lt.is_late (by kernel_rfl)) ?_
                  clear hK K
                  refine Lt.ready1 (i := 17) (by kernel_rfl) rfl (fun K hK => ?_)
                  go_simp
                  refine hK _ _ (Lt.is_late (by kernel_rfl)) ?_
                  clear hK K
                  refine Lt.done (by kernel_rfl) ?_ _
                  have hrs : wB.ownsRow (w3.heap.size + 1) 66 4 (.slice (some ⟨gA, 0, none⟩) (k + 1) capA) (k + 1) (XS ++ [.string s6, .slice a61 n61 d61, .slice a62 n62 d62, .slice a63 n63 d63]) := by
                    first
                      | exact (World.ownsRow.alloc hownA _).kept hgrowB (X.owns_twoS hownA oB (by decide))
                      | exact World.ownsRow.kept hownA hgrowB (X.owns_twoS hownA oB (by decide))
                  have hro : wB.ownsRow (w3.heap.size + 1) 37 1 (.slice (some ⟨gB, 0, none⟩) (VO.length + 1) capB) (VO ++ [Value.slice a9 (X.ord R).length c9]).length (VO ++ [Value.slice a9 (X.ord R).length c9]) := by
                    rw [List.length_append]; exact hownB
                  have hCK' := HC5.out.push nB hrs hro HIR.out
                  have hBB' := HC5.out.pushB (st' := .slice (some ⟨gA, 0, none⟩) (k + 1) capA) (ov' := .slice (some ⟨gB, 0, none⟩) (VO.length + 1) capB) nB HBX5.out rfl
                  rw [HTK.out] at hCK'
                  have HCK' := hide hCK'
                  have HBB' := hide hBB'
                  clear hCK' hBB' hrs hro hownA hownB hgrowA hgrowB hatA hatB nA nB oB qA2 qA2a r0 r2 s0 s2 q60 q60a q60b q62 q62a q62b
                  go_wp2_with fail
                  go_roundw
                  case rel => exact ⟨k + 1, _, _, _, _, by omega, by go_num, HFI2.out, HCK'.out, HBB'.out⟩
                  case measure => simp [intOf]; omega
              · skip
                go_simp
                refine hK _ _ (fun _ => ((X.Frame.refl _ _).alloc _).drew) ?_
                clear hK K
                refine Lt.ready1 (i := 6) (by kernel_rfl) rfl (fun K hK => ?_)
                refine step_call43 ?_ (.tmp 58) 66 ?_ (.agg #[.string x.name, .slice ai x.ins.length ci, .slice ar2 x.res.length cr2, .slice ao x.outs.length co]) ?_ ?_
                rfl
                rfl
                rfl
                (with_reducible refine Calls.mono (K43.out _ (HF1.out _)) ?_)
                rintro o6 w6 ⟨⟨s6, a61, a62, a63, n61, n62, n63, d61, d62, d63, rfl⟩, hF6, hb6⟩
                refine ⟨_, rfl, ?_⟩
                have q60 := KC0.out _ (X.Frame.weak hF6 _)
                have q62 := KC2.out _ (X.Frame.weak hF6 _)
                have le6 := hF6.size
                have q60a := KG0.out _ (X.Frame.weak hF6 _)
                have q60b := KH0.out _ (X.Frame.weak hF6 _)
                have q62a := KG2.out _ (X.Frame.weak hF6 _)
                have q62b := KH2.out _ (X.Frame.weak hF6 _)
                have qB := KQ.out w6 hb6
                try go_simp
                refine hK _ _ (fun _ => X.Frame.weak hF6 _) ?_
                clear hK K
                refine Lt.ready1 (i := 7) (by kernel_rfl) rfl (fun K hK => ?_)
                go_simp
                refine hK _ _ (fun _ => (X.Frame.weak hF6 _).alloc _) ?_
                clear hK K
                refine Lt.ready1 (i := 8) (by kernel_rfl) rfl (fun K hK => ?_)
                refine step_append_lies _ ?_ (.tmp 54) (.tmp 60) 57 ?_ (w3.heap.size + 1) 66 i6 (.agg #[.string ⟨#[]⟩, .slice none 0 0, .slice none 0 0, .slice none 0 0]) 4 88 Try.underlying57 hi6 hx0 hx1 hx2 rfl h4pos (.slice a5 k c5) k XS ?_ ?_ ⟨w6.heap.size, 0, none⟩ 1 1 [.string s6, .slice a61 n61 d61, .slice a62 n62 d62, .slice a63 n63 d63] ?_ rfl ?_ ?_ Nat.one_pos ?_ ?_ ?_ _ rfl ?_
                rfl
                rfl
                rfl
                exact (X.ownsS_frame HOS.out hF6 NF.out).alloc _
                rfl
                exact news_alloc w6 #[.string s6, .slice a61 n61 d61, .slice a62 n62 d62, .slice a63 n63 d63] 66 _ rfl
                simp [Value.oneCell']
                (unfold maxLen; omega)
                omega
                (first | omega | (simp; omega))
                intro gA capA wA hownA hgrowA hatA hltA
                have nA := KA1.out w6 _ wA hF6 (.inl ⟨_, rfl⟩) hgrowA
                have oB := KA2.out w6 _ wA hF6 (.inl ⟨_, rfl⟩) hgrowA
                have leA := nA.size
                have qA2 := KC2.out _ nA
                have qA2a := KG2.out _ nA
                try go_simp
                refine hK _ _ (fun _ => nA) ?_
                clear hK K
                refine Lt.takeY (i := 14) (v := .pointer (some ⟨w3.heap.size, 0, none⟩)) rfl (by kernel_rfl) (by kernel_rfl) (by kernel_rfl) (by kernel_rfl) (fun _ _ _ h => h) (Or.inl ⟨by rfl, ?_⟩) (nA) ?_
                · intro w
                  go_simp
                go_simp
                refine Lt.ready1 (i := 13) (by kernel_rfl) rfl (fun K hK => ?_)
                refine step_append_lies _ ?_ (.tmp 63) (.tmp 65) 36 ?_ (w3.heap.size + 1) 37 i7 (.slice none 0 0) 1 24 Try.underlying36 hi7 hz0 hz1 hz2 rfl Nat.one_pos (.slice a6 VO.length c6) VO.length VO ?_ ?_ ⟨w5.heap.size, 0, none⟩ 1 1 [.slice a9 (X.ord R).length c9] ?_ rfl ?_ ?_ Nat.one_pos ?_ ?_ ?_ _ rfl ?_
                rfl
                rfl
                rfl
                exact oB
                rfl
                exact X.newsB (qB _) hgrowA (LA.out w5 (Nat.le_refl _) _ (Nat.le_refl _))
                simp [Value.oneCell']
                (unfold maxLen; omega)
                omega
                (first | omega | (simp; omega))
                intro gB capB wB hownB hgrowB hatB hltB
                have nB : X.Frame w5 wB (X.ExA (.slice a5 k c5) (.slice a6 VO.length c6)) := KB3.out _ _ wB nA (.inr rfl) hgrowB
                have r0 := KC0.out _ nB
                have r2 := KC2.out _ nB
                have s0 := KF0.out _ nB
                have s2 := KF2.out _ nB
                try go_simp
                refine hK _ _ (fun _ => nB) ?_
                clear hK K
                refine Lt.ready1 (i := 15) (by kernel_rfl) rfl (fun K hK => ?_)
                go_simp
                refine hK _ _ (Lt.is_late (by kernel_rfl)) ?_
                clear hK K
                refine Lt.ready1 (i := 16) (by kernel_rfl) rfl (fun K hK => ?_)
                go_simp
                refine hK _ _ (Lt.is_late (by kernel_rfl)) ?_
                clear hK K
                refine Lt.ready1 (i := 17) (by kernel_rfl) rfl (fun K hK => ?_)
                go_simp
                refine hK _ _ (Lt.is_late (by kernel_rfl)) ?_
                clear hK K
                refine Lt.done (by kernel_rfl) ?_ _
                have hrs : wB.ownsRow (w3.heap.size + 1) 66 4 (.slice (some ⟨gA, 0, none⟩) (k + 1) capA) (k + 1) (XS ++ [.string s6, .slice a61 n61 d61, .slice a62 n62 d62, .slice a63 n63 d63]) := by
                  first
                    | exact (World.ownsRow.alloc hownA _).kept hgrowB (X.owns_twoS hownA oB (by decide))
                    | exact World.ownsRow.kept hownA hgrowB (X.owns_twoS hownA oB (by decide))
                have hro : wB.ownsRow (w3.heap.size + 1) 37 1 (.slice (some ⟨gB, 0, none⟩) (VO.length + 1) capB) (VO ++ [Value.slice a9 (X.ord R).length c9]).length (VO ++ [Value.slice a9 (X.ord R).length c9]) := by
                  rw [List.length_append]; exact hownB
                have hCK' := HC5.out.push nB hrs hro HIR.out
                have hBB' := HC5.out.pushB (st' := .slice (some ⟨gA, 0, none⟩) (k + 1) capA) (ov' := .slice (some ⟨gB, 0, none⟩) (VO.length + 1) capB) nB HBX5.out rfl
                rw [HTK.out] at hCK'
                have HCK' := hide hCK'
                have HBB' := hide hBB'
                clear hCK' hBB' hrs hro hownA hownB hgrowA hgrowB hatA hatB nA nB oB qA2 qA2a r0 r2 s0 s2 q60 q60a q60b q62 q62a q62b
                go_wp2_with fail
                go_roundw
                case rel => exact ⟨k + 1, _, _, _, _, by omega, by go_num, HFI2.out, HCK'.out, HBB'.out⟩
                case measure => simp [intOf]; omega
            · have hE5 := (hb5.block w.heap.size (Array.getElem?_eq_some_iff.1 HEX.out).1).trans HEX.out
              have hB5 := HBWX.out.trans (hb5.mono HBWX.out.size)
              have HF := hide hf
              clear hf hu
              skip
              have z0 := cell_of_block hE5 0 _ rfl
              have z1 := cell_of_block hE5 1 _ rfl
              have z2 := cell_of_block hE5 2 _ rfl
              have f0 := free_of_block hE5 0
              have f1 := free_of_block hE5 1
              have f2 := free_of_block hE5 2
              go_wp2_with fail
              have hs3 := X.set3 hE5 (.slice none 0 0) (.slice none 0 0) (.slice none 0 0)
              have hb3 := X.below3 hB5 (Nat.le_refl _) (.slice none 0 0) (.slice none 0 0) (.slice none 0 0)
              generalize (((w5.setCell ⟨w.heap.size, 0, none⟩ (.slice none 0 0)).setCell ⟨w.heap.size, 1, none⟩ (.slice none 0 0)).setCell ⟨w.heap.size, 2, none⟩ (.slice none 0 0)) = wz at *
              have r0 := cell_of_block hs3 0 _ rfl
              have r1 := cell_of_block hs3 1 _ rfl
              have r2 := cell_of_block hs3 2 _ rfl
              refine bodyPost_ret (by simp [results, Try.results28, go_sem, r0, r1, r2]; rfl) rfl ⟨?_, hb3⟩
              refine .inl ⟨fun q hq => ?_, _, rfl⟩
              have h1 := hq.2.2.1
              rw [HP.out] at h1
              have h2 : p = q := by simpa using h1
              rw [← h2] at hq
              exact HF.out (hq.2.2.2.1 R (List.mem_of_getElem? HR.out))
          · have hod := orderOf_nat2 p.2 _ wx (HLS.out.kept hBx (Nat.le_refl _)) (by have := X.an_all HP.out; omega) HGS.out
            have hfi2 : ∀ R ∈ p.1, X.Fine R := by rw [List.take_of_length_le (by omega)] at hfi; exact hfi
            have hCK2 : X.CK wx (w3.heap.size + 1) w3.heap.size (.slice as_ p.2.length cs) (.slice a5 k c5) (.slice a6 VO.length c6) k XS VO (p.1.map X.ord) := by rw [List.take_of_length_le (by omega)] at hCK; exact hCK
            have HOD := hide hod
            have HCK := hide hCK2
            have HBX := hide hBx
            have HEX := hide hEx
            have HBWX := hide hBwx
            have HFI := hide hfi2
            clear hod hCK hCK2 hBx hEx hBwx hfi hfi2
            go_wp2_with fail
            go_fit HOD.out
            rintro o w5 ⟨⟨hf, a9, c9, rfl, hI⟩ | ⟨hf, a9, n9, c9, rfl⟩, hb5⟩
            · have hE5 := (hb5.block w.heap.size (Array.getElem?_eq_some_iff.1 HEX.out).1).trans HEX.out
              have hB5 := HBWX.out.trans (hb5.mono HBWX.out.size)
              have hC5 := HCK.out.keep hb5
              have HBX5 := hide (HBX.out.trans (hb5.mono HBX.out.size))
              have hL5 := HLS.out.kept (HBX.out.trans (hb5.mono HBX.out.size)) (Nat.le_refl _)
              have HF := hide hf
              have HC5 := hide hC5
              have HL5 := hide hL5
              have c0 := cell_of_block hC5.hb 0 _ rfl
              have c1 := cell_of_block hC5.hb 1 _ rfl
              have c2 := cell_of_block hC5.hb 2 _ rfl
              have z0 := cell_of_block hE5 0 _ rfl
              have z1 := cell_of_block hE5 1 _ rfl
              have z2 := cell_of_block hE5 2 _ rfl
              have f0 := free_of_block hE5 0
              have f1 := free_of_block hE5 1
              have f2 := free_of_block hE5 2
              clear hf hC5 hL5 hI
              go_wp2_with fail
              have hs3 := X.set3 hE5 (.slice a5 k c5) (.slice as_ p.2.length cs) (.slice a6 VO.length c6)
              have hb3 := X.below3 hB5 (Nat.le_refl _) (.slice a5 k c5) (.slice as_ p.2.length cs) (.slice a6 VO.length c6)
              have hfr : X.Frame w5 (((w5.setCell ⟨w.heap.size, 0, none⟩ (.slice a5 k c5)).setCell ⟨w.heap.size, 1, none⟩ (.slice as_ p.2.length cs)).setCell ⟨w.heap.size, 2, none⟩ (.slice a6 VO.length c6)) (fun c => c = w.heap.size) :=
                ⟨rfl, rfl, rfl, by simp, fun c _ he => by rw [Below.heap_setCell _ ⟨w.heap.size, 2, none⟩ _ c (fun e => he e), Below.heap_setCell _ ⟨w.heap.size, 1, none⟩ _ c (fun e => he e), Below.heap_setCell _ ⟨w.heap.size, 0, none⟩ _ c (fun e => he e)]⟩
              generalize (((w5.setCell ⟨w.heap.size, 0, none⟩ (.slice a5 k c5)).setCell ⟨w.heap.size, 1, none⟩ (.slice as_ p.2.length cs)).setCell ⟨w.heap.size, 2, none⟩ (.slice a6 VO.length c6)) = wz at *
              have r0 := cell_of_block hs3 0 _ rfl
              have r1 := cell_of_block hs3 1 _ rfl
              have r2 := cell_of_block hs3 2 _ rfl
              refine bodyPost_ret (by simp [results, Try.results28, go_sem, r0, r1, r2]; rfl) rfl ⟨?_, hb3⟩
              refine .inr ⟨p, ⟨HA.out, HD.out, HP.out, HFI.out, HF.out⟩, _, _, _, _, _, _, _, _, _, rfl, ?_, ?_⟩
              · refine HLR.out wz (fun c h1 h2 => ?_)
                have h3 := hfr.block c (Nat.lt_of_lt_of_le h2 HBX5.out.size) (by show ¬ c = w.heap.size; omega)
                rw [h3]; exact HBX5.out.block c h2
              · have h3 := X.CK.lists HC5.out hfr (by omega)
                rw [List.map_map] at h3
                exact h3
            · have hE5 := (hb5.block w.heap.size (Array.getElem?_eq_some_iff.1 HEX.out).1).trans HEX.out
              have hB5 := HBWX.out.trans (hb5.mono HBWX.out.size)
              have HF := hide hf
              clear hf
              skip
              have z0 := cell_of_block hE5 0 _ rfl
              have z1 := cell_of_block hE5 1 _ rfl
              have z2 := cell_of_block hE5 2 _ rfl
              have f0 := free_of_block hE5 0
              have f1 := free_of_block hE5 1
              have f2 := free_of_block hE5 2
              go_wp2_with fail
              have hs3 := X.set3 hE5 (.slice none 0 0) (.slice none 0 0) (.slice none 0 0)
              have hb3 := X.below3 hB5 (Nat.le_refl _) (.slice none 0 0) (.slice none 0 0) (.slice none 0 0)
              generalize (((w5.setCell ⟨w.heap.size, 0, none⟩ (.slice none 0 0)).setCell ⟨w.heap.size, 1, none⟩ (.slice none 0 0)).setCell ⟨w.heap.size, 2, none⟩ (.slice none 0 0)) = wz at *
              have r0 := cell_of_block hs3 0 _ rfl
              have r1 := cell_of_block hs3 1 _ rfl
              have r2 := cell_of_block hs3 2 _ rfl
              refine bodyPost_ret (by simp [results, Try.results28, go_sem, r0, r1, r2]; rfl) rfl ⟨?_, hb3⟩
              refine .inl ⟨fun q hq => ?_, _, rfl⟩
              have h1 := hq.2.2.1
              rw [HP.out] at h1
              have h2 : p = q := by simpa using h1
              rw [← h2] at hq
              exact HF.out hq.2.2.2.2
  · have he : V.errOf (X.aloneErr sm (m + 1) l) = .iface 68 (.int .i64 ((X.aloneErr sm (m + 1) l : Nat) : Int)) := err_ne _ ha
    rw [he]
    have HNF : Hid (∀ p, ¬ X.Fit sm (m + 1) l p) := fun p hp => ha hp.1
    generalize X.aloneErr sm (m + 1) l = F at *
    clear ha he
    skip
    have z0 := cell_of_block hE1 0 _ rfl
    have z1 := cell_of_block hE1 1 _ rfl
    have z2 := cell_of_block hE1 2 _ rfl
    have f0 := free_of_block hE1 0
    have f1 := free_of_block hE1 1
    have f2 := free_of_block hE1 2
    go_wp2_with fail
    have hs3 := X.set3 hE1 (.slice none 0 0) (.slice none 0 0) (.slice none 0 0)
    have hb3 := X.below3 hB1 (Nat.le_refl _) (.slice none 0 0) (.slice none 0 0) (.slice none 0 0)
    generalize (((w1.setCell ⟨w.heap.size, 0, none⟩ (.slice none 0 0)).setCell ⟨w.heap.size, 1, none⟩ (.slice none 0 0)).setCell ⟨w.heap.size, 2, none⟩ (.slice none 0 0)) = wz at *
    have r0 := cell_of_block hs3 0 _ rfl
    have r1 := cell_of_block hs3 1 _ rfl
    have r2 := cell_of_block hs3 2 _ rfl
    refine bodyPost_ret (by simp [results, Try.results28, go_sem, r0, r1, r2]; rfl) rfl ⟨?_, hb3⟩
    exact .inl ⟨HNF.out, _, rfl⟩
end Go.Proofs.Ytienhelohfhhfaa.Vx
