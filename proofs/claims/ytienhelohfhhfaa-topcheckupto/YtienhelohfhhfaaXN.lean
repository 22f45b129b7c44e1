/- check.lookAll: as plain lists; what lies in memory meanwhile. -/
import Derived.Test.YtienhelohfhhfaaXJ
namespace Go.Proofs.Ytienhelohfhhfaa.Vx
open Go.RowKit
namespace X
section
variable {α β : Type}
theorem foldB_none (f : α → β → Option β) : ∀ (l : List α), l.foldl (fun o x => o.bind (f x)) none = none
  | [] => rfl
  | _ :: t => foldB_none f t
theorem foldB_next (f : α → β → Option β) {l : List α} {k : Nat} {x : α} (o : Option β) (h : l[k]? = some x) : (l.take (k + 1)).foldl (fun o x => o.bind (f x)) o = ((l.take k).foldl (fun o x => o.bind (f x)) o).bind (f x) := by
  rw [List.take_add_one, h, Option.toList_some, List.foldl_append]; rfl
theorem foldB_stop (f : α → β → Option β) {l : List α} {k : Nat} (o : Option β) (h : (l.take k).foldl (fun o x => o.bind (f x)) o = none) : l.foldl (fun o x => o.bind (f x)) o = none := by
  conv => lhs; rw [← List.take_append_drop k l]
  rw [List.foldl_append, h, foldB_none]
theorem foldB_all (f : α → β → Option β) {l : List α} {k : Nat} (o : Option β) (h : l.length ≤ k) : (l.take k).foldl (fun o x => o.bind (f x)) o = l.foldl (fun o x => o.bind (f x)) o := by
  rw [List.take_of_length_le h]
theorem foldB_keeps (f : α → β → Option β) (P : β → Prop) (hf : ∀ x b b', P b → f x b = some b' → P b') : ∀ (l : List α) (b b' : β), P b → l.foldl (fun o x => o.bind (f x)) (some b) = some b' → P b'
  | [], b, b', hb, h => by cases h; exact hb
  | x :: t, b, b', hb, h => by
    rw [List.foldl_cons, Option.bind_some] at h
    cases hx : f x b with
    | none => rw [hx, foldB_none] at h; cases h
    | some c => rw [hx] at h; exact foldB_keeps f P hf t c b' (hf x b c hb hx) h
end
/-- Named expressions, one behind the other. -/
def lkP (all : List Sk) (st : Sk) (m : Nat) (q : List Nat × List Nat) (l : List (ByteArray × Ex)) : Option (List Nat × List Nat) := l.foldl (fun o x => o.bind (lk all st m x.2)) (some q)
/-- One resource more. -/
def lkR1 (all : List Sk) (st : Sk) (m : Nat) (r : Rs) (p : List (List Nat) × List Nat) : Option (List (List Nat) × List Nat) := (lkP all st m ([], p.2) r.parts).map (fun q => (p.1 ++ [q.1], q.2))
def lkR (all : List Sk) (st : Sk) (m : Nat) (l : List Rs) : Option (List (List Nat) × List Nat) := l.foldl (fun o r => o.bind (lkR1 all st m r)) (some ([], []))
/-- check.lookAll. -/
def la (all : List Sk) (st : Sk) (m : Nat) : Option (List (List Nat) × List Nat) := (lkR all st m st.res).bind (fun p => (lkP all st m ([], p.2) st.outs).map (fun q => (p.1, q.2)))
/-- Numbers below n, none twice. -/
def Good (n : Nat) (l : List Nat) : Prop := l.Nodup ∧ ∀ x ∈ l, x < n
theorem nodup_len : ∀ (n : Nat) (l : List Nat), l.Nodup → (∀ x ∈ l, x < n) → l.length ≤ n
  | 0, l, _, h => by
    cases l with
    | nil => exact Nat.le_refl _
    | cons a t => exact absurd (h a (by simp)) (by omega)
  | n + 1, l, hn, h => by
    by_cases hm : n ∈ l
    · have h1 : (l.erase n).length ≤ n := nodup_len n (l.erase n) (hn.erase n) (fun x hx => by
        have h2 := (List.Nodup.mem_erase_iff hn).1 hx
        have := h x h2.2
        have := h2.1
        omega)
      have h2 := List.length_erase_of_mem hm
      omega
    · have := nodup_len n l hn (fun x hx => by
        have := h x hx
        have : x ≠ n := fun e => hm (e ▸ hx)
        omega)
      omega
theorem Good.len {n : Nat} {l : List Nat} (h : Good n l) : l.length ≤ n := nodup_len n l h.1 h.2
theorem Good.nil (n : Nat) : Good n [] := ⟨List.nodup_nil, fun x hx => by cases hx⟩
theorem Good.once {n k : Nat} {l : List Nat} (h : Good n l) (hk : k < n) : Good n (once l k) := by
  unfold X.once
  split
  · exact h
  · rename_i hm
    refine ⟨?_, ?_⟩
    · rw [List.nodup_append]
      exact ⟨h.1, by simp, fun a ha b hb e => hm (by simp at hb; rw [← hb, ← e]; exact ha)⟩
    · intro x hx
      rcases List.mem_append.1 hx with h1 | h1
      · exact h.2 x h1
      · simp at h1; rw [h1]; exact hk
def GoodQ (all : List Sk) (st : Sk) (q : List Nat × List Nat) : Prop := Good st.res.length q.1 ∧ Good all.length q.2
theorem posI_nat {ns : List ByteArray} {s : ByteArray} (h : ¬ posI ns s < 0) : (posI ns s).toNat < ns.length := posI_lt (s := s) (by omega)
theorem named_good {all : List Sk} {st : Sk} {e : Ex} {q q' : List Nat × List Nat} (hq : GoodQ all st q) (h : named all st e q = some q') : GoodQ all st q' := by
  unfold named at h
  split at h
  · split at h
    · cases h
    · cases h; exact hq
  · split at h
    · split at h
      · cases h
      · rename_i h1
        cases h
        have := posI_nat h1
        rw [List.length_map] at this
        exact ⟨hq.1.once this, hq.2⟩
    · split at h
      · split at h
        · cases h
        · rename_i h1
          split at h
          · cases h
          · cases h
            have := posI_nat h1
            rw [List.length_map] at this
            exact ⟨hq.1, hq.2.once this⟩
      · cases h; exact hq
theorem lk_good {all : List Sk} {st : Sk} : ∀ (m : Nat) (e : Ex) (q q' : List Nat × List Nat), GoodQ all st q → lk all st m e q = some q' → GoodQ all st q'
  | 0, _, _, _, hq, h => by cases h; exact hq
  | m + 1, e, q, q', hq, h => by
    rw [lk] at h
    obtain ⟨q1, h1, h2⟩ := Option.bind_eq_some_iff.1 h
    exact foldB_keeps (lk all st m) (GoodQ all st) (fun x b b' hb hx => lk_good m x b b' hb hx) e.a q1 q' (named_good hq h1) h2
theorem lkP_good {all : List Sk} {st : Sk} {m : Nat} {q q' : List Nat × List Nat} {l : List (ByteArray × Ex)} (hq : GoodQ all st q) (h : lkP all st m q l = some q') : GoodQ all st q' :=
  foldB_keeps (fun (x : ByteArray × Ex) => lk all st m x.2) (GoodQ all st) (fun (x : ByteArray × Ex) b b' hb hx => lk_good m x.2 b b' hb hx) l q q' hq h
def GoodP (all : List Sk) (st : Sk) (p : List (List Nat) × List Nat) : Prop := (∀ r ∈ p.1, Good st.res.length r) ∧ Good all.length p.2
theorem lkR1_good {all : List Sk} {st : Sk} {m : Nat} {r : Rs} {p p' : List (List Nat) × List Nat} (hp : GoodP all st p) (h : lkR1 all st m r p = some p') : GoodP all st p' := by
  unfold lkR1 at h
  obtain ⟨q, h1, rfl⟩ := Option.map_eq_some_iff.1 h
  have h2 := lkP_good (q := ([], p.2)) ⟨Good.nil _, hp.2⟩ h1
  refine ⟨fun r hr => ?_, h2.2⟩
  rcases List.mem_append.1 hr with h3 | h3
  · exact hp.1 r h3
  · simp at h3; rw [h3]; exact h2.1
theorem lkR_good {all : List Sk} {st : Sk} {m : Nat} {l : List Rs} {p : List (List Nat) × List Nat} (h : lkR all st m l = some p) : GoodP all st p :=
  foldB_keeps (lkR1 all st m) (GoodP all st) (fun _ _ _ hb hx => lkR1_good hb hx) l ([], []) p ⟨fun r hr => (by cases hr), Good.nil _⟩ h
theorem lkR_len {all : List Sk} {st : Sk} {m : Nat} : ∀ (l : List Rs) (p p' : List (List Nat) × List Nat), l.foldl (fun o r => o.bind (lkR1 all st m r)) (some p) = some p' → p'.1.length = p.1.length + l.length
  | [], p, p', h => by cases h; simp
  | r :: t, p, p', h => by
    rw [List.foldl_cons, Option.bind_some] at h
    cases hx : lkR1 all st m r p with
    | none => rw [hx, foldB_none] at h; cases h
    | some c =>
      rw [hx] at h
      have h1 := lkR_len t c p' h
      unfold lkR1 at hx
      obtain ⟨q, _, rfl⟩ := Option.map_eq_some_iff.1 hx
      simp at h1 ⊢
      omega
theorem la_good {all : List Sk} {st : Sk} {m : Nat} {p : List (List Nat) × List Nat} (h : la all st m = some p) : GoodP all st p ∧ p.1.length = st.res.length := by
  unfold la at h
  obtain ⟨p1, h1, h2⟩ := Option.bind_eq_some_iff.1 h
  obtain ⟨q, h3, rfl⟩ := Option.map_eq_some_iff.1 h2
  have hg := lkR_good h1
  have hl := lkR_len st.res ([], []) p1 h1
  refine ⟨⟨hg.1, (lkP_good (q := ([], p1.2)) ⟨Good.nil _, hg.2⟩ h3).2⟩, by simpa using hl⟩
/-- What is owned, in another world. -/
theorem ownsT_frame {w w' : World} {base n : Nat} {t : TypeId} {v : Value} {xs : List Value} {ex : Nat → Prop} (h : w.ownsRow base t 1 v n xs) (hf : Frame w w' ex) (hne : ∀ c, v.ownBlock = some c → ¬ ex c) : w'.ownsRow base t 1 v n xs := by
  refine ⟨h.1, ?_⟩
  rcases h.2 with h1 | ⟨g, cap, cur, rfl, hb, hg, r⟩
  · exact .inl h1
  · exact .inr ⟨g, cap, cur, rfl, hb, by rw [hf.block g (Array.getElem?_eq_some_iff.1 hg).1 (hne g rfl)]; exact hg, r⟩
theorem ownsT_type {w : World} {base n B : Nat} {s : TypeId} {v : Value} {xs : List Value} {cs : Array Value} {t : TypeId} {z : Nat × Nat} (h : w.ownsRow base s 1 v n xs) (hB : w.heap[B]? = some (.cells cs t z)) (ht : t ≠ s) : v.ownBlock ≠ some B := by
  intro e
  rcases h.2 with ⟨rfl, _⟩ | ⟨g, cap, cur, rfl, _, hg, _⟩
  · simp [Value.ownBlock] at e
  · have : g = B := by simpa [Value.ownBlock] using e
    subst this
    rw [hB] at hg
    simp at hg
    exact ht hg.2.1
theorem owns_two {w : World} {base base2 n n2 : Nat} {s t : TypeId} {v u : Value} {xs ys : List Value} (h : w.ownsRow base s 1 v n xs) (k : w.ownsRow base2 t 1 u n2 ys) (ht : s ≠ t) : v.ownBlock = none ∨ v.ownBlock ≠ u.ownBlock := by
  cases hv : v.ownBlock with
  | none => exact .inl rfl
  | some c =>
    right
    intro e
    rcases k.2 with ⟨rfl, _⟩ | ⟨g, cap, cur, rfl, _, hg, _⟩
    · simp [Value.ownBlock] at e
    · have : c = g := by simpa [Value.ownBlock] using e
      subst this
      exact ownsT_type h hg (Ne.symm ht) hv
/-- What lookAll has, between two resources. -/
structure LS (w : World) (base Bn : Nat) (nb : Value → Value → Array Value) (rv sv : Value) (VR : List Value) (RS : List (List Nat)) (sts : List Nat) : Prop where
  hn : w.heap[Bn]? = some (.cells (nb rv sv) 133 (0, 0))
  fam : Gr.Fam w base 3 (sv :: VR) (Gr.ofN sts :: RS.map Gr.ofN)
  rr : w.ownsRow base 37 1 rv VR.length VR
  le : base ≤ w.heap.size
  lt : Bn < base
theorem LS.len {w : World} {base Bn : Nat} {nb : Value → Value → Array Value} {rv sv : Value} {VR : List Value} {RS : List (List Nat)} {sts : List Nat} (h : LS w base Bn nb rv sv VR RS sts) : VR.length = RS.length := by
  have := h.fam.len
  simpa using this
theorem ofN_owns {w : World} {base : Nat} {v : Value} {l : List Nat} : w.ownsRow base 3 1 v (Gr.ofN l).length (Gr.cells (Gr.ofN l)) ↔ w.ownsRow base 3 1 v l.length (Gr.cells (Gr.ofN l)) := by rw [Gr.ofN_length]
/-- A new variable 'own'. -/
theorem LS.var {w : World} {base Bn : Nat} {nb : Value → Value → Array Value} {rv sv : Value} {VR : List Value} {RS : List (List Nat)} {sts : List Nat} (h : LS w base Bn nb rv sv VR RS sts) (w1 : World) (hb : Below w.heap.size w w1) :
    St (w1.alloc (.cells #[.slice none 0 0] 37)) base Bn w1.heap.size nb rv sv (.slice none 0 0) [] sts := by
  have hb2 : Below w.heap.size w (w1.alloc (.cells #[.slice none 0 0] 37)) := hb.trans (((Below.refl _ _).alloc (Nat.le_refl _) _).mono hb.size)
  refine ⟨(hb2.block Bn (Array.getElem?_eq_some_iff.1 h.hn).1).trans h.hn, heap_alloc_new _ _, ?_, World.ownsRow_nil .., ?_, .inl rfl, Nat.le_trans h.le hb2.size⟩
  · exact owns_below (ofN_owns.1 (h.fam.own 0 sv (Gr.ofN sts) rfl rfl)) hb2
  · cases hs : sv.ownBlock with
    | none => exact .inl rfl
    | some c => right; intro e; cases e
/-- What may change while a resource is looked at. -/
def ExL (Bn : Nat) (sv : Value) (c : Nat) : Prop := c = Bn ∨ sv.ownBlock = some c
theorem LS.looked {w w2 : World} {base Bn Bo : Nat} {nb : Value → Value → Array Value} {rv sv sv' ov' : Value} {VR : List Value} {RS : List (List Nat)} {sts sts' own : List Nat} (h : LS w base Bn nb rv sv VR RS sts)
    (hs : St w2 base Bn Bo nb rv sv' ov' own sts') (hf : Frame w w2 (ExL Bn sv)) (ha : After w sv sv') (hb : After w (.slice none 0 0) ov') :
    Gr.Fam w2 base 3 (sv' :: (VR ++ [ov'])) (Gr.ofN sts' :: (RS ++ [own]).map Gr.ofN) ∧ w2.ownsRow base 37 1 rv VR.length VR := by
  have hlen := h.len
  have hVi : ∀ (i : Nat) v, VR[i]? = some v → ∃ l, RS[i]? = some l ∧ w.ownsRow base 3 1 v (Gr.ofN l).length (Gr.cells (Gr.ofN l)) ∧ (v.ownBlock = none ∨ v.ownBlock ≠ sv.ownBlock) := by
    intro i v hv
    have hi : i < RS.length := by rw [← hlen]; exact (List.getElem?_eq_some_iff.1 hv).1
    refine ⟨RS[i], List.getElem?_eq_getElem hi, ?_, ?_⟩
    · exact h.fam.own (i + 1) v (Gr.ofN RS[i]) (by simpa using hv) (by simp [List.getElem?_eq_getElem hi])
    · exact h.fam.apart (i + 1) 0 v sv (by omega) (by simpa using hv) rfl
  have hold : ∀ (i : Nat) v, VR[i]? = some v → ∀ c, v.ownBlock = some c → c < w.heap.size := by
    intro i v hv c hc
    obtain ⟨l, _, h1, _⟩ := hVi i v hv
    exact (h1.lt c hc).2
  have hsvlt : ∀ c, sv.ownBlock = some c → c < w.heap.size := fun c hc => ((h.fam.own 0 sv (Gr.ofN sts) rfl rfl).lt c hc).2
  have hnot : ∀ (i : Nat) v, VR[i]? = some v → ∀ c, v.ownBlock = some c → ¬ ExL Bn sv c := by
    intro i v hv c hc he
    obtain ⟨l, _, h1, h2⟩ := hVi i v hv
    rcases he with e | e
    · exact ownsT_type h1 h.hn (by decide) (by rw [hc, e])
    · rcases h2 with h3 | h3
      · rw [h3] at hc; cases hc
      · exact h3 (hc.trans e.symm)
  have key1 : ∀ (i : Nat) v, VR[i]? = some v → (v.ownBlock = none ∨ v.ownBlock ≠ sv'.ownBlock) ∧ (sv'.ownBlock = none ∨ sv'.ownBlock ≠ v.ownBlock) := by
    intro i v hv
    obtain ⟨l, _, _, h2⟩ := hVi i v hv
    have h0 := hold i v hv
    rcases ha with a | ⟨g, a, hg⟩
    · rw [a]
      refine ⟨h2, ?_⟩
      exact h.fam.apart 0 (i + 1) sv v (by omega) rfl (by simpa using hv)
    · rw [a]
      constructor
      · cases hv2 : v.ownBlock with
        | none => exact .inl rfl
        | some c => right; intro e; have := h0 c hv2; have : c = g := by simpa using e
                    omega
      · right; intro e; have := h0 g e.symm; omega
  have key2 : ∀ (i : Nat) v, VR[i]? = some v → (v.ownBlock = none ∨ v.ownBlock ≠ ov'.ownBlock) ∧ (ov'.ownBlock = none ∨ ov'.ownBlock ≠ v.ownBlock) := by
    intro i v hv
    have h0 := hold i v hv
    rcases hb with a | ⟨g, a, hg⟩
    · have a' : ov'.ownBlock = none := a
      rw [a']
      refine ⟨?_, .inl rfl⟩
      cases v.ownBlock with
      | none => exact .inl rfl
      | some c => right; intro e; cases e
    · rw [a]
      constructor
      · cases hv2 : v.ownBlock with
        | none => exact .inl rfl
        | some c => right; intro e; have := h0 c hv2; have : c = g := by simpa using e
                    omega
      · right; intro e; have := h0 g e.symm; omega
  -- what stands at each place
  have hat : ∀ (i : Nat) v, (sv' :: (VR ++ [ov']))[i]? = some v → (i = 0 ∧ v = sv') ∨ (∃ j, i = j + 1 ∧ VR[j]? = some v) ∨ (i = VR.length + 1 ∧ v = ov') := by
    intro i v hv
    cases i with
    | zero => left; exact ⟨rfl, by simpa using hv.symm⟩
    | succ j =>
      rw [List.getElem?_cons_succ] at hv
      by_cases hj : j < VR.length
      · rw [List.getElem?_append_left hj] at hv
        exact .inr (.inl ⟨j, rfl, hv⟩)
      · rw [List.getElem?_append_right (by omega)] at hv
        have : j - VR.length = 0 := by
          have := (List.getElem?_eq_some_iff.1 hv).1
          simp at this; omega
        rw [this] at hv
        exact .inr (.inr ⟨by omega, by simpa using hv.symm⟩)
  refine ⟨⟨by simp [hlen], ?_, ?_⟩, ?_⟩
  · intro i v l hv hl
    rcases hat i v hv with ⟨rfl, rfl⟩ | ⟨j, rfl, hj⟩ | ⟨rfl, rfl⟩
    · have : l = Gr.ofN sts' := by simpa using hl.symm
      rw [this]; exact ofN_owns.2 hs.os
    · obtain ⟨l0, h1, h2, _⟩ := hVi j v hj
      have hjl : j < RS.length := (List.getElem?_eq_some_iff.1 h1).1
      have : l = Gr.ofN l0 := by
        rw [List.getElem?_cons_succ, List.getElem?_map, List.getElem?_append_left hjl, h1] at hl
        simpa using hl.symm
      rw [this]
      exact ownsT_frame h2 hf (hnot j v hj)
    · have : l = Gr.ofN own := by
        rw [List.getElem?_cons_succ, List.getElem?_map, List.getElem?_append_right (by omega)] at hl
        rw [hlen, Nat.sub_self] at hl
        simpa using hl.symm
      rw [this]; exact ofN_owns.2 hs.oo
  · intro i j v u hij hv hu
    rcases hat i v hv with ⟨rfl, rfl⟩ | ⟨i', rfl, hi⟩ | ⟨rfl, rfl⟩ <;> rcases hat j u hu with ⟨rfl, rfl⟩ | ⟨j', rfl, hj⟩ | ⟨rfl, rfl⟩
    · exact absurd rfl hij
    · exact (key1 j' u hj).2
    · exact hs.ap
    · exact (key1 i' v hi).1
    · exact h.fam.apart (i' + 1) (j' + 1) v u hij (by simpa using hi) (by simpa using hj)
    · exact (key2 i' v hi).1
    · exact hs.pa
    · exact (key2 j' u hj).2
    · exact absurd rfl hij
  · refine ownsT_frame h.rr hf (fun c hc he => ?_)
    rcases he with e | e
    · exact ownsT_type h.rr h.hn (by decide) (by rw [hc, e])
    · rcases owns_two h.rr (h.fam.own 0 sv (Gr.ofN sts) rfl rfl) (by decide) with h3 | h3
      · rw [h3] at hc; cases hc
      · exact h3 (hc.trans e.symm)
/-- The resource's row goes behind the others. -/
theorem LS.push {w2 w4 : World} {base Bn : Nat} {nb : Value → Value → Array Value} {rv sv rv' : Value} {VR VR' : List Value} {RS : List (List Nat)} {sts : List Nat} (hnb : ∀ u, (nb rv sv).setIfInBounds 5 u = nb u sv)
    (hn : w2.heap[Bn]? = some (.cells (nb rv sv) 133 (0, 0))) (hF : Gr.Fam w2 base 3 (sv :: VR') (Gr.ofN sts :: RS.map Gr.ofN)) (hr : w2.ownsRow base 37 1 rv VR.length VR) (hle : base ≤ w2.heap.size) (hlt : Bn < base)
    (hg : w2.grownBy w4 rv.ownBlock) (ho : w4.ownsRow base 37 1 rv' VR'.length VR') : LS (w4.setCell ⟨Bn, 5, none⟩ rv') base Bn nb rv' sv VR' RS sts := by
  have hn4 : w4.heap[Bn]? = some (.cells (nb rv sv) 133 (0, 0)) := by
    rw [hg.block Bn (Array.getElem?_eq_some_iff.1 hn).1 (fun e => by have := (hr.lt Bn e.symm).1; omega)]; exact hn
  have hF4 : Gr.Fam w4 base 3 (sv :: VR') (Gr.ofN sts :: RS.map Gr.ofN) := by
    refine ⟨hF.len, fun i v l hv hl => ?_, hF.apart⟩
    have h1 := hF.own i v l hv hl
    exact h1.kept hg (owns_two h1 hr (by decide))
  refine ⟨?_, hF4.store ⟨Bn, 5, none⟩ rv' hlt, ?_, ?_, hlt⟩
  · rw [heap_setCell_same w4 Bn 5 _ 133 rv' hn4, hnb]
  · refine ho.kept (row := some Bn) ⟨rfl, rfl, rfl, by simp, fun k _ hk => Below.heap_setCell w4 ⟨Bn, 5, none⟩ rv' k (fun e => hk (by rw [e]))⟩ ?_
    cases hb : rv'.ownBlock with
    | none => exact .inl rfl
    | some k =>
      right
      have := (ho.lt k hb).1
      intro e
      have : k = Bn := by simpa using e
      omega
  · have := hg.size; simp; omega
/-- What lookAll says. -/
def AllLooked (w w' : World) (B0 Bn : Nat) (nb : Value → Value → Array Value) (r : Option (List (List Nat) × List Nat)) (o : Ending) : Prop :=
  (r = none ∧ o = .returned (.iface 68 (.int .i64 7)) ∧ Below B0 w w') ∨
  (∃ p rv sv, r = some p ∧ o = .returned .nilIface ∧ w'.heap[Bn]? = some (.cells (nb rv sv) 133 (0, 0)) ∧ (∀ w'' : World, (∀ c, w.heap.size ≤ c → c < w'.heap.size → w''.heap[c]? = w'.heap[c]?) → Gr.Lists w'' rv (p.1.map Gr.ofN) ∧ Gr.Ints w'' sv (Gr.ofN p.2)) ∧ Frame w w' (fun c => c = Bn))
theorem owns_at {w w' : World} {base n : Nat} {t : TypeId} {v : Value} {xs : List Value} (h : w.ownsRow base t 1 v n xs) (hk : ∀ c, base ≤ c → c < w.heap.size → w'.heap[c]? = w.heap[c]?) : w'.ownsRow base t 1 v n xs := by
  have hlt := h.lt
  refine ⟨h.1, ?_⟩
  rcases h.2 with h1 | ⟨g, cap, cur, rfl, hb, hg, r⟩
  · exact .inl h1
  · exact .inr ⟨g, cap, cur, rfl, hb, by rw [hk g hb (hlt g rfl).2]; exact hg, r⟩
theorem LS.lists {w w' : World} {base Bn : Nat} {nb : Value → Value → Array Value} {rv sv : Value} {VR : List Value} {RS : List (List Nat)} {sts : List Nat} (h : LS w base Bn nb rv sv VR RS sts) (hk : ∀ c, base ≤ c → c < w.heap.size → w'.heap[c]? = w.heap[c]?) : Gr.Lists w' rv (RS.map Gr.ofN) ∧ Gr.Ints w' sv (Gr.ofN sts) := by
  refine ⟨?_, Gr.Ints.of_owns (owns_at (h.fam.own 0 sv (Gr.ofN sts) rfl rfl) hk)⟩
  have hlen := h.len
  have hrr := owns_at h.rr hk
  rcases hrr.2 with ⟨e, h0⟩ | ⟨g, cap, cur, e, _, hg, _⟩
  · subst e
    have : RS = [] := List.eq_nil_of_length_eq_zero (by omega)
    subst this
    exact ⟨none, 0, rfl, .inl rfl⟩
  · subst e
    refine ⟨some ⟨g, 0, none⟩, cap, by simp [hlen], .inr ⟨g, 0, rfl, fun i l hl => ?_⟩⟩
    have hi : i < VR.length := by rw [hlen]; have := (List.getElem?_eq_some_iff.1 hl).1; simpa using this
    have h1 := hrr.cells (g := g) rfl i VR[i] (List.getElem?_eq_getElem hi)
    have e : (⟨g, 0, none⟩ : Addr).add i = ⟨g, i, none⟩ := by unfold Addr.add; split <;> simp_all
    rw [e] at h1
    refine ⟨VR[i], by rw [Nat.zero_add]; exact h1, Gr.Ints.of_owns (base := base) (e := 3) (owns_at ?_ hk)⟩
    exact h.fam.own (i + 1) VR[i] l (by simp [List.getElem?_eq_getElem hi]) (by simpa using hl)
end X
end Go.Proofs.Ytienhelohfhhfaa.Vx
