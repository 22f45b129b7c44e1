/- check.look: what an expression names. -/
import Derived.Test.YtienhelohfhhfaaXG
import Derived.Test.YtienhelohfhhfaaGM
namespace Go.Proofs.Ytienhelohfhhfaa.Vx
open Go.RowKit
attribute [local go_sem ↓] Go.wp_at_zero Go.wp_at_succ
namespace X
/-- Behind the others, if it is not among them. -/
def once (l : List Nat) (k : Nat) : List Nat := if k ∈ l then l else l ++ [k]
theorem once_len (l : List Nat) (k : Nat) : (once l k).length ≤ l.length + 1 := by unfold once; split <;> simp
/-- What a call leaves but for these blocks. -/
structure Frame (w w' : World) (ex : Nat → Prop) : Prop where
  os : w'.os = w.os
  tape : w'.tape = w.tape
  output : w'.output = w.output
  size : w.heap.size ≤ w'.heap.size
  block : ∀ c, c < w.heap.size → ¬ ex c → w'.heap[c]? = w.heap[c]?
theorem Frame.refl (w : World) (ex : Nat → Prop) : Frame w w ex := ⟨rfl, rfl, rfl, Nat.le_refl _, fun _ _ _ => rfl⟩
theorem Frame.trans {w w1 w2 : World} {ex ex1 : Nat → Prop} (h : Frame w w1 ex) (k : Frame w1 w2 ex1) (hx : ∀ c, c < w.heap.size → ex1 c → ex c) : Frame w w2 ex :=
  ⟨k.os.trans h.os, k.tape.trans h.tape, k.output.trans h.output, Nat.le_trans h.size k.size, fun c hc he => (k.block c (Nat.lt_of_lt_of_le hc h.size) (fun h1 => he (hx c hc h1))).trans (h.block c hc he)⟩
theorem Frame.of_below {w w' : World} (h : Below w.heap.size w w') (ex : Nat → Prop) : Frame w w' ex := ⟨h.os, h.tape, h.output, h.size, fun c hc _ => h.block c hc⟩
theorem Frame.below {w w' : World} {ex : Nat → Prop} {B : Nat} (h : Frame w w' ex) (hB : B ≤ w.heap.size) (hx : ∀ c, ex c → B ≤ c) : Below B w w' :=
  ⟨h.os, h.tape, h.output, h.size, fun c hc => h.block c (by omega) (fun he => by have := hx c he; omega)⟩
/-- What an owned row is in another world. -/
theorem owns_frame {w w' : World} {base n : Nat} {v : Value} {xs : List Value} {ex : Nat → Prop} (h : w.ownsRow base 3 1 v n xs) (hf : Frame w w' ex) (hne : ∀ c, v.ownBlock = some c → ¬ ex c) : w'.ownsRow base 3 1 v n xs := by
  refine ⟨h.1, ?_⟩
  rcases h.2 with h1 | ⟨g, cap, cur, rfl, hb, hg, r⟩
  · exact .inl h1
  · exact .inr ⟨g, cap, cur, rfl, hb, by rw [hf.block g (Array.getElem?_eq_some_iff.1 hg).1 (hne g rfl)]; exact hg, r⟩
theorem owns_type {w : World} {base n B : Nat} {v : Value} {xs : List Value} {cs : Array Value} {t : TypeId} (h : w.ownsRow base 3 1 v n xs) (hB : w.heap[B]? = some (.cells cs t (0, 0))) (ht : t ≠ 3) : v.ownBlock ≠ some B := by
  intro e
  rcases h.2 with ⟨rfl, _⟩ | ⟨g, cap, cur, rfl, _, hg, _⟩
  · simp [Value.ownBlock] at e
  · have : g = B := by simpa [Value.ownBlock] using e
    subst this
    rw [hB] at hg
    simp at hg
    exact ht hg.2
/-- What addOnce says of the row that lies behind a cell. -/
structure Added (w w' : World) (base B o : Nat) (cs : Array Value) (t : TypeId) (u u' : Value) (l : List Nat) : Prop where
  own : w'.ownsRow base 3 1 u' l.length (Gr.cells (Gr.ofN l))
  blk : w'.heap[B]? = some (.cells (cs.setIfInBounds o u') t (0, 0))
  frame : Frame w w' (fun c => c = B ∨ u.ownBlock = some c)
  at_ : u'.ownBlock = u.ownBlock ∨ ∃ g, u'.ownBlock = some g ∧ w.heap.size ≤ g
end X
theorem set_same {cs : Array Value} {o : Nat} {u : Value} (h : cs[o]? = some u) : cs.setIfInBounds o u = cs := by
  apply Array.ext
  · simp
  · intro i h1 h2
    rw [Array.getElem_setIfInBounds]
    split
    · rename_i e
      subst e
      rw [Array.getElem?_eq_getElem h2] at h
      exact (Option.some.inj h).symm
    · rfl
set_option maxRecDepth 100000 in
set_option maxHeartbeats 400000 in
theorem index2_any (v : Value) (l : List Int) (x : Int) (w : World) (hl : l.length ≤ 4000000) (hI : Gr.Ints w v l) :
    Calls Try.prog 80 #[v, .int .i64 x] w fun e w' => (∃ r : Int, e = .returned (.int .i64 r) ∧ (0 ≤ r ↔ x ∈ l)) ∧ w' = w := by
  obtain ⟨ao, cap, rfl, hI⟩ := hI
  go_enter Try.func80, Try.ntmps80
  go_wp2_with fail
  go_loop [8, 5] (fun i _ => ∃ k : Nat, k ≤ l.length ∧ i = .int .i64 k ∧ x ∉ l.take k) (fun i _ => l.length - (intOf i).toNat)
  case atStart => exact ⟨0, Nat.zero_le _, rfl, by simp⟩
  case round =>
    obtain ⟨k, hk, rfl, hn⟩ := hrel
    by_cases hlt : k < l.length
    · obtain ⟨y, hy⟩ := getElem_some hlt
      rcases hI with h0 | ⟨b, off, rfl, hc⟩
      · rw [h0] at hlt; simp at hlt
      have hcell := hc k y hy
      have HN := hide hn
      have HY := hide hy
      clear hn hy hc
      by_cases hxy : x = y
      · subst hxy
        go_wp2_with fail
        go_ret
        exact ⟨⟨_, rfl, by have := List.mem_of_getElem? HY.out; simp [this]⟩, rfl⟩
      · go_wp2_with fail
        go_round
        case rel => exact ⟨k + 1, by omega, by go_num, by rw [take_next HY.out]; simp [HN.out, hxy]⟩
        case measure => simp [intOf]; omega
    · have HN := hide hn
      clear hn
      go_wp2_with fail
      go_ret
      exact ⟨⟨_, rfl, by have := HN.out; rw [List.take_of_length_le (by omega)] at this; simp [this]⟩, rfl⟩
set_option maxRecDepth 100000 in
theorem contains2_any (v : Value) (l : List Int) (x : Int) (w : World) (hl : l.length ≤ 4000000) (hI : Gr.Ints w v l) :
    Calls Try.prog 51 #[v, .int .i64 x] w fun e w' => e = .returned (.bool (decide (x ∈ l))) ∧ w' = w := by
  go_enter Try.func51, Try.ntmps51
  go_wp2_with fail
  refine (index2_any v l x w hl hI).mono ?_
  rintro e w' ⟨⟨r, rfl, hr⟩, hw⟩
  rw [hw]; clear hw w'
  by_cases hx : x ∈ l
  · have := hr.2 hx
    go_wp2_with fail
    go_ret
    simp [hx]
  · have : ¬ 0 ≤ r := fun h => hx (hr.1 h)
    go_wp2_with fail
    go_ret
    simp [hx]
set_option maxRecDepth 100000 in
set_option maxHeartbeats 1600000 in
theorem addOnce_any (w : World) (base B o : Nat) (cs : Array Value) (t : TypeId) (u : Value) (l : List Nat) (k : Nat) (hB : w.heap[B]? = some (.cells cs t (0, 0))) (hu : cs[o]? = some u) (ht : t ≠ 3) (hown : w.ownsRow base 3 1 u l.length (Gr.cells (Gr.ofN l))) (hl : l.length ≤ 3000000) (hbase : base ≤ w.heap.size) :
    Calls Try.prog 97 #[.pointer (some ⟨B, o, none⟩), .int .i64 k] w fun e w' => e = .returned (.tuple #[]) ∧ ∃ u', X.Added w w' base B o cs t u u' (X.once l k) := by
  obtain ⟨i0, hi0, hz0, hz1, hz2⟩ := info_parts info3
  have hI : Gr.Ints w u (Gr.ofN l) := Gr.Ints.of_owns (base := base) (e := 3) (by rw [Gr.ofN_length]; exact hown)
  have hcc := contains2_any u (Gr.ofN l) k w (by rw [Gr.ofN_length]; omega) hI
  have hmem : ((k : Int) ∈ Gr.ofN l) ↔ k ∈ l := by
    unfold Gr.ofN
    rw [List.mem_map]
    constructor
    · rintro ⟨x, hx, e⟩
      have : x = k := by
        have e' : (x : Int) = (k : Int) := e
        omega
      rw [← this]; exact hx
    · intro h; exact ⟨k, h, rfl⟩
  have c0 : w.cell? ⟨B, o, none⟩ = some u := cell_of_block hB o u hu
  have f0 : w.frozen? ⟨B, o, none⟩ = false := free_of_block hB o
  have hty := X.owns_type hown hB ht
  have hBl : B < w.heap.size := (Array.getElem?_eq_some_iff.1 hB).1
  by_cases hm : k ∈ l
  · rw [decide_eq_true (hmem.2 hm)] at hcc
    have HCC := hide hcc
    clear hcc hI
    go_enter Try.func97, Try.ntmps97
    go_wp2_with fail
    refine HCC.out.mono ?_
    rintro e w' ⟨rfl, hw⟩
    rw [hw]; clear hw w' HCC
    go_wp2_with fail
    go_end0
    refine ⟨rfl, u, ?_, ?_, X.Frame.refl _ _, .inl rfl⟩
    · unfold X.once; rw [if_pos hm]; exact hown
    · rw [set_same hu]; exact hB
  · rw [decide_eq_false (fun h => hm (hmem.1 h))] at hcc
    have HCC := hide hcc
    have HOW := hide hown
    have HB := hide hB
    have hon : X.once l k = l ++ [k] := by unfold X.once; rw [if_neg hm]
    have HON := hide hon
    have KG : Hid (∀ (obj : Obj) (w4 : World), (w.alloc obj).grownBy w4 u.ownBlock → w4.heap[B]? = some (.cells cs t (0, 0))) := by
      intro obj w4 hg
      rw [hg.block B (by simp; omega) (fun e => hty e.symm), heap_alloc_old w obj hBl]; exact hB
    clear hcc hI hown hB hon
    go_enter Try.func97, Try.ntmps97
    go_wp2_with fail
    refine HCC.out.mono ?_
    rintro e w' ⟨rfl, hw⟩
    rw [hw]; clear hw w' HCC
    go_wp2_with (at_builtin; go_must (refine wpList_append_lies _ rfl (.tmp 13) (.tmp 15) 37 rfl base 3 i0 (.int .i64 0) 1 8 Try.underlying37 hi0 hz0 hz1 hz2 rfl (by decide) u l.length (Gr.cells (Gr.ofN l)) rfl (HOW.out.alloc _) ⟨w.heap.size, 0, none⟩ 1 1 [.int .i64 k] rfl rfl (news_alloc _ #[.int .i64 k] _ _ rfl) (by simp [Value.oneCell']) (by decide) (by unfold maxLen; omega) (by omega) (by simp; omega) _ rfl ?_); intro g cap' w4 hown4 hgrow hat hlt4; have hB4 := KG.out _ _ hgrow; have c4 := cell_of_block hB4 o u hu; have f4 := free_of_block hB4 o)
    go_end0
    have hg2 : w.grownBy w4 u.ownBlock := grown_trans (World.grownBy_alloc w _ _) hgrow
    have hgB : g ≠ B := by
      rcases hat with h | h
      · intro e; rw [e] at h; exact hty h
      · intro e; simp at h; omega
    refine ⟨rfl, .slice (some ⟨g, 0, none⟩) (l.length + 1) cap', ?_, ?_, ?_, ?_⟩
    · rw [HON.out, List.length_append, Gr.ofN_append, Gr.cells_append]
      have h1 := hown4
      refine ⟨h1.1, ?_⟩
      rcases h1.2 with h2 | ⟨g', cap2, cur, e2, hb2, hg3, r⟩
      · exact absurd h2.2 (by simp)
      · refine .inr ⟨g', cap2, cur, e2, hb2, ?_, r⟩
        have : g' = g := by
          simp only [Value.slice.injEq, Option.some.injEq, Addr.mk.injEq] at e2
          exact e2.1.1.symm
        rw [Below.heap_setCell w4 ⟨B, o, none⟩ _ g' (by rw [this]; exact hgB)]; exact hg3
    · exact heap_setCell_same w4 B o cs t _ hB4
    · refine ⟨hg2.os, hg2.tape, hg2.output, by have := hg2.size; simp; omega, fun c hc he => ?_⟩
      rw [Below.heap_setCell w4 ⟨B, o, none⟩ _ c (fun e => he (.inl e)), hg2.block c hc (fun e => he (.inr e.symm))]
    · rcases hat with h | h
      · exact .inl h.symm
      · exact .inr ⟨g, rfl, by simp at h; omega⟩
end Go.Proofs.Ytienhelohfhhfaa.Vx
namespace Go.Proofs.Ytienhelohfhhfaa.Vx
open Go.RowKit
attribute [local go_sem ↓] Go.wp_at_zero Go.wp_at_succ
namespace X
/-- One expression by itself: none: it names what is not there. -/
def named (all : List Sk) (st : Sk) (e : Ex) (q : List Nat × List Nat) : Option (List Nat × List Nat) :=
  if e.kind = 2 then (if posI (st.ins.map (·.1)) e.s < 0 then none else some q)
  else if e.kind = 3 then (if posI (st.res.map (·.name)) e.s < 0 then none else some (once q.1 (posI (st.res.map (·.name)) e.s).toNat, q.2))
  else if e.kind = 4 then (if posI (all.map (·.name)) e.s < 0 then none else if posI (((all[(posI (all.map (·.name)) e.s).toNat]?).map (·.outs)).getD [] |>.map (·.1)) e.t < 0 then none else some (q.1, once q.2 (posI (all.map (·.name)) e.s).toNat))
  else some q
/-- check.look, as it goes. -/
def lk (all : List Sk) (st : Sk) : Nat → Ex → List Nat × List Nat → Option (List Nat × List Nat)
  | 0, _, q => some q
  | m + 1, e, q => (named all st e q).bind (fun q1 => e.a.foldl (fun o x => o.bind (lk all st m x)) (some q1))
/-- .. behind the first k. -/
def lkTo (all : List Sk) (st : Sk) (m : Nat) (e : Ex) (q1 : List Nat × List Nat) (k : Nat) : Option (List Nat × List Nat) := (e.a.take k).foldl (fun o x => o.bind (lk all st m x)) (some q1)
theorem lkTo_next {all : List Sk} {st : Sk} {m : Nat} {e : Ex} {q1 : List Nat × List Nat} {k : Nat} {x : Ex} (h : e.a[k]? = some x) : lkTo all st m e q1 (k + 1) = (lkTo all st m e q1 k).bind (lk all st m x) := by
  unfold lkTo
  rw [List.take_add_one, h, Option.toList_some, List.foldl_append]; rfl
theorem fold_none {all : List Sk} {st : Sk} {m : Nat} : ∀ (l : List Ex), l.foldl (fun o x => o.bind (lk all st m x)) none = none
  | [] => rfl
  | _ :: t => fold_none t
theorem lkTo_none {all : List Sk} {st : Sk} {m : Nat} {e : Ex} {q1 : List Nat × List Nat} {k : Nat} (h : lkTo all st m e q1 k = none) : e.a.foldl (fun o x => o.bind (lk all st m x)) (some q1) = none := by
  conv => lhs; rw [← List.take_append_drop k e.a]
  rw [List.foldl_append]
  unfold lkTo at h
  rw [h, fold_none]
theorem lkTo_all {all : List Sk} {st : Sk} {m : Nat} {e : Ex} {q1 : List Nat × List Nat} {k : Nat} (h : e.a.length ≤ k) : lkTo all st m e q1 k = e.a.foldl (fun o x => o.bind (lk all st m x)) (some q1) := by
  unfold lkTo; rw [List.take_of_length_le h]
theorem named_len {all : List Sk} {st : Sk} {e : Ex} {q q' : List Nat × List Nat} (h : named all st e q = some q') : q'.1.length ≤ q.1.length + 1 ∧ q'.2.length ≤ q.2.length + 1 := by
  unfold named at h
  split at h
  · split at h
    · cases h
    · cases h; omega
  · split at h
    · split at h
      · cases h
      · cases h; have := once_len q.1 (posI (st.res.map (·.name)) e.s).toNat; simp only; omega
    · split at h
      · split at h
        · cases h
        · split at h
          · cases h
          · cases h; have := once_len q.2 (posI (all.map (·.name)) e.s).toNat; simp only; omega
      · cases h; omega
theorem lk_len {all : List Sk} {st : Sk} : ∀ (m : Nat) (e : Ex) (q q' : List Nat × List Nat), lk all st m e q = some q' → q'.1.length ≤ q.1.length + bulk m e ∧ q'.2.length ≤ q.2.length + bulk m e
  | 0, _, _, _, h => by cases h; unfold bulk; omega
  | m + 1, e, q, q', h => by
    rw [lk] at h
    obtain ⟨q1, h1, h2⟩ := Option.bind_eq_some_iff.1 h
    have hn := named_len h1
    have key : ∀ (l : List Ex) (p p' : List Nat × List Nat), l.foldl (fun o x => o.bind (lk all st m x)) (some p) = some p' → p'.1.length ≤ p.1.length + sumA (bulk m) l ∧ p'.2.length ≤ p.2.length + sumA (bulk m) l := by
      intro l
      induction l with
      | nil => intro p p' h; cases h; unfold sumA; simp
      | cons a t ih =>
        intro p p' h
        rw [List.foldl_cons, Option.bind_some] at h
        cases hp : lk all st m a p with
        | none => rw [hp, fold_none] at h; cases h
        | some p1 =>
          rw [hp] at h
          have h3 := lk_len m a p p1 hp
          have h4 := ih p1 p' h
          unfold sumA at h4 ⊢
          simp only [List.map_cons, List.sum_cons]
          omega
    have hk := key e.a q1 q' h2
    rw [bulk]
    omega
/-- What is left of a list of expressions. -/
theorem lkTo_len {all : List Sk} {st : Sk} {m : Nat} {e : Ex} {q1 q' : List Nat × List Nat} {k : Nat} (h : lkTo all st m e q1 k = some q') (B : Nat) (hB : q1.1.length + sumA (bulk m) e.a ≤ B ∧ q1.2.length + sumA (bulk m) e.a ≤ B) {x : Ex} (hx : e.a[k]? = some x) : q'.1.length + bulk m x ≤ B ∧ q'.2.length + bulk m x ≤ B := by
  have key : ∀ (l : List Ex) (p p' : List Nat × List Nat), l.foldl (fun o x => o.bind (lk all st m x)) (some p) = some p' → p'.1.length ≤ p.1.length + sumA (bulk m) l ∧ p'.2.length ≤ p.2.length + sumA (bulk m) l := by
    intro l
    induction l with
    | nil => intro p p' h; cases h; unfold sumA; simp
    | cons a t ih =>
      intro p p' h
      rw [List.foldl_cons, Option.bind_some] at h
      cases hp : lk all st m a p with
      | none => rw [hp, fold_none] at h; cases h
      | some p1 =>
        rw [hp] at h
        have h3 := lk_len m a p p1 hp
        have h4 := ih p1 p' h
        unfold sumA at h4 ⊢
        simp only [List.map_cons, List.sum_cons]
        omega
  have h1 := key _ _ _ h
  have h2 : sumA (bulk m) e.a = sumA (bulk m) (e.a.take k) + sumA (bulk m) (e.a.drop k) := by
    unfold sumA; rw [← List.sum_append, ← List.map_append, List.take_append_drop]
  have h3 : bulk m x ≤ sumA (bulk m) (e.a.drop k) := by
    unfold sumA
    refine sum_le (bulk m) _ x ?_
    have : (e.a.drop k)[0]? = some x := by rw [List.getElem?_drop]; exact hx
    exact List.mem_of_getElem? this
  omega
/-- The needs of a stack, while they are looked for. -/
structure St (w : World) (base Bn Bo : Nat) (nb : Value → Value → Array Value) (rv sv ov : Value) (own sts : List Nat) : Prop where
  hn : w.heap[Bn]? = some (.cells (nb rv sv) 133 (0, 0))
  ho : w.heap[Bo]? = some (.cells #[ov] 37 (0, 0))
  os : w.ownsRow base 3 1 sv sts.length (Gr.cells (Gr.ofN sts))
  oo : w.ownsRow base 3 1 ov own.length (Gr.cells (Gr.ofN own))
  ap : sv.ownBlock = none ∨ sv.ownBlock ≠ ov.ownBlock
  pa : ov.ownBlock = none ∨ ov.ownBlock ≠ sv.ownBlock
  le : base ≤ w.heap.size
/-- Blocks that may change meanwhile. -/
def Ex4 (Bn Bo : Nat) (sv ov : Value) (c : Nat) : Prop := c = Bn ∨ c = Bo ∨ sv.ownBlock = some c ∨ ov.ownBlock = some c
def After (w : World) (u u' : Value) : Prop := u'.ownBlock = u.ownBlock ∨ ∃ g, u'.ownBlock = some g ∧ w.heap.size ≤ g
theorem After.refl (w : World) (u : Value) : After w u u := .inl rfl
theorem After.trans {w w1 : World} {u u1 u2 : Value} (h : After w u u1) (k : After w1 u1 u2) (hs : w.heap.size ≤ w1.heap.size) : After w u u2 := by
  rcases k with k | ⟨g, k, hg⟩
  · rcases h with h | ⟨g, h, hg⟩
    · exact .inl (k.trans h)
    · exact .inr ⟨g, k.trans h, hg⟩
  · exact .inr ⟨g, k, by omega⟩
theorem St.keep {w w' : World} {base Bn Bo : Nat} {nb : Value → Value → Array Value} {rv sv ov : Value} {own sts : List Nat} (h : St w base Bn Bo nb rv sv ov own sts) (hb : Below w.heap.size w w') : St w' base Bn Bo nb rv sv ov own sts :=
  ⟨(hb.block Bn (Array.getElem?_eq_some_iff.1 h.hn).1).trans h.hn, (hb.block Bo (Array.getElem?_eq_some_iff.1 h.ho).1).trans h.ho, owns_below h.os hb, owns_below h.oo hb, h.ap, h.pa, Nat.le_trans h.le hb.size⟩
/-- One more in own. -/
theorem St.addOwn {w w' : World} {base Bn Bo : Nat} {nb : Value → Value → Array Value} {rv sv ov ov' : Value} {own sts own' : List Nat} (h : St w base Bn Bo nb rv sv ov own sts) (hne : Bn ≠ Bo) (ha : Added w w' base Bo 0 #[ov] 37 ov ov' own') : St w' base Bn Bo nb rv sv ov' own' sts := by
  have hBnl := (Array.getElem?_eq_some_iff.1 h.hn).1
  have n1 := owns_type h.oo h.hn (by decide)
  have n2 := owns_type h.os h.ho (by decide)
  refine ⟨?_, ?_, ?_, ha.own, ?_, ?_, Nat.le_trans h.le ha.frame.size⟩
  · rw [ha.frame.block Bn hBnl (fun e => e.elim hne n1)]; exact h.hn
  · exact ha.blk
  · refine owns_frame h.os ha.frame (fun c hc e => ?_)
    rcases e with e | e
    · rw [e] at hc; exact n2 hc
    · rcases h.ap with h1 | h1
      · rw [h1] at hc; cases hc
      · exact h1 (hc.trans e.symm)
  · rcases ha.at_ with e | ⟨g, e, hg⟩
    · rw [e]; exact h.ap
    · cases hs : sv.ownBlock with
      | none => exact .inl rfl
      | some c =>
        right
        have := (h.os.lt c hs).2
        rw [e]
        intro e2
        have : c = g := by simpa using e2
        omega
  · rcases ha.at_ with e | ⟨g, e, hg⟩
    · rw [e]; exact h.pa
    · right
      rw [e]
      intro e2
      have := (h.os.lt g e2.symm).2
      omega
/-- One more in sts. -/
theorem St.addSts {w w' : World} {base Bn Bo : Nat} {nb : Value → Value → Array Value} {rv sv ov sv' : Value} {own sts sts' : List Nat} (h : St w base Bn Bo nb rv sv ov own sts) (hne : Bn ≠ Bo) (hnb : ∀ u, (nb rv sv).setIfInBounds 6 u = nb rv u) (ha : Added w w' base Bn 6 (nb rv sv) 133 sv sv' sts') : St w' base Bn Bo nb rv sv' ov own sts' := by
  have hBol := (Array.getElem?_eq_some_iff.1 h.ho).1
  have n1 := owns_type h.oo h.hn (by decide)
  have n2 := owns_type h.os h.ho (by decide)
  refine ⟨?_, ?_, ha.own, ?_, ?_, ?_, Nat.le_trans h.le ha.frame.size⟩
  · rw [ha.blk, hnb]
  · rw [ha.frame.block Bo hBol (fun e => e.elim (fun e => hne e.symm) n2)]; exact h.ho
  · refine owns_frame h.oo ha.frame (fun c hc e => ?_)
    rcases e with e | e
    · rw [e] at hc; exact n1 hc
    · rcases h.pa with h1 | h1
      · rw [h1] at hc; cases hc
      · exact h1 (hc.trans e.symm)
  · rcases ha.at_ with e | ⟨g, e, hg⟩
    · rw [e]; exact h.ap
    · right
      rw [e]
      intro e2
      have := (h.oo.lt g e2.symm).2
      omega
  · rcases ha.at_ with e | ⟨g, e, hg⟩
    · rw [e]; exact h.pa
    · cases hs : ov.ownBlock with
      | none => exact .inl rfl
      | some c =>
        right
        have := (h.oo.lt c hs).2
        rw [e]
        intro e2
        have : c = g := by simpa using e2
        omega
end X
end Go.Proofs.Ytienhelohfhhfaa.Vx
