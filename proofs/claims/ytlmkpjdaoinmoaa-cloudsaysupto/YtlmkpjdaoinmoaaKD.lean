/- For CloudSays: rows of the reference's cloud, one by one; a step, a count, what is appended. -/
import Derived.Test.YtlmkpjdaoinmoaaKC
namespace Go.Proofs.Ytlmkpjdaoinmoaa
open Go.RowKit
theorem own_cell {w : World} {base n z : Nat} {t : TypeId} {v : Value} {xs : List Value} (h : w.ownsRow base t z v n xs) (hn : n ≠ 0) : ∃ b cap, v = .slice (some ⟨b, 0, none⟩) n cap ∧ ∀ (j : Nat) (u : Value), xs[j]? = some u → w.cell? ⟨b, j, none⟩ = some u := by
  rcases h.2 with ⟨_, h0⟩ | ⟨b, cap, cur, rfl, _, hb, hnc, _, hcs, htk⟩
  · exact absurd h0 hn
  · refine ⟨b, cap, rfl, fun j u hu => ?_⟩
    have hj : j < n * z := by
      have := (List.getElem?_eq_some_iff.1 hu).1
      rw [h.1] at this
      exact this
    rw [cell_of_row w b _ cur t (0, 0) hb, ← hu, ← htk, List.getElem?_take, if_pos hj, Array.getElem?_toList]
theorem c3_at : ∀ (L : List (ByteArray × Int × Int)) (i j : Nat) (x : ByteArray × Int × Int), j < 3 → L[i]? = some x → (L.flatMap c3)[i * 3 + j]? = (c3 x)[j]?
  | [], _, _, _, _, h => by simp at h
  | y :: L, 0, j, x, hj, h => by
    have e : y = x := by simpa using h
    subst e
    rw [List.flatMap_cons, Nat.zero_mul, Nat.zero_add, List.getElem?_append_left (by simpa [c3] using hj)]
  | y :: L, i + 1, j, x, hj, h => by
    rw [List.flatMap_cons, List.getElem?_append_right (by simp [c3]; omega)]
    rw [show (i + 1) * 3 + j - (c3 y).length = i * 3 + j by simp [c3]; omega, c3_at L i j x hj (by simpa using h)]
theorem tok_at {w : World} {kv : Value} {L : List (ByteArray × Int × Int)} (h : w.ownsRow 0 94 3 kv L.length (L.flatMap c3)) (i : Nat) (x : ByteArray × Int × Int) (hx : L[i]? = some x) :
    ∃ b cap, kv = .slice (some ⟨b, 0, none⟩) L.length cap ∧ w.cell? ⟨b, i * 3, none⟩ = some (.string x.1) ∧ w.cell? ⟨b, i * 3 + 1, none⟩ = some (.int .i64 x.2.1) ∧ w.cell? ⟨b, i * 3 + 2, none⟩ = some (.int .i64 x.2.2) := by
  have hi : i < L.length := (List.getElem?_eq_some_iff.1 hx).1
  obtain ⟨b, cap, e, hc⟩ := own_cell h (by omega)
  exact ⟨b, cap, e, hc (i * 3) _ (c3_at L i 0 x (by omega) hx), hc (i * 3 + 1) _ (c3_at L i 1 x (by omega) hx), hc (i * 3 + 2) _ (c3_at L i 2 x (by omega) hx)⟩
theorem int_at {w : World} {fv : Value} {L : List Int} (h : w.ownsRow 0 3 1 fv L.length (ci L)) (i : Nat) (x : Int) (hx : L[i]? = some x) :
    ∃ b cap, fv = .slice (some ⟨b, 0, none⟩) L.length cap ∧ w.cell? ⟨b, i, none⟩ = some (.int .i64 x) := by
  have hi : i < L.length := (List.getElem?_eq_some_iff.1 hx).1
  obtain ⟨b, cap, e, hc⟩ := own_cell h (by omega)
  exact ⟨b, cap, e, hc i _ (by unfold ci; rw [List.getElem?_map, hx]; rfl)⟩
section
variable {w w' : World} {P : Nat → Prop} {rd rc : Nat} {tv kv fv : Value} {S : Rm}
theorem Rc.ne (h : Rc w P rd rc tv kv fv S) : rd ≠ rc := fun e => by
  have h1 := h.d
  rw [e, h.c] at h1
  cases h1
/-- The disk's block is written. -/
theorem Rc.stepd (h : Rc w P rd rc tv kv fv S) {fuse steps : Int} {down : Bool} (hb : w'.heap[rd]? = some (rdblk fuse down steps)) (hf : Fr w w' (fun c => c = rd)) : Rc w' P rd rc tv kv fv { S with fuse := fuse, down := down, steps := steps } :=
  ⟨hb, (hf.block rc (Array.getElem?_eq_some_iff.1 h.c).1 (fun e => h.ne e.symm)).trans h.c, owns_fr h.t hf (fun c hc e => owns_type h.t h.d (by decide) (by rw [hc, e])), owns_fr h.k hf (fun c hc e => owns_type h.k h.d (by decide) (by rw [hc, e])), owns_fr h.f hf (fun c hc e => owns_type h.f h.d (by decide) (by rw [hc, e])), h.pd, h.pc, h.pt, h.pk, h.pf⟩
/-- The cloud's own block is written, its rows as they were. -/
theorem Rc.wrote (h : Rc w P rd rc tv kv fv S) {next calls : Int} (hb : w'.heap[rc]? = some (rcblk rd tv kv next S.quota calls fv)) (hf : Fr w w' (fun c => c = rc)) : Rc w' P rd rc tv kv fv { S with next := next, calls := calls } :=
  ⟨(hf.block rd (Array.getElem?_eq_some_iff.1 h.d).1 h.ne).trans h.d, hb, owns_fr h.t hf (fun c hc e => owns_type h.t h.c (by decide) (by rw [hc, e])), owns_fr h.k hf (fun c hc e => owns_type h.k h.c (by decide) (by rw [hc, e])), owns_fr h.f hf (fun c hc e => owns_type h.f h.c (by decide) (by rw [hc, e])), h.pd, h.pc, h.pt, h.pk, h.pf⟩
theorem Rc.counted (h : Rc w P rd rc tv kv fv S) (calls : Int) : Rc (w.setCell ⟨rc, 5, none⟩ (.int .i64 calls)) P rd rc tv kv fv { S with calls := calls } := by
  have hb : (w.setCell ⟨rc, 5, none⟩ (.int .i64 calls)).heap[rc]? = some (rcblk rd tv kv S.next S.quota calls fv) := by
    have h1 := h.c
    unfold rcblk at h1 ⊢
    simp [World.setCell, Array.getElem?_modify, h1]
  exact h.wrote hb ((Fr.refl w (fun c => c = rc)).set _ _ (fun _ => rfl))
theorem Rc.nexts (h : Rc w P rd rc tv kv fv S) (next : Int) : Rc (w.setCell ⟨rc, 3, none⟩ (.int .i64 next)) P rd rc tv kv fv { S with next := next } := by
  have hb : (w.setCell ⟨rc, 3, none⟩ (.int .i64 next)).heap[rc]? = some (rcblk rd tv kv next S.quota S.calls fv) := by
    have h1 := h.c
    unfold rcblk at h1 ⊢
    simp [World.setCell, Array.getElem?_modify, h1]
  exact h.wrote hb ((Fr.refl w (fun c => c = rc)).set _ _ (fun _ => rfl))
/-- A token is noted. -/
theorem Rc.pushK (h : Rc w P rd rc tv kv fv S) {ob : Obj} {wA : World} {gA n cap : Nat} (x : ByteArray × Int × Int) (hg : (w.alloc ob).grownBy wA kv.ownBlock) (ho : wA.ownsRow 0 94 3 (.slice (some ⟨gA, 0, none⟩) n cap) (S.toks ++ [x]).length ((S.toks ++ [x]).flatMap c3)) (hat : kv.ownBlock = some gA ∨ gA = (w.alloc ob).heap.size) (hlt : gA < wA.heap.size) :
    ∃ P2, Newer w (wA.setCell ⟨rc, 2, none⟩ (.slice (some ⟨gA, 0, none⟩) n cap)) P P2 ∧ Rc (wA.setCell ⟨rc, 2, none⟩ (.slice (some ⟨gA, 0, none⟩) n cap)) P2 rd rc tv (.slice (some ⟨gA, 0, none⟩) n cap) fv { S with toks := S.toks ++ [x] } ∧ Fr w (wA.setCell ⟨rc, 2, none⟩ (.slice (some ⟨gA, 0, none⟩) n cap)) P := by
  have hf1 : Fr w (w.alloc ob) (fun _ => False) := (Fr.refl _ _).alloc _
  have hfA : Fr w wA (fun c => kv.ownBlock = some c) := (hf1.weak (fun _ _ e => e.elim)).grown hg (fun c hc _ => hc)
  have hk : ∀ c, kv.ownBlock = some c → c ≠ rd ∧ c ≠ rc := fun c hc => ⟨fun e => owns_type h.k h.d (by decide) (by rw [hc, e]), fun e => owns_type h.k h.c (by decide) (by rw [hc, e])⟩
  have hcA : wA.heap[rc]? = some (rcblk rd tv kv S.next S.quota S.calls fv) := (hfA.block rc (Array.getElem?_eq_some_iff.1 h.c).1 (fun e => (hk rc e).2 rfl)).trans h.c
  have hdA : wA.heap[rd]? = some (rdblk S.fuse S.down S.steps) := (hfA.block rd (Array.getElem?_eq_some_iff.1 h.d).1 (fun e => (hk rd e).1 rfl)).trans h.d
  have hgc : gA ≠ rc := fun e => owns_type ho hcA (by decide) (by rw [e]; rfl)
  have hgd : gA ≠ rd := fun e => owns_type ho hdA (by decide) (by rw [e]; rfl)
  have hsA : wA.heap.size ≤ (wA.setCell ⟨rc, 2, none⟩ (.slice (some ⟨gA, 0, none⟩) n cap)).heap.size := ((Fr.refl wA (fun c => c = rc)).set ⟨rc, 2, none⟩ (.slice (some ⟨gA, 0, none⟩) n cap) (fun _ => rfl)).size
  have hfs : Fr wA (wA.setCell ⟨rc, 2, none⟩ (.slice (some ⟨gA, 0, none⟩) n cap)) (fun c => c = rc) := (Fr.refl wA (fun c => c = rc)).set _ _ (fun _ => rfl)
  refine ⟨fun c => P c ∨ c = gA, ⟨fun c hc => .inl hc, fun c hc => ?_⟩, ⟨?_, ?_, ?_, ?_, ?_, .inl h.pd, .inl h.pc, fun c hc => .inl (h.pt c hc), fun c hc => .inr (by simpa [Value.ownBlock] using hc.symm), fun c hc => .inl (h.pf c hc)⟩, ?_⟩
  · rcases hc with hc | rfl
    · exact .inl hc
    · rcases hat with e | e
      · exact .inl (h.pk _ e)
      · have := hf1.size
        exact .inr ⟨by omega, by omega⟩
  · exact (hfs.block rd (Array.getElem?_eq_some_iff.1 hdA).1 h.ne).trans hdA
  · unfold rcblk at hcA ⊢
    simp [World.setCell, Array.getElem?_modify, hcA]
  · exact owns_fr (owns_fr h.t hfA (fun c hc e => owns_other h.t h.k (by decide) hc e)) hfs (fun c hc e => owns_type h.t h.c (by decide) (by rw [hc, e]))
  · exact owns_fr ho hfs (fun c hc e => hgc (by rw [← e]; simpa [Value.ownBlock] using hc))
  · exact owns_fr (owns_fr h.f hfA (fun c hc e => owns_other h.f h.k (by decide) hc e)) hfs (fun c hc e => owns_type h.f h.c (by decide) (by rw [hc, e]))
  · exact (hfA.weak (fun c _ e => h.pk c e)).trans hfs (fun c _ e => by rw [e]; exact h.pc)
/-- A thing is put behind the others. -/
theorem Rc.pushT (h : Rc w P rd rc tv kv fv S) {ob : Obj} {wA : World} {gA n cap : Nat} (x : Tv) (hg : (w.alloc ob).drew.grownBy wA tv.ownBlock) (ho : wA.ownsRow 0 51 7 (.slice (some ⟨gA, 0, none⟩) n cap) (S.things ++ [x]).length ((S.things ++ [x]).flatMap (fun x => c7 x.1))) (hat : tv.ownBlock = some gA ∨ gA = (w.alloc ob).heap.size) (hlt : gA < wA.heap.size) :
    ∃ P2, Newer w (wA.setCell ⟨rc, 1, none⟩ (.slice (some ⟨gA, 0, none⟩) n cap)) P P2 ∧ Rc (wA.setCell ⟨rc, 1, none⟩ (.slice (some ⟨gA, 0, none⟩) n cap)) P2 rd rc (.slice (some ⟨gA, 0, none⟩) n cap) kv fv { S with things := S.things ++ [x] } ∧ Fr w (wA.setCell ⟨rc, 1, none⟩ (.slice (some ⟨gA, 0, none⟩) n cap)) P := by
  have hf1 : Fr w (w.alloc ob).drew (fun _ => False) := ((Fr.refl _ _).alloc _).drew
  have hfA : Fr w wA (fun c => tv.ownBlock = some c) := (hf1.weak (fun _ _ e => e.elim)).grown hg (fun c hc _ => hc)
  have hk : ∀ c, tv.ownBlock = some c → c ≠ rd ∧ c ≠ rc := fun c hc => ⟨fun e => owns_type h.t h.d (by decide) (by rw [hc, e]), fun e => owns_type h.t h.c (by decide) (by rw [hc, e])⟩
  have hcA : wA.heap[rc]? = some (rcblk rd tv kv S.next S.quota S.calls fv) := (hfA.block rc (Array.getElem?_eq_some_iff.1 h.c).1 (fun e => (hk rc e).2 rfl)).trans h.c
  have hdA : wA.heap[rd]? = some (rdblk S.fuse S.down S.steps) := (hfA.block rd (Array.getElem?_eq_some_iff.1 h.d).1 (fun e => (hk rd e).1 rfl)).trans h.d
  have hgc : gA ≠ rc := fun e => owns_type ho hcA (by decide) (by rw [e]; rfl)
  have hfs : Fr wA (wA.setCell ⟨rc, 1, none⟩ (.slice (some ⟨gA, 0, none⟩) n cap)) (fun c => c = rc) := (Fr.refl wA (fun c => c = rc)).set _ _ (fun _ => rfl)
  have hsA := hfs.size
  have hs1 : w.heap.size ≤ (w.alloc ob).heap.size := ((Fr.refl w (fun _ => False)).alloc ob).size
  refine ⟨fun c => P c ∨ c = gA, ⟨fun c hc => .inl hc, fun c hc => ?_⟩, ⟨?_, ?_, ?_, ?_, ?_, .inl h.pd, .inl h.pc, fun c hc => .inr (by simpa [Value.ownBlock] using hc.symm), fun c hc => .inl (h.pk c hc), fun c hc => .inl (h.pf c hc)⟩, ?_⟩
  · rcases hc with hc | rfl
    · exact .inl hc
    · rcases hat with e | e
      · exact .inl (h.pt _ e)
      · exact .inr ⟨by omega, by omega⟩
  · exact (hfs.block rd (Array.getElem?_eq_some_iff.1 hdA).1 h.ne).trans hdA
  · unfold rcblk at hcA ⊢
    simp [World.setCell, Array.getElem?_modify, hcA]
  · exact owns_fr ho hfs (fun c hc e => hgc (by rw [← e]; simpa [Value.ownBlock] using hc))
  · exact owns_fr (owns_fr h.k hfA (fun c hc e => owns_other h.k h.t (by decide) hc e)) hfs (fun c hc e => owns_type h.k h.c (by decide) (by rw [hc, e]))
  · exact owns_fr (owns_fr h.f hfA (fun c hc e => owns_other h.f h.t (by decide) hc e)) hfs (fun c hc e => owns_type h.f h.c (by decide) (by rw [hc, e]))
  · exact (hfA.weak (fun c _ e => h.pt c e)).trans hfs (fun c _ e => by rw [e]; exact h.pc)
end
end Go.Proofs.Ytlmkpjdaoinmoaa
