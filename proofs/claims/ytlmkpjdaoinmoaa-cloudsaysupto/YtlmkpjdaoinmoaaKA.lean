/- For CloudSays: the reference's cloud in memory; its Step, attrsFault, place. -/
import Derived.Test.YtlmkpjdaoinmoaaCQ
import Derived.Test.YtlmkpjdaoinmoaaCZ
namespace Go.Proofs.Ytlmkpjdaoinmoaa
open Go.RowKit
attribute [local go_sem ↓] Go.wp_at_zero Go.wp_at_succ
/-- The reference's cloud, as plain data. -/
structure Rm where
  things : List Tv
  toks : List (ByteArray × Int × Int)
  next : Int
  quota : Int
  calls : Int
  fails : List Int
  fuse : Int
  down : Bool
  steps : Int
def rdblk (fuse : Int) (down : Bool) (steps : Int) : Obj := .cells #[.slice none 0 0, .slice none 0 0, .slice none 0 0, .int .i64 fuse, .bool down, .int .i64 steps] 67 (0, 0)
def rcblk (rd : Nat) (tv kv : Value) (next quota calls : Int) (fv : Value) : Obj := .cells #[.pointer (some ⟨rd, 0, none⟩), tv, kv, .int .i64 next, .int .i64 quota, .int .i64 calls, fv] 63 (0, 0)
def c3 (x : ByteArray × Int × Int) : List Value := [.string x.1, .int .i64 x.2.1, .int .i64 x.2.2]
def ci (l : List Int) : List Value := l.map (.int .i64 ·)
/-- Blocks rd and rc are it; its blocks are in P. -/
structure Rc (w : World) (P : Nat → Prop) (rd rc : Nat) (tv kv fv : Value) (S : Rm) : Prop where
  d : w.heap[rd]? = some (rdblk S.fuse S.down S.steps)
  c : w.heap[rc]? = some (rcblk rd tv kv S.next S.quota S.calls fv)
  t : w.ownsRow 0 51 7 tv S.things.length (S.things.flatMap (fun x => c7 x.1))
  k : w.ownsRow 0 94 3 kv S.toks.length (S.toks.flatMap c3)
  f : w.ownsRow 0 3 1 fv S.fails.length (ci S.fails)
  pd : P rd
  pc : P rc
  pt : ∀ x, tv.ownBlock = some x → P x
  pk : ∀ x, kv.ownBlock = some x → P x
  pf : ∀ x, fv.ownBlock = some x → P x
theorem Rc.fr {w w' : World} {P ex : Nat → Prop} {rd rc : Nat} {tv kv fv : Value} {S : Rm} (h : Rc w P rd rc tv kv fv S) (hf : Fr w w' ex) (hx : ∀ c, P c → ¬ ex c) : Rc w' P rd rc tv kv fv S :=
  ⟨(hf.block rd (Array.getElem?_eq_some_iff.1 h.d).1 (hx _ h.pd)).trans h.d, (hf.block rc (Array.getElem?_eq_some_iff.1 h.c).1 (hx _ h.pc)).trans h.c, owns_fr h.t hf (fun c hc => hx c (h.pt c hc)), owns_fr h.k hf (fun c hc => hx c (h.pk c hc)), owns_fr h.f hf (fun c hc => hx c (h.pf c hc)), h.pd, h.pc, h.pt, h.pk, h.pf⟩
theorem Rc.more {w : World} {P P2 : Nat → Prop} {rd rc : Nat} {tv kv fv : Value} {S : Rm} (h : Rc w P rd rc tv kv fv S) (hx : ∀ c, P c → P2 c) : Rc w P2 rd rc tv kv fv S :=
  ⟨h.d, h.c, h.t, h.k, h.f, hx _ h.pd, hx _ h.pc, fun c hc => hx c (h.pt c hc), fun c hc => hx c (h.pk c hc), fun c hc => hx c (h.pf c hc)⟩
/-- A row's block is not a block of another type. -/
theorem owns_type {w : World} {base n z : Nat} {t t2 : TypeId} {v : Value} {xs : List Value} {b : Nat} {cs : Array Value} {q : Nat × Nat} (h : w.ownsRow base t z v n xs) (hb : w.heap[b]? = some (.cells cs t2 q)) (ht : t ≠ t2) : v.ownBlock ≠ some b := by
  intro e
  rcases h.2 with ⟨rfl, _⟩ | ⟨g, cap, cur, rfl, _, hg, _⟩
  · cases e
  · have e2 : g = b := by simpa [Value.ownBlock] using e
    rw [e2, hb] at hg
    simp at hg
    exact ht hg.2.1.symm
/-- A block that isn't a row's. -/
theorem owns_other {w : World} {base n z base2 n2 z2 : Nat} {t t2 : TypeId} {v v2 : Value} {xs ys : List Value} {c : Nat} (h : w.ownsRow base t z v n xs) (h2 : w.ownsRow base2 t2 z2 v2 n2 ys) (ht : t ≠ t2) (hv : v.ownBlock = some c) : v2.ownBlock ≠ some c := by
  intro e
  rcases h2.2 with ⟨rfl, _⟩ | ⟨g, cap, cur, rfl, _, hg, _⟩
  · cases e
  · have e2 : g = c := by simpa [Value.ownBlock] using e
    exact owns_type h hg ht (by rw [hv, e2])
theorem wrap_eq (n : Int) (h : -9223372036854775808 ≤ n ∧ n ≤ 9223372036854775807) : wrap64 n = n := by unfold wrap64; omega
set_option maxRecDepth 100000 in
set_option maxHeartbeats 1000000 in
theorem refStep_down (w : World) (rd : Nat) (fuse steps : Int) (h : w.heap[rd]? = some (rdblk fuse true steps)) : Calls Try.prog 39 #[.pointer (some ⟨rd, 0, none⟩)] w fun o w' => o = .returned (.int .i64 10) ∧ w' = w := by
  have y4 := cell_of_block h 4 _ rfl
  clear h
  go_enter Try.func39, Try.ntmps39
  go_wp2_with fail
  go_ret
  exact ⟨rfl, rfl⟩
set_option maxRecDepth 100000 in
set_option maxHeartbeats 1000000 in
theorem refStep_fall (w : World) (rd : Nat) (steps : Int) (h : w.heap[rd]? = some (rdblk 0 false steps)) : Calls Try.prog 39 #[.pointer (some ⟨rd, 0, none⟩)] w fun o w' => o = .returned (.int .i64 10) ∧ w'.heap[rd]? = some (rdblk (-1) true steps) ∧ Fr w w' (fun c => c = rd) := by
  unfold rdblk at h ⊢
  have y3 := cell_of_block h 3 _ rfl
  have y4 := cell_of_block h 4 _ rfl
  have y5 := cell_of_block h 5 _ rfl
  have r3 := free_of_block h 3
  have r4 := free_of_block h 4
  have r5 := free_of_block h 5
  have HH := hide h
  clear h
  go_enter Try.func39, Try.ntmps39
  go_wp2_with fail
  go_ret
  refine ⟨rfl, ?_, ((Fr.refl w (fun c => c = rd)).set ⟨rd, 4, none⟩ _ (fun _ => rfl)).set ⟨rd, 3, none⟩ _ (fun _ => rfl)⟩
  have h := HH.out
  simp [World.setCell, Array.getElem?_modify, h]
def fuse1 (fuse : Int) : Int := if 0 < fuse then fuse - 1 else fuse
set_option maxRecDepth 100000 in
set_option maxHeartbeats 1000000 in
theorem refStep_go (w : World) (rd : Nat) (fuse steps : Int) (h : w.heap[rd]? = some (rdblk fuse false steps)) (h0 : fuse ≠ 0) (hs : 0 ≤ steps ∧ steps ≤ 1000000) (hfu : -1 ≤ fuse ∧ fuse ≤ 9223372036854775807) : Calls Try.prog 39 #[.pointer (some ⟨rd, 0, none⟩)] w fun o w' => o = .returned (.int .i64 0) ∧ w'.heap[rd]? = some (rdblk (fuse1 fuse) false (steps + 1)) ∧ Fr w w' (fun c => c = rd) := by
  unfold rdblk at h ⊢
  have y3 := cell_of_block h 3 _ rfl
  have y4 := cell_of_block h 4 _ rfl
  have y5 := cell_of_block h 5 _ rfl
  have r3 := free_of_block h 3
  have r4 := free_of_block h 4
  have r5 := free_of_block h 5
  have HH := hide h
  clear h
  have hw5 := wrap_eq (steps + 1) (by omega)
  by_cases hp : 0 < fuse
  · have hw3 := wrap_eq (fuse - 1) (by omega)
    have e1 : fuse1 fuse = fuse - 1 := if_pos hp
    rw [e1]
    go_enter Try.func39, Try.ntmps39
    go_wp2_with fail
    go_ret
    refine ⟨rfl, ?_, ((Fr.refl w (fun c => c = rd)).set ⟨rd, 3, none⟩ _ (fun _ => rfl)).set ⟨rd, 5, none⟩ _ (fun _ => rfl)⟩
    have h := HH.out
    simp [World.setCell, Array.getElem?_modify, h]
  · have e1 : fuse1 fuse = fuse := if_neg hp
    rw [e1]
    go_enter Try.func39, Try.ntmps39
    go_wp2_with fail
    go_ret
    refine ⟨rfl, ?_, (Fr.refl w (fun c => c = rd)).set ⟨rd, 5, none⟩ _ (fun _ => rfl)⟩
    have h := HH.out
    simp [World.setCell, Array.getElem?_modify, h]
set_option maxRecDepth 100000 in
set_option maxHeartbeats 1000000 in
theorem attrsFault_any (m : Nat) (w : World) (v : Val) (c0 c1 c2 c3 c4 : Value) (h : V.Mem (m + 1) w v [c0, c1, c2, c3, c4]) (hbk : V.bulk (m + 1) v ≤ 2000000) :
    Calls Try.prog 37 #[.agg #[c0, c1, c2, c3, c4]] w fun e w' => e = .returned (.int .i64 (attrE (m + 1) v)) ∧ Below w.heap.size w w' := by
  obtain ⟨al, cl, af, cf, rfl, rfl, rfl, rfl, rfl⟩ := h.form
  have hb1 : Below w.heap.size w (w.alloc (.cells #[.int .i64 v.kind, .int .i64 v.n, .string v.s, .slice al v.l.length cl, .slice af v.f.length cf] 40)) := (Below.refl _ _).alloc (Nat.le_refl _) _
  have HFA := hide (fault_any (m + 1) (w.alloc (.cells #[.int .i64 v.kind, .int .i64 v.n, .string v.s, .slice al v.l.length cl, .slice af v.f.length cf] 40)) v _ _ _ _ _ (V.Mem.kept (m + 1) h hb1) hbk)
  have HB1 := hide hb1
  unfold attrE
  clear h hb1
  by_cases h5 : v.kind = 5
  · rw [if_pos h5]
    generalize V.fault (m + 1) v = fa at *
    go_enter Try.func37, Try.ntmps37
    go_wp2_with fail
    rw [h5] at HFA HB1
    refine HFA.out.mono ?_
    rintro o w2 ⟨rfl, hb2⟩
    have HB2 := hide (HB1.out.trans (hb2.mono (by simp)))
    clear hb2 HFA HB1
    go_wp2_with fail
    go_ret
    exact ⟨rfl, HB2.out⟩
  · rw [if_neg h5]
    go_enter Try.func37, Try.ntmps37
    go_wp2_with fail
    go_ret
    exact ⟨rfl, HB1.out⟩
/-- One thing of an owned row, cell by cell. -/
theorem own_at {w : World} {base : Nat} {tv : Value} {G : List Tv} (h : w.ownsRow base 51 7 tv G.length (G.flatMap (fun x => c7 x.1))) (i : Nat) (x : Tv) (hx : G[i]? = some x) :
    ∃ b cap, tv = .slice (some ⟨b, 0, none⟩) G.length cap ∧ (∀ j, j < 7 → w.cell? ⟨b, i * 7 + j, none⟩ = (c7 x.1)[j]?) ∧ ∀ j, w.frozen? ⟨b, j, none⟩ = false := by
  have hi : i < G.length := (List.getElem?_eq_some_iff.1 hx).1
  rcases h.2 with ⟨_, h0⟩ | ⟨b, cap, cur, rfl, _, hb, hnc, _, hcs, htk⟩
  · omega
  · refine ⟨b, cap, rfl, fun j hj => ?_, fun j => free_of_block hb j⟩
    rw [cell_of_row w b _ cur 51 (0, 0) hb]
    have h1 : cur.toList[i * 7 + j]? = (G.flatMap (fun x => c7 x.1))[i * 7 + j]? := by
      rw [← htk, List.getElem?_take, if_pos (by omega)]
    rw [← Array.getElem?_toList, h1, flat_at G i j hj hi]
    unfold tgAt
    rw [hx]
/-- Where a thing stands: what place answers. -/
def PlaceSays (L : List Tv) (id : Int) (o : Ending) : Prop := (∃ (k : Nat) (x : Tv), o = .returned (.int .i64 k) ∧ L[k]? = some x ∧ x.1.id = id) ∨ (o = .returned (.int .i64 (-1)) ∧ ∀ x ∈ L, x.1.id ≠ id)
set_option maxRecDepth 100000 in
set_option maxHeartbeats 1000000 in
theorem place_any (w : World) (P : Nat → Prop) (rd rc : Nat) (tv kv fv : Value) (S : Rm) (id : Int) (h : Rc w P rd rc tv kv fv S) (hn : S.things.length ≤ 1000) :
    Calls Try.prog 40 #[.pointer (some ⟨rc, 0, none⟩), .int .i64 id] w fun o w' => PlaceSays S.things id o ∧ w' = w := by
  have HT := hide h.t
  have y1 := cell_of_block h.c 1 _ rfl
  obtain ⟨ta, tc, rfl⟩ := owns_shape h.t
  obtain ⟨G, hG⟩ : ∃ G, G = S.things := ⟨_, rfl⟩
  rw [← hG] at HT hn y1 ⊢
  clear h hG
  go_enter Try.func40, Try.ntmps40
  go_wp2_with fail
  go_loopw [5] (fun vi wr => wr = w ∧ ∃ k : Nat, k ≤ G.length ∧ vi = .int .i64 k ∧ ∀ j x, j < k → G[j]? = some x → x.1.id ≠ id) (fun vi _ => G.length - (intOf vi).toNat)
  case atStart => exact ⟨rfl, 0, Nat.zero_le _, rfl, fun j x hj => absurd hj (by omega)⟩
  case round =>
    obtain ⟨hwr, k, hk, rfl, hok⟩ := hrel
    rw [hwr]
    clear hwr
    have HOK := hide hok
    clear hok
    by_cases hlt : k < G.length
    · obtain ⟨x, hx⟩ : ∃ x, G[k]? = some x := ⟨_, List.getElem?_eq_getElem hlt⟩
      obtain ⟨b, cap, e1, hc, _⟩ := own_at HT.out k x hx
      simp only [Value.slice.injEq] at e1
      obtain ⟨rfl, _, rfl⟩ := e1
      have z0 := hc 0 (by omega)
      rw [Nat.add_zero, show (c7 x.1)[0]? = some (.int .i64 x.1.id) from rfl] at z0
      have HX := hide hx
      clear hc hx
      by_cases hid : x.1.id = id
      · go_wp2_with fail
        go_ret
        exact ⟨.inl ⟨k, x, rfl, HX.out, hid⟩, rfl⟩
      · go_wp2_with fail
        go_roundw
        case rel =>
          refine ⟨by first | rfl | trivial, k + 1, by omega, by go_num, fun j y hj hy => ?_⟩
          rcases Nat.lt_or_ge j k with h | h
          · exact HOK.out j y h hy
          · have e : j = k := by omega
            rw [e, HX.out] at hy
            have : x = y := by simpa using hy
            rw [← this]; exact hid
        case measure => simp [intOf]; omega
    · go_wp2_with fail
      go_ret
      refine ⟨.inr ⟨rfl, fun x hx => ?_⟩, rfl⟩
      obtain ⟨j, hj⟩ := List.getElem?_of_mem hx
      exact HOK.out j x (by have := (List.getElem?_eq_some_iff.1 hj).1; omega) hj
end Go.Proofs.Ytlmkpjdaoinmoaa
