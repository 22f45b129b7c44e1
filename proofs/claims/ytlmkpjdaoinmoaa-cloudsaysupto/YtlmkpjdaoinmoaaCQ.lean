/- For TopToken and CloudSays: slices.SortFunc of things by their numbers. -/
import Derived.Test.YtlmkpjdaoinmoaaCP
import Derived.Shelf.SlSortCmp.WholeK
import Derived.Shelf.SlSortCmp.NoneTotal
namespace Go.Proofs.Ytlmkpjdaoinmoaa
open Go.Shelf
def sh_laysSlF06_f52_ren : Go.Shelf.Ren := ⟨fun | 6 => 52 | 15 => 64 | 14 => 63 | 28 => 78 | 29 => 79 | 20 => 70 | 21 => 71 | 22 => 72 | 23 => 73 | 24 => 74 | 25 => 75 | 26 => 76 | 27 => 77 | 46 => 82 | 47 => 83 | 48 => 84 | 49 => 85 | 50 => 86 | 57 => 88 | n => n, fun | 22 => 60 | 24 => 51 | 25 => 108 | 3 => 3 | 39 => 129 | 0 => 0 | 53 => 143 | 55 => 145 | 4 => 4 | 46 => 136 | 45 => 135 | 50 => 140 | 5 => 5 | 9 => 9 | 66 => 146 | 70 => 150 | 76 => 153 | 77 => 46 | n => n, fun | n => n⟩
theorem sh_laysSlF06_f52 : Go.Proofs.SlLaysF0.n6 Try.prog sh_laysSlF06_f52_ren := {
  mixed := by kernel_rfl
  f6 := ⟨Try.f52.name, by decide, Try.func52.trans (congrArg some (by kernel_rfl))⟩
  f14 := ⟨Try.f63.name, by decide, Try.func63.trans (congrArg some (by kernel_rfl))⟩
  f15 := Try.func64.trans (congrArg some (by kernel_rfl))
  f20 := ⟨Try.f70.name, by decide, Try.func70.trans (congrArg some (by kernel_rfl))⟩
  f21 := ⟨Try.f71.name, by decide, Try.func71.trans (congrArg some (by kernel_rfl))⟩
  f22 := ⟨Try.f72.name, by decide, Try.func72.trans (congrArg some (by kernel_rfl))⟩
  f23 := ⟨Try.f73.name, by decide, Try.func73.trans (congrArg some (by kernel_rfl))⟩
  f24 := ⟨Try.f74.name, by decide, Try.func74.trans (congrArg some (by kernel_rfl))⟩
  f25 := ⟨Try.f75.name, by decide, Try.func75.trans (congrArg some (by kernel_rfl))⟩
  f26 := ⟨Try.f76.name, by decide, Try.func76.trans (congrArg some (by kernel_rfl))⟩
  f27 := ⟨Try.f77.name, by decide, Try.func77.trans (congrArg some (by kernel_rfl))⟩
  f28 := Try.func78.trans (congrArg some (by kernel_rfl))
  f29 := Try.func79.trans (congrArg some (by kernel_rfl))
  f46 := ⟨Try.f82.name, by decide, Try.func82.trans (congrArg some (by kernel_rfl))⟩
  f47 := Try.func83.trans (congrArg some (by kernel_rfl))
  f48 := Try.func84.trans (congrArg some (by kernel_rfl))
  f49 := ⟨Try.f85.name, by decide, Try.func85.trans (congrArg some (by kernel_rfl))⟩
  f50 := ⟨Try.f86.name, by decide, Try.func86.trans (congrArg some (by kernel_rfl))⟩
  f57 := ⟨Try.f88.name, by decide, Try.func88.trans (congrArg some (by kernel_rfl))⟩
  t0 := Try.underlying0
  a0 := Try.isAgg0
  z0 := Try.sizeOf0
  v0 := Try.zeroValue0
  t3 := Try.underlying3
  a3 := Try.isAgg3
  z3 := Try.sizeOf3
  v3 := Try.zeroValue3
  t4 := Try.underlying4
  a4 := Try.isAgg4
  z4 := Try.sizeOf4
  v4 := Try.zeroValue4
  t5 := Try.underlying5
  a5 := Try.isAgg5
  z5 := Try.sizeOf5
  v5 := Try.zeroValue5
  t9 := Try.underlying9
  a9 := Try.isAgg9
  z9 := Try.sizeOf9
  v9 := Try.zeroValue9
  t22 := Try.underlying60
  a22 := Try.isAgg60
  z22 := Try.sizeOf60
  v22 := Try.zeroValue60
  t25 := Try.underlying108
  a25 := Try.isAgg108
  z25 := Try.sizeOf108
  v25 := Try.zeroValue108
  t39 := Try.underlying129
  a39 := Try.isAgg129
  z39 := Try.sizeOf129
  v39 := Try.zeroValue129
  t45 := Try.underlying135
  a45 := Try.isAgg135
  z45 := Try.sizeOf135
  v45 := Try.zeroValue135
  t46 := Try.underlying136
  a46 := Try.isAgg136
  z46 := Try.sizeOf136
  v46 := Try.zeroValue136
  t50 := Try.underlying140
  a50 := Try.isAgg140
  z50 := Try.sizeOf140
  v50 := Try.zeroValue140
  t53 := Try.underlying143
  a53 := Try.isAgg143
  z53 := Try.sizeOf143
  v53 := Try.zeroValue143
  t55 := Try.underlying145
  a55 := Try.isAgg145
  z55 := Try.sizeOf145
  v55 := Try.zeroValue145
  t66 := Try.underlying146
  a66 := Try.isAgg146
  z66 := Try.sizeOf146
  v66 := Try.zeroValue146
  t70 := Try.underlying150
  a70 := Try.isAgg150
  z70 := Try.sizeOf150
  v70 := Try.zeroValue150
  t76 := Try.underlying153
  a76 := Try.isAgg153
  z76 := Try.sizeOf153
  v76 := Try.zeroValue153
  t77 := Try.underlying46
  a77 := Try.isAgg46
  z77 := Try.sizeOf46
  v77 := Try.zeroValue46 }
open Go.RowKit Go.Lib Go.Sort in
theorem sh_slices_SortFunc {α : Type} [Inhabited α] (k : Nat) (aE : ∀ w, (isAgg (sh_laysSlF06_f52_ren.t 24)).run Try.prog w = .ok true w) (zE : ∀ w, (Go.sizeOf (sh_laysSlF06_f52_ren.t 24)).run Try.prog w = .ok k w) (enc : α → List Value) (hk : ∀ x, (enc x).length = k) (h1 : ∀ x, ∀ v ∈ enc x, v.oneCell' = true) (cf : α → α → Int) (hO : SWO (ltOf cf)) (g : Nat) (cb : Array Value) (blk off cap : Nat) (d : Array α) (w : World) (eg : ∀ args w, (callFunc g args).run Try.prog w = .ok (.enter g args) w) (hcmp : CmpLays Try.prog g cb enc k cf blk off d.size w) (hH : HoldsK enc k w blk off d) (hblk : blk < w.heap.size) (hsz : d.size < 4611686018427387904) :
    Calls Try.prog 52 #[.slice (some ⟨blk, off, none⟩) d.size cap, .func (.func g) #[] cb] w fun e w' =>
      e = .returned (.tuple #[]) ∧ ∃ d' n os, PermIn 0 d.size d d' ∧ SortedIn (ltOf cf) 0 d.size d' ∧ w' = sortWorldK enc k w blk off n d' os := AnyQ.slices_SortFunc sh_laysSlF06_f52 k aE zE enc hk h1 cf hO g cb blk off cap d w eg hcmp hH hblk hsz
open Go.RowKit
attribute [local go_sem ↓] Go.wp_at_zero Go.wp_at_succ
theorem alloc_grow (w : World) (o1 o2 : Obj) : (w.alloc o1).alloc o2 = Sort.grow (w.drewN 0) #[o1, o2] := by
  unfold World.alloc Sort.grow World.drewN
  simp only [World.mk.injEq, and_true, true_and]
  refine ⟨?_, rfl⟩
  apply Array.ext'
  simp
set_option maxRecDepth 100000 in
set_option maxHeartbeats 400000 in
theorem cmp_any (a b : Tg) (ha : 0 ≤ a.id ∧ a.id ≤ 1000000) (hb : 0 ≤ b.id ∧ b.id ≤ 1000000) (w : World) :
    Calls Try.prog 53 #[.agg (c7 a).toArray, .agg (c7 b).toArray] w fun e w' => e = .returned (.int .i64 (a.id - b.id)) ∧ ∃ q os', w' = Sort.grow (w.drewN q) os' := by
  have hw : wrap64 (a.id - b.id) = a.id - b.id := by unfold wrap64; omega
  have e1 : (c7 a).toArray = #[.int .i64 a.id, .string a.kind, .int .i64 a.k, .int .i64 a.n, .string a.s, .slice a.la a.ln a.lc, .slice a.fa a.fn a.fc] := rfl
  have e2 : (c7 b).toArray = #[.int .i64 b.id, .string b.kind, .int .i64 b.k, .int .i64 b.n, .string b.s, .slice b.la b.ln b.lc, .slice b.fa b.fn b.fc] := rfl
  rw [e1, e2]
  clear e1 e2
  go_enter Try.func53, Try.ntmps53
  go_wp2_with fail
  go_ret
  exact ⟨rfl, 0, _, alloc_grow _ _ _⟩
def tg0 : Tg := ⟨0, ⟨#[]⟩, 0, 0, ⟨#[]⟩, none, 0, 0, none, 0, 0⟩
/-- The thing of that place. -/
def tgAt (G : List Tv) (i : Nat) : Tg := match G[i]? with | some x => x.1 | none => tg0
theorem tgAt_ok {G : List Tv} (h : ∀ x ∈ G, 0 ≤ x.1.id ∧ x.1.id ≤ 1000000) (i : Nat) : 0 ≤ (tgAt G i).id ∧ (tgAt G i).id ≤ 1000000 := by
  unfold tgAt
  cases hx : G[i]? with
  | none => decide
  | some x => exact h x (List.mem_of_getElem? hx)
theorem flat_at : ∀ (G : List Tv) (i j : Nat), j < 7 → i < G.length → (G.flatMap (fun x => c7 x.1))[i * 7 + j]? = (c7 (tgAt G i))[j]?
  | [], _, _, _, h => by simp at h
  | x :: G, 0, j, hj, _ => by
    rw [List.flatMap_cons, Nat.zero_mul, Nat.zero_add, List.getElem?_append_left (by simpa [c7, Tg.cells] using hj)]
    rfl
  | x :: G, i + 1, j, hj, h => by
    rw [List.flatMap_cons, List.getElem?_append_right (by simp [c7, Tg.cells]; omega)]
    rw [show (i + 1) * 7 + j - (c7 x.1).length = i * 7 + j by simp [c7, Tg.cells]; omega, flat_at G i j hj (by simpa using h)]
    rfl
theorem c7_len (t : Tg) : (c7 t).length = 7 := rfl
theorem get_some (L : List Value) (j : Nat) (h : j < L.length) : L[j]? = some L[j]! := by rw [List.getElem?_eq_getElem h, getElem!_pos L j h]
theorem heap_putRow_other (w : World) (blk off c : Nat) (d : Array Value) (h : c ≠ blk) : (Sort.putRow id w blk off d).heap[c]? = w.heap[c]? := by
  unfold Sort.putRow Sort.mapBlock
  simp [Array.getElem?_modify, Ne.symm h]
theorem filterMap_perm_range {G : List Tv} {D : List Nat} (h : D.Perm (List.range G.length)) : (D.filterMap (fun i => G[i]?)).Perm G := by
  have := h.filterMap (fun i => G[i]?)
  rwa [pick_range] at this
theorem filterMap_at {G : List Tv} : ∀ {D : List Nat}, (∀ i ∈ D, i < G.length) → ∀ (k i : Nat), D[k]? = some i → (D.filterMap (fun i => G[i]?))[k]? = G[i]?
  | [], _, k, i, h => by simp at h
  | d :: D, hD, k, i, h => by
    obtain ⟨x, hx⟩ : ∃ x, G[d]? = some x := ⟨_, List.getElem?_eq_getElem (hD d (by simp))⟩
    rw [List.filterMap_cons, hx]
    cases k with
    | zero =>
      have : d = i := by simpa using h
      rw [← this, hx]
      rfl
    | succ k =>
      simp only [List.getElem?_cons_succ] at h ⊢
      exact filterMap_at (fun i hi => hD i (by simp [hi])) k i h
theorem filterMap_len {G : List Tv} : ∀ {D : List Nat}, (∀ i ∈ D, i < G.length) → (D.filterMap (fun i => G[i]?)).length = D.length
  | [], _ => rfl
  | d :: D, hD => by
    obtain ⟨x, hx⟩ : ∃ x, G[d]? = some x := ⟨_, List.getElem?_eq_getElem (hD d (by simp))⟩
    rw [List.filterMap_cons, hx]
    simp only [List.length_cons]
    rw [filterMap_len (fun i hi => hD i (by simp [hi]))]
set_option maxRecDepth 100000 in
theorem sortC_holds : SortC := by
  intro w base vl G hown hn hid
  obtain ⟨hlen, hc⟩ := hown
  by_cases hG : G.length = 0
  · have hG0 : G = [] := List.length_eq_zero_iff.1 hG
    subst hG0
    obtain ⟨a, c, rfl⟩ : ∃ a c, vl = .slice a 0 c := by
      rcases hc with ⟨rfl, _⟩ | ⟨g, cap, cur, rfl, _⟩
      · exact ⟨_, _, rfl⟩
      · exact ⟨_, _, rfl⟩
    refine (AnyF.slices_SortFunc_none sh_laysSlF06_f52 a c (.func (.func 53) #[] #[]) w).mono ?_
    rintro o w' ⟨rfl, rfl⟩
    exact ⟨rfl, [], List.Perm.refl _, List.Pairwise.nil, ⟨a, c, rfl, .inl rfl⟩, Fr.refl _ _⟩
  · rcases hc with ⟨_, h0⟩ | ⟨b, cap, cur, rfl, hbase, hb, hnc, hcm, hcs, htk⟩
    · exact absurd h0 hG
    · have hbl : b < w.heap.size := (Array.getElem?_eq_some_iff.1 hb).1
      have hsz : (Array.range G.length).size = G.length := by simp
      have hHK : Sort.HoldsK (fun i => c7 (tgAt G i)) 7 w b 0 (Array.range G.length) := by
        intro t ht
        rw [Sort.size_flatK, hsz] at ht
        refine ⟨?_, by rw [Nat.zero_add]; exact free_of_block hb _⟩
        rw [Nat.zero_add, Sort.get_flatK _ _ _ _ (by rw [hsz]; exact ht), cell_of_row w b t cur 51 (0, 0) hb]
        have h1 : cur.toList[t]? = (G.flatMap (fun x => c7 x.1))[t]? := by
          rw [← htk, List.getElem?_take, if_pos ht]
        rw [← Array.getElem?_toList, h1]
        have h2 := flat_at G (t / 7) (t % 7) (by omega) (by omega)
        rw [show t / 7 * 7 + t % 7 = t by omega] at h2
        rw [h2, show (Array.range G.length)[t / 7]! = t / 7 by rw [getElem!_pos _ _ (by rw [hsz]; omega)]; simp]
        exact get_some _ _ (by rw [c7_len]; omega)
      have hswo : Sort.SWO (ltOf fun i j => (tgAt G i).id - (tgAt G j).id) := by
        refine ⟨fun x => ?_, fun x y z h1 h2 => ?_, fun x y z h1 h2 => ?_⟩
        · unfold ltOf; simp
        · unfold ltOf at *; simp at *; omega
        · unfold ltOf at *; simp at *; omega
      have hct := sh_slices_SortFunc 7 (fun w => Try.isAgg51 w) (fun w => Try.sizeOf51 w) (fun i => c7 (tgAt G i)) (fun i => c7_len _) (fun i v hv => by simp [c7, Tg.cells] at hv; rcases hv with rfl | rfl | rfl | rfl | rfl | rfl | rfl <;> rfl) (fun i j => (tgAt G i).id - (tgAt G j).id) hswo 53 #[] b 0 cap (Array.range G.length) w (enters_of Try.func53 (by kernel_rfl) rfl) (fun _ _ _ _ x y => cmp_any _ _ (tgAt_ok hid x) (tgAt_ok hid y) _) hHK hbl (by rw [hsz]; omega)
      rw [hsz] at hct
      refine hct.mono ?_
      rintro o w' ⟨rfl, d2, nn, os, ⟨hp1, _, hp3⟩, hso, hw'⟩
      rw [hsz] at hp1
      have hd2 : d2.toList.Perm (List.range G.length) := by
        have e1 : d2.extract 0 G.length = d2 := by rw [← hp1]; exact Array.extract_size
        have e2 : (Array.range G.length).extract 0 G.length = Array.range G.length := by
          have h9 : (Array.range G.length).extract 0 (Array.range G.length).size = Array.range G.length := Array.extract_size
          rwa [hsz] at h9
        rw [e1, e2] at hp3
        simpa using hp3
      have hlt : ∀ i ∈ d2.toList, i < G.length := fun i hi => List.mem_range.1 (hd2.mem_iff.1 hi)
      have hK := holdsK_sortWorldK_c (fun i => c7 (tgAt G i)) 7 w b 0 (Array.range G.length) d2 nn os hHK hbl (by rw [hp1, hsz])
      have hl2 : (d2.toList.filterMap (fun i => G[i]?)).length = G.length := by rw [filterMap_len hlt]; simpa using hp1
      have hat : ∀ k, k < G.length → ∃ x, (d2.toList.filterMap (fun i => G[i]?))[k]? = some x ∧ x.1 = tgAt G d2[k]! := fun k hk => by
        have hk2 : d2.toList[k]? = some d2[k]! := by
          rw [Array.getElem?_toList, Array.getElem?_eq_getElem (by omega), getElem!_pos d2 k (by omega)]
        have hi := hlt _ (List.mem_of_getElem? hk2)
        refine ⟨G[d2[k]!], ?_, ?_⟩
        · rw [filterMap_at hlt k _ hk2]
          exact List.getElem?_eq_getElem hi
        · unfold tgAt
          rw [List.getElem?_eq_getElem hi]
      refine ⟨rfl, d2.toList.filterMap (fun i => G[i]?), filterMap_perm_range hd2, ?_, ?_, ?_⟩
      · rw [List.pairwise_iff_getElem]
        intro i j hi hj hij
        obtain ⟨x, hx, ex⟩ := hat i (by omega)
        obtain ⟨y, hy, ey⟩ := hat j (by omega)
        have e1 : (d2.toList.filterMap (fun i => G[i]?))[i] = x := by rw [List.getElem?_eq_getElem hi] at hx; simpa using hx
        have e2 : (d2.toList.filterMap (fun i => G[i]?))[j] = y := by rw [List.getElem?_eq_getElem hj] at hy; simpa using hy
        rw [e1, e2, ex, ey]
        have := hso i j (Nat.zero_le _) hij (by omega)
        unfold ltOf at this
        simp at this
        omega
      · rw [hl2]
        refine ⟨_, cap, rfl, .inr ⟨b, 0, rfl, fun k hk => ?_⟩⟩
        obtain ⟨x, hx, ex⟩ := hat k hk
        refine ⟨c7 x.1, c7_len _, fun j hj => ?_, x, hx, rfl⟩
        have h3 := (hK (k * 7 + j) (by rw [Sort.size_flatK, hp1]; omega)).1
        rw [Nat.zero_add, Sort.get_flatK _ _ _ _ (by rw [hp1]; omega), show (k * 7 + j) / 7 = k by omega, show (k * 7 + j) % 7 = j by omega] at h3
        rw [Nat.zero_add, hw', ex]
        exact h3.trans (get_some _ _ (by rw [c7_len]; omega)).symm
      · rw [hw']
        refine ⟨rfl, rfl, rfl, size_sortWorldK_c _ 7 w b 0 nn d2 os, fun c hc hne => ?_⟩
        show ((Sort.putRow id (Sort.ahead w nn) b 0 _).heap ++ os)[c]? = _
        rw [Array.getElem?_append_left (by rw [Sort.size_putRow]; exact hc), heap_putRow_other _ _ _ _ _ (fun e => hne (by rw [e]; rfl))]; rfl
end Go.Proofs.Ytlmkpjdaoinmoaa
