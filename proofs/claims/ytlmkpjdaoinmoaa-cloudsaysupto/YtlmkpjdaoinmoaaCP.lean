/- For TopToken and CloudSays: All. -/
import Derived.Test.YtlmkpjdaoinmoaaCO
import Derived.Maps.RangeRun
namespace Go.Proofs.Ytlmkpjdaoinmoaa
open Go.RowKit
open Go.ChangeMaps (setBlock)
attribute [local go_sem ↓] Go.wp_at_zero Go.wp_at_succ
theorem heap_set_at {w : World} {r : Nat} {o o2 : Obj} (h : w.heap[r]? = some o) : (setBlock w r o2).heap[r]? = some o2 := by
  have hl := (Array.getElem?_eq_some_iff.1 h).1
  simp [setBlock, hl]
theorem fr_set (w : World) (r : Nat) (o : Obj) : Fr w (setBlock w r o) (fun c => c = r) := ⟨rfl, rfl, rfl, by simp [setBlock], fun c _ he => by
  simp [setBlock, Ne.symm he]⟩
theorem owns_shape {w : World} {base n z : Nat} {t : TypeId} {v : Value} {xs : List Value} (h : w.ownsRow base t z v n xs) : ∃ a c, v = .slice a n c := by
  rcases h.2 with ⟨rfl, rfl⟩ | ⟨g, cap, cur, rfl, _⟩
  · exact ⟨_, _, rfl⟩
  · exact ⟨_, _, rfl⟩
theorem T.range_run {w : World} {b : Nat} {es : Array MapEntry} {c : Nat} (h : w.heap[b]? = some (.map es c)) : (Instr.range 81 (.map (some b))).run Try.prog w = .ok (.pointer (some ⟨w.heap.size, 0, none⟩)) (w.alloc (.mapIter (some b) c #[] c)) := by
  simp [Instr.range, run_underlying u81, MapKept.run_getObj_map h, Result.andThen]
/-- What has come out of a map so far: the entries of these places, once each. -/
structure Rg (es : Array MapEntry) (I : List Nat) (sn : Array Nat) : Prop where
  lt : ∀ i ∈ I, i < es.size
  seen : sn.toList = I.filterMap (fun i => es.toList[i]?.map (·.born))
  nd : I.Nodup
theorem Rg.start (es : Array MapEntry) : Rg es [] #[] := ⟨fun _ h => absurd h (by simp), rfl, List.nodup_nil⟩
theorem left_mem {es : Array MapEntry} {sn : Array Nat} {e : MapEntry} : e ∈ (leftOf es sn).toList ↔ e ∈ es.toList ∧ e.born ∉ sn.toList := by
  unfold leftOf
  simp
theorem nodup_at {α : Type} {l : List α} (h : l.Nodup) {i j : Nat} {x : α} (hi : l[i]? = some x) (hj : l[j]? = some x) : i = j :=
  (List.getElem?_inj (List.getElem?_eq_some_iff.1 hi).1 h).1 (hi.trans hj.symm)
theorem left_less {es : Array MapEntry} {sn : Array Nat} {e : MapEntry} (he : e ∈ (leftOf es sn).toList) : (leftOf es (sn.push e.born)).size < (leftOf es sn).size := by
  have e1 : (leftOf es (sn.push e.born)).toList = (leftOf es sn).toList.filter (fun x => !(x.born == e.born)) := by
    unfold leftOf
    simp only [Array.toList_filter, List.filter_filter]
    congr 1
    funext x
    simp [Bool.or_comm]
    rfl
  have e2 : (leftOf es (sn.push e.born)).toList.length < (leftOf es sn).toList.length := by
    rw [e1]
    exact List.length_filter_lt_length_iff_exists.2 ⟨e, he, by simp⟩
  simpa using e2
def leftC (w : World) (r b : Nat) : Nat := match w.heap[r]?, w.heap[b]? with | some (.mapIter _ _ sn _), some (.map es _) => (leftOf es sn).size | _, _ => 0
theorem leftC_at {w : World} {r b c0 c1 c : Nat} {m : Option Nat} {sn : Array Nat} {es : Array MapEntry} (h : w.heap[r]? = some (.mapIter m c0 sn c1)) (h2 : w.heap[b]? = some (.map es c)) : leftC w r b = (leftOf es sn).size := by unfold leftC; rw [h, h2]
theorem Rg.next {es : Array MapEntry} {I : List Nat} {sn : Array Nat} (h : Rg es I sn) {e : MapEntry} (he : e ∈ (leftOf es sn).toList) : ∃ i, es.toList[i]? = some e ∧ Rg es (I ++ [i]) (sn.push e.born) := by
  obtain ⟨hes, hns⟩ := left_mem.1 he
  obtain ⟨i, hi⟩ := List.getElem?_of_mem hes
  have hil : i < es.size := by simpa using (List.getElem?_eq_some_iff.1 hi).1
  refine ⟨i, hi, ⟨?_, ?_, ?_⟩⟩
  · intro j hj
    rcases List.mem_append.1 hj with hj | hj
    · exact h.lt j hj
    · have : j = i := by simpa using hj
      omega
  · rw [List.filterMap_append, Array.toList_push, h.seen, List.filterMap_cons, List.filterMap_nil, hi]
    rfl
  · rw [List.nodup_append]
    refine ⟨h.nd, by simp, fun a ha b hb hab => ?_⟩
    have hb2 : b = i := by simpa using hb
    apply hns
    rw [h.seen]
    exact List.mem_filterMap.2 ⟨a, ha, by rw [hab, hb2, hi]; rfl⟩
theorem Rg.all {es : Array MapEntry} {I : List Nat} {sn : Array Nat} (h : Rg es I sn) (hS : (es.toList.map (·.born)).Nodup) (h0 : (leftOf es sn).size = 0) : I.Perm (List.range es.size) := by
  refine (List.perm_ext_iff_of_nodup h.nd List.nodup_range).2 (fun i => ⟨fun hi => List.mem_range.2 (h.lt i hi), fun hi => ?_⟩)
  have hil := List.mem_range.1 hi
  obtain ⟨e, he⟩ : ∃ e, es.toList[i]? = some e := ⟨_, List.getElem?_eq_getElem (by simpa using hil)⟩
  have hin : e.born ∈ sn.toList := by
    by_cases hc : e.born ∈ sn.toList
    · exact hc
    · have := left_mem.2 ⟨List.mem_of_getElem? he, hc⟩
      rw [Array.eq_empty_of_size_eq_zero h0] at this
      cases this
  rw [h.seen] at hin
  obtain ⟨j, hj, hb⟩ := List.mem_filterMap.1 hin
  cases hj2 : es.toList[j]? with
  | none => rw [hj2] at hb; cases hb
  | some e2 =>
    rw [hj2] at hb
    have hb3 : e2.born = e.born := by simpa using hb
    have : i = j := nodup_at hS (x := e.born) (by rw [List.getElem?_map, he]; rfl) (by rw [List.getElem?_map, hj2, ← hb3]; rfl)
    rw [this]
    exact hj
theorem pick_range {α : Type} : ∀ F : List α, (List.range F.length).filterMap (fun i => F[i]?) = F
  | [] => rfl
  | x :: F => by
    rw [List.length_cons, List.range_succ_eq_map, List.filterMap_cons]
    simp only [List.getElem?_cons_zero, List.filterMap_map]
    rw [show ((fun i => (x :: F)[i]?) ∘ Nat.succ) = fun i => F[i]? from by funext i; rfl, pick_range F]
/-- A thing and its attributes' tree. -/
abbrev Tv : Type := Tg × Val
def Tv.ent (x : Tv) : Int × Value := (x.1.id, x.1.val)
def Tv.md (x : Tv) : Td := (x.1.id, x.1.kind, x.2)
def c7 (t : Tg) : List Value := .int .i64 t.id :: .string t.kind :: t.cells
theorem Rg.pick {es : Array MapEntry} {Q : List Tv} (hQ : es.toList.map (fun e => (e.key, e.val)) = (Q.map Tv.ent).map T.ent) {i : Nat} {e : MapEntry} (h : es.toList[i]? = some e) : ∃ x, Q[i]? = some x ∧ e.key = .int .i64 x.1.id ∧ e.val = x.1.val := by
  have h5 : (es.toList.map (fun e => (e.key, e.val)))[i]? = ((Q.map Tv.ent).map T.ent)[i]? := by rw [hQ]
  rw [List.getElem?_map, List.getElem?_map, List.getElem?_map, h] at h5
  cases hx : Q[i]? with
  | none => rw [hx] at h5; simp at h5
  | some x =>
    rw [hx] at h5
    simp [Tv.ent, T.ent] at h5
    exact ⟨x, rfl, h5.1, h5.2⟩
/-- Things by their numbers. -/
def Td.sort (L : List Td) : List Td := L.mergeSort (fun a b => decide (a.1 ≤ b.1))
theorem Td.sort_eq {A L : List Td} (hp : A.Perm L) (hs : A.Pairwise (fun a b => a.1 ≤ b.1)) (hn : (L.map (·.1)).Nodup) : A = Td.sort L := by
  have h2 : (Td.sort L).Pairwise (fun a b => a.1 ≤ b.1) := by
    have := List.pairwise_mergeSort (le := fun a b : Td => decide (a.1 ≤ b.1)) (fun a b c h1 h2 => by simp at h1 h2 ⊢; omega) (fun a b => by simp; omega) L
    exact this.imp (fun h => by simpa using h)
  have hp2 : A.Perm (Td.sort L) := hp.trans (List.mergeSort_perm _ _).symm
  refine hp2.eq_of_pairwise (le := fun a b => a.1 ≤ b.1) (fun a b ha hb h1 h3 => ?_) hs h2
  have ha2 := hp.mem_iff.1 ha
  have hb2 : b ∈ L := (List.mergeSort_perm _ _).mem_iff.1 hb
  obtain ⟨i, hi⟩ := List.getElem?_of_mem ha2
  obtain ⟨j, hj⟩ := List.getElem?_of_mem hb2
  have : i = j := nodup_at hn (x := a.1) (by rw [List.getElem?_map, hi]; rfl) (by rw [List.getElem?_map, hj, show a.1 = b.1 by omega]; rfl)
  rw [this, hj] at hi
  simpa using hi.symm
theorem Td.sort_len (L : List Td) : (Td.sort L).length = L.length := by unfold Td.sort; exact List.length_mergeSort L
/-- Whatever becomes of these blocks. -/
def TRowX (ex : Nat → Prop) (m : Nat) (w : World) (u : Value) (L : List Td) : Prop := ∀ w2 : World, w.heap.size ≤ w2.heap.size → (∀ c, c < w.heap.size → ¬ ex c → w2.heap[c]? = w.heap[c]?) → TRow m w2 u L
theorem TRowX.row {ex : Nat → Prop} {m : Nat} {w : World} {u : Value} {L : List Td} (h : TRowX ex m w u L) : TRow m w u L := h w (Nat.le_refl _) (fun _ _ _ => rfl)
theorem TRowX.fr {ex : Nat → Prop} {m : Nat} {w w' : World} {u : Value} {L : List Td} (h : TRowX ex m w u L) (hf : Fr w w' ex) : TRowX ex m w' u L := fun w2 hs hc =>
  h w2 (Nat.le_trans hf.size hs) (fun c hlt hn => (hc c (Nat.lt_of_lt_of_le hlt hf.size) hn).trans (hf.block c hlt hn))
/-- What slices.SortFunc does with a row of things. -/
def SortC : Prop := ∀ (w : World) (base : Nat) (vl : Value) (G : List Tv), w.ownsRow base 51 7 vl G.length (G.flatMap (fun x => c7 x.1)) → G.length ≤ 1000 → (∀ x ∈ G, 0 ≤ x.1.id ∧ x.1.id ≤ 1000000) →
  Calls Try.prog 52 #[vl, .func (.func 53) #[] #[]] w fun o w' => o = .returned (.tuple #[]) ∧ ∃ G2 : List Tv, G2.Perm G ∧ G2.Pairwise (fun a b => a.1.id ≤ b.1.id) ∧ V.Row w' vl G2.length 7 (fun i c => ∃ x, G2[i]? = some x ∧ c = c7 x.1) ∧ Fr w w' (fun c => vl.ownBlock = some c)
theorem flat_len (G : List Tv) : (G.flatMap (fun x => c7 x.1)).length = G.length * 7 := by
  induction G with
  | nil => rfl
  | cons x G ih => rw [List.flatMap_cons, List.length_append, ih, List.length_cons]; simp [c7, Tg.cells]; omega
/-- A thing in memory, whatever becomes of these blocks. -/
def Tv.Ok (ex : Nat → Prop) (m : Nat) (w : World) (x : Tv) : Prop := V.MemX ex (m + 1) w x.2 x.1.cells ∧ V.bulk (m + 1) x.2 ≤ 2000000 ∧ 0 ≤ x.1.id ∧ x.1.id ≤ 1000000
theorem Tv.Ok.fr {ex : Nat → Prop} {m : Nat} {w w' : World} {x : Tv} (h : Tv.Ok ex m w x) (hf : Fr w w' ex) : Tv.Ok ex m w' x := ⟨h.1.fr hf, h.2⟩
theorem Tv.Ok.more {ex ex2 : Nat → Prop} {m : Nat} {w : World} {x : Tv} (h : Tv.Ok ex m w x) (hx : ∀ c, ex2 c → ex c ∨ w.heap.size ≤ c) : Tv.Ok ex2 m w x := ⟨h.1.more hx, h.2⟩
theorem V.Row.turned {w w2 : World} {v : Value} {n sz : Nat} {P P2 : Nat → List Value → Prop} (h : V.Row w v n sz P) (hb : ∀ y, v.ownBlock = some y → w2.heap[y]? = w.heap[y]?) (hP : ∀ i c, P i c → P2 i c) : V.Row w2 v n sz P2 := by
  obtain ⟨ao, cap, rfl, h | ⟨b, off, rfl, h⟩⟩ := h
  · exact ⟨ao, cap, rfl, .inl h⟩
  · refine ⟨_, cap, rfl, .inr ⟨b, off, rfl, fun i hi => ?_⟩⟩
    obtain ⟨cs, h1, h2, h3⟩ := h i hi
    refine ⟨cs, h1, fun j hj => ?_, hP i cs h3⟩
    rw [← h2 j hj]
    unfold World.cell?
    rw [hb b rfl]
theorem info51 : (Try.prog.info? 51).map (fun i => (i.zero, i.size, i.bytes)) = some (some (.agg #[.int .i64 0, .string ⟨#[]⟩, .int .i64 0, .int .i64 0, .string ⟨#[]⟩, .slice none 0 0, .slice none 0 0]), 7, 104) := by kernel_rfl
theorem u60 : Try.prog.underlying 60 = some (.slice 51) := by kernel_rfl
set_option maxRecDepth 100000 in
set_option maxHeartbeats 1600000 in
/-- All things, by their numbers. -/
theorem all_any (hsort : SortC) (m : Nat) (w : World) (B : Nat → Prop) (g gc bt bd bf : Nat) (D : Dk) (q given calls : Int) (Q : List Tv) (Di : List (ByteArray × Value)) (Fa : List (Int × Value)) (h : Cl w B g gc bt bd bf D q given calls (Q.map Tv.ent) Di Fa) (hB : ∀ x, B x → x < w.heap.size) (hQ : ∀ x ∈ Q, Tv.Ok (Cl.own B gc bt bd bf) m w x) (hn : Q.length ≤ 900) (hnd : (Q.map (fun x => x.1.id)).Nodup) :
    Calls Try.prog 29 #[.pointer (some ⟨gc, 0, none⟩)] w fun o w' => ∃ u, o = .returned u ∧ TRowX (Cl.own B gc bt bd bf) m w' u (Td.sort (Q.map Tv.md)) ∧ Fr w w' (fun _ => False) := by
  obtain ⟨es, c, hb, hes, hS⟩ := id h.th
  have hesz : es.size = Q.length := by
    have h5 := congrArg List.length hes
    simpa using h5
  have hown : ∀ x, Cl.own B gc bt bd bf x → x < w.heap.size := by
    intro x hx
    rcases hx with hx | rfl | rfl | rfl | rfl
    · exact hB x hx
    · exact (Array.getElem?_eq_some_iff.1 h.blk).1
    · exact h.th.lt
    · exact h.di.lt
    · exact h.fa.lt
  have y2 := cell_of_block h.blk 2 _ rfl
  have hrg := T.range_run hb
  have hfr0 : Fr w (w.alloc (.mapIter (some bt) c #[] c)) (fun _ => False) := (Fr.refl _ _).alloc _
  have hr0 : (w.alloc (.mapIter (some bt) c #[] c)).heap[w.heap.size]? = some (.mapIter (some bt) c #[] c) := heap_alloc_new _ _
  have HFR0 := hide hfr0
  have HR0 := hide hr0
  have hbl := h.th.lt
  have KB : Hid (∀ wx, Fr w wx (fun _ => False) → wx.heap[bt]? = some (.map es c)) := fun wx hf => (hf.block bt hbl (fun h => h)).trans hb
  obtain ⟨ex, hex⟩ : ∃ ex : Value → Nat → Prop, ex = fun vl c => Cl.own B gc bt bd bf c ∨ c = w.heap.size ∨ vl.ownBlock = some c := ⟨_, rfl⟩
  have HEX := hide hex
  have HES := hide hes
  have HND := hide hnd
  have HS := hide hS
  have HQ := hide hQ
  have HOW := hide hown
  have HSO := hide hsort
  clear hfr0 hr0 h hb hes hnd hS hB hQ hown hsort hex
  go_enter Try.func29, Try.ntmps29
  go_wp2_with fail
  generalize w.alloc (.mapIter (some bt) c #[] c) = w0 at *
  go_loopw [3, 5] (fun vl _ wx => ∃ (sn : Array Nat) (I : List Nat) (G : List Tv), Rg es I sn ∧ wx.ownsRow (w.heap.size + 1) 51 7 vl G.length (G.flatMap (fun x => c7 x.1)) ∧ wx.heap[w.heap.size]? = some (.mapIter (some bt) c sn c) ∧ Fr w wx (fun _ => False) ∧ G.map Tv.md = (I.filterMap (fun i => Q[i]?)).map Tv.md ∧ (∀ x ∈ G, Tv.Ok (ex vl) m wx x)) (fun _ _ wx => leftC wx w.heap.size bt)
  case atStart => exact ⟨#[], [], [], Rg.start es, World.ownsRow_nil .., HR0.out, HFR0.out, rfl, fun x hx => by cases hx⟩
  case round =>
    obtain ⟨wx, hwx⟩ : ∃ z, z = wr := ⟨_, rfl⟩
    subst hwx
    obtain ⟨sn, I, G, hrn, hox, hrx, hfx, hgm, hok⟩ := hrel
    obtain ⟨va, vc, rfl⟩ := owns_shape hox
    have hGl : G.length ≤ 900 := by
      have h1 := congrArg List.length hgm
      simp only [List.length_map] at h1
      have h2 : (I.filterMap (fun i => Q[i]?)).length ≤ I.length := List.length_filterMap_le _ _
      have h3 : I.length ≤ es.size := by
        have := hrn.nd.length_le_of_subset (l₂ := List.range es.size) (fun i hi => List.mem_range.2 (hrn.lt i hi))
        simpa using this
      omega
    rcases run_next_at (P := Try.prog) wx 0 w.heap.size bt c c sn es c hrx (KB.out _ hfx) (fun y hy => HS.out.1 y hy) (Nat.le_refl _) with ⟨h0, hnx⟩ | ⟨e, he, w1, hw1, hrun⟩
    · have hvl : ∀ y, (Value.slice va G.length vc).ownBlock = some y → w.heap.size + 1 ≤ y ∧ y < wx.heap.size := fun y hy => hox.lt y hy
      have HST := hide (HSO.out wx _ _ G hox (by omega) (fun x hx => (hok x hx).2.2))
      have hpm : (G.map Tv.md).Perm (Q.map Tv.md) := by
        rw [hgm]
        have h1 := ((hrn.all HS.out.2 h0).filterMap (fun i => Q[i]?)).map Tv.md
        rw [hesz, pick_range] at h1
        exact h1
      have HPM := hide hpm
      have HFX := hide hfx
      have HVL := hide hvl
      have HOK := hide hok
      clear hox hfx hrx hrn h0 hgm hok hpm hvl
      generalize Value.slice va G.length vc = vl at *
      go_wp2_with fail
      refine HST.out.mono ?_
      rintro o w9 ⟨rfl, G2, hp, hpw, hrow, hf9⟩
      have HP := hide hp
      have HPW := hide hpw
      have HRW := hide hrow
      have HF9 := hide hf9
      clear hp hpw hrow hf9 HST
      go_wp2_with fail
      go_ret
      refine ⟨_, rfl, ?_, HFX.out.trans HF9.out (fun c hc e => by have := HVL.out c e; omega)⟩
      have e9 : G2.map Tv.md = Td.sort (Q.map Tv.md) := by
        refine Td.sort_eq ((HP.out.map _).trans HPM.out) ?_ ?_
        · rw [List.pairwise_map]
          exact HPW.out
        · rw [List.map_map]
          exact HND.out
      intro w2 hs2 hc2
      rw [← e9]
      unfold TRow
      rw [List.length_map]
      refine HRW.out.turned (fun y hy => ?_) (fun i cc => ?_)
      · have h1 := HVL.out y hy
        have h2 := HF9.out.size
        exact hc2 y (by omega) (fun e => by have := HOW.out y e; omega)
      · rintro ⟨x, hx, rfl⟩
        have hin := HP.out.mem_iff.1 (List.mem_of_getElem? hx)
        obtain ⟨k1, k2, k3, k4⟩ := (HOK.out x hin).fr (HF9.out.weak (fun c _ e => by rw [HEX.out]; exact .inr (.inr e)))
        exact ⟨Tv.md x, x.1, by rw [List.getElem?_map, hx]; rfl, rfl, rfl, rfl, k1 w2 hs2 (fun c hlt hn => hc2 c hlt (fun e => hn (by rw [HEX.out]; exact .inl e))), k2⟩
    · obtain ⟨i, hei, hrn2⟩ := hrn.next he
      obtain ⟨x, hx, hxk, hxv⟩ := Rg.pick HES.out hei
      have hless := left_less he
      have hmem := (left_mem.1 he).1
      have hvl : ∀ y, (Value.slice va G.length vc).ownBlock = some y → w.heap.size + 1 ≤ y := fun y hy => (hox.lt y hy).1
      obtain ⟨w2, hrun2, hr2, hf2, ho2, hfx2⟩ : ∃ w2, (Instr.next (.pointer (some ⟨w.heap.size, 0, none⟩)) false 0).run Try.prog wx = .ok (.tuple #[.bool true, .int .i64 x.1.id, x.1.val]) w2 ∧ w2.heap[w.heap.size]? = some (.mapIter (some bt) c (sn.push e.born) c) ∧ Fr w w2 (fun _ => False) ∧ w2.ownsRow (w.heap.size + 1) 51 7 (.slice va G.length vc) G.length (G.flatMap (fun x => c7 x.1)) ∧ Fr wx w2 (fun c => c = w.heap.size) := by
        have hr1 : w1.heap[w.heap.size]? = some (.mapIter (some bt) c sn c) := by rcases hw1 with rfl | rfl <;> exact hrx
        have hfx1 : Fr wx w1 (fun c => c = w.heap.size) := by
          rcases hw1 with rfl | rfl
          · exact Fr.refl _ _
          · exact (Fr.refl _ _).drew
        have hf1 : Fr w w1 (fun _ => False) := hfx.trans hfx1 (fun c hc e => by omega)
        have ho1 : w1.ownsRow (w.heap.size + 1) 51 7 (.slice va G.length vc) G.length (G.flatMap (fun x => c7 x.1)) := by rcases hw1 with rfl | rfl <;> exact hox
        refine ⟨_, ?_, heap_set_at hr1, hf1.trans (fr_set w1 _ _) (fun c hc e => by omega), owns_fr ho1 (fr_set w1 _ _) (fun y hy e => by have := (ho1.lt y hy).1; omega), hfx1.trans (fr_set w1 _ _) (fun c hc e => e)⟩
        rw [hxk, hxv] at hrun
        exact hrun
      have hen := run_entry_at (P := Try.prog) w2 w.heap.size bt c sn es c e hr2 (KB.out _ hf2) hmem HS.out.2
      rw [hxk, hxv] at hen
      unfold Tg.val at hen hrun2
      obtain ⟨w3, hw3⟩ : ∃ w3, w3 = w2.alloc (.cells #[.int .i64 x.1.id, .string x.1.kind, .int .i64 x.1.k, .int .i64 x.1.n, .string x.1.s, .slice x.1.la x.1.ln x.1.lc, .slice x.1.fa x.1.fn x.1.fc] 51) := ⟨_, rfl⟩
      have hf3 : Fr w2 w3 (fun _ => False) := by rw [hw3]; exact (Fr.refl _ _).alloc _
      have hxo : Tv.Ok (ex (.slice va G.length vc)) m w3 x := (((HQ.out x (List.mem_of_getElem? hx)).more (ex2 := ex (.slice va G.length vc)) (fun c e => by
        rw [HEX.out] at e
        rcases e with e | e | e
        · exact .inl e
        · exact .inr (by omega)
        · exact .inr (by have := hvl c e; omega))).fr (hf2.weak (fun _ _ e => e.elim))).fr (hf3.weak (fun _ _ e => e.elim))
      have hex3 : ∀ c, ex (.slice va G.length vc) c → c < w3.heap.size := fun c e => by
        have hz2 := hf2.size
        have hz3 := hf3.size
        rw [HEX.out] at e
        rcases e with e | e | e
        · have := HOW.out c e; omega
        · have := (Array.getElem?_eq_some_iff.1 hr2).1; omega
        · have := (ho2.lt c e).2; omega
      have HCP := hide (copied_any (ex (.slice va G.length vc)) m w3 x.1 x.2 hxo.1 hex3 hxo.2.1)
      unfold Tg.val at HCP
      have HXI := hide hxo.2
      have HOK : Hid (∀ y ∈ G, Tv.Ok (ex (.slice va G.length vc)) m w3 y) := fun y hy => ((hok y hy).fr (hfx2.weak (fun c _ e => by rw [HEX.out]; exact .inr (.inl e)))).fr (hf3.weak (fun _ _ e => e.elim))
      have HO3 := hide (owns_fr ho2 hf3 (fun _ _ e => e))
      have HR3 := hide ((hf3.block _ (Array.getElem?_eq_some_iff.1 hr2).1 (fun e => e)).trans hr2)
      have HF3 := hide (hf2.trans hf3 (fun _ _ e => e))
      have HBX := hide (KB.out _ hfx)
      have HRN2 := hide hrn2
      have HLS := hide hless
      have HRX := hide hrx
      have HGM := hide hgm
      have HVL := hide hvl
      have HX := hide hx
      have hsz3 : w.heap.size < w3.heap.size := (Array.getElem?_eq_some_iff.1 HR3.out).1
      clear hr2 hf2 ho2 hox hfx hrx hrn hrn2 hless hmem he hrun hw1 hxk hxv hgm hvl hok hxo hex3 hf3 hfx2 hx hei
      obtain ⟨i0, hi0, hz0, hz1, hz3⟩ := info_parts info51
      go_wp2_with fail
      rw [← hw3]
      clear hw3 hrun2 hen
      refine HCP.out.mono ?_
      rintro o w4 ⟨t2, rfl, ti, tk, tm, hb4⟩
      have hf4 := fr_of_below hb4
      have HO4 := hide (owns_fr HO3.out hf4 (fun _ _ e => e))
      have HR4 := hide ((hf4.block _ hsz3 (fun e => e)).trans HR3.out)
      have HF4 := hide (HF3.out.trans hf4 (fun _ _ e => e))
      have HOK4 : Hid (∀ y ∈ G ++ [(t2, x.2)], Tv.Ok (ex (.slice va G.length vc)) m w4 y) := fun y hy => by
        rcases List.mem_append.1 hy with hy | hy
        · exact (HOK.out y hy).fr (hf4.weak (fun _ _ e => e.elim))
        · have e : y = (t2, x.2) := by simpa using hy
          rw [e]
          exact ⟨tm, HXI.out.1, by rw [show ((t2, x.2) : Tv).1.id = x.1.id from ti]; exact HXI.out.2⟩
      have HMD : Hid ((G ++ [(t2, x.2)]).map Tv.md = ((I ++ [i]).filterMap (fun i => Q[i]?)).map Tv.md) := by
        show _ = _
        rw [List.map_append, List.filterMap_append, List.map_append, HGM.out]
        congr 1
        rw [List.filterMap_cons, HX.out]
        simp [Tv.md, ti, tk]
      have hsz4 : w.heap.size < w4.heap.size := Nat.lt_of_lt_of_le hsz3 hf4.size
      clear hf4 hb4 tm ti tk HCP HO3 HR3 HF3 HOK HGM HX
      have hnw : ∀ j u, (c7 t2)[j]? = some u → (w4.alloc (.cells #[.int .i64 t2.id, .string t2.kind, .int .i64 t2.k, .int .i64 t2.n, .string t2.s, .slice t2.la t2.ln t2.lc, .slice t2.fa t2.fn t2.fc] 51)).cell? ((⟨w4.heap.size, 0, none⟩ : Addr).add j) = some u := news_alloc w4 #[.int .i64 t2.id, .string t2.kind, .int .i64 t2.k, .int .i64 t2.n, .string t2.s, .slice t2.la t2.ln t2.lc, .slice t2.fa t2.fn t2.fc] 51 _ rfl
      go_wp2_with (at_builtin; go_must (refine wpList_append_lies _ rfl (.tmp 15) (.tmp 18) 60 rfl (w.heap.size + 1) 51 i0 (.agg #[.int .i64 0, .string ⟨#[]⟩, .int .i64 0, .int .i64 0, .string ⟨#[]⟩, .slice none 0 0, .slice none 0 0]) 7 104 u60 hi0 hz0 hz1 hz3 rfl (by decide) (.slice va G.length vc) G.length (G.flatMap (fun x => c7 x.1)) rfl (HO4.out.alloc _) ⟨w4.heap.size, 0, none⟩ 1 1 (c7 t2) rfl rfl hnw (by simp [c7, Tg.cells, Value.oneCell']) (by decide) (by unfold maxLen; omega) (by omega) (by simp; omega) _ rfl ?_); intro gA capA wA hownA hgrow hat hltA)
      have hsz5 : (w4.alloc (.cells #[.int .i64 t2.id, .string t2.kind, .int .i64 t2.k, .int .i64 t2.n, .string t2.s, .slice t2.la t2.ln t2.lc, .slice t2.fa t2.fn t2.fc] 51)).heap.size = w4.heap.size + 1 := by simp
      have hf5 : Fr w4 (w4.alloc (.cells #[.int .i64 t2.id, .string t2.kind, .int .i64 t2.k, .int .i64 t2.n, .string t2.s, .slice t2.la t2.ln t2.lc, .slice t2.fa t2.fn t2.fc] 51)) (fun _ => False) := (Fr.refl _ _).alloc _
      have hr3 : wA.heap[w.heap.size]? = some (.mapIter (some bt) c (sn.push e.born) c) := by
        have h1 := (hf5.block _ hsz4 (fun e => e)).trans HR4.out
        rw [hgrow.block _ (Array.getElem?_eq_some_iff.1 h1).1 (fun e => by have := HVL.out _ e.symm; omega)]; exact h1
      have hf3 : Fr w wA (fun _ => False) := (HF4.out.alloc _).grown hgrow (fun y hy hc => by have := HVL.out y hy; omega)
      have hfA : Fr w4 wA (fun c => (Value.slice va G.length vc).ownBlock = some c) := (hf5.weak (fun _ _ e => e.elim)).grown hgrow (fun y hy _ => hy)
      have hokA : ∀ y ∈ G ++ [(t2, x.2)], Tv.Ok (ex (.slice (some ⟨gA, 0, none⟩) (G.length + 1) capA)) m wA y := fun y hy => by
        have h1 := (HOK4.out y hy).more (ex2 := fun c => ex (.slice va G.length vc) c ∨ c = w4.heap.size + 1) (fun c e => e.imp (fun e => e) (fun e => by omega))
        have h2 := h1.fr (hfA.weak (fun c _ e => .inl (by rw [HEX.out]; exact .inr (.inr e))))
        refine h2.more (fun c e => .inl ?_)
        rw [HEX.out] at e ⊢
        rcases e with e | e | e
        · exact .inl (.inl e)
        · exact .inl (.inr (.inl e))
        · have e2 : gA = c := by simpa [Value.ownBlock] using e
          rcases hat with h | h
          · exact .inl (.inr (.inr (by rw [h, e2])))
          · exact .inr (by omega)
      have hoA : wA.ownsRow (w.heap.size + 1) 51 7 (.slice (some ⟨gA, 0, none⟩) (G.length + 1) capA) (G ++ [(t2, x.2)]).length ((G ++ [(t2, x.2)]).flatMap (fun x => c7 x.1)) := by
        rw [List.flatMap_append, List.length_append]
        simpa using hownA
      have HR5 := hide hr3
      have HF5 := hide hf3
      have HOA := hide hoA
      have HKA := hide hokA
      clear hr3 hf3 hoA hokA hownA hgrow hat hltA hfA hf5 hnw
      go_wp2_with fail
      go_roundw
      case rel => exact ⟨sn.push e.born, I ++ [i], G ++ [(t2, x.2)], HRN2.out, HOA.out, HR5.out, HF5.out, HMD.out, HKA.out⟩
      case measure => rw [leftC_at HR5.out (KB.out _ HF5.out), leftC_at HRX.out HBX.out]; exact HLS.out
end Go.Proofs.Ytlmkpjdaoinmoaa
