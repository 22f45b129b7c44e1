/- For TopLocks: the law's state: the disk, the map of owners, who is dead; what each act does to the map. -/
import Derived.Test.YtlglomjodbjbaaaDoorLO
namespace Go.Proofs.YtlglomjodbjbaaaDoor
open Go.RowKit
open Go.ChangeMaps Go.MapKept
namespace H
def puts (F : List (ByteArray × Int)) (N0 : List ByteArray) (d : Int) : List (ByteArray × Int) := N0.foldl (fun F n => put F n d) F
/-- One lock given back, if it is his. -/
def gives1 (F : List (ByteArray × Int)) (n : ByteArray) (d : Int) : List (ByteArray × Int) := if get F n = some d then del F n else F
def gives (F : List (ByteArray × Int)) (N0 : List ByteArray) (d : Int) : List (ByteArray × Int) := N0.foldl (fun F n => gives1 F n d) F
theorem puts_next {N0 : List ByteArray} {j : Nat} {n : ByteArray} (h : N0[j]? = some n) (F : List (ByteArray × Int)) (d : Int) : puts F (N0.take (j + 1)) d = put (puts F (N0.take j) d) n d := by
  unfold puts
  rw [List.take_add_one, h, Option.toList_some, List.foldl_append]; rfl
theorem gives_next {N0 : List ByteArray} {j : Nat} {n : ByteArray} (h : N0[j]? = some n) (F : List (ByteArray × Int)) (d : Int) : gives F (N0.take (j + 1)) d = gives1 (gives F (N0.take j) d) n d := by
  unfold gives
  rw [List.take_add_one, h, Option.toList_some, List.foldl_append]; rfl
theorem puts_keys (d : Int) : ∀ (N0 : List ByteArray) (F : List (ByteArray × Int)), (F.map (·.1)).Nodup → ((puts F N0 d).map (·.1)).Nodup
  | [], _, h => h
  | n :: N0, F, h => puts_keys d N0 (put F n d) (put_keys h)
theorem gives1_keys {F : List (ByteArray × Int)} {n : ByteArray} {d : Int} (h : (F.map (·.1)).Nodup) : ((gives1 F n d).map (·.1)).Nodup := by
  unfold gives1
  by_cases e : get F n = some d
  · rw [if_pos e]; exact del_keys h
  · rw [if_neg e]; exact h
theorem gives_keys (d : Int) : ∀ (N0 : List ByteArray) (F : List (ByteArray × Int)), (F.map (·.1)).Nodup → ((gives F N0 d).map (·.1)).Nodup
  | [], _, h => h
  | n :: N0, F, h => gives_keys d N0 (gives1 F n d) (gives1_keys h)
theorem get_puts_out {n : ByteArray} (d : Int) : ∀ (N0 : List ByteArray) (F : List (ByteArray × Int)), n ∉ N0 → get (puts F N0 d) n = get F n
  | [], _, _ => rfl
  | m :: N0, F, h => by
    rw [List.mem_cons, not_or] at h
    show get (puts (put F m d) N0 d) n = _
    rw [get_puts_out d N0 (put F m d) h.2, get_put, K.beq_no (fun e => h.1 e.symm)]; simp
theorem get_puts_in {n : ByteArray} (d : Int) : ∀ (N0 : List ByteArray) (F : List (ByteArray × Int)), n ∈ N0 → get (puts F N0 d) n = some d
  | [], _, h => by cases h
  | m :: N0, F, h => by
    show get (puts (put F m d) N0 d) n = _
    by_cases h2 : n ∈ N0
    · exact get_puts_in d N0 (put F m d) h2
    · have e : n = m := (List.mem_cons.1 h).resolve_right h2
      rw [get_puts_out d N0 (put F m d) h2, get_put, e, (K.beq_iff m m).2 rfl]; simp
theorem get_gives1 {F : List (ByteArray × Int)} {n : ByteArray} {d : Int} (h : (F.map (·.1)).Nodup) (m : ByteArray) : (m = n ∧ get F m = some d → get (gives1 F n d) m = none) ∧ (¬ (m = n ∧ get F m = some d) → get (gives1 F n d) m = get F m) := by
  unfold gives1
  by_cases e : get F n = some d
  · rw [if_pos e, get_del h]
    by_cases q : n = m
    · subst q
      rw [(K.beq_iff n n).2 rfl, if_pos rfl]
      exact ⟨fun _ => rfl, fun hh => absurd ⟨rfl, e⟩ hh⟩
    · rw [K.beq_no q, if_neg (by simp)]
      exact ⟨fun hh => absurd hh.1.symm q, fun _ => rfl⟩
  · rw [if_neg e]
    exact ⟨fun hh => absurd (by rw [← hh.1]; exact hh.2) e, fun _ => rfl⟩
theorem get_gives {m : ByteArray} (d : Int) : ∀ (N0 : List ByteArray) (F : List (ByteArray × Int)), (F.map (·.1)).Nodup → (m ∈ N0 ∧ get F m = some d → get (gives F N0 d) m = none) ∧ (¬ (m ∈ N0 ∧ get F m = some d) → get (gives F N0 d) m = get F m)
  | [], F, _ => ⟨fun h => (by cases h.1), fun _ => rfl⟩
  | n :: N0, F, h => by
    have ih := get_gives (m := m) d N0 (gives1 F n d) (gives1_keys h)
    have h1 := get_gives1 (n := n) (d := d) h m
    show (_ → get (gives (gives1 F n d) N0 d) m = none) ∧ (_ → get (gives (gives1 F n d) N0 d) m = _)
    by_cases e : m = n ∧ get F m = some d
    · have hn := h1.1 e
      have h2 : get (gives (gives1 F n d) N0 d) m = none := by
        rw [ih.2 (fun q => by rw [hn] at q; cases q.2), hn]
      exact ⟨fun _ => h2, fun q => absurd ⟨List.mem_cons.2 (.inl e.1), e.2⟩ q⟩
    · have hn := h1.2 e
      rw [hn] at ih
      refine ⟨fun q => ih.1 ⟨?_, q.2⟩, fun q => ih.2 (fun r => q ⟨List.mem_cons_of_mem _ r.1, r.2⟩)⟩
      rcases List.mem_cons.1 q.1 with r | r
      · exact absurd ⟨r, q.2⟩ e
      · exact r
theorem On.took {F : List (ByteArray × Int)} {L L' : K.Lo} (h : On F L) {N0 : List ByteArray} {who : Int} (hw : 0 ≤ who ∨ N0 = []) (hs : ∀ n, (n ∈ N0 → K.get L' n = some who.toNat) ∧ (n ∉ N0 → K.get L' n = K.get L n)) : On (puts F N0 who) L' := by
  refine ⟨puts_keys _ _ _ h.keys, fun n => ?_⟩
  by_cases hn : n ∈ N0
  · rw [get_puts_in who N0 F hn, (hs n).1 hn]
    rcases hw with hw | hw
    · show some who = some (Int.ofNat who.toNat)
      congr 1
      show who = ((who.toNat : Nat) : Int)
      omega
    · rw [hw] at hn; cases hn
  · rw [get_puts_out who N0 F hn, (hs n).2 hn, h.same]
theorem On.gave {F : List (ByteArray × Int)} {L L' : K.Lo} (h : On F L) {N0 : List ByteArray} {who : Int} (hs : ∀ n, (n ∈ N0 ∧ (K.get L n).map Int.ofNat = some who → K.get L' n = none) ∧ (¬ (n ∈ N0 ∧ (K.get L n).map Int.ofNat = some who) → K.get L' n = K.get L n)) : On (gives F N0 who) L' := by
  refine ⟨gives_keys _ _ _ h.keys, fun n => ?_⟩
  have h1 := get_gives (m := n) who N0 F h.keys
  have h2 := hs n
  rw [← h.same] at h2
  by_cases e : n ∈ N0 ∧ get F n = some who
  · rw [h1.1 e, h2.1 e]; rfl
  · rw [h1.2 e, h2.2 e, h.same]
end H
/-- The law's state in memory. -/
structure St (w wx : World) (g bh bd : Nat) (B : Nat → Prop) (D : Dk) (L : K.Lo) (F : List (ByteArray × Int)) (dead b : Int) : Prop where
  lk : Lk wx B g D L b 0
  up : ∀ x, B x → w.heap.size ≤ x
  map : H.Is wx bh F
  cell : wx.heap[bd]? = some (.cells #[.int .i64 dead] 3 (0, 0))
  nb : ¬ B bh
  nd : ¬ B bd
  ne : bh ≠ bd
  ub : w.heap.size ≤ bh
  ud : w.heap.size ≤ bd
  below : Below w.heap.size w wx
section
variable {w wx wy : World} {g bh bd : Nat} {B : Nat → Prop} {D : Dk} {L L' : K.Lo} {F F' : List (ByteArray × Int)} {dead b b' : Int}
theorem St.bd_lt (h : St w wx g bh bd B D L F dead b) : bd < wx.heap.size := (Array.getElem?_eq_some_iff.1 h.cell).1
theorem St.fr (h : St w wx g bh bd B D L F dead b) (hf : Fr wx wy (fun _ => False)) : St w wy g bh bd B D L F dead b :=
  ⟨h.lk.fr hf, h.up, h.map.at (hf.block bh h.map.lt (fun e => e)), (hf.block bd h.bd_lt (fun e => e)).trans h.cell, h.nb, h.nd, h.ne, h.ub, h.ud, h.below.trans (hf.below h.below.size (fun _ e => e.elim))⟩
theorem St.did (h : St w wx g bh bd B D L F dead b) (hd : Lk.Did wx wy B g L' b' 0) : ∃ B' D', St w wy g bh bd B' D' L' F dead b' := by
  obtain ⟨B', D', h1, h2, h3⟩ := hd
  have hsz := h.below.size
  refine ⟨B', D', h1, fun x hx => ?_, h.map.at (h3.block bh h.map.lt h.nb), (h3.block bd h.bd_lt h.nd).trans h.cell, fun e => ?_, fun e => ?_, h.ne, h.ub, h.ud, h.below.trans (h3.below hsz h.up)⟩
  · rcases h2 x hx with h4 | h4
    · exact h.up x h4
    · omega
  · rcases h2 _ e with h4 | h4
    · exact h.nb h4
    · have := h.map.lt; omega
  · rcases h2 _ e with h4 | h4
    · exact h.nd h4
    · have := h.bd_lt; omega
theorem St.turn (h : St w wx g bh bd B D L F dead b) (hg : wx.grownBy wy (some bh)) (hI : H.Is wy bh F') : St w wy g bh bd B D L F' dead b := by
  have hf : Fr wx wy (fun c => c = bh) := ⟨hg.os, hg.tape, hg.output, hg.size, fun c hc he => hg.block c hc (fun e => he (by simpa using e))⟩
  refine ⟨⟨h.lk.disk.fr hf (fun c hc e => h.nb (e ▸ hc)), fun x hx => Nat.lt_of_lt_of_le (h.lk.low x hx) hf.size, h.lk.inv, h.lk.on⟩, h.up, hI, (hf.block bd h.bd_lt (fun e => h.ne e.symm)).trans h.cell, h.nb, h.nd, h.ne, h.ub, h.ud, h.below.trans (hf.below h.below.size (fun c e => by rw [e]; exact h.ub))⟩
theorem St.dies (h : St w wx g bh bd B D L F dead b) (d : Int) : St w (wx.setCell ⟨bd, 0, none⟩ (.int .i64 d)) g bh bd B D L F d b := by
  have hf : Fr wx (wx.setCell ⟨bd, 0, none⟩ (.int .i64 d)) (fun c => c = bd) := Fr.set1 wx bd 0 (.int .i64 d)
  refine ⟨⟨h.lk.disk.fr hf (fun c hc e => h.nd (e ▸ hc)), fun x hx => Nat.lt_of_lt_of_le (h.lk.low x hx) hf.size, h.lk.inv, h.lk.on⟩, h.up, h.map.at (hf.block bh h.map.lt h.ne), ?_, h.nb, h.nd, h.ne, h.ub, h.ud, h.below.trans (hf.below h.below.size (fun c e => by rw [e]; exact h.ud))⟩
  have := h.cell
  simp [World.setCell, Array.getElem?_modify, this]
end
end Go.Proofs.YtlglomjodbjbaaaDoor
