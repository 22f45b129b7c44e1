/- For TopLocks: once: slices.Compact(slices.Sorted(slices.Values(l))). -/
import Derived.Test.YtlglomjodbjbaaaDoorLD
namespace Go.Proofs.YtlglomjodbjbaaaDoor
open Go.RowKit Go.Sort Go.Shelf
attribute [local go_sem ↓] Go.wp_at_zero Go.wp_at_succ
namespace K
/-- Texts, rising, none twice: as the library's words have it. -/
def once (L : List ByteArray) : List ByteArray := (Lib.compact ((L.map N.bl).mergeSort (fun x y => decide (x ≤ y)))).map N.str
end K
theorem appendSeq_c (Bm c : Nat) (a : Option Addr) (L : List ByteArray) (w : World) (hm : w.cell? ⟨Bm, 0, none⟩ = some (.slice a L.length c)) (hs : Strs w (.slice a L.length c) L) (hL : L.length ≤ 1000) :
    Calls Tryd.prog 58 #[.slice none 0 0, .func (.func 48) #[] #[.pointer (some ⟨Bm, 0, none⟩)]] w fun e w' => ∃ v, e = .returned v ∧ w'.ownsRow w.heap.size 9 1 v L.length (strs L) ∧ Fr w w' (fun _ => False) := callsIn_wide.1 (appendSeq_any Bm c a L w hm hs hL)
theorem compacts_any (w : World) (base : Nat) (v : Value) (zs : List (List UInt8)) (h : w.ownsRow base 9 1 v zs.length (strs (zs.map N.str))) (hl : zs.length ≤ 1000) :
    Calls Tryd.prog 32 #[v] w fun o w' => ∃ u, o = .returned u ∧ w'.ownsRow base 9 1 u (Lib.compact zs).length (strs ((Lib.compact zs).map N.str)) ∧ w.grownBy w' v.ownBlock := by
  by_cases h0 : zs = []
  · subst h0
    obtain ⟨a, c, rfl⟩ := owns_shape h
    refine (sh_slices_Compact_string_empty a c w).mono ?_
    rintro o w' ⟨rfl, rfl⟩
    exact ⟨_, rfl, by simpa [Lib.compact, Lib.compactUpTo] using h, ⟨rfl, rfl, rfl, Nat.le_refl _, fun _ _ _ => rfl⟩⟩
  · rcases id h.2 with ⟨_, hn⟩ | ⟨g, cap, cur, rfl, hbase, hb, h1, h2, h3, h4⟩
    · exact absurd (List.eq_nil_of_length_eq_zero hn) h0
    · have hH := Go.holds_of_block (ss := zs) hb (by rw [strs_enc2]; simpa using h4)
      have hc := sh_slices_Compact_string g 0 cap zs w hH (by omega) h1
      refine hc.mono ?_
      rintro o w' ⟨rfl, q, rfl⟩
      have hle : (Lib.compact zs).length ≤ zs.length := by
        unfold Lib.compact Lib.compactUpTo
        rw [List.length_map]
        exact Nat.le_trans (List.length_filter_le _ _) (by simp)
      have e0 : ∀ W : World, Go.Sort.grow W #[] = W := fun W => by simp [Go.Sort.grow]
      have ho := Go.ownsRow_sorted (n := q) (os := #[]) (ss := zs) (ts := Lib.compact zs ++ List.replicate (zs.length - (Lib.compact zs).length) []) (by simp; omega) hbase hb h1 h2 h3
      have hg := Go.grownBy_sorted (w := w) (g := g) (n := q) (os := #[]) (Lib.compact zs ++ List.replicate (zs.length - (Lib.compact zs).length) []).toArray
      rw [e0] at ho hg
      refine ⟨_, rfl, ?_, hg⟩
      rcases ho.2 with ⟨hx, _⟩ | ⟨g', cap', cur', hx, k1, k2, k3, k4, k5, k6⟩
      · cases hx
      · cases hx
        refine ⟨by unfold strs; simp, .inr ⟨g, cap, cur', rfl, k1, k2, by omega, k4, k5, ?_⟩⟩
        have := congrArg (List.take (Lib.compact zs).length) k6
        have et : List.take (Lib.compact zs).length ((Lib.compact zs).map encStr) = (Lib.compact zs).map encStr := List.take_of_length_le (by simp)
        rw [List.take_take, Nat.min_eq_left (by omega), List.map_append, List.take_append_of_le_length (by simp), et] at this
        rw [Nat.mul_one, this, strs_enc2]
set_option maxRecDepth 100000 in
set_option maxHeartbeats 1000000 in
theorem collect_any (Bm c : Nat) (a : Option Addr) (L : List ByteArray) (w : World) (hm : w.cell? ⟨Bm, 0, none⟩ = some (.slice a L.length c)) (hs : Strs w (.slice a L.length c) L) (hL : L.length ≤ 1000) :
    Calls Tryd.prog 47 #[.func (.func 48) #[] #[.pointer (some ⟨Bm, 0, none⟩)]] w fun e w' => ∃ v, e = .returned v ∧ w'.ownsRow w.heap.size 9 1 v L.length (strs L) ∧ Fr w w' (fun _ => False) := by
  have HA := hide (appendSeq_c Bm c a L w hm hs hL)
  clear hm hs hL
  go_enter Tryd.func47, Tryd.ntmps47
  go_wp2_with fail
  refine HA.out.mono ?_
  rintro e w1 ⟨v, rfl, ho, hf⟩
  have HO := hide ho
  have HF := hide hf
  clear ho hf HA
  go_wp2_with fail
  go_ret
  exact ⟨_, rfl, HO.out, HF.out⟩
set_option maxRecDepth 100000 in
set_option maxHeartbeats 1000000 in
theorem sorted_any (Bm c : Nat) (a : Option Addr) (L : List ByteArray) (w : World) (hm : w.cell? ⟨Bm, 0, none⟩ = some (.slice a L.length c)) (hs : Strs w (.slice a L.length c) L) (hL : L.length ≤ 1000) :
    Calls Tryd.prog 33 #[.func (.func 48) #[] #[.pointer (some ⟨Bm, 0, none⟩)]] w fun e w' => ∃ v, e = .returned v ∧ w'.ownsRow w.heap.size 9 1 v L.length (strs (sorted L)) ∧ Fr w w' (fun _ => False) := by
  have HA := hide (collect_any Bm c a L w hm hs hL)
  clear hm hs
  go_enter Tryd.func33, Tryd.ntmps33
  go_wp2_with fail
  refine HA.out.mono ?_
  rintro e w1 ⟨v, rfl, ho, hf⟩
  have HS := hide (sorts_any w1 w.heap.size v L ho hL)
  have HV : Hid (∀ y, v.ownBlock = some y → w.heap.size ≤ y) := fun y hy => (ho.lt y hy).1
  have HF := hide hf
  clear ho hf HA
  go_wp2_with fail
  refine HS.out.mono ?_
  rintro e w2 ⟨rfl, ho2, hg2⟩
  have HF2 := hide (HF.out.grown hg2 (fun y hy hc => by have := HV.out y hy; omega))
  have HO := hide ho2
  clear HS ho2 hg2
  go_wp2_with fail
  go_ret
  exact ⟨_, rfl, HO.out, HF2.out⟩
set_option maxRecDepth 100000 in
set_option maxHeartbeats 1000000 in
theorem values_any (a : Option Addr) (l c : Nat) (w : World) : Calls Tryd.prog 34 #[.slice a l c] w fun e w' => e = .returned (.func (.func 48) #[] #[.pointer (some ⟨w.heap.size, 0, none⟩)]) ∧ w' = w.alloc (.cells #[.slice a l c] 28) := by
  go_enter Tryd.func34, Tryd.ntmps34
  go_wp2_with fail
  go_ret
  exact ⟨rfl, rfl⟩
theorem sorted_len (L : List ByteArray) : (sorted L).length = L.length := by unfold sorted; simp
set_option maxRecDepth 100000 in
set_option maxHeartbeats 1000000 in
theorem once_any (v : Value) (L : List ByteArray) (w : World) (hs : Strs w v L) (hL : L.length ≤ 1000) :
    Calls Tryd.prog 21 #[v] w fun e w' => ∃ u, e = .returned u ∧ w'.ownsRow w.heap.size 9 1 u (K.once L).length (strs (K.once L)) ∧ Fr w w' (fun _ => False) := by
  obtain ⟨a, c, rfl, _⟩ := id hs
  have hf0 : Fr w (w.alloc (.cells #[.slice a L.length c] 28)) (fun _ => False) := (Fr.refl _ _).alloc _
  have hs0 : Strs (w.alloc (.cells #[.slice a L.length c] 28)) (.slice a L.length c) L := hs.kept (hf0.below (Nat.le_refl _) (fun _ e => e.elim)) (Nat.le_refl _)
  have hc0 := cell_of_block (heap_alloc_new w (.cells #[.slice a L.length c] 28)) 0 _ rfl
  have HA := hide (sorted_any w.heap.size c a L _ hc0 hs0 hL)
  have HV := hide (values_any a L.length c w)
  have HF0 := hide hf0
  have HZ : Hid ((w.alloc (.cells #[.slice a L.length c] 28)).heap.size = w.heap.size + 1) := by show _ = _; simp
  clear hs hf0 hs0 hc0
  go_enter Tryd.func21, Tryd.ntmps21
  go_wp2_with fail
  refine HV.out.mono ?_
  rintro e w0 ⟨rfl, hw0⟩
  rw [← hw0] at HA HF0 HZ
  clear hw0 HV
  go_wp2_with fail
  refine HA.out.mono ?_
  rintro e w1 ⟨u, rfl, ho, hf⟩
  have ho' : w1.ownsRow w.heap.size 9 1 u ((L.map N.bl).mergeSort (fun x y => decide (x ≤ y))).length (strs (((L.map N.bl).mergeSort (fun x y => decide (x ≤ y))).map N.str)) := by
    have := K.owns_base ho (base2 := w.heap.size) (by rw [HZ.out]; omega)
    have e : ((L.map N.bl).mergeSort (fun x y => decide (x ≤ y))).length = L.length := by simp
    rw [e]; exact this
  have HC := hide (compacts_any w1 w.heap.size u _ ho' (by simpa using hL))
  have HU : Hid (∀ y, u.ownBlock = some y → w.heap.size ≤ y) := fun y hy => (ho'.lt y hy).1
  have HF1 := hide (HF0.out.trans hf (fun _ _ e => e))
  clear ho ho' hf HA HF0
  go_wp2_with fail
  refine HC.out.mono ?_
  rintro e w2 ⟨u2, rfl, ho2, hg2⟩
  have HF2 := hide (HF1.out.grown hg2 (fun y hy hc => by have := HU.out y hy; omega))
  have HO := hide ho2
  clear HC ho2 hg2
  go_wp2_with fail
  go_ret
  refine ⟨_, rfl, ?_, HF2.out⟩
  unfold K.once
  rw [List.length_map]
  exact HO.out
end Go.Proofs.YtlglomjodbjbaaaDoor
