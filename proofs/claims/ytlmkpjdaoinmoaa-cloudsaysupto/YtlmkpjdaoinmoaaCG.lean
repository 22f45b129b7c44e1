/- For TopToken and CloudSays: Create, by an old token, and where there is no room. -/
import Derived.Test.YtlmkpjdaoinmoaaCF
namespace Go.Proofs.Ytlmkpjdaoinmoaa
open Go.RowKit
attribute [local go_sem ↓] Go.wp_at_zero Go.wp_at_succ
set_option maxRecDepth 100000 in
set_option maxHeartbeats 600000 in
/-- Create where there is no room. -/
theorem createFull_any (w : World) (B : Nat → Prop) (g gc bt bd bf bc bi bv : Nat) (D : Dk) (q given calls : Int) (Th : List (Int × Value)) (Di : List (ByteArray × Value)) (Fa : List (Int × Value)) (h : Cl w B g gc bt bd bf D q given calls Th Di Fa)
    (h1 : w.cell? ⟨bc, 0, none⟩ = some (.pointer (some ⟨gc, 0, none⟩))) (hfull : (Th.length : Int) ≥ q) :
    Calls Try.prog 35 #[.pointer (some ⟨bc, 0, none⟩), .pointer (some ⟨bi, 0, none⟩), .pointer (some ⟨bv, 0, none⟩)] w fun o w' => o = .returned (.tuple #[.int .i64 0, V.errOf 13]) ∧ Cl w' B g gc bt bd bf D q given calls Th Di Fa ∧ Fr w w' (fun c => c = gc ∨ c = bt) := by
  have HH := hide h
  have hlen := T.len_run u81 (h.fr (Fr.refl w (fun _ => False)).drew).th
  have y1 := cell_of_block h.blk 1 _ rfl
  have y2 := cell_of_block h.blk 2 _ rfl
  have hfi : q ≤ (Th.length : Int) := hfull
  clear h hfull
  go_enter Try.func35, Try.ntmps35
  go_wp2_with fail
  go_region
  go_wp2_with fail
  go_ret2
  exact ⟨rfl, HH.out.fr (Fr.refl w _).drew, (Fr.refl w _).drew⟩
/-- The three boxes of Create. -/
def boxes (w : World) (gc : Nat) (kind : ByteArray) (cs : Array Value) : World := ((w.alloc (.cells #[.pointer (some ⟨gc, 0, none⟩)] 27)).alloc (.cells #[.string kind] 9)).alloc (.cells cs 40)
theorem boxes_fr (w : World) (gc : Nat) (kind : ByteArray) (cs : Array Value) : Fr w (boxes w gc kind cs) (fun _ => False) := (((Fr.refl w _).alloc _).alloc _).alloc _
theorem boxes_at (w : World) (gc : Nat) (kind : ByteArray) (cs : Array Value) : (boxes w gc kind cs).cell? ⟨w.heap.size, 0, none⟩ = some (.pointer (some ⟨gc, 0, none⟩)) ∧ (boxes w gc kind cs).cell? ⟨w.heap.size + 1, 0, none⟩ = some (.string kind) ∧ (boxes w gc kind cs).heap[w.heap.size + 1 + 1]? = some (.cells cs 40 (0, 0)) ∧ (boxes w gc kind cs).heap.size = w.heap.size + 3 := by
  have s1 : (w.alloc (.cells #[.pointer (some ⟨gc, 0, none⟩)] 27)).heap.size = w.heap.size + 1 := by simp
  have s2 : ((w.alloc (.cells #[.pointer (some ⟨gc, 0, none⟩)] 27)).alloc (.cells #[.string kind] 9)).heap.size = w.heap.size + 1 + 1 := by simp
  unfold boxes
  refine ⟨?_, ?_, ?_, by simp⟩
  · have h0 := cell_of_block (heap_alloc_new w (.cells #[.pointer (some ⟨gc, 0, none⟩)] 27)) 0 _ rfl
    exact cell_frx (((Fr.refl _ (fun _ => False)).alloc _).alloc _) (fun e => e) h0
  · have h0 := cell_of_block (heap_alloc_new (w.alloc (.cells #[.pointer (some ⟨gc, 0, none⟩)] 27)) (.cells #[.string kind] 9)) 0 _ rfl
    rw [s1] at h0
    exact cell_frx ((Fr.refl _ (fun _ => False)).alloc _) (fun e => e) h0
  · have h0 := heap_alloc_new ((w.alloc (.cells #[.pointer (some ⟨gc, 0, none⟩)] 27)).alloc (.cells #[.string kind] 9)) (.cells cs 40)
    rw [s2] at h0
    exact h0
end Go.Proofs.Ytlmkpjdaoinmoaa
