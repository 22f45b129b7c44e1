/- For CloudSays: Lose, Spoil, Fail, Calls, Read, Down, Arm of the program. -/
import Derived.Test.YtlmkpjdaoinmoaaCW
namespace Go.Proofs.Ytlmkpjdaoinmoaa
open Go.RowKit
attribute [local go_sem ↓] Go.wp_at_zero Go.wp_at_succ
set_option maxRecDepth 100000 in
set_option maxHeartbeats 1000000 in
theorem calls_any (w : World) (B : Nat → Prop) (g gc bt bd bf : Nat) (D : Dk) (q given calls : Int) (Th : List (Int × Value)) (Di : List (ByteArray × Value)) (Fa : List (Int × Value)) (h : Cl w B g gc bt bd bf D q given calls Th Di Fa) : Calls Try.prog 27 #[.pointer (some ⟨gc, 0, none⟩)] w fun o w' => o = .returned (.int .i64 calls) ∧ w' = w := by
  have y5 := cell_of_block h.blk 5 _ rfl
  clear h
  go_enter Try.func27, Try.ntmps27
  go_wp2_with fail
  go_ret
  exact ⟨rfl, rfl⟩
set_option maxRecDepth 100000 in
set_option maxHeartbeats 1000000 in
theorem lose_any (w : World) (B : Nat → Prop) (g gc bt bd bf : Nat) (D : Dk) (q given calls : Int) (Th : List (Int × Value)) (Di : List (ByteArray × Value)) (Fa : List (Int × Value)) (id : Int) (h : Cl w B g gc bt bd bf D q given calls Th Di Fa) : Calls Try.prog 19 #[.pointer (some ⟨gc, 0, none⟩), .int .i64 id] w fun o w' => o = .returned (.tuple #[]) ∧ Cl w' B g gc bt bd bf D q given calls (T.del Th id) Di Fa ∧ Fr w w' (fun c => c = bt) := by
  have y2 := cell_of_block h.blk 2 _ rfl
  obtain ⟨w2, hr, hI, hg⟩ := T.delete u81 h.th id 0
  have HCL := hide (h.things hI (frb hg))
  have HF := hide (frb hg)
  clear h hI hg
  go_enter Try.func19, Try.ntmps19
  go_wp2_with fail
  go_end0
  exact ⟨rfl, HCL.out, HF.out⟩
set_option maxRecDepth 100000 in
set_option maxHeartbeats 1000000 in
theorem fail_any (w : World) (B : Nat → Prop) (g gc bt bd bf : Nat) (D : Dk) (q given calls : Int) (Th : List (Int × Value)) (Di : List (ByteArray × Value)) (Fa : List (Int × Value)) (n : Int) (h : Cl w B g gc bt bd bf D q given calls Th Di Fa) : Calls Try.prog 23 #[.pointer (some ⟨gc, 0, none⟩), .int .i64 n] w fun o w' => o = .returned (.tuple #[]) ∧ Cl w' B g gc bt bd bf D q given calls Th Di (if calls ≤ n then T.put Fa n (.agg #[]) else Fa) ∧ Fr w w' (fun c => c = bf) := by
  have y5 := cell_of_block h.blk 5 _ rfl
  have y6 := cell_of_block h.blk 6 _ rfl
  by_cases hn : calls ≤ n
  · rw [if_pos hn]
    obtain ⟨w2, hr, hI, hg⟩ := T.update u83 h.fa n (.agg #[])
    have HCL := hide (h.failed hI (frb hg))
    have HF := hide (frb hg)
    clear h hI hg
    go_enter Try.func23, Try.ntmps23
    go_wp2_with fail
    go_end0
    exact ⟨rfl, HCL.out, HF.out⟩
  · rw [if_neg hn]
    have HCL := hide h
    clear h
    go_enter Try.func23, Try.ntmps23
    go_wp2_with fail
    go_end0
    exact ⟨rfl, HCL.out, Fr.refl _ _⟩
set_option maxRecDepth 100000 in
set_option maxHeartbeats 1000000 in
theorem down_any (w : World) (B : Nat → Prop) (g : Nat) (D : Dk) (h : Disk w B g D) : Calls Try.prog 45 #[.pointer (some ⟨g, 0, none⟩)] w fun o w' => o = .returned (.bool D.down) ∧ w' = w := by
  obtain ⟨bk, bf, cv, h1, _⟩ := h
  have y5 := cell_of_block h1 5 _ rfl
  clear h1
  go_enter Try.func45, Try.ntmps45
  go_wp2_with fail
  go_ret
  exact ⟨rfl, rfl⟩
set_option maxRecDepth 100000 in
set_option maxHeartbeats 1000000 in
theorem arm_any (w : World) (B : Nat → Prop) (g : Nat) (D : Dk) (n : Int) (h : Disk w B g D) : Calls Try.prog 24 #[.pointer (some ⟨g, 0, none⟩), .int .i64 n] w fun o w' => o = .returned (.tuple #[]) ∧ Disk w' B g { D with left := n } ∧ Fr w w' (fun c => c = g) := by
  obtain ⟨bk, bf, cv, h1, h2, h3, h4, h5, h6, h7, h8, h9⟩ := h
  have y4 := cell_of_block h1 4 _ rfl
  have r4 := free_of_block h1 4
  obtain ⟨w2, hw2⟩ : ∃ w2, w2 = w.setCell ⟨g, 4, none⟩ (.int .i64 n) := ⟨_, rfl⟩
  have hb2 : w2.heap[g]? = some (.cells #[.map (some bk), .map (some bf), cv, .int .i64 D.steps, .int .i64 n, .bool D.down] 79 (0, 0)) := by
    rw [hw2]
    simp [World.setCell, Array.getElem?_modify, h1]
  have hf2 : Fr w w2 (fun c => c = g) := by rw [hw2]; exact (Fr.refl w (fun c => c = g)).set _ _ (fun _ => rfl)
  have HD : Hid (Disk w2 B g { D with left := n }) := Disk.turn (D := D) h1 h2 h3 h4 h5 h6 h7 h8 h9 hf2 hb2 rfl rfl rfl
  have HF := hide hf2
  clear h1 h2 h3 h4 h5 h6 h7 h8 h9 hb2 hf2
  go_enter Try.func24, Try.ntmps24
  go_wp2_with fail
  go_end0
  rw [← hw2]
  exact ⟨rfl, HD.out, HF.out⟩
end Go.Proofs.Ytlmkpjdaoinmoaa
