/- disk: has, Arm, on, do. -/
import Derived.Test.YtlglomjodbjbaaaDoorDB
namespace Go.Proofs.YtlglomjodbjbaaaDoor
open Go.RowKit
attribute [local go_sem ↓] Go.wp_at_zero Go.wp_at_succ
/-- What a file has. -/
def M.get (F : List (ByteArray × ByteArray)) (n : ByteArray) : Option ByteArray := (M.at_ n F 0).map (·.2)
set_option maxRecDepth 100000 in
theorem has_any (w : World) (B : Nat → Prop) (g : Nat) (D : Dk) (n : ByteArray) (h : Disk w B g D) :
    Calls Tryd.prog 35 #[.pointer (some ⟨g, 0, none⟩), .string n] w fun o w' => o = .returned (.bool (M.get D.files n).isSome) ∧ Fr w w' (fun _ => False) := by
  obtain ⟨bk, bf, cv, h1, h2, h3, h4, h5, h6, h7, h8, h9⟩ := h
  have c1 := cell_of_block h1 1 _ rfl
  have hlk := M.look h3 n true
  unfold M.get
  cases ha : M.at_ n D.files 0 with
  | none =>
    rw [ha] at hlk
    simp only [if_true, M.val] at hlk
    clear h1 h2 h3 h4 h5 h6 h7 h8 h9 ha
    go_enter Tryd.func35, Tryd.ntmps35
    go_wp2_with fail
    go_ret
    exact ⟨rfl, (Fr.refl _ _).alloc _⟩
  | some p =>
    rw [ha] at hlk
    simp only [if_true, M.val] at hlk
    clear h1 h2 h3 h4 h5 h6 h7 h8 h9 ha
    go_enter Tryd.func35, Tryd.ntmps35
    go_wp2_with fail
    go_ret
    exact ⟨rfl, (Fr.refl _ _).alloc _⟩
theorem field127 (s : ByteArray) (w : World) : (Instr.field 79 (.agg #[.string s]) 0).run Tryd.prog w = .ok (.string s) w := by kernel_rfl
/-- Files behind a change (one that writes, or one that appends). -/
def Ch.on (c : Ch) (F : List (ByteArray × ByteArray)) : List (ByteArray × ByteArray) :=
  if c.kind = 0 then M.put F c.name c.data else M.put F c.name ((M.get F c.name).getD ⟨#[]⟩ ++ c.data)
set_option maxRecDepth 100000 in
set_option maxHeartbeats 1000000 in
theorem on_any (w : World) (b : Nat) (c : Ch) (F : List (ByteArray × ByteArray)) (h : M.Is w b F) (hk : c.kind = 0 ∨ c.kind = 1) (hlen : c.data.size ≤ 1000000 ∧ ((M.get F c.name).getD ⟨#[]⟩).size ≤ 1000000) :
    Calls Tryd.prog 44 #[.agg #[.int .i64 c.kind, .string c.name, .string c.dest, .string c.data], .map (some b)] w fun o w' => o = .returned (.tuple #[]) ∧ M.Is w' b (c.on F) ∧ Fr w w' (fun x => x = b) := by
  obtain ⟨kk, nn, dd, da⟩ := c
  simp only at hk hlen ⊢
  have hI : ∀ ob, M.Is (w.alloc ob) b F := fun ob => h.kept (World.grownBy_alloc _ _ none) (by simp)
  have HI := hide hI
  rcases hk with rfl | rfl
  · unfold Ch.on
    simp only [if_true]
    clear h hI
    go_enter Tryd.func44, Tryd.ntmps44
    go_wp2_with (at_mapUpdate; go_must (refine M.wpList_update rfl (.tmp 8) (.tmp 10) (.tmp 13) rfl (b := b) (F := F) nn da rfl rfl rfl (HI.out _) ?_); intro w2 hI2 hg2)
    go_end0
    exact ⟨rfl, hI2, ((Fr.refl _ _).alloc _).grown hg2 (fun c e _ => (Option.some.inj e).symm)⟩
  · unfold Ch.on
    have hlk : ∀ ob, (Instr.lookup 45 (.map (some b)) (.string nn) false).run Tryd.prog (w.alloc ob) = .ok (.agg #[.string ((M.get F nn).getD ⟨#[]⟩)]) (w.alloc ob) := by
      intro ob
      rw [M.look (hI ob) nn false]
      unfold M.get
      cases M.at_ nn F 0 <;> rfl
    generalize hG : (M.get F nn).getD ⟨#[]⟩ = G at *
    simp only [show ¬ ((1 : Int) = 0) by decide, if_false]
    have hfd := fun w => field127 G w
    clear h hI hG
    go_enter Tryd.func44, Tryd.ntmps44
    go_wp2_with (at_mapUpdate; go_must (refine M.wpList_update rfl (.tmp 16) (.tmp 18) (.tmp 27) rfl (b := b) (F := F) nn (G ++ da) rfl rfl rfl (HI.out _) ?_); intro w2 hI2 hg2)
    go_end0
    exact ⟨rfl, hI2, ((Fr.refl _ _).alloc _).grown hg2 (fun c e _ => (Option.some.inj e).symm)⟩
def Dk.armed (D : Dk) (n : Int) : Dk := { D with left := n }

end Go.Proofs.YtlglomjodbjbaaaDoor
