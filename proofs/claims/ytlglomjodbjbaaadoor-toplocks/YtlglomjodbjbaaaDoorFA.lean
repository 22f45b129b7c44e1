/- Files out of maps; a change of any kind. -/
import Derived.Test.YtlglomjodbjbaaaDoorDI
namespace Go.Proofs.YtlglomjodbjbaaaDoor
open Go.RowKit
attribute [local go_sem ↓] Go.wp_at_zero Go.wp_at_succ
namespace M
open MapKept ChangeMaps
/-- A file taken out. -/
def del (F : List (ByteArray × ByteArray)) (n : ByteArray) : List (ByteArray × ByteArray) :=
  match at_ n F 0 with
  | some p => F.eraseIdx p.1
  | none => F
theorem Stamps.drop {es : Array MapEntry} {c : Nat} (h : Stamps es c) (j : Nat) (hj : j < es.size) : Stamps (es.eraseIdxIfInBounds j) c := by
  have e : (es.eraseIdxIfInBounds j).toList = es.toList.eraseIdx j := by
    unfold Array.eraseIdxIfInBounds
    rw [dif_pos hj]; simp
  refine ⟨fun x hx => h.1 x ?_, ?_⟩
  · rw [e] at hx
    exact (List.eraseIdx_sublist _ _).subset hx
  · rw [e]
    exact (List.eraseIdx_sublist _ _).map _ |>.nodup h.2
theorem delete {w : World} {b : Nat} {F : List (ByteArray × ByteArray)} (h : Is w b F) (n : ByteArray) (ty : TypeId) :
    ∃ w', (Builtin.delete_ #[45, 9] ty #[.map (some b), .string n]).run Tryd.prog w = .ok (.tuple #[]) w' ∧ Is w' b (del F n) ∧ w.grownBy w' (some b) := by
  obtain ⟨es, c, hb, hF, hS⟩ := h
  have hf := find_run n es F w hF
  cases ha : at_ n F 0 with
  | none =>
    rw [ha] at hf
    refine ⟨ChangeMaps.setBlock w b (.map es c), ?_, ⟨_, _, heap_setBlock_same hb _, ?_, hS⟩, ⟨rfl, rfl, rfl, by simp [ChangeMaps.setBlock], fun i _ hi => heap_setBlock_other hb _ (fun e => hi (by rw [e]))⟩⟩
    · simp [Builtin.delete_, run_underlying u112, MapKept.run_getObj_map hb, key_run, hf, MapKept.run_setObj_map _ hb, Result.andThen, ChangeMaps.setBlock]
    · unfold del
      rw [ha]
      exact hF
  | some p =>
    rw [ha] at hf
    obtain ⟨j, x, h1, h2, h3, h4⟩ := at_spec n F 0 p ha
    have hj : p.1 = j := by omega
    have hje : j < es.size := by
      have h5 := congrArg List.length hF
      simp at h5
      rw [h5]; exact (List.getElem?_eq_some_iff.1 h2).1
    refine ⟨setBlock w b (.map (es.eraseIdxIfInBounds j) c), ?_, ⟨_, _, heap_setBlock_same hb _, ?_, hS.drop j hje⟩, ⟨rfl, rfl, rfl, by simp [setBlock], fun i _ hi => heap_setBlock_other hb _ (fun e => hi (by rw [e]))⟩⟩
    · simp [Builtin.delete_, run_underlying u112, MapKept.run_getObj_map hb, key_run, hf, MapKept.run_setObj_map _ hb, Result.andThen, setBlock, hj]
    · unfold del
      rw [ha]
      simp only
      rw [hj]
      have e : (es.eraseIdxIfInBounds j).toList = es.toList.eraseIdx j := by
        unfold Array.eraseIdxIfInBounds
        rw [dif_pos hje]; simp
      rw [e]
      have e2 : ∀ {α β : Type} (g : α → β) (l : List α) (j : Nat), (l.eraseIdx j).map g = (l.map g).eraseIdx j := by
        intro α β g l
        induction l with
        | nil => intro j; rfl
        | cons a t ih =>
          intro j
          cases j with
          | zero => rfl
          | succ j => simp [ih]
      rw [e2, e2, hF]
end M
/-- Files behind a change of any kind. -/
def Ch.act (c : Ch) (F : List (ByteArray × ByteArray)) : List (ByteArray × ByteArray) :=
  if c.kind = 0 then M.put F c.name c.data else if c.kind = 1 then M.put F c.name ((M.get F c.name).getD ⟨#[]⟩ ++ c.data) else if c.kind = 2 then M.del (M.put F c.dest ((M.get F c.name).getD ⟨#[]⟩)) c.name else M.del F c.name
/-- What a change may be. -/
def Ch.kinds (c : Ch) : Prop := c.kind = 0 ∨ c.kind = 1 ∨ c.kind = 2 ∨ c.kind = 3
set_option maxRecDepth 100000 in
set_option maxHeartbeats 1000000 in
theorem act_any (w : World) (b : Nat) (c : Ch) (F : List (ByteArray × ByteArray)) (h : M.Is w b F) (hk : c.kinds) (hlen : c.data.size ≤ 1000000 ∧ ((M.get F c.name).getD ⟨#[]⟩).size ≤ 1000000) :
    Calls Tryd.prog 44 #[.agg #[.int .i64 c.kind, .string c.name, .string c.dest, .string c.data], .map (some b)] w fun o w' => o = .returned (.tuple #[]) ∧ M.Is w' b (c.act F) ∧ Fr w w' (fun x => x = b) := by
  have h01 : c.kind = 0 ∨ c.kind = 1 → c.act F = c.on F := by
    intro e
    unfold Ch.act Ch.on
    rcases e with e | e
    · rw [if_pos e, if_pos e]
    · rw [if_neg (show ¬ c.kind = 0 by omega), if_pos e, if_neg (show ¬ c.kind = 0 by omega)]
  rcases hk with hk | hk | hk | hk
  · rw [h01 (.inl hk)]; exact on_any w b c F h (.inl hk) hlen
  · rw [h01 (.inr hk)]; exact on_any w b c F h (.inr hk) hlen
  · obtain ⟨kk, nn, dd, da⟩ := c
    simp only at hk hlen ⊢
    subst hk
    have hI : ∀ ob, M.Is (w.alloc ob) b F := fun ob => h.kept (World.grownBy_alloc _ _ none) (by simp)
    have HI := hide hI
    unfold Ch.act
    simp only [show ¬ ((2 : Int) = 0) by decide, show ¬ ((2 : Int) = 1) by decide, if_false, if_true]
    have hlk : ∀ ob, (Instr.lookup 45 (.map (some b)) (.string nn) false).run Tryd.prog (w.alloc ob) = .ok (.agg #[.string ((M.get F nn).getD ⟨#[]⟩)]) (w.alloc ob) := by
      intro ob
      rw [M.look (hI ob) nn false]
      unfold M.get
      cases M.at_ nn F 0 <;> rfl
    generalize hG : (M.get F nn).getD ⟨#[]⟩ = G at *
    have HLT := hide h.lt
    clear h hI hG
    have HC : Hid (∀ w2, (w.alloc (.cells #[.int .i64 2, .string nn, .string dd, .string da] 68)).grownBy w2 (some b) → w2.cell? ⟨w.heap.size, 1, none⟩ = some (.string nn)) := by
      intro w2 hg
      have h1 := hg.block w.heap.size (by simp) (fun e => by
        have : w.heap.size = b := by simpa using e
        have := HLT.out
        omega)
      exact cell_of_block (h1.trans (heap_alloc_new _ _)) 1 _ rfl
    go_enter Tryd.func44, Tryd.ntmps44
    go_wp2_with (at_mapUpdate; go_must (refine M.wpList_update rfl (.tmp 30) (.tmp 32) (.tmp 36) rfl (b := b) (F := F) dd G rfl rfl rfl (HI.out _) ?_); intro w2 hI2 hg2; have c1 := HC.out w2 hg2)
    obtain ⟨w3, hrun, hI3, hg3⟩ := M.delete hI2 nn 0
    rw [hrun]
    clear hrun
    go_wp2_with fail
    go_end0
    exact ⟨rfl, hI3, (((Fr.refl _ _).alloc _).grown hg2 (fun c e _ => (Option.some.inj e).symm)).grown hg3 (fun c e _ => (Option.some.inj e).symm)⟩
  · obtain ⟨kk, nn, dd, da⟩ := c
    simp only at hk hlen ⊢
    subst hk
    have hI : ∀ ob, M.Is (w.alloc ob) b F := fun ob => h.kept (World.grownBy_alloc _ _ none) (by simp)
    have HI := hide hI
    unfold Ch.act
    simp only [show ¬ ((3 : Int) = 0) by decide, show ¬ ((3 : Int) = 1) by decide, show ¬ ((3 : Int) = 2) by decide, if_false]
    clear h hI
    go_enter Tryd.func44, Tryd.ntmps44
    go_wp2_with fail
    obtain ⟨w3, hrun, hI3, hg3⟩ := M.delete (HI.out _) nn 0
    rw [hrun]
    clear hrun
    go_wp2_with fail
    go_end0
    exact ⟨rfl, hI3, ((Fr.refl _ _).alloc _).grown hg3 (fun c e _ => (Option.some.inj e).symm)⟩
end Go.Proofs.YtlglomjodbjbaaaDoor
