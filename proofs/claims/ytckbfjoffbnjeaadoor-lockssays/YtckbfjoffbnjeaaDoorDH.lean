/- disk: Sync. -/
import Derived.Test.YtckbfjoffbnjeaaDoorDG
namespace Go.Proofs.YtckbfjoffbnjeaaDoor
open Go.RowKit
attribute [local go_sem ↓] Go.wp_at_zero Go.wp_at_succ
theorem Disk.cut {w : World} {B : Nat → Prop} {g : Nat} {D : Dk} (h : Disk w B g D) : Disk (w.setCell ⟨g, 2, none⟩ (.slice none 0 0)) B g { D with chg := [] } := by
  obtain ⟨bk, bf, cv, h1, h2, h3, h4, h5, h6, h7, h8, h9⟩ := h
  have hset := Fr.set1 w g 2 (.slice none 0 0)
  have hk : bk ≠ g := fun e => by
    obtain ⟨es, c, hb, _⟩ := h2
    rw [e, h1] at hb; cases hb
  have hf2 : bf ≠ g := fun e => by
    obtain ⟨es, c, hb, _⟩ := h3
    rw [e, h1] at hb; cases hb
  exact ⟨bk, bf, .slice none 0 0, block_set (i := 2) h1 _, is_fr h2 hset hk, is_fr h3 hset hf2, World.ownsRow_nil .., h5, h6, h7, h8, fun c hc => by cases hc⟩
/-- Behind a Sync. -/
def Dk.synced (D : Dk) : Dk := { D.step with kept := D.keepTo D.chg.length, chg := [] }
set_option maxRecDepth 100000 in
set_option maxHeartbeats 1000000 in
theorem sync_any (w : World) (B : Nat → Prop) (g : Nat) (D : Dk) (h : Disk w B g D) (hs : 0 ≤ D.steps ∧ D.steps ≤ 1000000) (hl : -9223372036854775808 ≤ D.left ∧ D.left ≤ 9223372036854775807) (hch : D.chg.length ≤ 100000) (hk : ∀ c ∈ D.chg, c.kind = 0 ∨ c.kind = 1) (hsz : ∀ k c, k < D.chg.length → D.chg[k]? = some c → c.data.size ≤ 1000000 ∧ ((M.get (D.keepTo k) c.name).getD ⟨#[]⟩).size ≤ 1000000) :
    Calls Tryd.prog 39 #[.pointer (some ⟨g, 0, none⟩)] w fun o w' => ((D.fails ∧ o = .returned (.iface 59 (.int .i64 10)) ∧ Disk w' B g D.fell) ∨ (¬ D.fails ∧ o = .returned .nilIface ∧ Disk w' B g D.synced)) ∧ Fr w w' B := by
  have hst := step_any w B g D h hs hl
  have hBg : B g := by obtain ⟨_, _, _, _, _, _, _, _, h6, _⟩ := h; exact h6
  have K : Hid (∀ w1, Disk w1 B g D.step → Calls Tryd.prog 54 #[.pointer (some ⟨g, 0, none⟩), .int .i64 D.chg.length] w1 fun o w' => o = .returned (.tuple #[]) ∧ Disk w' B g { D.step with kept := D.keepTo D.chg.length } ∧ Fr w1 w' B) :=
    fun w1 h1 => keep_any w1 B g D.step D.chg.length h1 (Nat.le_refl _) hch hk hsz
  have HST := hide hst
  clear hst h hsz hk hs hl
  go_enter Tryd.func39, Tryd.ntmps39
  go_wp2_with fail
  refine HST.out.mono ?_
  rintro o w1 ⟨hst1, hf1⟩
  rcases hst1 with ⟨hfa, rfl, hD1⟩ | ⟨hnf, rfl, hD1⟩
  · have HFA := hide hfa
    have HD1 := hide hD1
    have HF1 := hide hf1
    clear hfa hD1 hf1
    go_wp2_with fail
    go_ret
    exact ⟨.inl ⟨HFA.out, rfl, HD1.out⟩, HF1.out.weak (fun c _ e => by rw [e]; exact hBg)⟩
  · have HK := hide (K.out w1 hD1)
    obtain ⟨bk, bf, cv, h1, h2, h3, h4, h5, h6, h7, h8, h9⟩ := hD1
    obtain ⟨av, cp, rfl⟩ := owns_shape h4
    have c2 := cell_of_block h1 2 _ rfl
    have HNF := hide hnf
    have HF1 := hide hf1
    clear hnf hf1 h1 h2 h3 h4 h5 h6 h7 h8 h9 K
    have e1 : D.step.chg.length = D.chg.length := rfl
    rw [e1] at c2
    go_wp2_with fail
    refine HK.out.mono ?_
    rintro o w2 ⟨rfl, hD2, hf2⟩
    have HC := hide hD2.cut
    obtain ⟨bk, bf, cv, h1, h2, h3, h4, h5, h6, h7, h8, h9⟩ := hD2
    have c3 := cell_of_block h1 2 _ rfl
    have f3 := free_of_block h1 2
    have HF2 := hide hf2
    clear hf2 h1 h2 h3 h4 h5 h6 h7 h8 h9 c2
    go_wp2_with fail
    go_ret
    refine ⟨.inr ⟨HNF.out, rfl, HC.out⟩, ?_⟩
    exact ((HF1.out.weak (ex1 := B) (fun c _ e => by rw [e]; exact hBg)).trans HF2.out (fun _ _ e => e)).set ⟨g, 2, none⟩ _ (fun _ => hBg)
end Go.Proofs.YtckbfjoffbnjeaaDoor
