/- For WalogSays: walog's Clear. -/
import Derived.Test.YtmlbcdofogffkabEB
namespace Go.Proofs.Ytmlbcdofogffkab
open Go.RowKit
attribute [local go_sem ↓] Go.wp_at_zero Go.wp_at_succ
/-- The change that Clear makes. -/
def clrCh (n : ByteArray) : Ch := ⟨0, n, ⟨#[]⟩, ⟨#[]⟩⟩
set_option maxRecDepth 100000 in
set_option maxHeartbeats 1000000 in
theorem clear_any (w : World) (B B2 : Nat → Prop) (q g : Nat) (n : ByteArray) (R : List ByteArray) (D : Dk) (h : Disk w B g D) (hl : Logs w B2 q g n R) (hB : ∀ x, B x → x < w.heap.size) (hBl : ∀ x, B2 x → x < w.heap.size) (hB2 : ∀ x, B2 x → ¬ B x) (hF : D.Fits n) (hn : n.size ≤ 1000) (hF2 : (D.did (clrCh n)).Fits n) (hk : D.fit n 0 = 0) (h1 : ¬ D.fails) (h2 : ¬ (D.did (clrCh n)).fails) :
    Calls Try.prog 53 #[.pointer (some ⟨q, 0, none⟩)] w fun o w' => o = .returned .nilIface ∧ Both w w' B B2 q g n (D.wrote (clrCh n)) [] ∧ Fr w w' (fun x => B x ∨ B2 x) := by
  have hrw := rewrite_any w B B2 q g n ⟨#[]⟩ R D h hl hB hB2 hF hn (by decide) hF2
  have HRW := hide hrw
  have HL := hide hl
  clear hrw
  go_enter Try.func53, Try.ntmps53
  go_wp2_with fail
  refine HRW.out.mono ?_
  rintro o w1 ⟨⟨B', hK, hB'⟩, hf1⟩
  have hmain : o = .returned .nilIface ∧ Disk w1 B' g (D.wrote (clrCh n)) := by
    rcases hK with ⟨a, _⟩ | ⟨_, ⟨a, _⟩ | ⟨_, a, _⟩ | ⟨_, _, a, b⟩⟩
    · exact absurd hk a
    · exact absurd a h1
    · exact absurd a h2
    · exact ⟨a, b⟩
  obtain ⟨rfl, hD1⟩ := hmain
  have hL1 := hl.fr hf1 hB2
  obtain ⟨rv, b1, _, b3, b4⟩ := id hL1
  have c2 := cell_of_block b1 2 _ rfl
  have f2 := free_of_block b1 2
  have c3 := cell_of_block b1 3 _ rfl
  have f3 := free_of_block b1 3
  have hq : q < w.heap.size := hBl q b3
  have hs2 := Fr.set2 w1 q 2 3 (.slice none 0 0) (.int .i64 0)
  have hnB : ¬ B' q := fun e => by
    rcases hB' q e with e | e
    · exact hB2 q b3 e
    · omega
  have hD2 := hD1.fr hs2 (fun c hc e => hnB (by rw [← e]; exact hc))
  have hbl := block_set (i := 3) (block_set (i := 2) b1 (.slice none 0 0)) (.int .i64 0)
  have hL2 : Logs ((w1.setCell ⟨q, 2, none⟩ (.slice none 0 0)).setCell ⟨q, 3, none⟩ (.int .i64 0)) B2 q g n [] := ⟨.slice none 0 0, hbl, World.ownsRow_nil .., b3, fun c hc => by cases hc⟩
  have hfin : Fr w ((w1.setCell ⟨q, 2, none⟩ (.slice none 0 0)).setCell ⟨q, 3, none⟩ (.int .i64 0)) (fun x => B x ∨ B2 x) := (hf1.weak (fun c _ e => .inl e)).trans hs2 (fun c _ e => .inr (by rw [e]; exact b3))
  have hsz := hf1.size
  have hboth : Both w ((w1.setCell ⟨q, 2, none⟩ (.slice none 0 0)).setCell ⟨q, 3, none⟩ (.int .i64 0)) B B2 q g n (D.wrote (clrCh n)) [] := by
    refine ⟨_, B2, hD2.shrink, hL2, fun x hx => ⟨hB' x hx.1, hx.2⟩, fun x hx => ⟨.inl hx, by have := hBl x hx; simp; omega⟩, fun x hx e => ?_⟩
    rcases hB' x e.1 with e | e
    · exact hB2 x hx e
    · have := hBl x hx; omega
  have HBOTH := hide hboth
  have HFIN := hide hfin
  clear hboth hfin hL2 hbl hD2 hs2 hL1 b1 hD1 hF hF2 h hl hB hBl hB2 hnB hB'
  go_wp2_with fail
  go_ret
  exact ⟨rfl, HBOTH.out, HFIN.out⟩
end Go.Proofs.Ytmlbcdofogffkab
