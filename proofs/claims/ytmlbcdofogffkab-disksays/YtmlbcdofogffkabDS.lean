/- walog.Records. -/
import Derived.Test.YtmlbcdofogffkabDR
namespace Go.Proofs.Ytmlbcdofogffkab
open Go.RowKit
attribute [local go_sem ↓] Go.wp_at_zero Go.wp_at_succ
theorem strs_one (R : List ByteArray) : ∀ u ∈ strs R, u.oneCell' = true := by
  intro u hu
  obtain ⟨x, _, rfl⟩ := List.mem_map.1 hu
  rfl
theorem eq_nil (b n c : Nat) (w : World) : (binOp BinOp.eql 27 (.slice (some ⟨b, 0, none⟩) n c) (.slice none 0 0)).run Try.prog w = .ok (.bool false) w := by kernel_rfl
set_option maxRecDepth 100000 in
set_option maxHeartbeats 1000000 in
theorem clone_any (w : World) (v : Value) (R : List ByteArray) (h : w.ownsRow 0 9 1 v R.length (strs R)) (hR : R ≠ []) (hl : R.length ≤ 100000) :
    Calls Try.prog 97 #[v] w fun o w' => ∃ u, o = .returned u ∧ w'.ownsRow w.heap.size 9 1 u R.length (strs R) ∧ Fr w w' (fun _ => False) := by
  have hlen : 0 < R.length := by cases R with | nil => exact absurd rfl hR | cons a t => simp
  rcases h.2 with ⟨rfl, h0⟩ | ⟨gr, cap, cur, rfl, _, hg, _⟩
  · omega
  · obtain ⟨i0, hi0, hz0, hz1, hz2⟩ := info_parts info9
    have hown0 : (w.alloc (.cells #[] 9)).ownsRow w.heap.size 9 1 (.slice (some ⟨w.heap.size, 0, none⟩) 0 0) 0 [] := ⟨rfl, .inr ⟨w.heap.size, 0, #[], rfl, Nat.le_refl _, heap_alloc_new _ _, Nat.le_refl _, Nat.zero_le _, rfl, rfl⟩⟩
    have hnews : ∀ j u, (strs R)[j]? = some u → (w.alloc (.cells #[] 9)).cell? ((⟨gr, 0, none⟩ : Addr).add j) = some u := by
      intro j u hu
      exact kept_cell ((Below.refl _ _).alloc (Nat.le_refl _) _) (h.cells (g := gr) rfl j u hu)
    have HN := hide hnews
    have HO := hide hown0
    have hsl : (strs R).length = R.length * 1 := by simp [strs]
    have HFA : Hid (∀ wA, (w.alloc (.cells #[] 9)).grownBy wA (Value.slice (some ⟨w.heap.size, 0, none⟩) 0 0).ownBlock → Fr w wA (fun _ => False)) := fun wA hgr => ((Fr.refl w _).alloc _).grown hgr (fun c e hc => by simp [Value.ownBlock] at e; omega)
    clear hnews hown0 h hg
    have hen := eq_nil gr R.length cap w
    go_enter Try.func97, Try.ntmps97
    go_wp2_with (at_builtin; go_must (refine wpList_append_lies _ rfl (.tmp 5) (.tmp 6) 27 rfl w.heap.size 9 i0 (.string ⟨#[]⟩) 1 16 u27 hi0 hz0 hz1 hz2 rfl (by decide) (.slice (some ⟨w.heap.size, 0, none⟩) 0 0) 0 [] rfl HO.out ⟨gr, 0, none⟩ R.length cap (strs R) rfl hsl HN.out (strs_one R) hlen (by unfold maxLen; omega) (by omega) (by simp) _ rfl ?_); intro gA capA wA hownA hgrow hat hltA)
    go_ret
    refine ⟨_, rfl, ?_, HFA.out wA hgrow⟩
    simpa using hownA
set_option maxRecDepth 100000 in
theorem records_any (w : World) (B : Nat → Prop) (q g : Nat) (n : ByteArray) (R : List ByteArray) (h : Logs w B q g n R) (hR : R ≠ []) (hl : R.length ≤ 100000) :
    Calls Try.prog 51 #[.pointer (some ⟨q, 0, none⟩)] w fun o w' => ∃ u, o = .returned u ∧ w'.ownsRow w.heap.size 9 1 u R.length (strs R) ∧ Fr w w' (fun _ => False) := by
  obtain ⟨rv, h1, h2, h3, h4⟩ := h
  have hc := clone_any w rv R h2 hR hl
  have c2 := cell_of_block h1 2 _ rfl
  obtain ⟨av, cp, rfl⟩ := owns_shape h2
  have HC := hide hc
  clear hc h1 h2 h3 h4
  go_enter Try.func51, Try.ntmps51
  go_wp2_with fail
  refine HC.out.mono ?_
  rintro o w1 ⟨u, rfl, ho, hf⟩
  obtain ⟨a2, c3, rfl⟩ := owns_shape ho
  have HO := hide ho
  have HF := hide hf
  clear ho hf
  go_wp2_with fail
  go_ret
  exact ⟨_, rfl, HO.out, HF.out⟩
end Go.Proofs.Ytmlbcdofogffkab
