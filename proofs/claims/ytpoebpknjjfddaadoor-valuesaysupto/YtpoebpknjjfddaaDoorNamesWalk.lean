/- The walk of Names: whatever the world, the call returns true, and nothing that was there has changed. No condition. -/
import Derived.Test.YtpoebpknjjfddaaDoorProg
import Derived.WalkKit
import Derived.WalkSpells
import Derived.WalkLawsBesides
import Derived.BigQuiet
import Derived.Deep.QuietTactic
import Derived.Deep.AppendLies
namespace Go.Proofs.YtpoebpknjjfddaaDoor
open Go.RowKit
theorem ta_errno (n : Int) (w : World) : (Instr.typeAssert (.iface 23 (.int .i64 n)) 27 23 true).run Tryd.prog w = .ok (.tuple #[.int .i64 n, .bool true]) w := by kernel_rfl
set_option maxRecDepth 100000 in
set_option maxHeartbeats 400000 in
theorem same_err (n f : Int) (w : World) :
    Calls Tryd.prog 5 #[.iface 23 (.int .i64 n), .int .i64 f] w fun e w' => e = .returned (.bool (decide (0 < f) && n == f)) ∧ w' = w := by
  have hta := ta_errno n
  by_cases h : 0 < f
  · go_enter Tryd.func5, Tryd.ntmps5
    go_wp2
    all_goals go_ret
    all_goals simp_all
  · go_enter Tryd.func5, Tryd.ntmps5
    go_wp2
    all_goals go_ret
    all_goals simp_all
    all_goals (intro _; omega)
set_option maxRecDepth 100000 in
set_option maxHeartbeats 400000 in
theorem same_nil (f : Int) (w : World) :
    Calls Tryd.prog 5 #[.nilIface, .int .i64 f] w fun e w' => e = .returned (.bool (f == 0)) ∧ w' = w := by
  go_enter Tryd.func5, Tryd.ntmps5
  go_wp2
  go_ret
  exact ⟨rfl, rfl⟩

set_option maxRecDepth 100000 in
set_option maxHeartbeats 400000 in
theorem sameNumbers_eq (b1 b2 n c1 c2 : Nat) (zs : List Int) (w : World) (hn : zs.length = n) (hb : n ≤ 1000)
    (h1 : ∀ k, k < n → w.cell? ⟨b1, k, none⟩ = some (.int .i64 (zs.getD k 0)))
    (h2 : ∀ k, k < n → w.cell? ⟨b2, k, none⟩ = some (.int .i64 (zs.getD k 0))) :
    Calls Tryd.prog 6 #[.slice (some ⟨b1, 0, none⟩) n c1, .slice (some ⟨b2, 0, none⟩) n c2] w fun e w' => e = .returned (.bool true) ∧ ∃ m, w' = w.drewN m := by
  have HN : Hid (zs.length = n) := hn
  clear hn
  go_enter Tryd.func6, Tryd.ntmps6
  go_wp2
  go_loopw [5] (fun i wr => ∃ k : Nat, k ≤ n ∧ i = .int .i64 k ∧ ∃ m, wr = w.drewN m) (fun i _ => n - (intOf i).toNat)
  case atStart => exact ⟨0, Nat.zero_le _, rfl, 0, rfl⟩
  case round =>
    obtain ⟨k, hk, rfl, m, rfl⟩ := hrel
    by_cases hlt : k < n
    · have c1 := h1 k hlt
      have c2 := h2 k hlt
      clear h1 h2
      go_wp2
      go_quiet (fail)
      go_wp2
      go_roundw
      case rel => exact ⟨k + 1, by omega, by go_num, _, rfl⟩
      case measure => simp [intOf]; omega
    · clear h1 h2
      go_wp2
      go_ret
      exact ⟨rfl, m, rfl⟩
def errText : ByteArray := ⟨#[119, 97, 118, 101, 119, 114, 105, 103, 104, 116, 58, 32, 101, 114, 114, 111, 114, 32, 49, 54]⟩
set_option maxRecDepth 100000 in
set_option maxHeartbeats 400000 in
theorem error_16 (w : World) :
    Calls Tryd.prog 7 #[.int .i64 16] w fun e w' => e = .returned (.string errText) ∧ w' = w := by
  go_enter Tryd.func7, Tryd.ntmps7
  go_wp2
  go_ret
  exact ⟨by kernel_rfl, rfl⟩

theorem errText_list : (errText.toList == [119, 97, 118, 101, 119, 114, 105, 103, 104, 116, 58, 32, 101, 114, 114, 111, 114, 32, 49, 54]) = true := by kernel_rfl
def numsA : Array Value := #[.int .i64 40, .int .i64 12, .int .i64 6, .int .i64 60, .int .i64 1000000000, .int .i64 8, .int .i64 8, .int .i64 6, .int .i64 4000, .int .i64 40, .int .i64 4000, .int .i64 400, .int .i64 40, .int .i64 4, .int .i64 80, .int .i64 300]
def numsB : Array Value := #[.int .i64 0, .int .i64 1, .int .i64 2, .int .i64 3, .int .i64 4, .int .i64 5, .int .i64 1, .int .i64 2, .int .i64 3, .int .i64 4, .int .i64 1, .int .i64 2, .int .i64 3, .int .i64 4, .int .i64 5, .int .i64 6, .int .i64 7, .int .i64 8, .int .i64 9, .int .i64 10, .int .i64 1, .int .i64 2, .int .i64 3]
theorem info3 : (Tryd.prog.info? 3).map (fun i => (i.zero, i.size, i.bytes)) = some (some (.int .i64 0), 1, 8) := by kernel_rfl
theorem news_of {w : World} {g : Nat} {cs : Array Value} {e : TypeId} {fr : Nat × Nat} (h : w.heap[g]? = some (.cells cs e fr)) : ∀ j u, cs.toList[j]? = some u → w.cell? ((⟨g, 0, none⟩ : Addr).add j) = some u := by
  intro j u hu
  have hadd : (⟨g, 0, none⟩ : Addr).add j = ⟨g, j, none⟩ := by unfold Addr.add; split <;> simp_all
  rw [hadd, cell_of_row w g j cs e fr h]
  simpa using hu
theorem news_alloc (w : World) (cs : Array Value) (e : TypeId) (g : Nat) (h : w.heap.size = g) : ∀ j u, cs.toList[j]? = some u → (w.alloc (.cells cs e)).cell? ((⟨g, 0, none⟩ : Addr).add j) = some u := by
  subst h
  exact news_of (heap_alloc_new w _)
def errsC : Array Value := #[.iface 23 (.int .i64 1), .iface 23 (.int .i64 2), .iface 23 (.int .i64 3), .iface 23 (.int .i64 4), .iface 23 (.int .i64 5), .iface 23 (.int .i64 6), .iface 23 (.int .i64 7), .iface 23 (.int .i64 8), .iface 23 (.int .i64 9), .iface 23 (.int .i64 10), .iface 23 (.int .i64 11), .iface 23 (.int .i64 12), .iface 23 (.int .i64 13), .iface 23 (.int .i64 14), .iface 23 (.int .i64 15), .iface 23 (.int .i64 16)]
def numsZ : List Int := [40, 12, 6, 60, 1000000000, 8, 8, 6, 4000, 40, 4000, 400, 40, 4, 80, 300, 0, 1, 2, 3, 4, 5, 1, 2, 3, 4, 1, 2, 3, 4, 5, 6, 7, 8, 9, 10, 1, 2, 3]
theorem numsZ_eq : numsA.toList ++ numsB.toList = numsZ.map (Value.int .i64) := rfl
theorem cells_numsZ {w : World} {base g cap : Nat} (h : w.ownsRow base 3 1 (.slice (some ⟨g, 0, none⟩) 39 cap) 39 (numsA.toList ++ numsB.toList)) : ∀ k, k < 39 → w.cell? ⟨g, k, none⟩ = some (.int .i64 (numsZ.getD k 0)) := by
  intro k hk
  rw [h.cellAt k (by omega), numsZ_eq, List.getElem?_map, List.getD_eq_getElem?_getD]
  have hl : k < numsZ.length := hk
  rw [List.getElem?_eq_getElem hl]
  rfl
theorem errsC_at (k : Nat) (h : k < 16) : errsC[k]? = some (.iface 23 (.int .i64 (k + 1))) := by
  match k, h with
  | 0, _ => rfl
  | 1, _ => rfl
  | 2, _ => rfl
  | 3, _ => rfl
  | 4, _ => rfl
  | 5, _ => rfl
  | 6, _ => rfl
  | 7, _ => rfl
  | 8, _ => rfl
  | 9, _ => rfl
  | 10, _ => rfl
  | 11, _ => rfl
  | 12, _ => rfl
  | 13, _ => rfl
  | 14, _ => rfl
  | 15, _ => rfl
  | n + 16, h => exact absurd h (by omega)
set_option maxRecDepth 100000 in
set_option maxHeartbeats 1000000 in
theorem names_true (w : World) :
    Calls Tryd.prog 3 #[] w fun e w' => e = .returned (.bool true) ∧ Below w.heap.size w w' := by
  obtain ⟨i0, hi, hz0, hz1, hz2⟩ := info_parts info3
  have o1 : (w.alloc (.cells numsA 3)).ownsRow w.heap.size 3 1 (.slice (some ⟨w.heap.size, 0, none⟩) 16 16) 16 numsA.toList := World.ownsRow_lit w numsA 16 (Nat.le_refl _) (by decide) rfl
  have HO : Hid (∀ x, ((w.alloc (.cells numsA 3)).alloc x).ownsRow w.heap.size 3 1 (.slice (some ⟨w.heap.size, 0, none⟩) 16 16) 16 numsA.toList) := fun x => o1.alloc x
  have HP : Hid (∀ x, (((w.alloc (.cells numsA 3)).alloc (.cells numsA 3)).alloc x).ownsRow w.heap.size 3 1 (.slice (some ⟨w.heap.size + 1, 0, none⟩) 16 16) 16 numsA.toList) := fun x => by
    have := World.ownsRow_lit (base := w.heap.size) (e := 3) (size := 1) (w.alloc (.cells numsA 3)) numsA 16 (by simp) (by decide) rfl
    simp only [World.size_alloc] at this
    exact this.alloc x
  clear o1
  go_enter Tryd.func3, Tryd.ntmps3
  go_wp2_with (first
    | (at_builtin; refine wpList_append_lies _ rfl (.tmp 7) (.tmp 8) 22 rfl w.heap.size 3 i0 (.int .i64 0) 1 8 Tryd.underlying22 hi hz0 hz1 hz2 rfl (by decide) (.slice (some ⟨w.heap.size, 0, none⟩) 16 16) 16 numsA.toList rfl ((HO.out _).alloc _) ⟨w.heap.size + 1 + 1, 0, none⟩ 23 23 numsB.toList rfl rfl (news_alloc _ _ _ _ (by simp)) (by decide) (by decide) (by decide) (by decide) (by simp only [World.size_alloc]; omega) _ rfl ?_; intro g cap w1 hown hgrow hat hlt; have HP1 := (Hid.out HP _).kept hgrow (.inr (by show some _ ≠ some _; simp)))
    | (at_builtin; go_must (refine wpList_append_lies _ rfl (.tmp 10) (.tmp 11) 22 rfl w.heap.size 3 i0 (.int .i64 0) 1 8 Tryd.underlying22 hi hz0 hz1 hz2 rfl (by decide) (.slice (some ⟨w.heap.size + 1, 0, none⟩) 16 16) 16 numsA.toList rfl (HP1.alloc _) ⟨w1.heap.size, 0, none⟩ 23 23 numsB.toList rfl rfl (news_alloc _ _ _ _ rfl) (by decide) (by decide) (by decide) (by decide) (by have := hgrow.size; simp at this ⊢; omega) _ rfl ?_); intro g2 cap2 w2 hown2 hgrow2 hat2 hlt2))
  have hne : g ≠ w.heap.size + 1 := by
    rcases hat with h | h
    · have h' : w.heap.size = g := Option.some.inj h
      omega
    · rw [h]; simp only [World.size_alloc]; omega
  have hF := ((hown.alloc (.cells numsB 3)).kept hgrow2 (.inr (by show some g ≠ some _; simpa using hne))).alloc (.cells errsC 27)
  have hG := hown2.alloc (.cells errsC 27)
  have hB : Below w.heap.size w (w2.alloc (.cells errsC 27)) := by
    have b1 : Below w.heap.size w (((w.alloc (.cells numsA 3)).alloc (.cells numsA 3)).alloc (.cells numsB 3)) :=
      (((Below.refl _ _).alloc (Nat.le_refl _) _).alloc (by simp) _).alloc (by simp only [World.size_alloc]; omega) _
    have b2 : Below w.heap.size w w1 := b1.grown hgrow (by simp only [World.size_alloc]; omega) (fun k hk => by obtain rfl := Option.some.inj hk; exact Nat.le_refl _)
    have b3 := b2.alloc b2.size (.cells numsB 3)
    have b4 : Below w.heap.size w w2 := b3.grown hgrow2 b3.size (fun k hk => by obtain rfl := Option.some.inj hk; exact Nat.le_succ _)
    exact b4.alloc b4.size _
  have HE : ∀ k, k < 16 → (w2.alloc (.cells errsC 27)).cell? ⟨w2.heap.size, k, none⟩ = some (.iface 23 (.int .i64 (k + 1))) := by
    intro k hk
    rw [cell_of_row _ w2.heap.size k errsC 27 (0, 0) (heap_alloc_new w2 _)]
    exact errsC_at k hk
  have hs3 : w2.heap.size < (w2.alloc (.cells errsC 27)).heap.size := by simp
  change ∀ k, k < 16 → (w2.alloc (.cells #[.iface 23 (.int .i64 1), .iface 23 (.int .i64 2), .iface 23 (.int .i64 3), .iface 23 (.int .i64 4), .iface 23 (.int .i64 5), .iface 23 (.int .i64 6), .iface 23 (.int .i64 7), .iface 23 (.int .i64 8), .iface 23 (.int .i64 9), .iface 23 (.int .i64 10), .iface 23 (.int .i64 11), .iface 23 (.int .i64 12), .iface 23 (.int .i64 13), .iface 23 (.int .i64 14), .iface 23 (.int .i64 15), .iface 23 (.int .i64 16)] 27)).cell? ⟨w2.heap.size, k, none⟩ = some (.iface 23 (.int .i64 (k + 1))) at HE
  simp only [errsC] at hF hG hB hs3
  generalize w2.alloc (.cells #[.iface 23 (.int .i64 1), .iface 23 (.int .i64 2), .iface 23 (.int .i64 3), .iface 23 (.int .i64 4), .iface 23 (.int .i64 5), .iface 23 (.int .i64 6), .iface 23 (.int .i64 7), .iface 23 (.int .i64 8), .iface 23 (.int .i64 9), .iface 23 (.int .i64 10), .iface 23 (.int .i64 11), .iface 23 (.int .i64 12), .iface 23 (.int .i64 13), .iface 23 (.int .i64 14), .iface 23 (.int .i64 15), .iface 23 (.int .i64 16)] 27) = w3 at *
  have HE' : Hid (∀ k : Nat, k < 16 → w3.cell? ⟨w2.heap.size, k, none⟩ = some (.iface 23 (.int .i64 (k + 1)))) := HE
  clear HE
  clear hown hown2 hgrow hgrow2 hat hat2 HP1 HP HO hne
  go_loop [4] (fun i => ∃ k : Nat, k ≤ 16 ∧ i = .int .i64 k) (fun i => 16 - (intOf i).toNat)
  case atStart => exact ⟨0, by omega, rfl⟩
  case round =>
    obtain ⟨k, hk, rfl⟩ := hrel
    by_cases hlt : k < 16
    · have hc := HE'.out k hlt
      go_wp2_with (go_at_call 5; refine (same_err _ _ _).mono ?_; rintro e w' ⟨rfl, rfl⟩)
      go_round
      case rel => exact ⟨k + 1, by omega, by go_num⟩
      case measure => simp [intOf]; omega
    · go_wp2_with fail
      refine (sameNumbers_eq g g2 39 cap cap2 numsZ w3 rfl (by decide) (cells_numsZ hF) (cells_numsZ hG)).mono ?_
      rintro e w' ⟨rfl, m, rfl⟩
      go_wp2_with (go_at_call 7; refine (error_16 _).mono ?_; rintro e w' ⟨rfl, rfl⟩)
      go_ret
      exact ⟨congrArg (fun b => Ending.returned (.bool b)) errText_list, below_drewN hB _⟩
end Go.Proofs.YtpoebpknjjfddaaDoor
