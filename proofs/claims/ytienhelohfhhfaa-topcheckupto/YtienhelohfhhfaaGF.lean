/- graph.ready: those that need just what is done. -/
import Derived.Test.YtienhelohfhhfaaGE
namespace Go.Proofs.Ytienhelohfhhfaa
open Go.RowKit
attribute [local go_sem ↓] Go.wp_at_zero Go.wp_at_succ
open Gr (Ints Lists Bools hide cells On)
namespace Gr
/-- A graph that can be read. -/
def Graf (w : World) (b : Nat) (LN LU : List (List Int)) : Prop := ∃ vn vu, w.cell? ⟨b, 0, none⟩ = some vn ∧ w.cell? ⟨b, 1, none⟩ = some vu ∧ Lists w vn LN ∧ Lists w vu LU
theorem Graf.kept {w w' : World} {B b : Nat} {LN LU : List (List Int)} (h : Graf w b LN LU) (hb : Below B w w') (hB : w.heap.size ≤ B) : Graf w' b LN LU := by
  obtain ⟨vn, vu, h1, h2, h3, h4⟩ := h
  exact ⟨vn, vu, cell_kept hb hB h1, cell_kept hb hB h2, h3.kept hb hB, h4.kept hb hB⟩
/-- Numbers, as they lie in memory. -/
def ofN (l : List Nat) : List Int := l.map Int.ofNat
theorem ofN_length (l : List Nat) : (ofN l).length = l.length := by simp [ofN]
theorem ofN_append (l m : List Nat) : ofN (l ++ m) = ofN l ++ ofN m := by simp [ofN]
theorem ofN_get {l : List Nat} {i x : Nat} (h : l[i]? = some x) : (ofN l)[i]? = some (x : Int) := by rw [ofN, List.getElem?_map, h]; rfl
/-- The lists of a net of n things. -/
def lists (N : Net) (n : Nat) : List (List Int) := (List.range n).map (fun i => ofN (N i))
theorem lists_length (N : Net) (n : Nat) : (lists N n).length = n := by simp [lists]
theorem lists_get (N : Net) (n i : Nat) (h : i < n) : (lists N n)[i]? = some (ofN (N i)) := by
  rw [lists, List.getElem?_map, List.getElem?_range h]; rfl
/-- Is the flag set? -/
def onb (S : List Bool) (i : Nat) : Bool := S[i]? == some true
theorem onb_iff {S : List Bool} {i : Nat} : onb S i = true ↔ On S i := by unfold onb On; rw [beq_iff_eq]
/-- Those below k that are not done, and need just what is done. -/
def rdy (S : List Bool) (N : Net) (k : Nat) : List Nat := (List.range k).filter (fun i => !onb S i && (N i).all (onb S))
theorem rdy_succ (S : List Bool) (N : Net) (k : Nat) : rdy S N (k + 1) = if (!onb S k && (N k).all (onb S)) = true then rdy S N k ++ [k] else rdy S N k := by
  unfold rdy
  rw [List.range_succ, List.filter_append]
  by_cases h : (!onb S k && (N k).all (onb S)) = true
  · rw [if_pos h]; simp [h]
  · rw [if_neg h]; simp [h]
theorem rdy_le (S : List Bool) (N : Net) (k : Nat) : (rdy S N k).length ≤ k := by
  have := List.length_filter_le (fun i => !onb S i && (N i).all (onb S)) (List.range k)
  rwa [List.length_range] at this
/-- A list of lists, read at one place. -/
theorem Lists.at {w : World} {v : Value} {N : Net} {n i : Nat} (h : Lists w v (lists N n)) (hi : i < n) : ∃ b off cap u, v = .slice (some ⟨b, off, none⟩) n cap ∧ w.cell? ⟨b, off + i, none⟩ = some u ∧ Ints w u (ofN (N i)) := by
  obtain ⟨ao, cap, rfl, h⟩ := h
  rw [lists_length]
  rcases h with h | ⟨b, off, rfl, h⟩
  · have := lists_length N n
    rw [h] at this
    simp at this
    omega
  · obtain ⟨u, h1, h2⟩ := h i _ (lists_get N n i hi)
    exact ⟨b, off, cap, u, rfl, h1, h2⟩
end Gr
theorem owns_lower {w : World} {base base' : Nat} {e : TypeId} {size : Nat} {v : Value} {n : Nat} {xs : List Value} (h : w.ownsRow base e size v n xs) (hb : base' ≤ base) : w.ownsRow base' e size v n xs := by
  refine ⟨h.1, ?_⟩
  rcases h.2 with h | ⟨g, cap, cur, h1, h2, h3⟩
  · exact .inl h
  · exact .inr ⟨g, cap, cur, h1, by omega, h3⟩
theorem Gr.Flags.kept {w w' : World} {B D : Nat} {S : List Bool} (h : Gr.Flags w D S) (hb : Below B w w') (hB : w.heap.size ≤ B) : Gr.Flags w' D S := by
  obtain ⟨u, h1, h2⟩ := h
  exact ⟨u, Gr.cell_kept hb hB h1, h2.kept hb hB⟩
open Gr (ofN lists onb rdy Graf)
set_option maxRecDepth 100000 in
set_option maxHeartbeats 1000000 in
theorem ready_any (N : Gr.Net) (n b : Nat) (LU : List (List Int)) (S : List Bool) (dv : Value) (w : World) (hn : n ≤ 1000) (hS : S.length = n) (hG : Graf w b (lists N n) LU) (hD : Bools w dv S)
    (hN : ∀ i, i < n → ∀ j ∈ N i, j < n) (hl : ∀ i, i < n → (N i).length ≤ 1000) :
    Calls Try.prog 36 #[.pointer (some ⟨b, 0, none⟩), dv] w fun e w' => (∃ v, e = .returned v ∧ Ints w' v (ofN (rdy S N n)) ∧ w'.ownsRow w.heap.size 3 1 v (rdy S N n).length (cells (ofN (rdy S N n)))) ∧ Below w.heap.size w w' := by
  obtain ⟨i0, hi0, hz0, hz1, hz2⟩ := info_parts info3
  obtain ⟨ad, cd, rfl, hD0⟩ := id hD
  rw [hS] at hD ⊢
  have hb1 : Below w.heap.size w (w.alloc (.cells #[.slice ad n cd] 86)) := (Below.refl _ _).alloc (Nat.le_refl _) _
  have hsz1 : (w.alloc (.cells #[.slice ad n cd] 86)).heap.size = w.heap.size + 1 := by simp
  have hF : Gr.Flags (w.alloc (.cells #[.slice ad n cd] 86)) w.heap.size S := ⟨.slice ad n cd, by simp, hD.kept hb1 (Nat.le_refl _)⟩
  obtain ⟨vn, vu, hc0, _, hL, _⟩ := hG
  obtain ⟨an, cn, rfl, _⟩ := id hL
  rw [Gr.lists_length] at hc0 hL
  have hblt : b < w.heap.size := World.block_lt_of_cell? w _ hc0
  have HF := hide hF
  have HL := hide (hL.kept hb1 (Nat.le_refl _))
  have HB1 := hide hb1
  have HSZ := hide hsz1
  have HS := hide hS
  clear hF hD hD0 hL hb1 hsz1 hS
  go_enter Try.func36, Try.ntmps36
  go_wp2_with fail
  go_loopw [15, 5, 7, 8] (fun i v _ _ wr => ∃ (k : Nat) (ao : Option Addr) (cap : Nat), k ≤ n ∧ i = .int .i64 k ∧ v = .slice ao (rdy S N k).length cap ∧ wr.ownsRow (w.heap.size + 1) 3 1 (.slice ao (rdy S N k).length cap) (rdy S N k).length (cells (ofN (rdy S N k))) ∧ Below (w.heap.size + 1) (w.alloc (.cells #[.slice ad n cd] 86)) wr) (fun i _ _ _ _ => n - (intOf i).toNat)
  case atStart => exact ⟨0, none, 0, Nat.zero_le _, rfl, rfl, World.ownsRow_nil _ _ _ _, Below.refl _ _⟩
  case round =>
    obtain ⟨k, ao, cap, hk, rfl, rfl, hown, hB⟩ := hrel
    have hBs := hB.size
    rw [HSZ.out] at hBs
    by_cases hlt : k < n
    · obtain ⟨bN, oN, cN, u, e1, cu, hu⟩ := (HL.out.kept hB (by rw [HSZ.out]; exact Nat.le_refl _)).at hlt
      simp only [Value.slice.injEq] at e1
      obtain ⟨rfl, _, rfl⟩ := e1
      obtain ⟨au, cpu, rfl, _⟩ := id hu
      rw [Gr.ofN_length] at cu hu
      have hFr : Gr.Flags wr w.heap.size S := HF.out.kept hB (by rw [HSZ.out]; exact Nat.le_refl _)
      have hcB : wr.cell? ⟨w.heap.size, 0, none⟩ = some (.slice ad n cd) := Gr.cell_kept hB (by rw [HSZ.out]; exact Nat.le_refl _) (by simp)
      obtain ⟨c, hc⟩ := getElem_some (l := S) (k := k) (by rw [HS.out]; exact hlt)
      obtain ⟨bD, oD, rfl, hcc⟩ : ∃ bD oD, ad = some ⟨bD, oD, none⟩ ∧ wr.cell? ⟨bD, oD + k, none⟩ = some (.bool c) := by
        obtain ⟨u', g1, ao', cap', rfl, g2⟩ := hFr
        rw [hcB] at g1
        simp only [Option.some.injEq, Value.slice.injEq] at g1
        obtain ⟨rfl, _, rfl⟩ := g1
        rcases g2 with g2 | ⟨bD, oD, rfl, g2⟩
        · rw [g2] at hc; simp at hc
        · exact ⟨bD, oD, rfl, g2 k c hc⟩
      have hrl := Gr.rdy_le S N k
      have hsc := Gr.rdy_succ S N k
      have honb : onb S k = c := by unfold onb; rw [hc]; cases c <;> rfl
      rw [honb] at hsc
      have hBB : Below w.heap.size w wr := HB1.out.trans (hB.mono (by omega))
      have HOW := hide hown
      have HB := hide hB
      have HFR := hide hFr
      have HU := hide hu
      have HSC := hide hsc
      clear hown hB hFr hu hsc hc honb
      cases c
      · cases hall : (N k).all (onb S)
        · have hcf := containsFunc_any (.slice au (N k).length cpu) (N k) w.heap.size S wr (by have := hl k hlt; omega) HU.out HFR.out (fun x hx => by rw [HS.out]; exact hN k hlt x hx) true (by
            rw [List.all_eq_false] at hall
            obtain ⟨x, h1, h2⟩ := hall
            exact ⟨fun _ => ⟨x, h1, fun h => h2 (Gr.onb_iff.2 h)⟩, fun _ => rfl⟩)
          have HCF := hide hcf
          have HALL := hide hall
          clear hcf hall
          go_wp2_with (go_at_call 53; refine HCF.out.mono ?_; rintro e w' ⟨rfl, hw⟩; rw [hw]; clear hw w')
          go_roundw
          case rel =>
            refine ⟨k + 1, ao, cap, by omega, by go_num, ?_, ?_, HB.out⟩
            · rw [HSC.out, HALL.out]; rfl
            · rw [HSC.out, HALL.out]; exact HOW.out
          case measure => simp [intOf]; omega
        · have hcf := containsFunc_any (.slice au (N k).length cpu) (N k) w.heap.size S wr (by have := hl k hlt; omega) HU.out HFR.out (fun x hx => by rw [HS.out]; exact hN k hlt x hx) false (by
            rw [List.all_eq_true] at hall
            exact ⟨fun h => absurd h (by decide), fun ⟨x, h1, h2⟩ => absurd (Gr.onb_iff.1 (hall x h1)) h2⟩)
          have HCF := hide hcf
          have HALL := hide hall
          clear hcf hall
          go_wp2_with (first | (go_at_call 53; refine HCF.out.mono ?_; rintro e w' ⟨rfl, hw⟩; rw [hw]; clear hw w') | (at_builtin; go_must (refine wpList_append_lies _ rfl (.tmp 31) (.tmp 33) 37 rfl (w.heap.size + 1) 3 i0 (.int .i64 0) 1 8 Try.underlying37 hi0 hz0 hz1 hz2 rfl (by decide) (.slice ao (rdy S N k).length cap) (rdy S N k).length (cells (ofN (rdy S N k))) rfl (HOW.out.alloc _) ⟨wr.heap.size, 0, none⟩ 1 1 [.int .i64 k] rfl rfl (news_alloc _ #[.int .i64 k] _ _ rfl) (by simp [Value.oneCell']) (by decide) (by unfold maxLen; omega) (by omega) (by simp; omega) _ rfl ?_); intro g cap' w4 hown4 hgrow hat hlt4))
          go_roundw
          case rel =>
            have e2 : rdy S N (k + 1) = rdy S N k ++ [k] := by rw [HSC.out, HALL.out]; rfl
            refine ⟨k + 1, some ⟨g, 0, none⟩, cap', by omega, by go_num, ?_, ?_, (HB.out.alloc (by omega) _).grown hgrow (by simp; omega) (fun k hk => (HOW.out.lt k hk).1)⟩
            · rw [e2, List.length_append]; rfl
            · rw [e2, List.length_append, Gr.ofN_append, Gr.cells_append]; exact hown4
          case measure => simp [intOf]; omega
      · go_wp2_with fail
        go_roundw
        case rel =>
          refine ⟨k + 1, ao, cap, by omega, by go_num, ?_, ?_, HB.out⟩
          · rw [HSC.out]; rfl
          · rw [HSC.out]; exact HOW.out
        case measure => simp [intOf]; omega
    · have hkk : k = n := by omega
      subst hkk
      go_wp2_with fail
      go_ret
      refine ⟨⟨_, rfl, ?_, ?_⟩, HB1.out.trans (hB.mono (by omega))⟩
      · refine Ints.of_owns (base := w.heap.size + 1) (e := 3) ?_
        rw [Gr.ofN_length]; exact hown
      · exact owns_lower hown (by omega)
end Go.Proofs.Ytienhelohfhhfaa
