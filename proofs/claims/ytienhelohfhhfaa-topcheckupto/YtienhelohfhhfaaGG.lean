/- graph.Waves. -/
import Derived.Test.YtienhelohfhhfaaGF
import Derived.Laws.MakeOwn
namespace Go.Proofs.Ytienhelohfhhfaa
open Go.RowKit
attribute [local go_sem ↓] Go.wp_at_zero Go.wp_at_succ
open Gr (Ints Lists Bools hide cells On ofN lists onb rdy Graf wave left D)
theorem made_one (z : Value) (hz : z.cells = #[z]) (n : Nat) : madeCells z.cells n = (List.replicate n z).toArray := by
  rw [hz]
  apply Array.toList_inj.1
  apply List.ext_getElem
  · simp [madeCells]
  · intro i h1 h2
    simp [madeCells, Nat.mod_one]
theorem info4 : (Try.prog.info? 4).map (fun i => (i.zero, i.size, i.bytes)) = some (some (.bool false), 1, 1) := by kernel_rfl
theorem info37 : (Try.prog.info? 37).map (fun i => (i.zero, i.size, i.bytes)) = some (some (.slice none 0 0), 1, 24) := by kernel_rfl
theorem make_bools (n : Nat) (hn : n ≤ 1000) (w : World) : (Instr.makeSlice 86 (.int .i64 (n : Int)) (.int .i64 (n : Int))).run Try.prog w = .ok (.slice (some ⟨w.heap.size, 0, none⟩) n n) (w.alloc (.cells (List.replicate n (.bool false)).toArray 4)) := by
  obtain ⟨i0, hi0, hz0, hz1, hz2⟩ := info_parts info4
  have := run_make (P := Try.prog) w 86 4 i0 (.bool false) Try.underlying86 hi0 hz0 .i64 .i64 n n (by omega) (by omega) (by rw [hz2]; omega) (by omega)
  rw [this, hz1, Int.toNat_natCast, Nat.mul_one, made_one _ rfl]
theorem make_lists (n : Nat) (hn : n ≤ 1000) (w : World) : (Instr.makeSlice 36 (.int .i64 (n : Int)) (.int .i64 (n : Int))).run Try.prog w = .ok (.slice (some ⟨w.heap.size, 0, none⟩) n n) (w.alloc (.cells (List.replicate n (.slice none 0 0)).toArray 37)) := by
  obtain ⟨i0, hi0, hz0, hz1, hz2⟩ := info_parts info37
  have := run_make (P := Try.prog) w 36 37 i0 (.slice none 0 0) Try.underlying36 hi0 hz0 .i64 .i64 n n (by omega) (by omega) (by rw [hz2]; omega) (by omega)
  rw [this, hz1, Int.toNat_natCast, Nat.mul_one, made_one _ rfl]
namespace Gr
/-- The flags of n things. -/
def flg (n : Nat) (p : Nat → Bool) : List Bool := (List.range n).map p
theorem flg_length (n : Nat) (p : Nat → Bool) : (flg n p).length = n := by simp [flg]
theorem flg_get (n : Nat) (p : Nat → Bool) (i : Nat) (h : i < n) : (flg n p)[i]? = some (p i) := by
  rw [flg, List.getElem?_map, List.getElem?_range h]; rfl
theorem flg_onb (n : Nat) (p : Nat → Bool) (i : Nat) (h : i < n) : onb (flg n p) i = p i := by
  unfold onb; rw [flg_get n p i h]; cases p i <;> rfl
theorem flg_congr (n : Nat) (p q : Nat → Bool) (h : ∀ i, i < n → p i = q i) : flg n p = flg n q := by
  unfold flg; apply List.map_congr_left; intro i hi; exact h i (List.mem_range.1 hi)
theorem flg_set (n : Nat) (p : Nat → Bool) (x : Nat) : (flg n p).set x true = flg n (fun i => p i || i == x) := by
  apply List.ext_getElem
  · simp [flg]
  · intro i h1 h2
    have hi : i < n := by simpa [flg] using h1
    rw [List.getElem_set]
    by_cases h : x = i
    · subst h; simp [flg]
    · rw [if_neg h]
      have : (i == x) = false := by simp; omega
      simp [flg, this]
/-- Flags as cells. -/
def bits (S : List Bool) : Array Value := (S.map (fun b => Value.bool b)).toArray
theorem Bools.of_bits {w : World} {g n : Nat} {S : List Bool} {t : TypeId} (h : w.heap[g]? = some (.cells (bits S) t (0, 0))) (hn : S.length = n) : Bools w (.slice (some ⟨g, 0, none⟩) n n) S := by
  subst hn
  refine ⟨_, _, rfl, .inr ⟨g, 0, rfl, fun i x hx => ?_⟩⟩
  rw [Nat.zero_add]
  exact row_cell (V := S.map (fun b => Value.bool b)) h (by rw [List.getElem?_map, hx]; rfl)
theorem bits_set {w : World} {g i : Nat} {S : List Bool} {t : TypeId} (h : w.heap[g]? = some (.cells (bits S) t (0, 0))) : (w.setCell ⟨g, i, none⟩ (.bool true)).heap[g]? = some (.cells (bits (S.set i true)) t (0, 0)) := by
  have := row_set (i := i) (V := S.map (fun b => Value.bool b)) (.bool true) h
  rw [this]; unfold bits; rw [List.map_set]
theorem rdy_wave (N : Net) (n k : Nat) (hN : ∀ i, i < n → ∀ j ∈ N i, j < n) : rdy (flg n (D N k)) N n = wave N n k := by
  unfold rdy wave
  apply List.filter_congr
  intro i hi
  rw [List.mem_range] at hi
  rw [flg_onb n _ i hi, D_succ]
  congr 1
  apply Bool.eq_iff_iff.2
  rw [List.all_eq_true, List.all_eq_true]
  constructor
  · intro h j hj; rw [← flg_onb n (D N k) j (hN i hi j hj)]; exact h j hj
  · intro h j hj; rw [flg_onb n (D N k) j (hN i hi j hj)]; exact h j hj
theorem flg_next (N : Net) (n k : Nat) : flg n (fun i => D N k i || (wave N n k).contains i) = flg n (D N (k + 1)) := by
  apply flg_congr
  intro i hi
  cases h : D N k i with
  | true => rw [D_up N k i h]; rfl
  | false =>
    rw [Bool.false_or]
    apply Bool.eq_iff_iff.2
    rw [List.contains_iff_mem, mem_wave]
    constructor
    · exact fun h => h.2.2
    · exact fun h2 => ⟨hi, h, h2⟩
/-- Two rows of other elements do not lie in one block. -/
theorem apart {w : World} {b1 b2 e1 e2 s1 s2 : Nat} {v u : Value} {n m : Nat} {xs ys : List Value} (h1 : w.ownsRow b1 e1 s1 v n xs) (h2 : w.ownsRow b2 e2 s2 u m ys) (hne : e1 ≠ e2) : v.ownBlock = none ∨ v.ownBlock ≠ u.ownBlock := by
  rcases h1.2 with ⟨rfl, _⟩ | ⟨g, cap, cur, rfl, _, hg, _⟩
  · exact .inl rfl
  · right
    rcases h2.2 with ⟨rfl, _⟩ | ⟨g', cap', cur', rfl, _, hg', _⟩
    · simp [Value.ownBlock]
    · intro e
      have : g = g' := by simpa [Value.ownBlock] using e
      subst this
      rw [hg] at hg'
      simp at hg'
      exact hne hg'.2
/-- The waves as they are kept: a row of slices, each with its own row. -/
structure Kept (w : World) (base : Nat) (v : Value) (N : Net) (n k : Nat) (V : List Value) : Prop where
  row : w.ownsRow base 37 1 v k V
  own : ∀ j u, V[j]? = some u → w.ownsRow base 3 1 u (wave N n j).length (cells (ofN (wave N n j)))
theorem Kept.len {w : World} {base : Nat} {v : Value} {N : Net} {n k : Nat} {V : List Value} (h : Kept w base v N n k V) : V.length = k := by have := h.row.1; omega
theorem Kept.keep {w w' : World} {base : Nat} {v : Value} {N : Net} {n k : Nat} {V : List Value} (h : Kept w base v N n k V) {row : Option Nat} (hg : w.grownBy w' row) (hr : ∀ c, row = some c → c < base) : Kept w' base v N n k V := by
  have key : ∀ {e : TypeId} {u : Value} {m : Nat} {xs : List Value}, w.ownsRow base e 1 u m xs → u.ownBlock = none ∨ u.ownBlock ≠ row := by
    intro e u m xs ho
    cases hb : u.ownBlock with
    | none => exact .inl rfl
    | some c =>
      right
      have h1 := (ho.lt c hb).1
      intro e
      have := hr c e.symm
      omega
  exact ⟨h.row.kept hg (key h.row), fun j u hu => (h.own j u hu).kept hg (key (h.own j u hu))⟩
theorem Kept.more {w w' : World} {base : Nat} {v v' u : Value} {N : Net} {n k : Nat} {V : List Value} (h : Kept w base v N n k V) (hu : w.ownsRow base 3 1 u (wave N n k).length (cells (ofN (wave N n k))))
    (hr : w'.ownsRow base 37 1 v' (k + 1) (V ++ [u])) (hg : w.grownBy w' v.ownBlock) : Kept w' base v' N n (k + 1) (V ++ [u]) := by
  refine ⟨hr, fun j x hx => ?_⟩
  by_cases hj : j < k
  · rw [List.getElem?_append_left (by rw [h.len]; exact hj)] at hx
    exact (h.own j x hx).kept hg (apart (h.own j x hx) h.row (by decide))
  · rw [List.getElem?_append_right (by rw [h.len]; omega), h.len] at hx
    have hjk : j = k := by
      have := (List.getElem?_eq_some_iff.1 hx).1
      simp at this
      omega
    subst hjk
    simp at hx
    subst hx
    exact hu.kept hg (apart hu h.row (by decide))
theorem Kept.lists {w : World} {base : Nat} {v : Value} {N : Net} {n k : Nat} {V : List Value} (h : Kept w base v N n k V) : Lists w v ((List.range k).map (fun j => ofN (wave N n j))) := by
  have hl : ((List.range k).map (fun j => ofN (wave N n j))).length = k := by simp
  rcases h.row.2 with ⟨rfl, h0⟩ | ⟨g, cap, cur, rfl, _, hg, _⟩
  · subst h0
    exact ⟨none, 0, rfl, .inl rfl⟩
  · refine ⟨some ⟨g, 0, none⟩, cap, by rw [hl], .inr ⟨g, 0, rfl, fun i l hi => ?_⟩⟩
    have hik : i < k := by
      have := (List.getElem?_eq_some_iff.1 hi).1
      rwa [hl] at this
    rw [List.getElem?_map, List.getElem?_range hik] at hi
    cases hi
    obtain ⟨u, hu⟩ := getElem_some (l := V) (k := i) (by rw [h.len]; exact hik)
    have := h.row.cells (g := g) rfl i u hu
    rw [addr_add] at this
    refine ⟨u, by rw [Nat.zero_add]; exact this, Ints.of_owns (base := base) (e := 3) ?_⟩
    rw [ofN_length]; exact h.own i u hu
end Gr
theorem or_more (p : Bool) (l : List Nat) (x i : Nat) : ((p || l.contains i) || i == x) = (p || (l ++ [x]).contains i) := by
  rw [Bool.or_assoc]
  congr 1
  apply Bool.eq_iff_iff.2
  simp only [Bool.or_eq_true, List.contains_iff_mem, List.mem_append, List.mem_singleton, beq_iff_eq]
theorem bits_new (n : Nat) (N : Gr.Net) : (List.replicate n (Value.bool false)).toArray = Gr.bits (Gr.flg n (D N 0)) := by
  unfold Gr.bits Gr.flg
  congr 1
  apply List.ext_getElem
  · simp
  · intro i h1 h2; simp [D]
set_option maxRecDepth 100000 in
set_option maxHeartbeats 2000000 in
theorem waves_any (N : Gr.Net) (n b : Nat) (LU : List (List Int)) (w : World) (hn : n ≤ 1000) (hG : Graf w b (lists N n) LU)
    (hN : ∀ i, i < n → ∀ j ∈ N i, j < n) (hl : ∀ i, i < n → (N i).length ≤ 1000) :
    Calls Try.prog 17 #[.pointer (some ⟨b, 0, none⟩)] w fun e w' => (∃ k, Gr.Ends N n k ∧ ((left N n k = 0 ∧ ∃ v, e = .returned (.tuple #[v, .nilIface]) ∧ Lists w' v ((List.range k).map (fun j => ofN (wave N n j)))) ∨
      (left N n k ≠ 0 ∧ e = .returned (.tuple #[.slice none 0 0, .iface 68 (.int .i64 8)])))) ∧ Below w.heap.size w w' := by
  obtain ⟨i0, hi0, hz0, hz1, hz2⟩ := info_parts info37
  have hmk := make_bools n hn
  have hG0 := hG
  obtain ⟨vn, vu, hc0, _, hL, _⟩ := hG
  obtain ⟨an, cn, rfl, _⟩ := id hL
  rw [Gr.lists_length] at hc0
  have hblt : b < w.heap.size := World.block_lt_of_cell? w _ hc0
  have HG := hide hG0
  clear hL hG0
  have hM : (w.alloc (.cells (List.replicate n (.bool false)).toArray 4)).heap[w.heap.size]? = some (.cells (Gr.bits (Gr.flg n (D N 0))) 4 (0, 0)) := by
    rw [← bits_new]; exact heap_alloc_new w _
  have hBM : Below w.heap.size w (w.alloc (.cells (List.replicate n (.bool false)).toArray 4)) := (Below.refl _ _).alloc (Nat.le_refl _) _
  have hsM : w.heap.size + 1 ≤ (w.alloc (.cells (List.replicate n (.bool false)).toArray 4)).heap.size := by simp
  have HM := hide hM
  have HBM := hide hBM
  have HSM := hide hsM
  clear hM hBM hsM
  go_enter Try.func17, Try.ntmps17
  go_wp2_with fail
  go_loopw [4, 6, 7, 9] (fun vw vl _ _ wr => ∃ (k : Nat) (ao : Option Addr) (cap : Nat) (V : List Value), vw = .slice ao k cap ∧ vl = .int .i64 (left N n k) ∧ (∀ j, j < k → wave N n j ≠ []) ∧ Gr.Kept wr (w.heap.size + 1) (.slice ao k cap) N n k V ∧
      wr.heap[w.heap.size]? = some (.cells (Gr.bits (Gr.flg n (D N k))) 4 (0, 0)) ∧ Below w.heap.size w wr ∧ w.heap.size + 1 ≤ wr.heap.size) (fun _ vl _ _ _ => (intOf vl).toNat)
  case atStart => exact ⟨0, none, 0, [], rfl, by rw [Gr.left_zero], fun j hj => absurd hj (by omega), ⟨World.ownsRow_nil _ _ _ _, fun j u hu => by simp at hu⟩, HM.out, HBM.out, HSM.out⟩
  case round =>
    obtain ⟨k, ao, cap, V, rfl, rfl, hne, hK, hF, hB, hsz⟩ := hrel
    clear HM HBM HSM hmk
    have hls := Gr.left_split N n k
    have hlf := Gr.length_flat N n k
    have hkl := Gr.le_flat N n k hne
    by_cases hl0 : left N n k = 0
    · have HL0 := hide hl0
      have HK := hide hK
      have HB := hide hB
      have HNE := hide hne
      rw [hl0]
      clear hl0 hK hB hne hls hlf hkl
      go_wp2_with fail
      go_ret2
      exact ⟨⟨k, ⟨HNE.out, .inl HL0.out⟩, .inl ⟨HL0.out, _, rfl, HK.out.lists⟩⟩, HB.out⟩
    · have hr := ready_any N n b LU (Gr.flg n (D N k)) (.slice (some ⟨w.heap.size, 0, none⟩) n n) wr hn (Gr.flg_length _ _) (HG.out.kept hB (Nat.le_refl _)) (Gr.Bools.of_bits hF (Gr.flg_length _ _)) hN hl
      rw [Gr.rdy_wave N n k hN] at hr
      have HR := hide hr
      have HK := hide hK
      have HB := hide hB
      have HNE := hide hne
      have HF := hide hF
      clear hr hK hB hne hF
      by_cases hwv : wave N n k = []
      · have HWV := hide hwv
        have HL0 := hide hl0
        have hw0 : (wave N n k).length = 0 := by rw [hwv]; rfl
        clear hwv hls hlf hkl
        go_wp2_with (go_at_call 36; refine HR.out.mono ?_; rintro e w1 ⟨⟨v, rfl, ⟨av, cv, rfl, _⟩, hO1⟩, hB1⟩; rw [Gr.ofN_length, hw0]; have HB1 := hide hB1; clear hB1 hO1)
        go_ret2
        exact ⟨⟨k, ⟨HNE.out, .inr ⟨HL0.out, HWV.out⟩⟩, .inr ⟨HL0.out, rfl⟩⟩, HB.out.trans (HB1.out.mono (by omega))⟩
      · have hwp : 0 < (wave N n k).length := List.length_pos_iff.2 hwv
        have HWV := hide hwv
        have hwn : ∀ x ∈ wave N n k, x < n := fun x hx => (Gr.mem_wave.1 hx).1
        have HWN := hide hwn
        have hs0 := Gr.flg_next N n k
        have HS0 := hide hs0
        generalize hW : wave N n k = W at *
        have HWW := hide hW
        clear hW hwv hwn hs0
        go_wp2_with (go_at_call 36; refine HR.out.mono ?_; rintro e w1 ⟨⟨v, rfl, hI1, hO1⟩, hB1⟩; obtain ⟨gv, cv, rfl, hgv, hgl⟩ := hO1.form hwp; have HO1 := hide hO1; have HB1 := hide hB1; have hs1 := hB1.size; have hF1 := (hB1.block w.heap.size (by omega)).trans HF.out; have HF1 := hide hF1; clear hI1 hO1 hB1 hF1)
        go_loopw [29, 9] (fun vi _ wx => ∃ j : Nat, j ≤ W.length ∧ vi = .int .i64 j ∧ w1.grownBy wx (some w.heap.size) ∧ wx.heap[w.heap.size]? = some (.cells (Gr.bits (Gr.flg n (fun i => D N k i || (W.take j).contains i))) 4 (0, 0))) (fun vi _ _ => W.length - (intOf vi).toNat)
        case atStart => exact ⟨0, Nat.zero_le _, rfl, ⟨rfl, rfl, rfl, Nat.le_refl _, fun _ _ _ => rfl⟩, by rw [Gr.flg_congr n _ (D N k) (fun i _ => by simp)]; exact HF1.out⟩
        case round =>
          obtain ⟨j, hj, rfl, hg, hfx⟩ := hrel
          by_cases hjl : j < W.length
          · obtain ⟨x, hx⟩ := getElem_some hjl
            have hxn := HWN.out x (List.mem_of_getElem? hx)
            have cv1 : wr.cell? ⟨gv, j, none⟩ = some (.int .i64 x) := by
              have h1 := HO1.out.cells (g := gv) rfl j (.int .i64 x) (by rw [cells, List.getElem?_map, Gr.ofN_get hx]; rfl)
              rw [Gr.addr_add] at h1
              exact hg.cell h1 (by simp; omega)
            have cd : wr.cell? ⟨w.heap.size, x, none⟩ = some (.bool (D N k x || (W.take j).contains x)) := by
              refine Gr.row_cell (V := (Gr.flg n (fun i => D N k i || (W.take j).contains i)).map (fun b => Value.bool b)) hfx ?_
              rw [List.getElem?_map, Gr.flg_get _ _ _ hxn]; rfl
            have fd : wr.frozen? ⟨w.heap.size, x, none⟩ = false := Gr.row_free (V := (Gr.flg n (fun i => D N k i || (W.take j).contains i)).map (fun b => Value.bool b)) hfx
            have HFX := hide hfx
            have HGX := hide hg
            have HX := hide hx
            clear hfx hg hx
            go_wp2_with fail
            go_roundw
            case rel =>
              refine ⟨j + 1, by omega, by go_num, ?_, ?_⟩
              · exact grown_trans HGX.out ⟨rfl, rfl, rfl, by simp, fun c _ hc => Below.heap_setCell _ _ _ c (fun e => hc (by rw [e]))⟩
              · rw [Gr.bits_set HFX.out, Gr.flg_set]
                congr 3
                apply Gr.flg_congr
                intro i _
                rw [take_next HX.out]
                exact or_more _ _ _ _
            case measure => simp [intOf]; omega
          · have hjj : j = W.length := by omega
            subst hjj
            rw [List.take_length, HS0.out] at hfx
            have hgs := hg.size
            have hK1 := (HK.out.keep (row := none) ⟨HB1.out.os, HB1.out.tape, HB1.out.output, HB1.out.size, fun c hc _ => HB1.out.block c hc⟩ (fun c hc => by simp at hc)).keep hg (fun c hc => by simp at hc; omega)
            have hO2 := owns_lower (HO1.out.kept hg (by right; simp [Value.ownBlock]; omega)) (show w.heap.size + 1 ≤ _ from hsz)
            have hBx : Below w.heap.size w wr := (HB.out.trans (HB1.out.mono (by omega))).trans ⟨hg.os, hg.tape, hg.output, hg.size, fun c hc => hg.block c (by omega) (by simp; omega)⟩
            have HK1 := hide hK1
            have HO2 := hide hO2
            have HBX := hide hBx
            have HFX := hide hfx
            clear hK1 hO2 hBx hfx hg
            have hwl : W.length ≤ n := by omega
            go_wp2_with (at_builtin; go_must (refine wpList_append_lies _ rfl (.tmp 41) (.tmp 43) 36 rfl (w.heap.size + 1) 37 i0 (.slice none 0 0) 1 24 Try.underlying36 hi0 hz0 hz1 hz2 rfl (by decide) (.slice ao k cap) k V rfl (HK1.out.row.alloc _) ⟨wr.heap.size, 0, none⟩ 1 1 [.slice (some ⟨gv, 0, none⟩) W.length cv] rfl rfl (news_alloc _ #[.slice (some ⟨gv, 0, none⟩) W.length cv] _ _ rfl) (by simp [Value.oneCell']) (by decide) (by unfold maxLen; omega) (by omega) (by simp; omega) _ rfl ?_); intro g cap' w4 hown4 hgrow hat hlt4)
            go_roundw
            case rel =>
              have hga : wr.grownBy (wr.alloc (.cells #[.slice (some ⟨gv, 0, none⟩) W.length cv] 37)) none := World.grownBy_alloc wr _ _
              have hgw : wr.grownBy w4 (Value.slice ao k cap).ownBlock := grown_trans (World.grownBy_alloc wr _ _) hgrow
              refine ⟨k + 1, some ⟨g, 0, none⟩, cap', V ++ [.slice (some ⟨gv, 0, none⟩) W.length cv], rfl, by go_num, ?_, ?_, ?_, ?_, ?_⟩
              · intro j hj
                by_cases e : j = k
                · rw [e, HWW.out]; exact HWV.out
                · exact HNE.out j (by omega)
              · exact HK1.out.more (by rw [HWW.out]; exact HO2.out) hown4 hgw
              · rw [hgw.block w.heap.size (by omega) (fun e => by have := (HK1.out.row.lt _ e.symm).1; omega)]; exact HFX.out
              · exact HBX.out.grown hgw (by omega) (fun c hc => by have := (HK1.out.row.lt _ hc).1; omega)
              · have := hgw.size; omega
            case measure => simp [intOf]; omega
end Go.Proofs.Ytienhelohfhhfaa
