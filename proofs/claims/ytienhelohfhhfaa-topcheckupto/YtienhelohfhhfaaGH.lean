/- graph.numbers; the search's closure. -/
import Derived.Test.YtienhelohfhhfaaGG
namespace Go.Proofs.Ytienhelohfhhfaa
open Go.RowKit
attribute [local go_sem ↓] Go.wp_at_zero Go.wp_at_succ
open Gr (Ints Lists Bools hide cells On ofN lists onb Graf Dfs Mid Got)
set_option maxRecDepth 100000 in
set_option maxHeartbeats 400000 in
theorem numbers_any (S : List Bool) (dv : Value) (w : World) (hS : S.length ≤ 1000) (hD : Bools w dv S) :
    Calls Try.prog 56 #[dv] w fun e w' => (∃ v, e = .returned v ∧ Ints w' v (ofN (Gr.nums S))) ∧ Below w.heap.size w w' := by
  obtain ⟨i0, hi0, hz0, hz1, hz2⟩ := info_parts info3
  obtain ⟨ad, cd, rfl, hD0⟩ := id hD
  have HD := hide hD
  clear hD hD0
  go_enter Try.func56, Try.ntmps56
  go_wp2_with fail
  go_loopw [7, 3, 4] (fun i v _ wr => ∃ (k : Nat) (ao : Option Addr) (cap : Nat), k ≤ S.length ∧ i = .int .i64 k ∧ v = .slice ao (Gr.numsTo S k).length cap ∧ wr.ownsRow w.heap.size 3 1 (.slice ao (Gr.numsTo S k).length cap) (Gr.numsTo S k).length (cells (ofN (Gr.numsTo S k))) ∧ Below w.heap.size w wr) (fun i _ _ _ => S.length - (intOf i).toNat)
  case atStart => exact ⟨0, none, 0, Nat.zero_le _, rfl, rfl, World.ownsRow_nil _ _ _ _, Below.refl _ _⟩
  case round =>
    obtain ⟨k, ao, cap, hk, rfl, rfl, hown, hB⟩ := hrel
    have hBs := hB.size
    by_cases hlt : k < S.length
    · obtain ⟨c, hc⟩ := getElem_some hlt
      obtain ⟨bD, oD, rfl, hcc⟩ : ∃ bD oD, ad = some ⟨bD, oD, none⟩ ∧ wr.cell? ⟨bD, oD + k, none⟩ = some (.bool c) := by
        obtain ⟨ao', cap', e1, g2⟩ := HD.out.kept hB (Nat.le_refl _)
        simp only [Value.slice.injEq] at e1
        obtain ⟨rfl, _, rfl⟩ := e1
        rcases g2 with g2 | ⟨bD, oD, rfl, g2⟩
        · rw [g2] at hc; simp at hc
        · exact ⟨bD, oD, rfl, g2 k c hc⟩
      have hrl := Gr.numsTo_le S k
      have hsc := Gr.numsTo_succ S k
      rw [hc] at hsc
      have HOW := hide hown
      have HB := hide hB
      have HSC := hide hsc
      clear hown hB hsc hc
      cases c
      · go_wp2_with fail
        go_roundw
        case rel =>
          refine ⟨k + 1, ao, cap, by omega, by go_num, ?_, ?_, HB.out⟩
          · rw [HSC.out]; rfl
          · rw [HSC.out]; exact HOW.out
        case measure => simp [intOf]; omega
      · go_wp2_with (at_builtin; go_must (refine wpList_append_lies _ rfl (.tmp 14) (.tmp 16) 37 rfl w.heap.size 3 i0 (.int .i64 0) 1 8 Try.underlying37 hi0 hz0 hz1 hz2 rfl (by decide) (.slice ao (Gr.numsTo S k).length cap) (Gr.numsTo S k).length (cells (ofN (Gr.numsTo S k))) rfl (HOW.out.alloc _) ⟨wr.heap.size, 0, none⟩ 1 1 [.int .i64 k] rfl rfl (news_alloc _ #[.int .i64 k] _ _ rfl) (by simp [Value.oneCell']) (by decide) (by unfold maxLen; omega) (by omega) (by simp; omega) _ rfl ?_); intro g cap' w4 hown4 hgrow hat hlt4)
        go_roundw
        case rel =>
          have e2 : Gr.numsTo S (k + 1) = Gr.numsTo S k ++ [k] := by rw [HSC.out]; rfl
          refine ⟨k + 1, some ⟨g, 0, none⟩, cap', by omega, by go_num, ?_, ?_, (HB.out.alloc (by omega) _).grown hgrow (by simp; omega) (fun k hk => (HOW.out.lt k hk).1)⟩
          · rw [e2, List.length_append]; rfl
          · rw [e2, List.length_append, Gr.ofN_append, Gr.cells_append]; exact hown4
        case measure => simp [intOf]; omega
    · have hkk : k = S.length := by omega
      subst hkk
      go_wp2_with fail
      go_ret
      refine ⟨⟨_, rfl, ?_⟩, hB⟩
      refine Ints.of_owns (base := w.heap.size) (e := 3) ?_
      rw [Gr.ofN_length]; exact hown
/-- What the search's closure captured: the flags, the lists, itself. -/
structure Gr.Env (w : World) (Bs Bn Br gs n : Nat) (M : Gr.Net) (vn : Value) : Prop where
  s : w.cell? ⟨Bs, 0, none⟩ = some (.slice (some ⟨gs, 0, none⟩) n n)
  nx : w.cell? ⟨Bn, 0, none⟩ = some vn
  r : w.cell? ⟨Br, 0, none⟩ = some (.func (.func 55) #[] #[.pointer (some ⟨Bs, 0, none⟩), .pointer (some ⟨Bn, 0, none⟩), .pointer (some ⟨Br, 0, none⟩)])
  l : Lists w vn (lists M n)
theorem Gr.Env.kept {w w' : World} {Bs Bn Br gs n : Nat} {M : Gr.Net} {vn : Value} (h : Gr.Env w Bs Bn Br gs n M vn) (hg : w.grownBy w' (some gs)) (hne : Bs ≠ gs ∧ Bn ≠ gs ∧ Br ≠ gs) (hl : ∀ (a : Addr) (u : Value), w.cell? a = some u → a.block = gs → ∃ c, u = .bool c) : Gr.Env w' Bs Bn Br gs n M vn := by
  refine ⟨hg.cell h.s (by simp; exact hne.1), hg.cell h.nx (by simp; exact hne.2.1), hg.cell h.r (by simp; exact hne.2.2), ?_⟩
  obtain ⟨ao, cap, rfl, h4⟩ := h.l
  refine ⟨ao, cap, rfl, ?_⟩
  rcases h4 with h4 | ⟨b, off, rfl, h4⟩
  · exact .inl h4
  · refine .inr ⟨b, off, rfl, fun i l hil => ?_⟩
    obtain ⟨u, h5, h6⟩ := h4 i l hil
    obtain ⟨au, cu, rfl, h7⟩ := h6
    refine ⟨_, hg.cell h5 (fun e => ?_), au, cu, rfl, ?_⟩
    · obtain ⟨c, hc⟩ := hl _ _ h5 (by simpa using e)
      cases hc
    · rcases h7 with h7 | ⟨b2, off2, rfl, h7⟩
      · exact .inl h7
      · refine .inr ⟨b2, off2, rfl, fun j x hx => hg.cell (h7 j x hx) (fun e => ?_)⟩
        obtain ⟨c, hc⟩ := hl _ _ (h7 j x hx) (by simpa using e)
        cases hc
theorem bits_bool {w : World} {gs : Nat} {S : List Bool} (h : w.heap[gs]? = some (.cells (Gr.bits S) 4 (0, 0))) : ∀ (a : Addr) (u : Value), w.cell? a = some u → a.block = gs → ∃ c, u = .bool c := by
  intro a u ha hb
  obtain ⟨bl, off, sp⟩ := a
  have hb' : bl = gs := hb
  subst hb'
  have hsp := World.cell?_spot ha
  have hs' : sp = none := hsp
  subst hs'
  rw [cell_of_row w bl off (Gr.bits S) 4 (0, 0) h] at ha
  unfold Gr.bits at ha
  rw [List.getElem?_toArray, List.getElem?_map] at ha
  obtain ⟨c, _, h2⟩ := Option.map_eq_some_iff.1 ha
  exact ⟨c, h2.symm⟩
set_option maxRecDepth 100000 in
set_option maxHeartbeats 1000000 in
theorem reach_any (Bs Bn Br gs n : Nat) (M : Gr.Net) (vn : Value) (hne : Bs ≠ gs ∧ Bn ≠ gs ∧ Br ≠ gs) (hM : ∀ i, i < n → ∀ j ∈ M i, j < n) (hl : ∀ i, i < n → (M i).length ≤ 1000) :
    ∀ (m : Nat) (w : World) (S : List Bool) (x : Nat), Gr.un S ≤ m → x < n → S.length = n → w.heap[gs]? = some (.cells (Gr.bits S) 4 (0, 0)) → Gr.Env w Bs Bn Br gs n M vn →
    Calls Try.prog 55 #[.int .i64 x, .pointer (some ⟨Bs, 0, none⟩), .pointer (some ⟨Bn, 0, none⟩), .pointer (some ⟨Br, 0, none⟩)] w fun e w' => e = .returned (.tuple #[]) ∧
      ∃ T, Dfs M S T x ∧ w'.heap[gs]? = some (.cells (Gr.bits T) 4 (0, 0)) ∧ w.grownBy w' (some gs) := by
  intro m
  induction m with
  | zero =>
    intro w S x hu hx hS hF hE
    have hon : On S x := Gr.un_zero (by omega) x (by omega)
    have c1 := hE.s
    have c2 : w.cell? ⟨gs, x, none⟩ = some (.bool true) := Gr.row_cell (V := S.map (fun b => Value.bool b)) hF (by rw [List.getElem?_map, show S[x]? = some true from hon]; rfl)
    have HF := hide hF
    clear hF hE
    go_enter Try.func55, Try.ntmps55
    go_wp2_with fail
    (try simp only [Exit.inBlock, Exit.then]); refine bodyPost_ret (results_none rfl _ _ _) rfl ?_
    exact ⟨rfl, S, Dfs.seen hon, HF.out, ⟨rfl, rfl, rfl, Nat.le_refl _, fun _ _ _ => rfl⟩⟩
  | succ m ih =>
    intro w S x hu hx hS hF hE
    by_cases hon : On S x
    · have c1 := hE.s
      have c2 : w.cell? ⟨gs, x, none⟩ = some (.bool true) := Gr.row_cell (V := S.map (fun b => Value.bool b)) hF (by rw [List.getElem?_map, show S[x]? = some true from hon]; rfl)
      have HF := hide hF
      clear hF hE ih
      go_enter Try.func55, Try.ntmps55
      go_wp2_with fail
      (try simp only [Exit.inBlock, Exit.then]); refine bodyPost_ret (results_none rfl _ _ _) rfl ?_
      exact ⟨rfl, S, Dfs.seen hon, HF.out, ⟨rfl, rfl, rfl, Nat.le_refl _, fun _ _ _ => rfl⟩⟩
    · have hoff : S[x]? = some false := by
        obtain ⟨z, hz⟩ := getElem_some (l := S) (k := x) (by omega)
        cases z
        · exact hz
        · exact absurd hz hon
      have hus := Gr.un_set S x hoff
      have c1 := hE.s
      have c2 : w.cell? ⟨gs, x, none⟩ = some (.bool false) := Gr.row_cell (V := S.map (fun b => Value.bool b)) hF (by rw [List.getElem?_map, hoff]; rfl)
      have f2 : w.frozen? ⟨gs, x, none⟩ = false := Gr.row_free (V := S.map (fun b => Value.bool b)) hF
      have hg1 : w.grownBy (w.setCell ⟨gs, x, none⟩ (.bool true)) (some gs) := ⟨rfl, rfl, rfl, by simp, fun c _ hc => Below.heap_setCell _ _ _ c (fun e => hc (by rw [e]))⟩
      have hE1 := hE.kept hg1 hne (bits_bool hF)
      have hF1 := Gr.bits_set (i := x) hF
      have hMid := Gr.Mid.start (N := M) (S := S) (n := x) (by omega)
      have d1 := hE1.s
      have d2 := hE1.nx
      have d3 := hE1.r
      obtain ⟨bN, oN, cN, u, rfl, cu, hu2⟩ := hE1.l.at hx
      obtain ⟨au, cpu, rfl, _⟩ := id hu2
      rw [Gr.ofN_length] at cu hu2
      have HE0 := hide hE
      have HBB := hide (bits_bool hF)
      have CU0 : Hid (w.cell? ⟨bN, oN + x, none⟩ = some (.slice au (M x).length cpu)) := by
        obtain ⟨bN', oN', cN', u', q1, q2, q3⟩ := hE.l.at hx
        simp only [Value.slice.injEq, Option.some.injEq, Addr.mk.injEq] at q1
        obtain ⟨⟨rfl, rfl, _⟩, _, rfl⟩ := q1
        have q4 := hg1.cell q2 (fun e => by
          obtain ⟨c, hc⟩ := bits_bool hF _ _ q2 (by simpa using e)
          obtain ⟨_, _, h3, _⟩ := q3
          rw [hc] at h3; cases h3)
        rw [cu] at q4
        cases q4
        exact hide q2
      have HE1 := hide hE1
      have HF1 := hide hF1
      have HG1 := hide hg1
      have HMID := hide hMid
      have HU2 := hide hu2
      have IH := hide ih
      clear hE1 hF1 hg1 hMid hu2 ih hF hE
      have hlx := hl x hx
      go_enter Try.func55, Try.ntmps55
      go_wp2_with fail
      go_loopw [19, 6] (fun vi _ wx => ∃ (k : Nat) (T : List Bool), k ≤ (M x).length ∧ vi = .int .i64 k ∧ Mid M S T x k ∧ wx.heap[gs]? = some (.cells (Gr.bits T) 4 (0, 0)) ∧ w.grownBy wx (some gs)) (fun vi _ _ => (M x).length - (intOf vi).toNat)
      case atStart => exact ⟨0, _, Nat.zero_le _, rfl, HMID.out, HF1.out, HG1.out⟩
      case round =>
        obtain ⟨k, T, hk, rfl, hmid, hfx, hgx⟩ := hrel
        have hE2 := HE1.out
        have hEx : Gr.Env wr Bs Bn Br gs n M (.slice (some ⟨bN, oN, none⟩) n cN) := HE0.out.kept hgx hne HBB.out
        have e1 := hEx.s
        have e2 := hEx.nx
        have e3 := hEx.r
        clear hE2
        by_cases hkl : k < (M x).length
        · obtain ⟨y, hy⟩ := getElem_some hkl
          have hyn := hM x hx y (List.mem_of_getElem? hy)
          obtain ⟨b2, o2, rfl, cy⟩ : ∃ b2 o2, au = some ⟨b2, o2, none⟩ ∧ wr.cell? ⟨b2, o2 + k, none⟩ = some (.int .i64 y) := by
            obtain ⟨bN', oN', cN', u', q1, q2, q3⟩ := hEx.l.at hx
            simp only [Value.slice.injEq, Option.some.injEq, Addr.mk.injEq] at q1
            obtain ⟨⟨rfl, rfl, _⟩, _, rfl⟩ := q1
            have q4 : wr.cell? ⟨bN, oN + x, none⟩ = some (.slice au (M x).length cpu) := hgx.cell CU0.out (fun e => by
              obtain ⟨c, hc⟩ := HBB.out _ _ CU0.out (by simpa using e)
              cases hc)
            rw [q4] at q2
            cases q2
            obtain ⟨ao', cap', q5, q6⟩ := q3
            rw [Gr.ofN_length] at q5
            simp only [Value.slice.injEq] at q5
            obtain ⟨rfl, _, rfl⟩ := q5
            rcases q6 with q6 | ⟨b2, o2, rfl, q6⟩
            · have : (ofN (M x)).length = 0 := by rw [q6]; rfl
              rw [Gr.ofN_length] at this; omega
            · exact ⟨b2, o2, rfl, q6 k y (Gr.ofN_get hy)⟩
          have hTl : T.length = n := hmid.len.trans hS
          have huT : Gr.un T ≤ m := by
            have := Gr.un_le (S.set x true) T (by rw [hmid.len]; simp) (fun i hi => by
              rcases Gr.on_set.1 hi with h | ⟨rfl, _⟩
              · exact hmid.mono i h
              · exact hmid.self)
            omega
          have hc := IH.out wr T y huT hyn hTl hfx hEx
          have HC := hide hc
          have HMX := hide hmid
          have HGX := hide hgx
          have HY := hide hy
          clear hc hmid hgx hfx hy hEx
          go_wp2_with (go_at_call 55; refine HC.out.mono ?_; rintro e w2 ⟨rfl, T2, hd2, hf2, hg2⟩)
          go_roundw
          case rel => exact ⟨k + 1, T2, by omega, by go_num, HMX.out.step HY.out hd2, hf2, grown_trans HGX.out hg2⟩
          case measure => simp [intOf]; omega
        · have hd := hmid.end (by omega)
          have HD := hide hd
          have HGX := hide hgx
          have HFX := hide hfx
          clear hd hmid hgx hfx hEx
          go_wp2_with fail
          go_end0
          exact ⟨rfl, T, HD.out, HFX.out, HGX.out⟩
end Go.Proofs.Ytienhelohfhhfaa
