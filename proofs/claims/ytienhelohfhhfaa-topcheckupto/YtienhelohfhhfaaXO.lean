/- check.lookAll's walk. -/
import Derived.Test.YtienhelohfhhfaaXN
import Derived.Test.YtienhelohfhhfaaXM
namespace Go.Proofs.Ytienhelohfhhfaa.Vx
open Go.RowKit
attribute [local go_sem ↓] Go.wp_at_zero Go.wp_at_succ
theorem info37 : (Try.prog.info? 37).map (fun i => (i.zero, i.size, i.bytes)) = some (some (.slice none 0 0), 1, 24) := by kernel_rfl
theorem X.Frame.alloc {w w' : World} {ex : Nat → Prop} (h : X.Frame w w' ex) (o : Obj) : X.Frame w (w'.alloc o) ex := h.trans (X.Frame.of_below ((Below.refl _ _).alloc (Nat.le_refl _) _) ex) (fun _ _ h => h)
theorem X.Frame.keep {w w' w2 : World} {ex : Nat → Prop} (h : X.Frame w w' ex) (hb : Below w'.heap.size w' w2) : X.Frame w w2 ex := h.trans (X.Frame.of_below hb ex) (fun _ _ h => h)
/-- What look does to a frame that leaves the variable out. -/
theorem X.Frame.look {w w1 w2 : World} {Bn Bo : Nat} {sv sv1 ov1 : Value} (h : X.Frame w w1 (X.ExL Bn sv)) (hBo : w.heap.size ≤ Bo) (k : X.Frame w1 w2 (X.Ex4 Bn Bo sv1 ov1)) (hs : X.After w sv sv1) (ho : X.After w (.slice none 0 0) ov1) : X.Frame w w2 (X.ExL Bn sv) := by
  refine h.trans k (fun c hc he => ?_)
  rcases he with e | e | e | e
  · exact .inl e
  · omega
  · rcases hs with h1 | ⟨g, h1, hg⟩
    · exact .inr (h1 ▸ e)
    · rw [h1] at e; have : g = c := by simpa using e
      omega
  · rcases ho with h1 | ⟨g, h1, hg⟩
    · rw [h1] at e; cases e
    · rw [h1] at e; have : g = c := by simpa using e
      omega
theorem X.After.look {w w1 : World} {u u1 u2 : Value} (h : X.After w u u1) (k : X.After w1 u1 u2) (hs : w.heap.size ≤ w1.heap.size) : X.After w u u2 := h.trans k hs
theorem X.Frame.exl {w w1 w2 : World} {base Bn : Nat} {nb : Value → Value → Array Value} {rv sv : Value} {VR : List Value} {RS : List (List Nat)} {sts : List Nat} (h : X.Frame w w1 (fun c => c = Bn)) (hL : X.LS w1 base Bn nb rv sv VR RS sts) (hbase : w.heap.size ≤ base) (k : X.Frame w1 w2 (X.ExL Bn sv)) : X.Frame w w2 (fun c => c = Bn) := by
  refine h.trans k (fun c hc he => ?_)
  rcases he with e | e
  · exact e
  · have := ((hL.fam.own 0 sv (Gr.ofN sts) rfl rfl).lt c e).1
    omega
theorem owns_shape {w : World} {base n : Nat} {t : TypeId} {v : Value} {xs : List Value} (h : w.ownsRow base t 1 v n xs) : ∃ a c, v = .slice a n c := by
  rcases h.2 with ⟨rfl, h0⟩ | ⟨g, cap, cur, rfl, _⟩
  · exact ⟨none, 0, by rw [h0]⟩
  · exact ⟨_, _, rfl⟩
set_option maxRecDepth 100000 in
set_option maxHeartbeats 8000000 in
theorem lookAll_any (M : Nat) (W0 : World) (all : List Sk) (st : Sk) (aA ai ar ao : Option Addr) (cA ci cr co Bn : Nat) (HS : Hid (X.Src M W0 all st aA ai ar cA ci cr)) (hO : X.Named M W0 (.slice ao st.outs.length co) st.outs) (ha8 : all.length ≤ 8) (hr8 : st.res.length ≤ 8) (hbk : X.bulkS M st ≤ 2000000) (hp6 : ∀ r : Rs, r ∈ st.res → r.parts.length ≤ 6) (hl1 : W0.heap.size ≤ Bn)
    (w : World) (hW : Below W0.heap.size W0 w) (hn : w.heap[Bn]? = some (.cells #[.slice aA all.length cA, .string st.name, .slice ai st.ins.length ci, .slice ar st.res.length cr, .slice ao st.outs.length co, .slice none 0 0, .slice none 0 0] 133 (0, 0))) :
    Calls Try.prog 66 #[.pointer (some ⟨Bn, 0, none⟩)] w fun o w' => X.AllLooked w w' W0.heap.size Bn (fun r s => #[.slice aA all.length cA, .string st.name, .slice ai st.ins.length ci, .slice ar st.res.length cr, .slice ao st.outs.length co, r, s]) (X.la all st M) o := by
  have hBl : Bn < w.heap.size := (Array.getElem?_eq_some_iff.1 hn).1
  have HLS0 : Hid (X.LS w w.heap.size Bn (fun r s => #[.slice aA all.length cA, .string st.name, .slice ai st.ins.length ci, .slice ar st.res.length cr, .slice ao st.outs.length co, r, s]) (.slice none 0 0) (.slice none 0 0) [] [] []) := ⟨hn, Gr.Fam.nils w _ 3 1, World.ownsRow_nil .., Nat.le_refl _, hBl⟩
  have hLA : X.la all st M = (X.lkR all st M st.res).bind (fun p => (X.lkP all st M ([], p.2) st.outs).map (fun q => (p.1, q.2))) := rfl
  have hlr : st.res.length ≤ 2000000 := by omega
  have hbs := id hbk
  unfold X.bulkS at hbs
  have hlo : st.outs.length ≤ 2000000 := by omega
  have HS2 : Hid (X.sumR M st.res ≤ 2000000) := by show _ ≤ _; omega
  have HS3 : Hid (X.sumP M st.outs ≤ 2000000) := by show _ ≤ _; omega
  have HLA := hide hLA
  have HO := hide hO
  have HW := hide hW
  have hWs : W0.heap.size ≤ w.heap.size := hW.size
  have b3 : w.cell? ⟨Bn, 3, none⟩ = some (.slice ar st.res.length cr) := cell_of_block hn 3 _ rfl
  clear hLA hO hW hbk hbs hn
  go_enter Try.func66, Try.ntmps66
  go_wp2_with fail
  clear b3
  go_loopw [19, 4, 5, 7, 8] (fun vi _ _ _ _ wr => ∃ (k : Nat) (rv sv : Value) (VR : List Value) (RS : List (List Nat)) (sts : List Nat), k ≤ st.res.length ∧ vi = .int .i64 k ∧ X.lkR all st M (st.res.take k) = some (RS, sts) ∧ X.LS wr w.heap.size Bn (fun r s => #[.slice aA all.length cA, .string st.name, .slice ai st.ins.length ci, .slice ar st.res.length cr, .slice ao st.outs.length co, r, s]) rv sv VR RS sts ∧ X.Frame w wr (fun c => c = Bn)) (fun vi _ _ _ _ _ => st.res.length - (intOf vi).toNat)
  case atStart => exact ⟨0, _, _, _, _, _, Nat.zero_le _, rfl, rfl, HLS0.out, X.Frame.refl _ _⟩
  case round =>
    clear HLS0
    obtain ⟨wO, hwO⟩ : ∃ z, z = wr := ⟨_, rfl⟩
    subst hwO
    obtain ⟨k, rv, sv, VR, RS, sts, hk, rfl, hRS, hLS, hF⟩ := hrel
    have hBW : Below W0.heap.size W0 wO := HW.out.trans (hF.below hWs (fun c e => by omega))
    have hgood := X.lkR_good hRS
    have hgood2 : X.Good all.length sts := hgood.2
    have hstl : sts.length ≤ 8 := Nat.le_trans hgood.2.len ha8
    have hOs : w.heap.size ≤ wO.heap.size := hLS.le
    by_cases hlt : k < st.res.length
    · obtain ⟨b3, off3, cap3, y, ap, cp, e1, hy, hNm, z0, z1, z2⟩ := X.elemR HS.out.pr k hlt
      simp only [Value.slice.injEq] at e1
      obtain ⟨rfl, _, rfl⟩ := e1
      replace z0 := kept_cell hBW z0
      replace z1 := kept_cell hBW z1
      replace z2 := kept_cell hBW z2
      have hpl : y.parts.length ≤ 6 := hp6 y (List.mem_of_getElem? hy)
      have hsp : X.sumP M y.parts ≤ 2000000 := (X.sumR_mem (List.mem_of_getElem? hy) HS2.out).2.2
      have hRn : X.lkR all st M (st.res.take (k + 1)) = X.lkR1 all st M y (RS, sts) := by
        have h1 := X.foldB_next (X.lkR1 all st M) (some ([], [])) hy
        have h2 : X.lkR all st M (st.res.take (k + 1)) = (X.lkR all st M (st.res.take k)).bind (X.lkR1 all st M y) := h1
        rw [h2, hRS]; rfl
      have hStop : X.lkR all st M (st.res.take (k + 1)) = none → X.la all st M = none := by
        intro h
        have h1 : X.lkR all st M st.res = none := X.foldB_stop (X.lkR1 all st M) (some ([], [])) h
        rw [HLA.out, h1]; rfl
      have hR1 : X.lkR1 all st M y (RS, sts) = (X.lkP all st M ([], sts) y.parts).map (fun q => (RS ++ [q.1], q.2)) := rfl
      have hbL : Below wO.heap.size wO (wO.alloc (.cells #[.string y.kind, .string y.name, .slice ap y.parts.length cp] 105)) := (Below.refl _ _).alloc (Nat.le_refl _) _
      have hSt0 := hLS.var _ hbL
      have hF0 : X.Frame wO ((wO.alloc (.cells #[.string y.kind, .string y.name, .slice ap y.parts.length cp] 105)).alloc (.cells #[.slice none 0 0] 37)) (X.ExL Bn sv) := (X.Frame.of_below hbL _).alloc _
      have hE3 : ((wO.alloc (.cells #[.string y.kind, .string y.name, .slice ap y.parts.length cp] 105)).alloc (.cells #[.slice none 0 0] 37)).cell? ⟨wO.heap.size, 2, none⟩ = some (.slice ap y.parts.length cp) := by
        refine cell_of_block (cs := #[.string y.kind, .string y.name, .slice ap y.parts.length cp]) (e := 105) ?_ 2 _ rfl
        rw [heap_alloc_old _ _ (lt_alloc _ _), heap_alloc_new]
      have hBo : (wO.alloc (.cells #[.string y.kind, .string y.name, .slice ap y.parts.length cp] 105)).heap.size = wO.heap.size + 1 := by simp
      have HSP := hide hsp
      have HNM := hide hNm
      have HLS := hide hLS
      have HF := hide hF
      have HRS := hide hRS
      have HRN := hide (hRn.trans hR1)
      have HSTOP := hide hStop
      have HST0 := hide hSt0
      have HF0 := hide hF0
      have HBO := hide hBo
      clear hsp hNm hLS hF hRS hRn hR1 hStop hSt0 hF0 hbL hBo hgood
      go_wp2_with fail
      clear z0 z1 z2 hE3
      go_loopw [26, 7, 8] (fun vi _ _ wx => ∃ (j : Nat) (sv2 ov2 : Value) (own2 sts2 : List Nat), j ≤ y.parts.length ∧ vi = .int .i64 j ∧ X.lkP all st M ([], sts) (y.parts.take j) = some (own2, sts2) ∧ X.St wx w.heap.size Bn (wO.heap.size + 1) (fun r s => #[.slice aA all.length cA, .string st.name, .slice ai st.ins.length ci, .slice (some ⟨b3, off3, none⟩) st.res.length cr, .slice ao st.outs.length co, r, s]) rv sv2 ov2 own2 sts2 ∧ X.Frame wO wx (X.ExL Bn sv) ∧ X.After wO sv sv2 ∧ X.After wO (.slice none 0 0) ov2) (fun vi _ _ _ => y.parts.length - (intOf vi).toNat)
      case atStart => exact ⟨0, sv, .slice none 0 0, [], sts, Nat.zero_le _, rfl, rfl, (by have h := HST0.out; rw [HBO.out] at h; exact h), HF0.out, X.After.refl _ _, X.After.refl _ _⟩
      case round =>
        clear HST0 HF0 HBO
        obtain ⟨wx, hwx⟩ : ∃ z, z = wr := ⟨_, rfl⟩
        subst hwx
        obtain ⟨j, sv2, ov2, own2, sts2, hj, rfl, hP, hSt, hFx, hAs, hAo⟩ := hrel
        have hgq : X.GoodQ all st (own2, sts2) := X.lkP_good ⟨X.Good.nil _, hgood2⟩ hP
        have ho8 : own2.length ≤ 8 := Nat.le_trans hgq.1.len hr8
        have hs8 : sts2.length ≤ 8 := Nat.le_trans hgq.2.len ha8
        have hxs : wO.heap.size ≤ wx.heap.size := hFx.size
        by_cases hltj : j < y.parts.length
        · obtain ⟨b2, off2, cap2, u, al, cl, af, cf, aa, ca, an, cn, e1, hu, hm, zn, z0, z1, z2, z3, z4, z5, z6, z7, z8, z9⟩ := X.elemE HNM.out j hltj
          simp only [Value.slice.injEq] at e1
          obtain ⟨rfl, _, rfl⟩ := e1
          have hWx : Below W0.heap.size W0 wx := HW.out.trans ((HF.out.exl HLS.out (Nat.le_refl _) hFx).below hWs (fun c e => by omega))
          replace zn := kept_cell hWx zn
          replace z0 := kept_cell hWx z0
          replace z1 := kept_cell hWx z1
          replace z2 := kept_cell hWx z2
          replace z3 := kept_cell hWx z3
          replace z4 := kept_cell hWx z4
          replace z5 := kept_cell hWx z5
          replace z6 := kept_cell hWx z6
          replace z7 := kept_cell hWx z7
          replace z8 := kept_cell hWx z8
          replace z9 := kept_cell hWx z9
          have hbu : X.bulk M u.2 ≤ 2000000 := (X.sumP_mem (List.mem_of_getElem? hu) HSP.out).2
          have hPn : X.lkP all st M ([], sts) (y.parts.take (j + 1)) = X.lk all st M u.2 (own2, sts2) := by
            have h1 : X.lkP all st M ([], sts) (y.parts.take (j + 1)) = (X.lkP all st M ([], sts) (y.parts.take j)).bind (X.lk all st M u.2) := X.foldB_next (fun (x : ByteArray × Ex) => X.lk all st M x.2) (some ([], sts)) hu
            rw [h1, hP]; rfl
          have hPs : X.lkP all st M ([], sts) (y.parts.take (j + 1)) = none → X.la all st M = none := by
            intro h
            have h1 : X.lkP all st M ([], sts) y.parts = none := X.foldB_stop (fun (x : ByteArray × Ex) => X.lk all st M x.2) (some ([], sts)) h
            exact HSTOP.out (by rw [HRN.out, h1]; rfl)
          have hbP : Below wx.heap.size wx (wx.alloc (.cells #[.string u.1, .int .i64 u.2.kind, .int .i64 u.2.v.kind, .int .i64 u.2.v.n, .string u.2.v.s, .slice al u.2.v.l.length cl, .slice af u.2.v.f.length cf, .string u.2.s, .string u.2.t, .slice aa u.2.a.length ca, .slice an u.2.n.length cn] 111)) := (Below.refl _ _).alloc (Nat.le_refl _) _
          have hlk := look_any M W0 all st aA ai _ ao cA ci cr co w.heap.size Bn (wO.heap.size + 1) HS (by omega) hl1 (by omega) hWs rv M (wx.alloc (.cells #[.string u.1, .int .i64 u.2.kind, .int .i64 u.2.v.kind, .int .i64 u.2.v.n, .string u.2.v.s, .slice al u.2.v.l.length cl, .slice af u.2.v.f.length cf, .string u.2.s, .string u.2.t, .slice aa u.2.a.length ca, .slice an u.2.n.length cn] 111)) u.2 (.int .i64 u.2.kind) (.int .i64 u.2.v.kind) (.int .i64 u.2.v.n) (.string u.2.v.s) (.slice al u.2.v.l.length cl) (.slice af u.2.v.f.length cf) (.string u.2.s) (.string u.2.t) (.slice aa u.2.a.length ca) (.slice an u.2.n.length cn) sv2 ov2 own2 sts2 hm (by omega) (by omega) (hWx.trans (hbP.mono hWx.size)) (hSt.keep hbP)
          have HLK := hide hlk
          have HP := hide hP
          have HPN := hide hPn
          have HPS := hide hPs
          have HFX := hide hFx
          have HAS := hide hAs
          have HAO := hide hAo
          have HWX := hide hWx
          have HBP := hide hbP
          clear hlk hP hPn hPs hSt hFx hAs hAo hm hu hWx hbP hgq
          go_wp2_with fail
          refine HLK.out.mono ?_
          rintro o w3 hlk3
          rcases hlk3 with ⟨hr, rfl, hb3⟩ | ⟨q, hr, rfl, sv3, ov3, hSt3, hF3, hA3, hO3⟩
          · have HR := hide hr
            have HB3 := hide hb3
            clear hr hb3 zn z0 z1 z2 z3 z4 z5 z6 z7 z8 z9
            go_wp2_with fail
            go_ret
            refine .inl ⟨HPS.out (by rw [HPN.out, HR.out]), rfl, ?_⟩
            have h1 : Below W0.heap.size w wx := (HF.out.exl HLS.out (Nat.le_refl _) HFX.out).below hWs (fun c e => by omega)
            exact (h1.trans (HBP.out.mono (Nat.le_trans hWs (Nat.le_trans hOs hxs)))).trans HB3.out
          · have HR := hide hr
            have hF4 : X.Frame wO w3 (X.ExL Bn sv) := (HFX.out.keep HBP.out).look (by omega) hF3 HAS.out HAO.out
            have hA4 : X.After wO sv sv3 := HAS.out.trans hA3 (Nat.le_trans hxs HBP.out.size)
            have hO4 : X.After wO (.slice none 0 0) ov3 := HAO.out.trans hO3 (Nat.le_trans hxs HBP.out.size)
            have HF4 := hide hF4
            have HA4 := hide hA4
            have HO4 := hide hO4
            have HST3 := hide hSt3
            clear hr hF4 hA4 hO4 hSt3 hF3 hA3 hO3 zn z0 z1 z2 z3 z4 z5 z6 z7 z8 z9
            go_wp2_with fail
            go_roundw
            case rel => exact ⟨j + 1, sv3, ov3, q.1, q.2, by omega, by go_num, by rw [HPN.out, HR.out], HST3.out, HF4.out, HA4.out, HO4.out⟩
            case measure => simp [intOf]; omega
        · have hPa : X.lkP all st M ([], sts) y.parts = some (own2, sts2) := by rw [← hP, List.take_of_length_le (by omega)]
          have hRn2 : X.lkR all st M (st.res.take (k + 1)) = some (RS ++ [own2], sts2) := by rw [HRN.out, hPa]; rfl
          obtain ⟨ax, cx, rfl⟩ := owns_shape hSt.oo
          obtain ⟨hfam, hrr⟩ := HLS.out.looked hSt hFx hAs hAo
          have c5 : wx.cell? ⟨Bn, 5, none⟩ = some rv := cell_of_block hSt.hn 5 _ rfl
          have f5 : wx.frozen? ⟨Bn, 5, none⟩ = false := free_of_block hSt.hn 5
          have co0 : wx.cell? ⟨wO.heap.size + 1, 0, none⟩ = some (.slice ax own2.length cx) := cell_of_block hSt.ho 0 _ rfl
          have hVl : VR.length ≤ 8 := by have h1 := HLS.out.len; have h2 := X.lkR_len (st.res.take k) ([], []) (RS, sts) HRS.out; simp at h2; omega
          have hFx2 := HF.out.exl HLS.out (Nat.le_refl _) hFx
          have HFAM := hide hfam
          have HRR := hide hrr
          have HRN2 := hide hRn2
          have HST := hide hSt
          have HFX2 := hide hFx2
          have KG : Hid (∀ (ob : Obj) (w4 : World), (wx.alloc ob).drew.grownBy w4 rv.ownBlock → w4.cell? ⟨Bn, 5, none⟩ = some rv ∧ w4.frozen? ⟨Bn, 5, none⟩ = false ∧ w4.cell? ⟨wO.heap.size + 1, 0, none⟩ = some (.slice ax own2.length cx)) := by
            intro ob w4 hg
            have hg2 : wx.grownBy w4 rv.ownBlock := grown_alloc_drew hg
            have hb1 : w4.heap[Bn]? = wx.heap[Bn]? := hg2.block Bn (Array.getElem?_eq_some_iff.1 HST.out.hn).1 (fun e => by have := (HRR.out.lt Bn e.symm).1; omega)
            have hb2 : w4.heap[wO.heap.size + 1]? = wx.heap[wO.heap.size + 1]? := hg2.block _ (Array.getElem?_eq_some_iff.1 HST.out.ho).1 (fun e => by have := (HLS.out.rr.lt _ e.symm).2; omega)
            exact ⟨cell_of_block (hb1.trans HST.out.hn) 5 _ rfl, free_of_block (hb1.trans HST.out.hn) 5, cell_of_block (hb2.trans HST.out.ho) 0 _ rfl⟩
          have c5a : ∀ ob, (wx.alloc ob).drew.cell? ⟨Bn, 5, none⟩ = some rv := fun ob => (Below.cell (((Below.refl wx.heap.size wx).alloc (Nat.le_refl _) ob).drew) (p := ⟨Bn, 5, none⟩) (World.block_lt_of_cell? wx _ c5)).trans c5
          have c5b := c5a (.cells #[.slice ax own2.length cx] 37)
          clear hfam hrr hRn2 hSt hFx2 hP hPa hFx hAs hAo hgq c5a
          obtain ⟨i0, hi0, hz0, hz1, hz2⟩ := info_parts info37
          go_wp2_with fail
          go_region_law
            (first
              | (refine step_append_lies _ ?_ (.tmp 42) (.tmp 44) 36 ?_ w.heap.size 37 i0 (.slice none 0 0) 1 24 Try.underlying36 hi0 hz0 hz1 hz2 rfl Nat.one_pos rv VR.length VR ?_ ?_ ⟨wx.heap.size, 0, none⟩ 1 1 [.slice ax own2.length cx] ?_ rfl ?_ ?_ Nat.one_pos ?_ ?_ ?_ _ rfl ?_; rfl; rfl; rfl; exact (HRR.out.alloc _).drew; rfl; exact news_alloc_drew wx #[.slice ax own2.length cx] 37 _ rfl; simp [Value.oneCell']; (unfold maxLen; omega); omega; (simp; omega); intro g4 cap4 w4 hown4 hgrow hat hlt4; obtain ⟨r0, r1, r2⟩ := KG.out _ _ hgrow))
          all_goals
            have hg9 : wx.grownBy w4 rv.ownBlock := grown_alloc_drew hgrow
            have hown9 : w4.ownsRow w.heap.size 37 1 (.slice (some ⟨g4, 0, none⟩) (VR.length + 1) cap4) (VR ++ [Value.slice ax own2.length cx]).length (VR ++ [Value.slice ax own2.length cx]) := by rw [List.length_append]; exact hown4
            have hLS9 := X.LS.push (nb := (fun r s => #[.slice aA all.length cA, .string st.name, .slice ai st.ins.length ci, .slice (some ⟨b3, off3, none⟩) st.res.length cr, .slice ao st.outs.length co, r, s])) (fun _ => rfl) HST.out.hn HFAM.out HRR.out HST.out.le hBl hg9 hown9
            have hFr9 : X.Frame w (w4.setCell ⟨Bn, 5, none⟩ (.slice (some ⟨g4, 0, none⟩) (VR.length + 1) cap4)) (fun c => c = Bn) := by
              refine HFX2.out.trans (ex1 := fun c => c = Bn ∨ rv.ownBlock = some c) ⟨hg9.os, hg9.tape, hg9.output, by have := hg9.size; simp; omega, fun c hc he => ?_⟩ (fun c hc he => ?_)
              · rw [Below.heap_setCell w4 ⟨Bn, 5, none⟩ _ c (fun e => he (.inl e)), hg9.block c hc (fun e => he (.inr e.symm))]
              · rcases he with e | e
                · exact e
                · have := (HRR.out.lt c e).1; omega
            have HLS9 := hide hLS9
            have HFR9 := hide hFr9
            clear hLS9 hFr9 hg9 hown9 hown4 hgrow hat
            go_wp2_with fail
            go_roundw
            case rel => exact ⟨k + 1, _, _, _, _, _, by omega, by go_num, HRN2.out, HLS9.out, HFR9.out⟩
            case measure => simp [intOf]; omega
    · have hRa : X.lkR all st M st.res = some (RS, sts) := by rw [← hRS, List.take_of_length_le (by omega)]
      have b4 : (wO.alloc (.cells #[.slice none 0 0] 37)).cell? ⟨Bn, 4, none⟩ = some (.slice ao st.outs.length co) := kept_cell ((Below.refl _ _).alloc (Nat.le_refl _) _) (cell_of_block hLS.hn 4 _ rfl)
      have hSt0 := hLS.var wO (Below.refl _ _)
      have hF0 : X.Frame wO (wO.alloc (.cells #[.slice none 0 0] 37)) (X.ExL Bn sv) := X.Frame.of_below ((Below.refl _ _).alloc (Nat.le_refl _) _) _
      have HRA := hide hRa
      have HLS := hide hLS
      have HF := hide hF
      have HST0 := hide hSt0
      have HF0 := hide hF0
      clear hRa hLS hF hSt0 hF0 hRS hgood hp6
      go_wp2_with fail
      clear b4
      go_loopw [55, 11, 12] (fun vi _ _ wx => ∃ (j : Nat) (sv2 ov2 : Value) (own2 sts2 : List Nat), j ≤ st.outs.length ∧ vi = .int .i64 j ∧ X.lkP all st M ([], sts) (st.outs.take j) = some (own2, sts2) ∧ X.St wx w.heap.size Bn wO.heap.size (fun r s => #[.slice aA all.length cA, .string st.name, .slice ai st.ins.length ci, .slice ar st.res.length cr, .slice ao st.outs.length co, r, s]) rv sv2 ov2 own2 sts2 ∧ X.Frame wO wx (X.ExL Bn sv) ∧ X.After wO sv sv2 ∧ X.After wO (.slice none 0 0) ov2) (fun vi _ _ _ => st.outs.length - (intOf vi).toNat)
      case atStart => exact ⟨0, sv, .slice none 0 0, [], sts, Nat.zero_le _, rfl, rfl, HST0.out, HF0.out, X.After.refl _ _, X.After.refl _ _⟩
      case round =>
        clear HST0 HF0
        obtain ⟨wx, hwx⟩ : ∃ z, z = wr := ⟨_, rfl⟩
        subst hwx
        obtain ⟨j, sv2, ov2, own2, sts2, hj, rfl, hP, hSt, hFx, hAs, hAo⟩ := hrel
        have hgq : X.GoodQ all st (own2, sts2) := X.lkP_good ⟨X.Good.nil _, hgood2⟩ hP
        have ho8 : own2.length ≤ 8 := Nat.le_trans hgq.1.len hr8
        have hs8 : sts2.length ≤ 8 := Nat.le_trans hgq.2.len ha8
        have hxs : wO.heap.size ≤ wx.heap.size := hFx.size
        by_cases hltj : j < st.outs.length
        · obtain ⟨b2, off2, cap2, u, al, cl, af, cf, aa, ca, an, cn, e1, hu, hm, zn, z0, z1, z2, z3, z4, z5, z6, z7, z8, z9⟩ := X.elemE HO.out j hltj
          simp only [Value.slice.injEq] at e1
          obtain ⟨rfl, _, rfl⟩ := e1
          have hWx : Below W0.heap.size W0 wx := HW.out.trans ((HF.out.exl HLS.out (Nat.le_refl _) hFx).below hWs (fun c e => by omega))
          replace zn := kept_cell hWx zn
          replace z0 := kept_cell hWx z0
          replace z1 := kept_cell hWx z1
          replace z2 := kept_cell hWx z2
          replace z3 := kept_cell hWx z3
          replace z4 := kept_cell hWx z4
          replace z5 := kept_cell hWx z5
          replace z6 := kept_cell hWx z6
          replace z7 := kept_cell hWx z7
          replace z8 := kept_cell hWx z8
          replace z9 := kept_cell hWx z9
          have hbu : X.bulk M u.2 ≤ 2000000 := (X.sumP_mem (List.mem_of_getElem? hu) HS3.out).2
          have hPn : X.lkP all st M ([], sts) (st.outs.take (j + 1)) = X.lk all st M u.2 (own2, sts2) := by
            have h1 : X.lkP all st M ([], sts) (st.outs.take (j + 1)) = (X.lkP all st M ([], sts) (st.outs.take j)).bind (X.lk all st M u.2) := X.foldB_next (fun (x : ByteArray × Ex) => X.lk all st M x.2) (some ([], sts)) hu
            rw [h1, hP]; rfl
          have hPs : X.lkP all st M ([], sts) (st.outs.take (j + 1)) = none → X.la all st M = none := by
            intro h
            have h1 : X.lkP all st M ([], sts) st.outs = none := X.foldB_stop (fun (x : ByteArray × Ex) => X.lk all st M x.2) (some ([], sts)) h
            rw [HLA.out, HRA.out, Option.bind_some, h1]; rfl
          have hbP : Below wx.heap.size wx (wx.alloc (.cells #[.string u.1, .int .i64 u.2.kind, .int .i64 u.2.v.kind, .int .i64 u.2.v.n, .string u.2.v.s, .slice al u.2.v.l.length cl, .slice af u.2.v.f.length cf, .string u.2.s, .string u.2.t, .slice aa u.2.a.length ca, .slice an u.2.n.length cn] 113)) := (Below.refl _ _).alloc (Nat.le_refl _) _
          have hlk := look_any M W0 all st aA ai ar _ cA ci cr co w.heap.size Bn wO.heap.size HS (by omega) hl1 (by omega) hWs rv M (wx.alloc (.cells #[.string u.1, .int .i64 u.2.kind, .int .i64 u.2.v.kind, .int .i64 u.2.v.n, .string u.2.v.s, .slice al u.2.v.l.length cl, .slice af u.2.v.f.length cf, .string u.2.s, .string u.2.t, .slice aa u.2.a.length ca, .slice an u.2.n.length cn] 113)) u.2 (.int .i64 u.2.kind) (.int .i64 u.2.v.kind) (.int .i64 u.2.v.n) (.string u.2.v.s) (.slice al u.2.v.l.length cl) (.slice af u.2.v.f.length cf) (.string u.2.s) (.string u.2.t) (.slice aa u.2.a.length ca) (.slice an u.2.n.length cn) sv2 ov2 own2 sts2 hm (by omega) (by omega) (hWx.trans (hbP.mono hWx.size)) (hSt.keep hbP)
          have HLK := hide hlk
          have HP := hide hP
          have HPN := hide hPn
          have HPS := hide hPs
          have HFX := hide hFx
          have HAS := hide hAs
          have HAO := hide hAo
          have HWX := hide hWx
          have HBP := hide hbP
          clear hlk hP hPn hPs hSt hFx hAs hAo hm hu hWx hbP hgq
          go_wp2_with fail
          refine HLK.out.mono ?_
          rintro o w3 hlk3
          rcases hlk3 with ⟨hr, rfl, hb3⟩ | ⟨q, hr, rfl, sv3, ov3, hSt3, hF3, hA3, hO3⟩
          · have HR := hide hr
            have HB3 := hide hb3
            clear hr hb3 zn z0 z1 z2 z3 z4 z5 z6 z7 z8 z9
            go_wp2_with fail
            go_ret
            refine .inl ⟨HPS.out (by rw [HPN.out, HR.out]), rfl, ?_⟩
            have h1 : Below W0.heap.size w wx := (HF.out.exl HLS.out (Nat.le_refl _) HFX.out).below hWs (fun c e => by omega)
            exact (h1.trans (HBP.out.mono (Nat.le_trans hWs (Nat.le_trans hOs hxs)))).trans HB3.out
          · have HR := hide hr
            have hF4 : X.Frame wO w3 (X.ExL Bn sv) := (HFX.out.keep HBP.out).look (by omega) hF3 HAS.out HAO.out
            have hA4 : X.After wO sv sv3 := HAS.out.trans hA3 (Nat.le_trans hxs HBP.out.size)
            have hO4 : X.After wO (.slice none 0 0) ov3 := HAO.out.trans hO3 (Nat.le_trans hxs HBP.out.size)
            have HF4 := hide hF4
            have HA4 := hide hA4
            have HO4 := hide hO4
            have HST3 := hide hSt3
            clear hr hF4 hA4 hO4 hSt3 hF3 hA3 hO3 zn z0 z1 z2 z3 z4 z5 z6 z7 z8 z9
            go_wp2_with fail
            go_roundw
            case rel => exact ⟨j + 1, sv3, ov3, q.1, q.2, by omega, by go_num, by rw [HPN.out, HR.out], HST3.out, HF4.out, HA4.out, HO4.out⟩
            case measure => simp [intOf]; omega
        · have hPa : X.lkP all st M ([], sts) st.outs = some (own2, sts2) := by rw [← hP, List.take_of_length_le (by omega)]
          have hla : X.la all st M = some (RS, sts2) := by rw [HLA.out, HRA.out, Option.bind_some, hPa]; rfl
          obtain ⟨hfam, hrr⟩ := HLS.out.looked hSt hFx hAs hAo
          have hL2 : X.LS wx w.heap.size Bn (fun r s => #[.slice aA all.length cA, .string st.name, .slice ai st.ins.length ci, .slice ar st.res.length cr, .slice ao st.outs.length co, r, s]) rv sv2 VR RS sts2 := by
            refine ⟨hSt.hn, ⟨by have := HLS.out.fam.len; simpa using this, fun i v l hv hl => ?_, fun i j v u hij hv hu => ?_⟩, hrr, hSt.le, hBl⟩
            · refine hfam.own i v l ?_ ?_
              · rw [← List.cons_append, List.getElem?_append_left (List.getElem?_eq_some_iff.1 hv).1]; exact hv
              · rw [List.map_append, ← List.cons_append, List.getElem?_append_left (List.getElem?_eq_some_iff.1 hl).1]; exact hl
            · refine hfam.apart i j v u hij ?_ ?_
              · rw [← List.cons_append, List.getElem?_append_left (List.getElem?_eq_some_iff.1 hv).1]; exact hv
              · rw [← List.cons_append, List.getElem?_append_left (List.getElem?_eq_some_iff.1 hu).1]; exact hu
          have hFx2 := HF.out.exl HLS.out (Nat.le_refl _) hFx
          have HLA2 := hide hla
          have HL2 := hide hL2
          have HFX2 := hide hFx2
          clear hPa hla hfam hrr hL2 hFx2 hP hSt hFx hAs hAo hgq
          go_wp2_with fail
          go_ret
          exact .inr ⟨(RS, sts2), rv, sv2, HLA2.out, rfl, HL2.out.hn, fun _ hk => HL2.out.lists hk, HFX2.out⟩
end Go.Proofs.Ytienhelohfhhfaa.Vx
