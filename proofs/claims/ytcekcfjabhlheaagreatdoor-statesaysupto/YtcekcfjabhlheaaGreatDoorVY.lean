/- StateSays: VY. -/
import Derived.Test.YtcekcfjabhlheaaGreatDoorVX
set_option maxRecDepth 100000
set_option maxHeartbeats 3200000
namespace Go.Proofs.YtcekcfjabhlheaaGreatDoor.Vx
open Go.RowKit
theorem copy_all (m : Nat) (w0 w : World) (Bs : Nat) (hLo : w0.heap.size <= Bs) (hHi : Bs <= w.heap.size) (v : Val) (c0 c1 c2 c3 c4 : Value) (hb0 : Sub w0 w) (hM : V.Core5 w0 w Bs (w.heap.size + 1) m v [c0, c1, c2, c3, c4]) (hbk : V.bulk (m + 1) v <= 2000000) :
  Calls Tryz.prog 154 #[.agg #[c0, c1, c2, c3, c4]] w fun e w' => (∃ e0 e1 e2 e3 e4, e = .returned (.agg #[e0, e1, e2, e3, e4]) /\ ∀ w'' : World, Sub w0 w'' -> (∀ c, Bs <= c -> w''.heap[c]? = w'.heap[c]?) -> V.Mem (m + 1) w'' v [e0, e1, e2, e3, e4]) /\ Below w.heap.size w w' := by
 obtain ⟨i0, hi, hz0, hz1, hz2⟩ := info_parts info62;obtain ⟨i1, hi1, hy0, hy1, hy2⟩ := info_parts info34;obtain ⟨i2, hi2, hx0, hx1, hx2⟩ := info_parts info37;have hb1 : Below w.heap.size w ((w.alloc (.cells #[c0, c1, c2, c3, c4] 61)).alloc (.cells #[.int .i64 0, .int .i64 0, .string ⟨#[]⟩, .slice none 0 0, .slice none 0 0] 61)) := (ba).alloc (by simp) _;have hA0 : ((w.alloc (.cells #[c0, c1, c2, c3, c4] 61)).alloc (.cells #[.int .i64 0, .int .i64 0, .string ⟨#[]⟩, .slice none 0 0, .slice none 0 0] 61)).heap[w.heap.size]? = some (.cells #[c0, c1, c2, c3, c4] 61 (0, 0)) := by rw [heap_alloc_old _ _ (by simp)]; exact heap_alloc_new _ _
 have hB0 : ((w.alloc (.cells #[c0, c1, c2, c3, c4] 61)).alloc (.cells #[.int .i64 0, .int .i64 0, .string ⟨#[]⟩, .slice none 0 0, .slice none 0 0] 61)).heap[w.heap.size + 1]? = some (.cells #[.int .i64 0, .int .i64 0, .string ⟨#[]⟩, .slice none 0 0, .slice none 0 0] 61 (0, 0)) := by rw [show w.heap.size + 1 = (w.alloc (.cells #[c0, c1, c2, c3, c4] 61)).heap.size by simp]; exact heap_alloc_new _ _
 have hsz : ((w.alloc (.cells #[c0, c1, c2, c3, c4] 61)).alloc (.cells #[.int .i64 0, .int .i64 0, .string ⟨#[]⟩, .slice none 0 0, .slice none 0 0] 61)).heap.size = w.heap.size + 2 := by simp
 have hnv : V.Nw w0 Bs (w.heap.size + 1) (m + 1) ((w.alloc (.cells #[c0, c1, c2, c3, c4] 61)).alloc (.cells #[.int .i64 0, .int .i64 0, .string ⟨#[]⟩, .slice none 0 0, .slice none 0 0] 61)) v w.heap.size 0 := by
  exact hM.node (fun c hc => hb1.block c hc) ⟨hHi, by omega⟩ hA0
 have hpa : V.parts (m + 1) v <= 2000000 := Nat.le_trans (V.parts_le (m + 1) v) hbk;go_enter Tryz.func154, Tryz.ntmps154;go_wp2_with fail;generalize (w.alloc _).alloc _ = w1 at *;have hbw0 : Below w1.heap.size w1 (w1.alloc (.cells #[.pointer (some ⟨w.heap.size, 0, none⟩)] 223)) := ba;have hown0 : (w1.alloc (.cells #[.pointer (some ⟨w.heap.size, 0, none⟩)] 223)).ownsRow (w.heap.size + 2) 223 1 (.slice (some ⟨w.heap.size + 2, 0, none⟩) 1 1) 1 ([(v, w.heap.size, 0)].map V.ptrV) := by
  refine ⟨rfl, .inr ⟨w.heap.size + 2, 1, #[.pointer (some ⟨w.heap.size, 0, none⟩)], rfl, Nat.le_refl _, ?_, Nat.le_refl _, by decide, rfl, rfl⟩⟩;rw [<- hsz]; exact heap_alloc_new _ _
 have hnv0 := V.Nw.kept w0 Bs (w.heap.size + 1) (w' := w1.alloc (.cells #[.pointer (some ⟨w.heap.size, 0, none⟩)] 223)) (fun c hc => heap_alloc_old w1 _ hc) (m + 1) hnv;have hB1 := (hbw0.block (w.heap.size + 1) (by omega)).trans hB0;have hbw1 := hb1.trans (hbw0.mono (by omega));clear hM hbk hA0 hB0 hb1 hbw0 hnv;go_loopg [3, 4, 5, 6] (V.parts (m + 1) v) (fun gk vt _ _ _ wr => ∃ (Q : List V.ND) (ao : Option Addr) (cap : Nat), vt = .slice ao Q.length cap /\ wr.ownsRow (w.heap.size + 2) 223 1 (.slice ao Q.length cap) Q.length (Q.map V.ptrV) /\ (∀ q ∈ Q, V.ndOk w0 Bs (w.heap.size + 1) w.heap.size m wr q) /\ V.Nw w0 Bs (w.heap.size + 1) (m + 1) wr v w.heap.size 0 /\ gk = V.wd m Q /\ gk <= 2000000 /\ wr.heap[w.heap.size + 1]? = some (.cells #[.int .i64 0, .int .i64 0, .string ⟨#[]⟩, .slice none 0 0, .slice none 0 0] 61 (0, 0)) /\ Below w.heap.size w wr)
 case atStart => exact ⟨[(v, w.heap.size, 0)], some ⟨w.heap.size + 2, 0, none⟩, 1, rfl, hown0, fun q hq => by rw [List.mem_singleton] at hq; subst hq; exact ⟨hnv0, Nat.le_refl _⟩, hnv0, (V.wd_one m (v, w.heap.size, 0)).symm, hpa, hB1, hbw1⟩
 case round =>
  clear hown0 hnv0 hB1 hbw1;obtain ⟨Q, ao, cap, rfl, hown, hok, hnv, hgk, hgb, hRes, hBw⟩ := hrel;have hBw0 := hb0.below hBw;rcases List.eq_nil_or_concat Q with rfl | ⟨R, q, rfl⟩
  ·obtain ⟨_, _, ⟨k0, k1, k2, ⟨lv, k3, hrL⟩, ⟨fv, k4, hrF⟩⟩⟩ := id hnv;obtain ⟨al, cl, rfl⟩ := V.rep_formL hrL;obtain ⟨af, cf, rfl⟩ := V.rep_formF hrF;obtain ⟨z0, z1, z2, z3, z4⟩ := cl5 hRes;obtain ⟨f0, f1, f2, f3, f4⟩ := fl5 hRes;have HNV := hide hnv;clear hnv hrL hrF hown hok hgk;go_wp2_with fail;have hB2 := set5 hRes (.int .i64 v.kind) (.int .i64 v.n) (.string v.s) (.slice al v.l.length cl) (.slice af v.f.length cf);have hw2 := below5 hBw (Nat.le_succ w.heap.size) (.int .i64 v.kind) (.int .i64 v.n) (.string v.s) (.slice al v.l.length cl) (.slice af v.f.length cf);have hoth : ∀ c, c ≠ w.heap.size + 1 -> (((((wr.setCell ⟨w.heap.size + 1, 0, none⟩ (.int .i64 v.kind)).setCell ⟨w.heap.size + 1, 1, none⟩ (.int .i64 v.n)).setCell ⟨w.heap.size + 1, 2, none⟩ (.string v.s)).setCell ⟨w.heap.size + 1, 3, none⟩ (.slice al v.l.length cl)).setCell ⟨w.heap.size + 1, 4, none⟩ (.slice af v.f.length cf)).heap[c]? = wr.heap[c]? := fun c hc => by
    rw [heap_setCell_other _ _ c _ hc, heap_setCell_other _ _ c _ hc, heap_setCell_other _ _ c _ hc, heap_setCell_other _ _ c _ hc, heap_setCell_other _ _ c _ hc]
   generalize (((((wr.setCell _ _).setCell _ _).setCell _ _).setCell _ _).setCell _ _) = w5 at *;obtain ⟨r0, r1, r2, r3, r4⟩ := cl5 hB2;refine bodyPost_ret (v := .agg #[.int .i64 v.kind, .int .i64 v.n, .string v.s, .slice al v.l.length cl, .slice af v.f.length cf]) (by simp [results, Tryz.results154, go_sem, r0, r1, r2, r3, r4]) rfl ⟨⟨_, _, _, _, _, rfl, ?_⟩, hw2⟩;intro w6 hb6 hag;have hoth6 : ∀ c, Bs <= c /\ c ≠ w.heap.size + 1 -> w6.heap[c]? = wr.heap[c]? := fun c hc => (hag c hc.1).trans (hoth c hc.2)
   have hn5 := V.Nw.apart w0 Bs (w.heap.size + 1) hoth6 (m + 1) HNV.out;obtain ⟨e0, e1, e2, e3, e4, hm5, j0, j1, j2, j3, j4⟩ := V.Nw.at w0 Bs (w.heap.size + 1) (m + 1) hn5 hb6;have hc5 : ∀ (j : Nat) (u : Value), wr.cell? ⟨w.heap.size, j, none⟩ = some u -> w6.cell? ⟨w.heap.size, j, none⟩ = some u := fun j u h => by
    have e := hoth6 w.heap.size ⟨hHi, by omega⟩;unfold World.cell? at h ⊢;simp only at h ⊢;rw [e]; exact h
   rw [hc5 _ _ k0] at j0;rw [hc5 _ _ k1] at j1;rw [hc5 _ _ k2] at j2;rw [hc5 _ _ k3] at j3;rw [hc5 _ _ k4] at j4;cases j0; cases j1; cases j2; cases j3; cases j4;exact hm5
  ·rw [List.concat_eq_append] at *;obtain ⟨x, b, o⟩ := q;have hqk : V.Nw w0 Bs (w.heap.size + 1) (m + 1) wr x b o := (hok (x, b, o) (by simp)).1;have hqE : w.heap.size <= b := (hok (x, b, o) (by simp)).2;have hwq : V.wd m (R ++ [(x, b, o)]) = V.wd m R + V.parts (m + 1) x := by rw [V.wd_append, V.wd_one]
   have hlr := V.len_wd m (R ++ [(x, b, o)]);rw [List.length_append, List.length_singleton] at hlr hown ⊢;obtain ⟨g, cap', hv, hcap⟩ : ∃ g cap', (Value.slice ao (R.length + 1) cap) = .slice (some ⟨g, 0, none⟩) (R.length + 1) cap' /\ R.length + 1 <= cap' := by
    rcases hown.2 with ⟨h, h0⟩ | ⟨g, c, cur, h, _, _, hc, _⟩
    ·omega
    ·exact ⟨g, c, h, hc⟩
   obtain ⟨rfl, _, rfl⟩ := Value.slice.inj hv;have y0 := hown.cellAt R.length (by omega);rw [List.map_append, List.getElem?_append_right (by simp), List.length_map, Nat.sub_self] at y0
   replace y0 : wr.cell? ⟨g, R.length, none⟩ = some (.pointer (some ⟨b, o, none⟩)) := y0
   have hRl : R.length <= 2000000 := by omega
   have hownR : wr.ownsRow (w.heap.size + 2) 223 1 (.slice (some ⟨g, 0, none⟩) R.length cap) R.length (R.map V.ptrV) := by
    rw [List.map_append] at hown;exact ownsRow_pop (by simp) hown
   obtain ⟨hbb, hpl, ⟨k0, k1, k2, ⟨lv, k3, hrL⟩, ⟨fv, k4, hrF⟩⟩⟩ := id hqk;obtain ⟨xal, xcl, rfl⟩ := V.rep_formL hrL;obtain ⟨xaf, xcf, rfl⟩ := V.rep_formF hrF;have hS := V.srcL hBw0 hrL;have hbig : Bs <= wr.heap.size /\ w.heap.size + 1 < wr.heap.size := by have := (hown.lt g rfl).1; have := (hown.lt g rfl).2; omega
   have hpt : V.parts (m + 1) x = 1 + V.sumL (V.parts m) x.l + V.sumF (fun x => V.parts m x.2) x.f := by rw [V.parts]
   have hl1 : x.l.length <= 2000000 := by have := V.repL_len hrL; omega
   have hl2 : x.f.length <= 2000000 := by have := V.repF_len hrF; omega
   have hwR : V.wd m R + V.parts (m + 1) x <= 2000000 := by omega
   have hgb2 : g ≠ b := by
    rintro rfl;obtain ⟨cs, hcs⟩ := (V.own_kind hown).1;rcases hpl with ⟨⟨c2, h2⟩, _⟩ | ⟨⟨c2, h2⟩, _⟩
    ·rw [hcs] at h2; simp at h2
    ·rw [hcs] at h2; simp at h2
   have hglt : g < wr.heap.size := (hown.lt g rfl).2;have HRES := hide hRes;have f3 := V.free_place hpl (o + 3);have KL := hide (fun ao' cap' w2 hC => V.nodeL (x := x) (m := m) (cap' := cap') hBw0 hBw hqE hLo hbig hbb hpl k3 k4 hrL hrF (ao' := ao') (w2 := w2) hC _ rfl);obtain ⟨HS, HOWN, HOK, HGK, HWQ, HNV, HPL⟩ := hd7 hS hownR hok hgk hwq hnv hpl;clear hown hownR hok hgk hqk hwq hlr hnv hrL hrF hS hRes;go_wp2_with (first
    | (at_builtin; (refine V.wpList_copy _ rfl (.tmp 26) 59 rfl 61 i1 (.agg #[.int .i64 0, .int .i64 0, .string ⟨#[]⟩, .slice none 0 0, .slice none 0 0]) 5 80 Tryz.underlying59 hi1 hy0 hy1 hy2 rfl (by decide) xal x.l.length xcl rfl HS.out (by unfold maxLen; omega) (by omega) ?_); intro ao1 cap1 w2 hC; have q3 := kept_cell hC.1 k3; have g3 := V.free_place (HPL.out.kept hC.1) (o + 3); obtain ⟨n1, n2, n3, n4, n5, n6, n7, n8, n9, n10⟩ := KL.out ao1 cap1 w2 hC; have N1 := hide n1; have N2 := hide n2; have N3 := hide n3; have N4 := hide n4; have N5 := hide n5; have N6 := hide n6; have N7 := hide n7; have N8 := hide n8; have N9 := hide n9; have N10 := hide n10; clear n1 n2 n3 n4 n6 n7 n8 n9 n10 hC)
    | (at_builtin; go_must (refine V.wpList_copy _ rfl (.tmp 34) 24 rfl 68 i2 (.agg #[.string ⟨#[]⟩, .int .i64 0, .int .i64 0, .string ⟨#[]⟩, .slice none 0 0, .slice none 0 0]) 6 96 Tryz.underlying24 hi2 hx0 hx1 hx2 rfl (by decide) xaf x.f.length xcf rfl N7.out (by unfold maxLen; omega) (by omega) ?_); intro ao2 cap2 w4 hC2; have q4 := kept_cell hC2.1 N5.out; have g4 := V.free_place (N8.out.kept hC2.1) (o + 4); obtain ⟨p1, p2, p3, p4, p5, p6, p7, p8, p9⟩ := V.nodeF (x := x) (m := m) (cap' := cap2) N1.out N10.out.2.1 hqE hLo ⟨Nat.le_trans hbig.1 N10.out.1, Nat.lt_of_lt_of_le hbig.2 N10.out.1⟩ hbb N8.out N4.out N5.out N3.out N6.out hC2 _ rfl; have P1 := hide p1; have P2 := hide p2; have P3 := hide p3; have P4 := hide p4; have P5 := hide p5; have P6 := hide p6; have P7 := hide p7; have P8 := hide p8; have P9 := hide p9; clear p1 p2 p3 p4 p6 p7 p8 p9 hC2))
   have hst0 : V.St w0 w Bs (w.heap.size + 1) m v x b o (.slice ao1 x.l.length cap1) (.slice ao2 x.f.length cap2) (w4.setCell ⟨b, o + 4, none⟩ (.slice ao2 x.f.length cap2)) := by
    have hne2 : w.heap.size + 1 ≠ b := fun e => hbb.2 e.symm
    exact ⟨P2.out _ _ _ _ (N2.out _ _ _ _ HNV.out), P3.out, P4.out, P5.out, P6.out, P7.out, (P8.out _ (Nat.lt_of_lt_of_le (blt HRES.out) N10.out.1) hne2).trans ((N9.out _ (blt HRES.out) hne2).trans HRES.out), P1.out, P9.out.2.1⟩
   have hownF : (w4.setCell ⟨b, o + 4, none⟩ (.slice ao2 x.f.length cap2)).ownsRow (w.heap.size + 2) 223 1 (.slice (some ⟨g, 0, none⟩) R.length cap) R.length (R.map V.ptrV) := V.own_heap HOWN.out ((P8.out g (Nat.lt_of_lt_of_le hglt N10.out.1) hgb2).trans (N9.out g hglt hgb2));have hokF : ∀ q ∈ R, V.ndOk w0 Bs (w.heap.size + 1) w.heap.size m (w4.setCell ⟨b, o + 4, none⟩ (.slice ao2 x.f.length cap2)) q := fun q hq => ⟨P2.out _ _ _ _ (N2.out _ _ _ _ (HOK.out q (by simp [hq])).1), (HOK.out q (by simp [hq])).2⟩
   obtain ⟨A1, A2⟩ := hd2 N10.out.2.2 P9.out.2.2;clear P1 P2 P3 P4 P5 P6 P7 P8 P9 N1 N2 N3 N4 N5 N6 N7 N8 N9 N10 p5 q4 g4 n5 q3 g3 KL HS HPL f3 k0 k1 k2 k3 k4 y0;generalize w4.setCell _ _ = wF at *;go_loopw [3, 5, 43] (fun vt _ vi wx => ∃ (k : Nat) (ao : Option Addr) (cap : Nat) (Q : List V.ND), k <= x.l.length /\ vi = .int .i64 k /\ vt = .slice ao Q.length cap /\ wx.ownsRow (w.heap.size + 2) 223 1 (.slice ao Q.length cap) Q.length (Q.map V.ptrV) /\ (∀ q ∈ Q, V.ndOk w0 Bs (w.heap.size + 1) w.heap.size m wx q) /\ V.wd m Q = V.wd m R + V.sumL (V.parts m) (x.l.take k) /\ V.St w0 w Bs (w.heap.size + 1) m v x b o (.slice ao1 x.l.length cap1) (.slice ao2 x.f.length cap2) wx) (fun _ _ vi _ => x.l.length - (intOf vi).toNat)
   case atStart => exact ⟨0, some ⟨g, 0, none⟩, cap, R, Nat.zero_le _, rfl, rfl, hownF, hokF, rfl, hst0⟩
   case round =>
    clear hst0 hownF hokF;obtain ⟨k, ao, cap, Q, hk, rfl, rfl, hown, hok, hwt, hst⟩ := hrel;have k3 := hst.2.2.2.1;have k4 := hst.2.2.2.2.1;by_cases hlt : k < x.l.length
    ·obtain ⟨h, hao⟩ : ∃ h, ao1 = some ⟨h, 0, none⟩ := by
      obtain ⟨a5, c5, e5, h5⟩ := hst.2.1;rcases h5 with h5 | ⟨h, e6, _⟩
      ·omega
      ·simp only [Value.slice.injEq] at e5;exact ⟨h, e5.1.trans e6⟩
     subst hao;have hhE : w.heap.size <= h := by
      rcases A1.out with h8 | ⟨h9, e9, h10⟩
      ·omega
      ·simp only [Option.some.injEq, Addr.mk.injEq, and_true] at e9;omega
     obtain ⟨y, hy⟩ : ∃ y, x.l[k]? = some y := ⟨_, List.getElem?_eq_getElem hlt⟩
     have hny : V.Nw w0 Bs (w.heap.size + 1) m wr y h (k * 5) := by
      obtain ⟨a5, c5, e5, h5⟩ := hst.2.1;rcases h5 with h5 | ⟨h', e6, h7⟩
      ·omega
      ·simp only [Value.slice.injEq] at e5;have := e5.1.trans e6;simp only [Option.some.injEq, Addr.mk.injEq, and_true] at this;rw [this]; exact h7 k y hy
     have hwt2 : V.wd m (Q ++ [(y, h, k * 5)]) = V.wd m R + V.sumL (V.parts m) (x.l.take (k + 1)) := by
      have q1 := V.nw_parts w0 Bs (w.heap.size + 1) m hny hst.2.2.2.2.2.2.2.1;have q2 := V.sumL_take (V.parts m) x.l k y hy;rw [V.wd_append, V.wd_one];show _ + V.parts (m + 1) y = _;omega
     have hsl := V.sumL_le (V.parts m) x.l k y hy;have hll := V.len_wd m Q;have hQl : Q.length <= 2000000 := by omega
     obtain ⟨HNY, HWT2, HOK2, HOW, HST⟩ := hd5 hny hwt2 hok hown hst;have hs1 := hst.2.2.2.2.2.2.2.1.size;have hbs : w.heap.size + 2 <= wr.heap.size := by
      have := (blt hst.2.2.2.2.2.2.1); omega
     clear hny hwt2 hok hown hst hwt hsl;go_wp2_with (at_builtin; go_must (refine wpList_append_lies _ rfl (.tmp 46) (.tmp 53) 224 rfl (w.heap.size + 2) 223 i0 (.pointer none) 1 8 Tryz.underlying224 hi hz0 hz1 hz2 rfl (by decide) (.slice ao Q.length cap) Q.length (Q.map V.ptrV) rfl (HOW.out.alloc _) ⟨wr.heap.size, 0, none⟩ 1 1 [.pointer (some ⟨h, k * 5, none⟩)] rfl rfl (news_alloc _ #[.pointer (some ⟨h, k * 5, none⟩)] _ _ rfl) (by simp [Value.oneCell']) (by decide) (by unfold maxLen; omega) (by omega) (by simp; omega) _ rfl ?_); intro g4 cap4 w4 hown4 hgrow hat hlt4);have hst4 := (HST.out.alloc _).grown hgrow (fun c e => by
      have := V.own_row HOW.out c e;obtain ⟨cs, hcs⟩ := this.1;exact ⟨⟨cs, (heap_alloc_old wr _ (blt hcs)).trans hcs⟩, by have := hb0.size; omega, by omega⟩)
     have hnn : ∀ (m : Nat) (x : Val) (b o : Nat), V.Nw w0 Bs (w.heap.size + 1) m wr x b o -> V.Nw w0 Bs (w.heap.size + 1) m w4 x b o := fun m x b o hh => V.Nw.grown w0 Bs (w.heap.size + 1) hgrow (fun c e => by
      have := V.own_row HOW.out c e;obtain ⟨cs, hcs⟩ := this.1;exact ⟨cs, (heap_alloc_old wr _ (blt hcs)).trans hcs⟩) m (V.Nw.kept w0 Bs (w.heap.size + 1) (fun c hc => heap_alloc_old wr _ hc) m hh)
     obtain ⟨HST4, HNN⟩ := hd2 hst4 hnn;clear hst4 hnn;go_roundw
     case rel =>
      refine ⟨k + 1, some ⟨g4, 0, none⟩, cap4, Q ++ [(y, h, k * 5)], by omega, by go_num, by simp, ?_, ?_, HWT2.out, HST4.out⟩
      ·rw [List.map_append, List.length_append]; exact hown4
      ·intro q hq;rcases List.mem_append.1 hq with hq | hq
       ·exact ⟨HNN.out _ _ _ _ (HOK2.out q hq).1, (HOK2.out q hq).2⟩
       ·rw [List.mem_singleton] at hq; subst hq;exact ⟨V.Nw.up w0 Bs (w.heap.size + 1) m (HNN.out _ _ _ _ HNY.out), hhE⟩
     case measure => simp [intOf]; omega
    ·have hkk : k = x.l.length := by omega
     have hwt1 : V.wd m Q = V.wd m R + V.sumL (V.parts m) x.l := by rw [hwt, hkk, List.take_length]
     clear hwt hkk;go_wp2_with fail;go_loopw [3, 6, 61] (fun vt _ vi wx => ∃ (k : Nat) (ao : Option Addr) (cap : Nat) (Q : List V.ND), k <= x.f.length /\ vi = .int .i64 k /\ vt = .slice ao Q.length cap /\ wx.ownsRow (w.heap.size + 2) 223 1 (.slice ao Q.length cap) Q.length (Q.map V.ptrV) /\ (∀ q ∈ Q, V.ndOk w0 Bs (w.heap.size + 1) w.heap.size m wx q) /\ V.wd m Q = V.wd m R + V.sumL (V.parts m) x.l + V.sumF (fun x => V.parts m x.2) (x.f.take k) /\ V.St w0 w Bs (w.heap.size + 1) m v x b o (.slice ao1 x.l.length cap1) (.slice ao2 x.f.length cap2) wx) (fun _ _ vi _ => x.f.length - (intOf vi).toNat)
     case atStart => exact ⟨0, ao, cap, Q, Nat.zero_le _, rfl, rfl, hown, hok, by rw [hwt1]; rfl, hst⟩
     case round =>
      clear hst hown hok hwt1 k3 k4;obtain ⟨k, ao, cap, Q, hk, rfl, rfl, hown, hok, hwt, hst⟩ := hrel;have k3 := hst.2.2.2.1;have k4 := hst.2.2.2.2.1;by_cases hlt : k < x.f.length
      ·obtain ⟨h, hao⟩ : ∃ h, ao2 = some ⟨h, 0, none⟩ := by
        obtain ⟨a5, c5, e5, h5⟩ := hst.2.2.1;rcases h5 with h5 | ⟨h, e6, _⟩
        ·omega
        ·simp only [Value.slice.injEq] at e5;exact ⟨h, e5.1.trans e6⟩
       subst hao;have hhE : w.heap.size <= h := by
        rcases A2.out with h8 | ⟨h9, e9, h10⟩
        ·omega
        ·simp only [Option.some.injEq, Addr.mk.injEq, and_true] at e9;omega
       obtain ⟨y, hy⟩ : ∃ y, x.f[k]? = some y := ⟨_, List.getElem?_eq_getElem hlt⟩
       have hny : V.Nw w0 Bs (w.heap.size + 1) m wr y.2 h (k * 6 + 1) := by
        obtain ⟨a5, c5, e5, h5⟩ := hst.2.2.1;rcases h5 with h5 | ⟨h', e6, _, h7⟩
        ·omega
        ·simp only [Value.slice.injEq] at e5;have := e5.1.trans e6;simp only [Option.some.injEq, Addr.mk.injEq, and_true] at this;rw [this]; exact (h7 k y hy).2
       have hwt2 : V.wd m (Q ++ [(y.2, h, k * 6 + 1)]) = V.wd m R + V.sumL (V.parts m) x.l + V.sumF (fun x => V.parts m x.2) (x.f.take (k + 1)) := by
        have q1 := V.nw_parts w0 Bs (w.heap.size + 1) m hny hst.2.2.2.2.2.2.2.1;have q2 := V.sumF_take (fun x => V.parts m x.2) x.f k y hy;rw [V.wd_append, V.wd_one];show _ + V.parts (m + 1) y.2 = _;omega
       have hsl := V.sumF_le (fun x => V.parts m x.2) x.f k y hy;have hll := V.len_wd m Q;have hQl : Q.length <= 2000000 := by omega
       obtain ⟨HNY, HWT2, HOK2, HOW, HST⟩ := hd5 hny hwt2 hok hown hst;have hs1 := hst.2.2.2.2.2.2.2.1.size;have hbs : w.heap.size + 2 <= wr.heap.size := by
        have := (blt hst.2.2.2.2.2.2.1); omega
       clear hny hwt2 hok hown hst hwt hsl;go_wp2_with (at_builtin; go_must (refine wpList_append_lies _ rfl (.tmp 64) (.tmp 72) 224 rfl (w.heap.size + 2) 223 i0 (.pointer none) 1 8 Tryz.underlying224 hi hz0 hz1 hz2 rfl (by decide) (.slice ao Q.length cap) Q.length (Q.map V.ptrV) rfl (HOW.out.alloc _) ⟨wr.heap.size, 0, none⟩ 1 1 [.pointer (some ⟨h, k * 6 + 1, none⟩)] rfl rfl (news_alloc _ #[.pointer (some ⟨h, k * 6 + 1, none⟩)] _ _ rfl) (by simp [Value.oneCell']) (by decide) (by unfold maxLen; omega) (by omega) (by simp; omega) _ rfl ?_); intro g4 cap4 w4 hown4 hgrow hat hlt4);have hst4 := (HST.out.alloc _).grown hgrow (fun c e => by
        have := V.own_row HOW.out c e;obtain ⟨cs, hcs⟩ := this.1;exact ⟨⟨cs, (heap_alloc_old wr _ (blt hcs)).trans hcs⟩, by have := hb0.size; omega, by omega⟩)
       have hnn : ∀ (m : Nat) (x : Val) (b o : Nat), V.Nw w0 Bs (w.heap.size + 1) m wr x b o -> V.Nw w0 Bs (w.heap.size + 1) m w4 x b o := fun m x b o hh => V.Nw.grown w0 Bs (w.heap.size + 1) hgrow (fun c e => by
        have := V.own_row HOW.out c e;obtain ⟨cs, hcs⟩ := this.1;exact ⟨cs, (heap_alloc_old wr _ (blt hcs)).trans hcs⟩) m (V.Nw.kept w0 Bs (w.heap.size + 1) (fun c hc => heap_alloc_old wr _ hc) m hh)
       obtain ⟨HST4, HNN⟩ := hd2 hst4 hnn;clear hst4 hnn;go_roundw
       case rel =>
        refine ⟨k + 1, some ⟨g4, 0, none⟩, cap4, Q ++ [(y.2, h, k * 6 + 1)], by omega, by go_num, by simp, ?_, ?_, HWT2.out, HST4.out⟩
        ·rw [List.map_append, List.length_append]; exact hown4
        ·intro q hq;rcases List.mem_append.1 hq with hq | hq
         ·exact ⟨HNN.out _ _ _ _ (HOK2.out q hq).1, (HOK2.out q hq).2⟩
         ·rw [List.mem_singleton] at hq; subst hq;exact ⟨V.Nw.up w0 Bs (w.heap.size + 1) m (HNN.out _ _ _ _ HNY.out), hhE⟩
       case measure => simp [intOf]; omega
      ·have hkk : k = x.f.length := by omega
       have hwt2 : V.wd m Q + 1 = V.wd m R + V.parts (m + 1) x := by rw [hwt, hkk, List.take_length, hpt]; omega
       have hgk2 := HGK.out;have hwq2 := HWQ.out;have hlt9 : V.wd m Q < gk := by omega
       clear hwt hkk hgk2 hwq2;go_wp2_with fail
       go_roundg (V.wd m Q)
       case measure => exact hlt9
       case rel => exact ⟨Q, ao, cap, rfl, hown, hok, hst.1, rfl, by omega, hst.2.2.2.2.2.2.1, hst.2.2.2.2.2.2.2.2⟩
end Go.Proofs.YtcekcfjabhlheaaGreatDoor.Vx
