/- StateSays: RM RN RO. -/
import Derived.Test.YtcekcfjabhlheaaGreatDoorRL
set_option maxRecDepth 100000
set_option maxHeartbeats 6400000
namespace Go.Proofs.YtcekcfjabhlheaaGreatDoor.Vx
open Go.RowKit
attribute [local go_sem ↓] Go.wp_at_zero Go.wp_at_succ
theorem Lt.is_late {ls : List Nat} {x : Array Bool} {p : Prop} (h : Lt.late ls x = true) : Lt.late ls x = false -> p := fun h2 => by rw [h] at h2; cases h2
theorem P.own_cells10 {w : World} {base g n m cap : Nat} {t : TypeId} {xs : List Value} {z0 z1 z2 z3 z4 z5 z6 z7 z8 z9 : Value} (h : w.ownsRow base t 10 (.slice (some ⟨g, 0, none⟩) m cap) m (xs ++ [z0, z1, z2, z3, z4, z5, z6, z7, z8, z9])) (hx : xs.length = n) :
  w.cell? ⟨g, n, none⟩ = some z0 /\ w.cell? ⟨g, n + 1, none⟩ = some z1 /\ w.cell? ⟨g, n + 2, none⟩ = some z2 /\ w.cell? ⟨g, n + 3, none⟩ = some z3 /\ w.cell? ⟨g, n + 4, none⟩ = some z4 /\ w.cell? ⟨g, n + 5, none⟩ = some z5 /\ w.cell? ⟨g, n + 6, none⟩ = some z6 /\ w.cell? ⟨g, n + 7, none⟩ = some z7 /\ w.cell? ⟨g, n + 8, none⟩ = some z8 /\ w.cell? ⟨g, n + 9, none⟩ = some z9 := by
 have h1 := h.1;rw [List.length_append] at h1;simp only [List.length_cons, List.length_nil] at h1;have key : ∀ j, j < 10 -> w.cell? ⟨g, n + j, none⟩ = [z0, z1, z2, z3, z4, z5, z6, z7, z8, z9][j]? := fun j hj => by
  rw [h.cellAt (n + j) (by omega), List.getElem?_append_right (by omega), hx, Nat.add_sub_cancel_left]
 exact ⟨key 0 (by decide), key 1 (by decide), key 2 (by decide), key 3 (by decide), key 4 (by decide), key 5 (by decide), key 6 (by decide), key 7 (by decide), key 8 (by decide), key 9 (by decide)⟩
theorem info57 : (Tryz.prog.info? 170).map (fun i => (i.zero, i.size, i.bytes)) = some (some (.agg #[.int .i64 0, .int .i64 0, .int .i64 0, .string ⟨#[]⟩, .slice none 0 0, .slice none 0 0, .string ⟨#[]⟩, .string ⟨#[]⟩, .slice none 0 0, .slice none 0 0]), 10, 168) := by kernel_rfl
theorem items1_any (d R Br Bd A B N : Nat) (w1 : World) (hd : d <= 6) (ih : P.IH d) (hA : w1.heap[A]? = some (.cells #[.func (.func 175) #[] #[.pointer (some ⟨Br, 0, none⟩), .pointer (some ⟨Bd, 0, none⟩)]] 190 (0, 0))) (hAB : A ≠ B) (hAR : A ≠ R) (hRB : R < B) (hR : R < w1.heap.size) (hBl : B < w1.heap.size) (hi : P.Inn R Br Bd d w1) (hBr : Br ≠ B) (hBd : Bd ≠ B)
  (ts : List P.K) (acc : List Ex) (w : World) (h : P.It w1 R B d N ts acc w) (hq : P.Wok d (P.fc ts)) :
  Calls Tryz.prog 201 #[.pointer (some ⟨A, 0, none⟩), .pointer (some ⟨B, 0, none⟩)] w fun r w' => ∃ ev, r = .returned ev /\ ((∃ acc' n, P.oneI d acc (P.fc ts) = some (acc', P.fc (ts.drop (n + 1))) /\ (ts.drop (n + 1)).length < ts.length /\ ev = .nilIface /\ P.It w1 R B d (N + 1) (ts.drop (n + 1)) acc' w') \/ (P.oneI d acc (P.fc ts) = none /\ (∃ f : Int, ev = .iface 54 (.int .i64 f)) /\ P.ItBad w1 R B w')) := by
 obtain ⟨i0, hi0, hz0, hz1, hz2⟩ := info_parts info57;have hBR : B ≠ R := by omega
 have h10 : 0 < 10 := by decide
 obtain ⟨ao, cap, L, eL, hb, hG⟩ := h.row;have hAw := (h.fr.block A (blt hA) (fun e => e.elim hAR hAB)).trans hA;have cA := cell_of_block hAw 0 _ rfl;have HN := hide (inner_ev d R Br Bd w ts hd ih h.rdr (hi.far h.fr hBr hBd) hq);obtain ⟨HFR, HBK, HLN, HB, HG, HSZ⟩ := hd6 h.fr h.bulk h.len hb hG h.fr.size;have HLL : Hid (L.length <= 4200) := by
  show _ <= _;have := h.len;rw [eL, List.length_map] at this;omega
 clear h hb hG hAw hA hi hBr hBd ih hAR hAB hq;go_enter Tryz.func201, Tryz.ntmps201;go_wp2_with fail;refine HN.out.mono ?_;rintro r w2 ⟨hf2, k, v, s, t, a, i, u, b, j, p, ev, rfl, hres⟩;unfold P.xc at hres ⊢;have hB2 := (hf2.block B (blt HB.out) hBR).trans HB.out;have HB3 : Hid ((w2.alloc (.cells #[.int .i64 k, .int .i64 v.kind, .int .i64 v.n, .string v.s, .slice none 0 0, .slice none 0 0, .string s, .string t, .slice a i u, .slice b j p] 170)).heap[B]? = some (P.iblk ao L.length cap)) := by
  show _ = _;rw [heap_alloc_old _ _ (blt hB2)]; exact hB2
 have HX3 : Hid ((w2.alloc (.cells #[.int .i64 k, .int .i64 v.kind, .int .i64 v.n, .string v.s, .slice none 0 0, .slice none 0 0, .string s, .string t, .slice a i u, .slice b j p] 170)).heap[w2.heap.size]? = some (.cells #[.int .i64 k, .int .i64 v.kind, .int .i64 v.n, .string v.s, .slice none 0 0, .slice none 0 0, .string s, .string t, .slice a i u, .slice b j p] 170 (0, 0))) := heap_alloc_new _ _;have hG2 : P.Grow w1.heap.size d w2 (.slice ao L.length cap) L := HG.out.fr hf2 (fun c e => by omega);have HG3 : Hid (P.Grow w1.heap.size d (w2.alloc (.cells #[.int .i64 k, .int .i64 v.kind, .int .i64 v.n, .string v.s, .slice none 0 0, .slice none 0 0, .string s, .string t, .slice a i u, .slice b j p] 170)) (.slice ao L.length cap) L) := hG2.fr ((Fr.refl w2 (fun _ => False)).alloc _) (fun _ e => e.elim);have HOL : Hid (∀ c, (Value.slice ao L.length cap).ownBlock = some c -> w1.heap.size <= c /\ c < w.heap.size) := fun c hc => HG.out.own.lt c hc
 have HF23 : Hid (Fr w2 (w2.alloc (.cells #[.int .i64 k, .int .i64 v.kind, .int .i64 v.n, .string v.s, .slice none 0 0, .slice none 0 0, .string s, .string t, .slice a i u, .slice b j p] 170)) (fun c => c = R)) := (Fr.refl w2 _).alloc _;have HF230 : Hid (Fr w2 (w2.alloc (.cells #[.int .i64 k, .int .i64 v.kind, .int .i64 v.n, .string v.s, .slice none 0 0, .slice none 0 0, .string s, .string t, .slice a i u, .slice b j p] 170)) (fun _ => False)) := (Fr.refl w2 _).alloc _;have HS3 : Hid ((w2.alloc (.cells #[.int .i64 k, .int .i64 v.kind, .int .i64 v.n, .string v.s, .slice none 0 0, .slice none 0 0, .string s, .string t, .slice a i u, .slice b j p] 170)).heap.size = w2.heap.size + 1) := by
  show _ = _;simp
 have HS12 : Hid (w1.heap.size <= w2.heap.size) := by
  show _ <= _;have := HSZ.out;have := hf2.size;omega
 obtain ⟨HF2, HRES⟩ := hd2 hf2 hres;clear hf2 hres hB2 hG2 HN;go_wp2_with fail;generalize (w2.alloc _) = w3 at *;have KQ : Hid (∀ W, Fr w3 W (fun c => (Value.slice ao L.length cap).ownBlock = some c) -> W.heap[B]? = some (P.iblk ao L.length cap) /\ W.heap[w2.heap.size]? = some (.cells #[.int .i64 k, .int .i64 v.kind, .int .i64 v.n, .string v.s, .slice none 0 0, .slice none 0 0, .string s, .string t, .slice a i u, .slice b j p] 170 (0, 0))) := by
  intro W hf;exact ⟨(hf.block B (blt HB3.out) (fun e => by have := (HOL.out B e).1; omega)).trans HB3.out, (hf.block w2.heap.size (blt HX3.out) (fun e => by have := (HOL.out _ e).2; have := HF2.out.size; omega)).trans HX3.out⟩
 refine Lt.start (fun W => Fr w3 W (fun c => (Value.slice ao L.length cap).ownBlock = some c)) [7, 9] (by kernel_rfl) ?_;have HS0 : Fr w3 w3.drew (fun c => (Value.slice ao L.length cap).ownBlock = some c) := (Fr.refl w3 _).drew;refine Lt.takeY (i := 0) (v := .pointer (some ⟨B, 8, none⟩)) rfl (by kernel_rfl) (by kernel_rfl) (by kernel_rfl) (by kernel_rfl) (fun _ _ _ h => h) (Or.inl ⟨by rfl, ?_⟩) (HS0) ?_
 ·intro w;go_simp
 refine Lt.takeS (i := 1) (v := .slice ao L.length cap) rfl (by kernel_rfl) (by kernel_rfl) (by kernel_rfl) (by kernel_rfl) (by kernel_rfl) (by kernel_rfl) (fun _ _ _ h => h) (Or.inl ⟨by rfl, ?_⟩) (HS0) ?_
 ·intro W hW;have k1 := (KQ.out W hW).1;unfold P.iblk at k1;obtain ⟨x0, x1, x2, x3, x4, x5, x6, x7, x8, x9⟩ := cl10 k1;clear k1;go_simp
 refine Lt.takeS (i := 2) (v := .agg #[.int .i64 k, .int .i64 v.kind, .int .i64 v.n, .string v.s, .slice none 0 0, .slice none 0 0, .string s, .string t, .slice a i u, .slice b j p]) rfl (by kernel_rfl) (by kernel_rfl) (by kernel_rfl) (by kernel_rfl) (by kernel_rfl) (by kernel_rfl) (fun _ _ _ h => h) (Or.inl ⟨by rfl, ?_⟩) (HS0) ?_
 ·intro W hW;have k1 := (KQ.out W hW).2;obtain ⟨x0, x1, x2, x3, x4, x5, x6, x7, x8, x9⟩ := cl10 k1;clear k1;go_simp
 refine Lt.takeY (i := 3) (v := .int .i64 L.length) rfl (by kernel_rfl) (by kernel_rfl) (by kernel_rfl) (by kernel_rfl) (fun _ _ _ h => h) (Or.inl ⟨by rfl, ?_⟩) (HS0) ?_
 ·intro w;go_simp
 go_simp;refine Lt.ready1 (i := 4) (by kernel_rfl) rfl (fun K hK => ?_);go_simp;refine hK _ _ (fun _ => HS0.alloc _) ?_;clear hK K;refine Lt.ready1 (i := 5) (by kernel_rfl) rfl (fun K hK => ?_);have hl9 := HLL.out;have hs9 := HS12.out;have hs8 := HS3.out;refine step_append_lies _ ?_ (.tmp 11) (.tmp 14) 168 ?_ w1.heap.size 170 i0 (.agg #[.int .i64 0, .int .i64 0, .int .i64 0, .string ⟨#[]⟩, .slice none 0 0, .slice none 0 0, .string ⟨#[]⟩, .string ⟨#[]⟩, .slice none 0 0, .slice none 0 0]) 10 168 Tryz.underlying168 hi0 hz0 hz1 hz2 rfl h10 (.slice ao L.length cap) L.length (L.flatMap (fun x => x.2)) ?_ ?_ ⟨w3.heap.size, 0, none⟩ 1 1 [.int .i64 0, .int .i64 0, .int .i64 0, .string ⟨#[]⟩, .slice none 0 0, .slice none 0 0, .string ⟨#[]⟩, .string ⟨#[]⟩, .slice none 0 0, .slice none 0 0] ?_ rfl ?_ ?_ Nat.one_pos ?_ ?_ ?_ _ rfl ?_;rfl;rfl;rfl;exact P.owns_fr HG3.out.own (ex := fun _ => False) (Fr.alloc (Fr.drew (Fr.refl w3 _)) _) (fun _ _ e => e);rfl;exact news_alloc w3.drew #[.int .i64 0, .int .i64 0, .int .i64 0, .string ⟨#[]⟩, .slice none 0 0, .slice none 0 0, .string ⟨#[]⟩, .string ⟨#[]⟩, .slice none 0 0, .slice none 0 0] 170 _ rfl;simp [Value.oneCell']
 (unfold maxLen; omega)
 omega
 (simp; omega)
 intro gA capA wA hownA hgrowA hatA hltA;clear hl9 hs9 hs8
 try go_simp
 have hSA : Fr w3 wA (fun c => (Value.slice ao L.length cap).ownBlock = some c) := (((Fr.refl w3 _).drew).alloc _).grown hgrowA (fun c e _ => e);refine hK _ _ (fun _ => hSA) ?_;clear hK K;have HSA := hide hSA;have hgA : w1.heap.size <= gA := (hownA.lt gA rfl).1;have HAT : Hid ((Value.slice ao L.length cap).ownBlock = some gA \/ gA = w3.heap.size + 1) := by
  rcases hatA with e | e
  ·exact .inl e
  ·refine .inr (e.trans ?_);simp
 have hxl : (L.flatMap (fun x => x.2)).length = L.length * 10 := HG3.out.own.1;have HXL := hide hxl;have HFIN : Hid (∀ wz : World, wz.ownsRow w1.heap.size 170 10 (.slice (some ⟨gA, 0, none⟩) (L.length + 1) capA) (L.length + 1) (L.flatMap (fun x => x.2) ++ [.int .i64 k, .int .i64 v.kind, .int .i64 v.n, .string v.s, .slice none 0 0, .slice none 0 0, .string s, .string t, .slice a i u, .slice b j p]) -> wz.heap[B]? = some (P.iblk (some ⟨gA, 0, none⟩) (L.length + 1) capA) -> Fr wA wz (fun c => c = gA \/ c = B) ->
   ∃ ev', Ending.returned ev = .returned ev' /\ ((∃ acc' n, P.oneI d acc (P.fc ts) = some (acc', P.fc (ts.drop (n + 1))) /\ (ts.drop (n + 1)).length < ts.length /\ ev' = .nilIface /\ P.It w1 R B d (N + 1) (ts.drop (n + 1)) acc' wz) \/ (P.oneI d acc (P.fc ts) = none /\ (∃ f : Int, ev' = .iface 54 (.int .i64 f)) /\ P.ItBad w1 R B wz))) := by
  intro wz ho hb hf;have hfz : Fr w3 wz (fun c => c = B \/ c = gA \/ (Value.slice ao L.length cap).ownBlock = some c) := (hSA.weak (fun _ _ e => .inr (.inr e))).trans hf (fun c _ e => e.elim (fun e => .inr (.inl e)) (fun e => .inl e));have l1 := HS12.out;have l2 := HS3.out;have l3 := HSZ.out;have l4 := hfz.size;have l5 := HF2.out.size;have hF : Fr w1 wz (fun c => c = R \/ c = B) := ((HFR.out.trans HF2.out (fun _ _ e => .inl e)).trans HF23.out (fun _ _ e => .inl e)).trans hfz (fun c hc e => by
   rcases e with e | e | e
   ·exact .inr e
   ·omega
   ·have := (HOL.out c e).1;omega)
  have hrd : ∀ ts', P.Rdr R w2 ts' -> P.Rdr R wz ts' := fun ts' hr => (hr.fr HF230.out (fun _ e => e.elim)).fr hfz (fun c e => by
   rcases e with e | e | e
   ·omega
   ·omega
   ·have := (HOL.out c e).1;omega)
  refine ⟨ev, rfl, ?_⟩;rcases HRES.out with ⟨e, n, hE, hev, hM, hbk, hr⟩ | ⟨hE, hev, ts', hr⟩
  ·have hlt : (ts.drop (n + 1)).length < ts.length := by
    cases d with
    | zero => cases hE
    | succ d =>
     have := P.bulk_pos d e;omega
   refine .inl ⟨acc ++ [e], n, by rw [P.oneI, hE]; rfl, hlt, hev, ⟨hF, hrd _ hr, ⟨some ⟨gA, 0, none⟩, capA, L ++ [(e, [.int .i64 k, .int .i64 v.kind, .int .i64 v.n, .string v.s, .slice none 0 0, .slice none 0 0, .string s, .string t, .slice a i u, .slice b j p])], by rw [eL, List.map_append]; rfl, by rw [List.length_append]; exact hb, ⟨fun x hx => ?_, ?_, fun x hx => ?_⟩⟩, ?_, ?_⟩⟩
   ·rcases List.mem_append.1 hx with hx | hx
    ·exact HG3.out.ten x hx
    ·rw [List.mem_singleton] at hx;subst hx;rfl
   ·rw [List.length_append, List.flatMap_append];exact ho
   ·rw [List.length_append];rcases List.mem_append.1 hx with hx | hx
    ·refine (HG3.out.mem x hx).to (fun c hc => hfz.block c hc.2.1 (fun e => ?_)) (fun c hc => ⟨hc.1, by have := hc.2.1; omega, fun e => ?_⟩)
     ·rcases e with e | e | e
      ·have := hc.1;omega
      ·subst e;rcases HAT.out with h | h
       ·exact hc.2.2 h
       ·have := hc.2.1;omega
      ·exact hc.2.2 e
     ·have e2 : gA = c := Option.some.inj e;subst e2;rcases HAT.out with h | h
      ·exact hc.2.2 h
      ·have := hc.2.1;omega
    ·rw [List.mem_singleton] at hx;subst hx;refine hM.to (fun c hc => ?_) (fun c hc => ⟨by have := hc.1; omega, by have := hc.2; omega, fun e => ?_⟩)
     ·have h1 := hc.1;have h2 := hc.2;rw [hfz.block c (by omega) (fun e => ?_), HF23.out.block c (by omega) (by omega)];rcases e with e | e | e
      ·omega
      ·subst e;rcases HAT.out with h | h
       ·have := (HOL.out _ h).2;omega
       ·omega
      ·have := (HOL.out _ e).2;omega
     ·have e2 : gA = c := Option.some.inj e;subst e2;have h1 := hc.1;have h2 := hc.2;rcases HAT.out with h | h
      ·have := (HOL.out _ h).2;omega
      ·omega
   ·rw [List.map_append, List.sum_append, List.length_append];have := HBK.out;simp only [List.map_cons, List.map_nil, List.sum_cons, List.sum_nil, List.length_cons, List.length_nil];omega
   ·rw [List.length_append];have := HLN.out;simp only [List.length_cons, List.length_nil];omega
  ·exact .inr ⟨by rw [P.oneI, hE]; rfl, hev, hF, ⟨_, hrd _ hr⟩, _, _, _, hb⟩
 obtain ⟨HRB, HBL⟩ := hd2 hRB hBl;have HBG : Hid (B ≠ gA) := by
  show _ ≠ _;omega
 have HB4 : Hid (wA.heap[B]? = some (P.iblk ao L.length cap)) := (KQ.out _ hSA).1;have HOW := hide hownA;clear hownA hatA hgrowA hgA hxl hSA HG HG3 HRES HF2 HF23 HFR HBK HLN HX3 HB3 HB;refine Lt.takeY (i := 6) (v := .pointer (some ⟨gA, L.length * 10, none⟩)) rfl (by kernel_rfl) (by kernel_rfl) (by kernel_rfl) (by kernel_rfl) (fun _ _ _ h => h) (Or.inl ⟨by rfl, ?_⟩) (HSA.out) ?_
 ·intro w;go_simp;intro h;omega
 refine Lt.takeY (i := 8) (v := .pointer (some ⟨B, 8, none⟩)) rfl (by kernel_rfl) (by kernel_rfl) (by kernel_rfl) (by kernel_rfl) (fun _ _ _ h => h) (Or.inl ⟨by rfl, ?_⟩) (HSA.out) ?_
 ·intro w;go_simp
 go_simp;refine Lt.ready2 (i := 7) (j := 9) (by kernel_rfl) rfl rfl (fun K hK => ?_) (fun K hK => ?_)
 ·obtain ⟨z0, z1, z2, z3, z4, z5, z6, z7, z8, z9⟩ := P.own_cells10 HOW.out HXL.out;have f0 := (HOW.out).frozenAt (L.length * 10);have f1 := (HOW.out).frozenAt (L.length * 10 + 1);have f2 := (HOW.out).frozenAt (L.length * 10 + 2);have f3 := (HOW.out).frozenAt (L.length * 10 + 3);have f4 := (HOW.out).frozenAt (L.length * 10 + 4);have f5 := (HOW.out).frozenAt (L.length * 10 + 5);have f6 := (HOW.out).frozenAt (L.length * 10 + 6);have f7 := (HOW.out).frozenAt (L.length * 10 + 7);have f8 := (HOW.out).frozenAt (L.length * 10 + 8);have f9 := (HOW.out).frozenAt (L.length * 10 + 9);go_simp;have ho7 := P.own_set10 HOW.out HXL.out (.int .i64 k) (.int .i64 v.kind) (.int .i64 v.n) (.string v.s) (.slice none 0 0) (.slice none 0 0) (.string s) (.string t) (.slice a i u) (.slice b j p);have hf7 := P.frn10 wA gA (L.length * 10) (.int .i64 k) (.int .i64 v.kind) (.int .i64 v.n) (.string v.s) (.slice none 0 0) (.slice none 0 0) (.string s) (.string t) (.slice a i u) (.slice b j p);generalize ((((((((((wA.setCell _ _).setCell _ _).setCell _ _).setCell _ _).setCell _ _).setCell _ _).setCell _ _).setCell _ _).setCell _ _).setCell _ _) = w7 at *;refine hK _ _ (Lt.is_late (by kernel_rfl)) ?_;clear hK K;clear z0 f0;clear z1 f1;clear z2 f2;clear z3 f3;clear z4 f4;clear z5 f5;clear z6 f6;clear z7 f7;clear z8 f8;clear z9 f9;have HB7 : Hid (w7.heap[B]? = some (P.iblk ao L.length cap)) := (hf7.block B (blt HB4.out) HBG.out).trans HB4.out;obtain ⟨HO7, HF7⟩ := hd2 ho7 hf7;clear ho7 hf7;have k1 := HB7.out;unfold P.iblk at k1;have x8 := cell_of_block k1 8 _ rfl;have y8 := free_of_block k1 8;clear k1;refine Lt.ready1 (i := 9) (by kernel_rfl) rfl (fun K hK => ?_);go_simp;have hbz : (w7.setCell ⟨B, 8, none⟩ (.slice (some ⟨gA, 0, none⟩) (L.length + 1) capA)).heap[B]? = some (P.iblk (some ⟨gA, 0, none⟩) (L.length + 1) capA) := block_set (i := 8) HB7.out _;have hoz := P.owns_fr HO7.out (Fr.set1 w7 B 8 (.slice (some ⟨gA, 0, none⟩) (L.length + 1) capA)) (fun c hc e => by have h1 : gA = c := Option.some.inj hc; have := HBG.out; omega);have hfz : Fr wA (w7.setCell ⟨B, 8, none⟩ (.slice (some ⟨gA, 0, none⟩) (L.length + 1) capA)) (fun c => c = gA \/ c = B) := (HF7.out.weak (fun _ _ e => .inl e)).trans (Fr.set1 w7 B 8 _) (fun _ _ e => .inr e);generalize w7.setCell _ _ = wz at *;clear x8 y8;refine hK _ _ (Lt.is_late (by kernel_rfl)) ?_;clear hK K;refine Lt.done (by kernel_rfl) ?_ _;have HE9 := hide (HFIN.out wz hoz hbz hfz);clear hoz hbz hfz;go_wp2_with fail;exact bodyPost_ret (v := ev) (by simp [results, Tryz.results201, go_sem]) rfl HE9.out
 ·have k1 := HB4.out;unfold P.iblk at k1;have x8 := cell_of_block k1 8 _ rfl;have y8 := free_of_block k1 8;clear k1;go_simp;have hbz : (wA.setCell ⟨B, 8, none⟩ (.slice (some ⟨gA, 0, none⟩) (L.length + 1) capA)).heap[B]? = some (P.iblk (some ⟨gA, 0, none⟩) (L.length + 1) capA) := block_set (i := 8) HB4.out _;have ho7 := P.owns_fr HOW.out (Fr.set1 wA B 8 (.slice (some ⟨gA, 0, none⟩) (L.length + 1) capA)) (fun c hc e => by have h1 : gA = c := Option.some.inj hc; have := HBG.out; omega);have hf7 : Fr wA (wA.setCell ⟨B, 8, none⟩ (.slice (some ⟨gA, 0, none⟩) (L.length + 1) capA)) (fun c => c = gA \/ c = B) := (Fr.set1 wA B 8 _).weak (fun _ _ e => .inr e);generalize wA.setCell _ _ = w7 at *;clear x8 y8;refine hK _ _ (Lt.is_late (by kernel_rfl)) ?_;clear hK K;obtain ⟨HO7, HB7, HF7⟩ := hd3 ho7 hbz hf7;clear ho7 hbz hf7;obtain ⟨z0, z1, z2, z3, z4, z5, z6, z7, z8, z9⟩ := P.own_cells10 HO7.out HXL.out;have f0 := (HO7.out).frozenAt (L.length * 10);have f1 := (HO7.out).frozenAt (L.length * 10 + 1);have f2 := (HO7.out).frozenAt (L.length * 10 + 2);have f3 := (HO7.out).frozenAt (L.length * 10 + 3);have f4 := (HO7.out).frozenAt (L.length * 10 + 4);have f5 := (HO7.out).frozenAt (L.length * 10 + 5);have f6 := (HO7.out).frozenAt (L.length * 10 + 6);have f7 := (HO7.out).frozenAt (L.length * 10 + 7);have f8 := (HO7.out).frozenAt (L.length * 10 + 8);have f9 := (HO7.out).frozenAt (L.length * 10 + 9);refine Lt.ready1 (i := 7) (by kernel_rfl) rfl (fun K hK => ?_);go_simp;have hoz := P.own_set10 HO7.out HXL.out (.int .i64 k) (.int .i64 v.kind) (.int .i64 v.n) (.string v.s) (.slice none 0 0) (.slice none 0 0) (.string s) (.string t) (.slice a i u) (.slice b j p);have hf8 := P.frn10 w7 gA (L.length * 10) (.int .i64 k) (.int .i64 v.kind) (.int .i64 v.n) (.string v.s) (.slice none 0 0) (.slice none 0 0) (.string s) (.string t) (.slice a i u) (.slice b j p);generalize ((((((((((w7.setCell _ _).setCell _ _).setCell _ _).setCell _ _).setCell _ _).setCell _ _).setCell _ _).setCell _ _).setCell _ _).setCell _ _) = wz at *;clear z0 f0;clear z1 f1;clear z2 f2;clear z3 f3;clear z4 f4;clear z5 f5;clear z6 f6;clear z7 f7;clear z8 f8;clear z9 f9;have hbz := (hf8.block B (blt HB7.out) HBG.out).trans HB7.out;have hfz : Fr wA wz (fun c => c = gA \/ c = B) := HF7.out.trans hf8 (fun _ _ e => .inl e);clear hf8;refine hK _ _ (Lt.is_late (by kernel_rfl)) ?_;clear hK K;refine Lt.done (by kernel_rfl) ?_ _;have HE9 := hide (HFIN.out wz hoz hbz hfz);clear hoz hbz hfz;go_wp2_with fail;exact bodyPost_ret (v := ev) (by simp [results, Tryz.results201, go_sem]) rfl HE9.out
end Go.Proofs.YtcekcfjabhlheaaGreatDoor.Vx
namespace Go.Proofs.YtcekcfjabhlheaaGreatDoor.Vx
open Go.RowKit
theorem items_any (d R Br Bd : Nat) (w : World) (ts : List P.K) (hd : d <= 6) (ih : P.IH d) (h : P.Rdr R w ts) (hi : P.Inn R Br Bd d w) (x : List Ex × List P.T) (hx : P.rows [93] (P.ex d) (P.fc ts) = some x) (hw : ∀ y ∈ x.1, P.Wr d y) :
  Calls Tryz.prog 179 #[.pointer (some ⟨R, 0, none⟩), .func (.func 175) #[] #[.pointer (some ⟨Br, 0, none⟩), .pointer (some ⟨Bd, 0, none⟩)]] w fun r w' => Fr w w' (fun c => c = R) /\ P.ChOut (fun _ => False) 60 ((P.rows [93] (P.ex d) (P.fc ts)).map (fun p => ((⟨8, V.zero, ⟨#[]⟩, ⟨#[]⟩, p.1, []⟩ : Ex), p.2))) (d + 1) R w w' ts r := by
 have hR := h.lt;have hBr : Br < w.heap.size := World.block_lt_of_cell? w _ hi.c1;have hBd : Bd < w.heap.size := World.block_lt_of_cell? w _ hi.c2;have hb1 : Below w.heap.size w (((w.alloc (.cells #[.func (.func 175) #[] #[.pointer (some ⟨Br, 0, none⟩), .pointer (some ⟨Bd, 0, none⟩)]] 190)).alloc (.cells #[.int .i64 0, .int .i64 0, .int .i64 0, .string ⟨#[]⟩, .slice none 0 0, .slice none 0 0, .string ⟨#[]⟩, .string ⟨#[]⟩, .slice none 0 0, .slice none 0 0] 170)).alloc (.cells #[.int .i64 8, .int .i64 0, .int .i64 0, .string ⟨#[]⟩, .slice none 0 0, .slice none 0 0, .string ⟨#[]⟩, .string ⟨#[]⟩, .slice none 0 0, .slice none 0 0] 170)) := ((ba).alloc (by simp) _).alloc (by simp; omega) _;have hA1 : (((w.alloc (.cells #[.func (.func 175) #[] #[.pointer (some ⟨Br, 0, none⟩), .pointer (some ⟨Bd, 0, none⟩)]] 190)).alloc (.cells #[.int .i64 0, .int .i64 0, .int .i64 0, .string ⟨#[]⟩, .slice none 0 0, .slice none 0 0, .string ⟨#[]⟩, .string ⟨#[]⟩, .slice none 0 0, .slice none 0 0] 170)).alloc (.cells #[.int .i64 8, .int .i64 0, .int .i64 0, .string ⟨#[]⟩, .slice none 0 0, .slice none 0 0, .string ⟨#[]⟩, .string ⟨#[]⟩, .slice none 0 0, .slice none 0 0] 170)).heap[w.heap.size]? = some (.cells #[.func (.func 175) #[] #[.pointer (some ⟨Br, 0, none⟩), .pointer (some ⟨Bd, 0, none⟩)]] 190 (0, 0)) := by
  rw [heap_alloc_old _ _ (by simp; omega), heap_alloc_old _ _ (by simp)]; exact heap_alloc_new _ _
 have hG1 : (((w.alloc (.cells #[.func (.func 175) #[] #[.pointer (some ⟨Br, 0, none⟩), .pointer (some ⟨Bd, 0, none⟩)]] 190)).alloc (.cells #[.int .i64 0, .int .i64 0, .int .i64 0, .string ⟨#[]⟩, .slice none 0 0, .slice none 0 0, .string ⟨#[]⟩, .string ⟨#[]⟩, .slice none 0 0, .slice none 0 0] 170)).alloc (.cells #[.int .i64 8, .int .i64 0, .int .i64 0, .string ⟨#[]⟩, .slice none 0 0, .slice none 0 0, .string ⟨#[]⟩, .string ⟨#[]⟩, .slice none 0 0, .slice none 0 0] 170)).heap[w.heap.size + 1]? = some (.cells #[.int .i64 0, .int .i64 0, .int .i64 0, .string ⟨#[]⟩, .slice none 0 0, .slice none 0 0, .string ⟨#[]⟩, .string ⟨#[]⟩, .slice none 0 0, .slice none 0 0] 170 (0, 0)) := by
  rw [heap_alloc_old _ _ (by simp), show w.heap.size + 1 = (w.alloc (.cells #[.func (.func 175) #[] #[.pointer (some ⟨Br, 0, none⟩), .pointer (some ⟨Bd, 0, none⟩)]] 190)).heap.size by simp]; exact heap_alloc_new _ _
 have hB1 : (((w.alloc (.cells #[.func (.func 175) #[] #[.pointer (some ⟨Br, 0, none⟩), .pointer (some ⟨Bd, 0, none⟩)]] 190)).alloc (.cells #[.int .i64 0, .int .i64 0, .int .i64 0, .string ⟨#[]⟩, .slice none 0 0, .slice none 0 0, .string ⟨#[]⟩, .string ⟨#[]⟩, .slice none 0 0, .slice none 0 0] 170)).alloc (.cells #[.int .i64 8, .int .i64 0, .int .i64 0, .string ⟨#[]⟩, .slice none 0 0, .slice none 0 0, .string ⟨#[]⟩, .string ⟨#[]⟩, .slice none 0 0, .slice none 0 0] 170)).heap[w.heap.size + 2]? = some (P.iblk none 0 0) := by
  rw [show w.heap.size + 2 = ((w.alloc (.cells #[.func (.func 175) #[] #[.pointer (some ⟨Br, 0, none⟩), .pointer (some ⟨Bd, 0, none⟩)]] 190)).alloc (.cells #[.int .i64 0, .int .i64 0, .int .i64 0, .string ⟨#[]⟩, .slice none 0 0, .slice none 0 0, .string ⟨#[]⟩, .string ⟨#[]⟩, .slice none 0 0, .slice none 0 0] 170)).heap.size by simp]; exact heap_alloc_new _ _
 have hsz : (((w.alloc (.cells #[.func (.func 175) #[] #[.pointer (some ⟨Br, 0, none⟩), .pointer (some ⟨Bd, 0, none⟩)]] 190)).alloc (.cells #[.int .i64 0, .int .i64 0, .int .i64 0, .string ⟨#[]⟩, .slice none 0 0, .slice none 0 0, .string ⟨#[]⟩, .string ⟨#[]⟩, .slice none 0 0, .slice none 0 0] 170)).alloc (.cells #[.int .i64 8, .int .i64 0, .int .i64 0, .string ⟨#[]⟩, .slice none 0 0, .slice none 0 0, .string ⟨#[]⟩, .string ⟨#[]⟩, .slice none 0 0, .slice none 0 0] 170)).heap.size = w.heap.size + 3 := by simp
 have hr1 := h.kept hb1;have hi1 := hi.kept hb1;have HF1 := hide (P.fr_below hb1);have HPI : Hid (P.rowsS [93] (P.oneI d) [] (P.fc ts) = P.rows [93] (P.ex d) (P.fc ts)) := P.rowsI d [93] (P.fc ts);have HL := hide h.len;have HIT : Hid (P.It (((w.alloc (.cells #[.func (.func 175) #[] #[.pointer (some ⟨Br, 0, none⟩), .pointer (some ⟨Bd, 0, none⟩)]] 190)).alloc (.cells #[.int .i64 0, .int .i64 0, .int .i64 0, .string ⟨#[]⟩, .slice none 0 0, .slice none 0 0, .string ⟨#[]⟩, .string ⟨#[]⟩, .slice none 0 0, .slice none 0 0] 170)).alloc (.cells #[.int .i64 8, .int .i64 0, .int .i64 0, .string ⟨#[]⟩, .slice none 0 0, .slice none 0 0, .string ⟨#[]⟩, .string ⟨#[]⟩, .slice none 0 0, .slice none 0 0] 170)) R (w.heap.size + 2) d (60 * ts.length) ts [] (((w.alloc (.cells #[.func (.func 175) #[] #[.pointer (some ⟨Br, 0, none⟩), .pointer (some ⟨Bd, 0, none⟩)]] 190)).alloc (.cells #[.int .i64 0, .int .i64 0, .int .i64 0, .string ⟨#[]⟩, .slice none 0 0, .slice none 0 0, .string ⟨#[]⟩, .string ⟨#[]⟩, .slice none 0 0, .slice none 0 0] 170)).alloc (.cells #[.int .i64 8, .int .i64 0, .int .i64 0, .string ⟨#[]⟩, .slice none 0 0, .slice none 0 0, .string ⟨#[]⟩, .string ⟨#[]⟩, .slice none 0 0, .slice none 0 0] 170))) :=
  ⟨Fr.refl _ _, hr1, ⟨none, 0, [], rfl, hB1, P.Grow.nil _ _ _⟩, by simp, by have := HL.out; simp; omega⟩
 have HRW := hide (row_any102 (P.oneI d) (P.It (((w.alloc (.cells #[.func (.func 175) #[] #[.pointer (some ⟨Br, 0, none⟩), .pointer (some ⟨Bd, 0, none⟩)]] 190)).alloc (.cells #[.int .i64 0, .int .i64 0, .int .i64 0, .string ⟨#[]⟩, .slice none 0 0, .slice none 0 0, .string ⟨#[]⟩, .string ⟨#[]⟩, .slice none 0 0, .slice none 0 0] 170)).alloc (.cells #[.int .i64 8, .int .i64 0, .int .i64 0, .string ⟨#[]⟩, .slice none 0 0, .slice none 0 0, .string ⟨#[]⟩, .string ⟨#[]⟩, .slice none 0 0, .slice none 0 0] 170)) R (w.heap.size + 2) d (60 * ts.length)) (P.It (((w.alloc (.cells #[.func (.func 175) #[] #[.pointer (some ⟨Br, 0, none⟩), .pointer (some ⟨Bd, 0, none⟩)]] 190)).alloc (.cells #[.int .i64 0, .int .i64 0, .int .i64 0, .string ⟨#[]⟩, .slice none 0 0, .slice none 0 0, .string ⟨#[]⟩, .string ⟨#[]⟩, .slice none 0 0, .slice none 0 0] 170)).alloc (.cells #[.int .i64 8, .int .i64 0, .int .i64 0, .string ⟨#[]⟩, .slice none 0 0, .slice none 0 0, .string ⟨#[]⟩, .string ⟨#[]⟩, .slice none 0 0, .slice none 0 0] 170)) R (w.heap.size + 2) d (60 * ts.length + 1)) (P.ItBad (((w.alloc (.cells #[.func (.func 175) #[] #[.pointer (some ⟨Br, 0, none⟩), .pointer (some ⟨Bd, 0, none⟩)]] 190)).alloc (.cells #[.int .i64 0, .int .i64 0, .int .i64 0, .string ⟨#[]⟩, .slice none 0 0, .slice none 0 0, .string ⟨#[]⟩, .string ⟨#[]⟩, .slice none 0 0, .slice none 0 0] 170)).alloc (.cells #[.int .i64 8, .int .i64 0, .int .i64 0, .string ⟨#[]⟩, .slice none 0 0, .slice none 0 0, .string ⟨#[]⟩, .string ⟨#[]⟩, .slice none 0 0, .slice none 0 0] 170)) R (w.heap.size + 2)) R w.heap.size (w.heap.size + 2) ⟨#[93]⟩
  (fun _ _ _ h => h.rdr) (fun _ _ _ h => h.rdr) (fun _ _ _ _ _ h hf hl hr => h.move (by omega) (by omega) hf hl hr) (fun _ _ _ _ _ h hf hl hr => h.comma (by omega) (by omega) hf hl hr) (fun _ _ _ _ h hf hr => h.move (by omega) (by omega) hf (Nat.le_refl _) hr)
  (fun _ _ _ _ _ h hf hr => h.bad (by omega) hf hr)
  x (fun ts acc w' n h hr => items1_any d R Br Bd w.heap.size (w.heap.size + 2) (60 * _) _ hd ih hA1 (by omega) (by omega) (by omega) (by omega) (by omega) hi1 (by omega) (by omega) ts acc w' h (P.rowI_ok hr hw)) _ ts [] HIT.out (fun y hy => Option.some.inj (hy.symm.trans (HPI.out.trans hx))) ⟨x, HPI.out.trans hx⟩)
 obtain ⟨HG1, HSZ, HB1⟩ := hd3 hG1 hsz hB1;have HPX : Hid (P.rowsS [93] (P.oneI d) [] (P.fc ts) = some x) := HPI.out.trans hx;clear h hb1 hA1 hG1 hB1 hsz hr1 hi1 ih hi hBr hBd HIT hx hw;go_enter Tryz.func179, Tryz.ntmps179;go_wp2_with fail;generalize (((w.alloc _).alloc _).alloc _) = w1 at *;refine HRW.out.mono ?_;rintro r w2 ⟨ev, rfl, ⟨acc, m, hE, rfl, hlt, hI⟩ | ⟨hE, ⟨f, rfl⟩, hI⟩⟩
 ·obtain ⟨ao, cap, L, rfl, hb2, hG⟩ := hI.row;have hF2 := hI.fr;have hA2 := (hF2.block (w.heap.size + 1) (blt HG1.out) (by omega)).trans HG1.out;have HF3 : Hid (Fr w w2 (fun c => c = R)) := (HF1.out.weak (fun _ _ e => e.elim)).trans hF2 (fun c hc e => e.elim id (fun e => by omega));have HR3 := hide hI.rdr;have HP : Hid (((P.rows [93] (P.ex d) (P.fc ts)).map (fun p => ((⟨8, V.zero, ⟨#[]⟩, ⟨#[]⟩, p.1, []⟩ : Ex), p.2))) = some (⟨8, V.zero, ⟨#[]⟩, ⟨#[]⟩, L.map (fun x => x.1), []⟩, P.fc (ts.drop (m + 1)))) := by
   show _ = _;rw [<- HPI.out, show P.rowsS [93] (P.oneI d) [] (P.fc ts) = _ from hE];rfl
  have HBK2 : Hid (X.bulk (d + 1) ⟨8, V.zero, ⟨#[]⟩, ⟨#[]⟩, L.map (fun x => x.1), []⟩ + 60 * (ts.drop (m + 1)).length <= 60 * ts.length + 60) := by
   show _ <= _;have h1 := hI.bulk;rw [X.bulk, V.bulk];simp only [V.zero, X.sumA, X.sumN, V.sumL, V.sumF, P.zero_size, List.map_nil, List.sum_nil, List.length_nil] at h1 ⊢;omega
  have HM3 := hide (P.grow_node hG 8 ⟨#[]⟩ ⟨#[]⟩);have HS2 : Hid (w1.heap.size <= w2.heap.size) := hF2.size;clear hE hlt hI hG hF2 HRW HPI;have k1 := hb2;unfold P.iblk at k1;obtain ⟨y0, y1, y2, y3, y4, y5, y6, y7, y8, y9⟩ := cl10 k1;clear k1;clear hb2;obtain ⟨z0, z1, z2, z3, z4, z5, z6, z7, z8, z9⟩ := cl10 hA2;obtain ⟨f0, f1, f2, f3, f4, f5, f6, f7, f8, f9⟩ := fl10 hA2;have HAx := hide hA2;clear hA2;go_wp2_with fail;have hBz := P.set10 HAx.out (.int .i64 8) (.int .i64 0) (.int .i64 0) (.string ⟨#[]⟩) (.slice none 0 0) (.slice none 0 0) (.string ⟨#[]⟩) (.string ⟨#[]⟩) (.slice ao L.length cap) (.slice none 0 0);have hFz := P.fr10 w2 (w.heap.size + 1) (.int .i64 8) (.int .i64 0) (.int .i64 0) (.string ⟨#[]⟩) (.slice none 0 0) (.slice none 0 0) (.string ⟨#[]⟩) (.string ⟨#[]⟩) (.slice ao L.length cap) (.slice none 0 0);generalize ((((((((((w2.setCell _ _).setCell _ _).setCell _ _).setCell _ _).setCell _ _).setCell _ _).setCell _ _).setCell _ _).setCell _ _).setCell _ _) = wz at *;obtain ⟨r0, r1, r2, r3, r4, r5, r6, r7, r8, r9⟩ := cl10 hBz;refine bodyPost_ret (v := .tuple #[.agg #[.int .i64 8, .int .i64 0, .int .i64 0, .string ⟨#[]⟩, .slice none 0 0, .slice none 0 0, .string ⟨#[]⟩, .string ⟨#[]⟩, .slice ao L.length cap, .slice none 0 0], .nilIface]) (by simp [results, Tryz.results179, go_sem, r0, r1, r2, r3, r4, r5, r6, r7, r8, r9]) rfl ⟨HF3.out.trans hFz (fun c hc e => by omega), .inl ⟨_, m, 8, V.zero, ⟨#[]⟩, ⟨#[]⟩, ao, L.length, cap, none, 0, 0, HP.out, rfl, HM3.out.to (fun c hc => hFz.block c hc.2 (by have := hc.1; have := HSZ.out; omega)) (fun c hc => .inr ⟨by have := hc.1; have := HSZ.out; omega, by have := hc.2; have := hFz.size; omega⟩), HBK2.out, HR3.out.fr hFz (fun c e => by omega)⟩⟩
 ·cases HPX.out.symm.trans (show P.rowsS [93] (P.oneI d) [] (P.fc ts) = none from hE)
namespace P
def oneF (most : Nat) (one : List T -> Option (Ex × List T)) (acc : List (ByteArray × Ex)) (ts : List T) : Option (List (ByteArray × Ex) × List T) :=
 match name ts with
 | none => none
 | some (s, t1) =>
  if acc.length = most then none
  else if above (acc.getLast?.map (·.1)) s = false then none
  else
   match found 4 [58] t1 with
   | none => none
   | some t2 => (one t2).map (fun p => (acc ++ [(s, p.1)], p.2))
theorem rowF (most : Nat) (one : List T -> Option (Ex × List T)) : ∀ (n : Nat) (acc : List (ByteArray × Ex)) (ts : List T), rowS [125] (oneF most one) n acc ts = (fieldRow most one n (acc.getLast?.map (·.1)) acc.length ts).map (fun p => (acc ++ p.1, p.2))
 | 0, _, _ => rfl
 | n + 1, acc, ts => by
  rw [rowS, fieldRow, oneF];cases h : name ts with
  | none => rfl
  | some p =>
   obtain ⟨s, t1⟩ := p;simp only;by_cases h1 : acc.length = most
   ·rw [if_pos h1, if_pos h1];rfl
   rw [if_neg h1, if_neg h1];by_cases h2 : above (acc.getLast?.map (·.1)) s = false
   ·rw [if_pos h2, if_pos h2];rfl
   rw [if_neg h2, if_neg h2];cases h3 : found 4 [58] t1 with
   | none => rfl
   | some t2 =>
    simp only;cases h4 : one t2 with
    | none => rfl
    | some q =>
     obtain ⟨x, t3⟩ := q;simp only [Option.map_some];cases h5 : found 4 [44] t3 with
     | none =>
      simp only;cases found 4 [125] t3 <;> rfl
     | some t4 =>
      simp only;rw [rowF most one n, List.getLast?_append, List.length_append];simp only [List.getLast?_singleton, Option.some_or, Option.map_some, List.length_cons, List.length_nil];cases fieldRow most one n (some s) (acc.length + (0 + 1)) t4 with
      | none => rfl
      | some q => simp
theorem rowsF (most : Nat) (one : List T -> Option (Ex × List T)) (ts : List T) : rowsS [125] (oneF most one) [] ts = fields most one ts := by
 unfold rowsS fields;cases found 4 [125] ts with
 | some r => rfl
 | none =>
  simp only;rw [rowF];cases h : fieldRow most one ts.length (([] : List (ByteArray × Ex)).getLast?.map (·.1)) ([] : List (ByteArray × Ex)).length ts with
  | none =>
   simp at h;rw [h];rfl
  | some q =>
   simp at h;rw [h];simp
structure GrowF (base d : Nat) (w : World) (vn v : Value) (N : List ByteArray) (L : List (Ex × List Value)) : Prop where
 ten : ∀ x ∈ L, x.2.length = 10
 ownN : w.ownsRow base 9 1 vn N.length (N.map Value.string)
 own : w.ownsRow base 170 10 v L.length (L.flatMap (fun x => x.2))
 mem : ∀ x ∈ L, X.MemD (fun c => base <= c /\ c < w.heap.size /\ v.ownBlock ≠ some c /\ vn.ownBlock ≠ some c) d w x.1 x.2
theorem GrowF.nil (base d : Nat) (w : World) : GrowF base d w (.slice none 0 0) (.slice none 0 0) [] [] := ⟨fun _ h => absurd h (by simp), World.ownsRow_nil _ _ _ _, World.ownsRow_nil _ _ _ _, fun _ h => absurd h (by simp)⟩
theorem GrowF.fr {base d : Nat} {w w' : World} {vn v : Value} {N : List ByteArray} {L : List (Ex × List Value)} {ex : Nat -> Prop} (h : GrowF base d w vn v N L) (hf : Fr w w' ex) (hx : ∀ c, ex c -> c < base) : GrowF base d w' vn v N L :=
 ⟨h.ten, owns_fr h.ownN hf (fun c hc e => by have := hx c e; have := (h.ownN.lt c hc).1; omega), owns_fr h.own hf (fun c hc e => by have := hx c e; have := (h.own.lt c hc).1; omega),
  fun x hxm => (h.mem x hxm).to (fun c hc => hf.block c hc.2.1 (fun e => by have := hx c e; have := hc.1; omega)) (fun c hc => ⟨hc.1, by have := hf.size; have := hc.2.1; omega, hc.2.2.1, hc.2.2.2⟩)⟩
theorem owns_two {w : World} {base base' n n' z z' : Nat} {t t' : TypeId} {v v' : Value} {xs xs' : List Value} (h : w.ownsRow base t z v n xs) (h' : w.ownsRow base' t' z' v' n' xs') (ht : t ≠ t') : ∀ c, v.ownBlock = some c -> v'.ownBlock ≠ some c := by
 intro c hc hc';rcases h.2 with ⟨rfl, _⟩ | ⟨g, cap, cur, rfl, _, hg, _⟩
 ·simp [Value.ownBlock] at hc
 ·rcases h'.2 with ⟨rfl, _⟩ | ⟨g', cap', cur', rfl, _, hg', _⟩
  ·simp [Value.ownBlock] at hc'
  ·have e1 : g = c := Option.some.inj hc;have e2 : g' = c := Option.some.inj hc';subst e1;subst e2;rw [hg] at hg';have := Option.some.inj hg';simp only [Obj.cells.injEq] at this;exact ht this.2.1
end P
end Go.Proofs.YtcekcfjabhlheaaGreatDoor.Vx
