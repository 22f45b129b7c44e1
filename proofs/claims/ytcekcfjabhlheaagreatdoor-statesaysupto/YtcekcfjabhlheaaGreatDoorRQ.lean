/- StateSays: RQ. -/
import Derived.Test.YtcekcfjabhlheaaGreatDoorRY
set_option maxRecDepth 100000
set_option maxHeartbeats 12800000
namespace Go.Proofs.YtcekcfjabhlheaaGreatDoor.Vx
open Go.RowKit
attribute [local go_sem ↓] Go.wp_at_zero Go.wp_at_succ
theorem P.size_alloc (w : World) (o : Obj) : (w.alloc o).heap.size = w.heap.size + 1 := by simp
theorem info9 : (Tryz.prog.info? 9).map (fun i => (i.zero, i.size, i.bytes)) = some (some (.string ⟨#[]⟩), 1, 16) := by kernel_rfl
theorem P.rowS_one {σ : Type} {e : List UInt8} {one : σ -> List P.T -> Option (σ × List P.T)} {n : Nat} {s : σ} {ts : List P.T} {x : σ × List P.T} (h : P.rowS e one n s ts = some x) : ∃ y, one s ts = some y := by
 cases n with
 | zero => cases h
 | succ n =>
  rw [P.rowS] at h;cases ho : one s ts with
  | none =>
   rw [ho] at h;cases h
  | some y => exact ⟨y, rfl⟩
theorem P.oneF_pre {most : Nat} {one : List P.T -> Option (Ex × List P.T)} {acc : List (ByteArray × Ex)} {ts t1 : List P.T} {s : ByteArray} (h : ∃ y, P.oneF most one acc ts = some y) (h1 : P.name ts = some (s, t1)) : acc.length ≠ most /\ P.above (acc.getLast?.map (·.1)) s = true := by
 obtain ⟨y, hy⟩ := h;rw [P.oneF, h1] at hy;simp only at hy;split at hy
 ·cases hy
 ·next e1 =>
  split at hy
  ·cases hy
  ·next e2 => exact ⟨e1, by cases h : P.above (acc.getLast?.map (·.1)) s <;> simp_all⟩
theorem fields1_any80 (Wq : List P.T -> Prop) (one : List P.T -> Option (Ex × List P.T)) (most d R BR Bn Bm Bc Bl M Br Bd : Nat) (w1 : World) (hBR : w1.heap[BR]? = some (.cells #[.pointer (some ⟨R, 0, none⟩)] 188 (0, 0))) (hBm : w1.heap[Bm]? = some (.cells #[.int .i64 most] 3 (0, 0))) (hBc : w1.heap[Bc]? = some (.cells #[.func (.func 175) #[] #[.pointer (some ⟨Br, 0, none⟩), .pointer (some ⟨Bd, 0, none⟩)]] 190 (0, 0)))
  (hdd1 : BR ≠ R /\ BR ≠ Bn /\ BR ≠ Bl) (hdd2 : Bm ≠ R /\ Bm ≠ Bn /\ Bm ≠ Bl) (hdd3 : Bc ≠ R /\ Bc ≠ Bn /\ Bc ≠ Bl) (hRn : R < Bn) (hRl : R < Bl) (hnl : Bn ≠ Bl) (hn : Bn < w1.heap.size) (hl : Bl < w1.heap.size)
  (hone : ∀ W tsW, Fr w1 W (fun c => c = R \/ c = Bn \/ c = Bl) -> P.Rdr R W tsW -> Wq (P.fc tsW) -> Calls Tryz.prog 175 #[.pointer (some ⟨Br, 0, none⟩), .pointer (some ⟨Bd, 0, none⟩)] W fun r w' => Fr W w' (fun c => c = R) /\ ∃ k v s t a i u b j p ev, r = .returned (.tuple #[.agg (P.xc k v s t a i u b j p).toArray, ev]) /\ ((∃ e n, one (P.fc tsW) = some (e, P.fc (tsW.drop (n + 1))) /\ ev = .nilIface /\ X.MemD (P.New W w') d w' e (P.xc k v s t a i u b j p) /\ X.bulk d e + 60 * (tsW.drop (n + 1)).length <= 60 * tsW.length /\ P.Rdr R w' (tsW.drop (n + 1))) \/ (one (P.fc tsW) = none /\ (∃ f : Int, ev = .iface 54 (.int .i64 f)) /\ ∃ ts', P.Rdr R w' ts')))
  (ts : List P.K) (acc : List (ByteArray × Ex)) (w : World) (h : P.ItF w1 R Bn Bl d M ts acc w) (hq : ∀ s t1 t2, P.name (P.fc ts) = some (s, t1) -> P.found 4 [58] t1 = some t2 -> Wq t2) (hne : ∃ y, P.oneF most one acc (P.fc ts) = some y) :
  Calls Tryz.prog 202 #[.pointer (some ⟨BR, 0, none⟩), .pointer (some ⟨Bn, 0, none⟩), .pointer (some ⟨Bm, 0, none⟩), .pointer (some ⟨Bc, 0, none⟩), .pointer (some ⟨Bl, 0, none⟩)] w fun r w' => ∃ ev, r = .returned ev /\ ((∃ acc' n, P.oneF most one acc (P.fc ts) = some (acc', P.fc (ts.drop (n + 1))) /\ (ts.drop (n + 1)).length < ts.length /\ ev = .nilIface /\ P.ItF w1 R Bn Bl d M (ts.drop (n + 1)) acc' w') \/ (P.oneF most one acc (P.fc ts) = none /\ (∃ f : Int, ev = .iface 54 (.int .i64 f)) /\ P.ItFBad w1 R Bn Bl w')) := by
 obtain ⟨i0, hi0, hz0, hz1, hz2⟩ := info_parts info57;obtain ⟨i9, hj0, hy0, hy1, hy2⟩ := info_parts info9;have h10 : 0 < 10 := by decide
 have KB : Hid (∀ W, Fr w1 W (fun c => c = R \/ c = Bn \/ c = Bl) -> W.cell? ⟨BR, 0, none⟩ = some (.pointer (some ⟨R, 0, none⟩)) /\ W.cell? ⟨Bm, 0, none⟩ = some (.int .i64 most) /\ W.cell? ⟨Bc, 0, none⟩ = some (.func (.func 175) #[] #[.pointer (some ⟨Br, 0, none⟩), .pointer (some ⟨Bd, 0, none⟩)])) := by
  intro W hf;exact ⟨cell_of_block ((hf.block BR (blt hBR) (by omega)).trans hBR) 0 _ rfl, cell_of_block ((hf.block Bm (blt hBm) (by omega)).trans hBm) 0 _ rfl, cell_of_block ((hf.block Bc (blt hBc) (by omega)).trans hBc) 0 _ rfl⟩
 have KN : Hid (∀ {W w' : World} {tsA tsB : List P.K}, P.ItF w1 R Bn Bl d M tsA acc W -> Fr W w' (fun c => c = R) -> tsB.length <= tsA.length -> P.Rdr R w' tsB -> P.ItF w1 R Bn Bl d M tsB acc w') := fun h hf hl hr => h.move (by omega) (by omega) (by omega) hf hl hr
 have KD : Hid (∀ {W w' : World} {tsA tsB : List P.K}, P.ItF w1 R Bn Bl d M tsA acc W -> Fr W w' (fun c => c = R) -> P.Rdr R w' tsB -> P.ItFBad w1 R Bn Bl w') := fun h hf hr => h.bad (by omega) (by omega) hf hr
 obtain ⟨HO, HQN, HNE⟩ := hd3 hone hq hne;have HNX := hide (next_any R w ts h.rdr);have HI := hide h;obtain ⟨b1, b2, b3⟩ := KB.out w h.fr;clear h hq hne hone hBR hBm hBc hdd1 hdd2 hdd3;go_enter Tryz.func202, Tryz.ntmps202;go_wp2_with fail;refine HNX.out.mono ?_;rintro r wa ⟨⟨at_, rfl⟩, hba⟩;have hfa : Fr w wa (fun c => c = R) := (P.fr_below hba).weak (fun _ _ e => e.elim);have HIa := hide (KN.out HI.out hfa (Nat.le_refl _) (HI.out.rdr.kept hba));have hfd := field_at (.int .i64 (P.headT ts).1) (.int .i64 at_) (.string (Lx.str (P.headT ts).2)) wa;clear b1 b2 b3 hba hfa HI HNX;obtain ⟨b1, b2, b3⟩ := KB.out wa HIa.out.fr;have HNM := hide (rname_any R wa ts HIa.out.rdr);go_wp2_with fail;refine HNM.out.mono ?_;rintro r wb ⟨hfb, ⟨t, ts1, eT, hE1, hnm, rfl, hrb⟩ | ⟨hE1, rfl, hrb⟩⟩
 ·subst eT;have HIb := hide (KN.out HIa.out hfb (by simp) hrb);have HE1 := hide hE1;have HV : Hid ((V.str t.2.2).size <= 40) := by
   show _ <= _;rw [<- V.length_bl, V.bl_str];exact (HIa.out.rdr.2 t (by simp)).1
  generalize hsn : V.str t.2.2 = sn at *;clear hfb hE1 hrb HNM b1 b2 b3 hfd HIa hsn hnm;obtain ⟨b1, b2, b3⟩ := KB.out wb HIb.out.fr;obtain ⟨an, capn, ao, cap, N, L, e1, e2, hb1, hb2, hG⟩ := HIb.out.row;have n1 := cell_of_block hb1 0 _ rfl;have hNl : N.length <= 4200 := by
   rw [<- e1, List.length_map];have := HIb.out.len;omega
  obtain ⟨HG, HB1, HB2⟩ := hd3 hG hb1 hb2;have hNa : N.length = acc.length := by rw [<- e1, List.length_map]
  clear hb1 hb2 hG;obtain ⟨hmost, hab2⟩ := P.oneF_pre HNE.out HE1.out;have gm : ((N.length : Int) == (most : Int)) = false := by simp; omega
  obtain ⟨HMO, HNA, HAB⟩ := hd3 hmost hNa hab2;clear hmost hNa hab2
  go_upto_region 7 with fail
  go_cut [32] (fun c wx => c = .bool false /\ wx = wb)
  case first =>
   rcases List.eq_nil_or_concat N with hN | ⟨N0, last, hN⟩
   ·have hn0 : N.length = 0 := by rw [hN]; rfl
    rw [hn0] at n1 hNl;clear hn0 hN;go_wp2_with fail;go_meet;exact ⟨rfl, rfl⟩
   ·have hn0 : N.length = N0.length + 1 := by rw [hN]; simp
    obtain ⟨g, capg, hv, hgb, hglt⟩ := HG.out.ownN.form (by omega);obtain ⟨rfl, _, rfl⟩ := Value.slice.inj hv;have hcl : wb.cell? ⟨g, N0.length, none⟩ = some (.string last) := by
     rw [HG.out.ownN.cellAt N0.length (by omega), hN, List.concat_eq_append, List.map_append, List.getElem?_append_right (by simp)];simp
    have HLA : Hid (acc.getLast?.map (·.1) = some last) := by
     show _ = _;rw [<- List.getLast?_map, e1, hN];simp
    rw [hn0] at n1 hNl;generalize hn00 : N0.length = n0 at *;have hfl := less_flip sn.toList last.toList;have hab : Op.bytesLess last.toList sn.toList = true := by
     rw [<- HAB.out, HLA.out, V.toList_bl, V.toList_bl];rfl
    rw [hab] at hfl;obtain ⟨q1, q2⟩ := Bool.or_eq_false_iff.1 hfl;clear hab hfl hn0 hN;go_wp2_with fail;go_meet;exact ⟨rfl, rfl⟩
  case rest =>
   obtain ⟨rfl, rfl⟩ := hcut;have HSG := hide (sign_any' R _ ts1 ⟨#[58]⟩ HIb.out.rdr);go_wp2_with fail;refine HSG.out.mono ?_;rintro r wc ⟨hfc, ⟨tc, ts2, eT2, hE2, rfl, hrc⟩ | ⟨hE2, rfl, hrc⟩⟩
   ·have HIc := hide (KN.out HIb.out hfc (by rw [eT2]; simp) hrc);have HGc : Hid (P.GrowF w1.heap.size d wc (.slice an N.length capn) (.slice ao L.length cap) N L) := HG.out.fr hfc (fun c e => by omega);have HB1c : Hid (wc.heap[Bn]? = some (P.nbox an N.length capn)) := (hfc.block Bn (blt HB1.out) (by omega)).trans HB1.out;have HB2c : Hid (wc.heap[Bl]? = some (P.lbox ao L.length cap)) := (hfc.block Bl (blt HB2.out) (by omega)).trans HB2.out;obtain ⟨HE2, HT2⟩ := hd2 hE2 eT2;clear b1 b2 b3 n1 hfc hE2 hrc HSG HG HB1 HB2 eT2 gm hNl;obtain ⟨b1, b2, b3⟩ := KB.out wc HIc.out.fr;have HIN := hide (HO.out wc ts2 HIc.out.fr HIc.out.rdr (HQN.out _ _ _ HE1.out HE2.out));go_wp2_with fail;refine HIN.out.mono ?_;rintro r wd ⟨hfd, k, v, s, t2, a, i, u, b, j, p, ev, rfl, hres⟩;unfold P.xc at hres ⊢;have hB1d := (hfd.block Bn (blt HB1c.out) (by omega)).trans HB1c.out;have hB2d := (hfd.block Bl (blt HB2c.out) (by omega)).trans HB2c.out;have HB1e : Hid ((wd.alloc (.cells #[.int .i64 k, .int .i64 v.kind, .int .i64 v.n, .string v.s, .slice none 0 0, .slice none 0 0, .string s, .string t2, .slice a i u, .slice b j p] 170)).heap[Bn]? = some (P.nbox an N.length capn)) := by
     show _ = _;rw [heap_alloc_old _ _ (blt hB1d)]; exact hB1d
    have HB2e : Hid ((wd.alloc (.cells #[.int .i64 k, .int .i64 v.kind, .int .i64 v.n, .string v.s, .slice none 0 0, .slice none 0 0, .string s, .string t2, .slice a i u, .slice b j p] 170)).heap[Bl]? = some (P.lbox ao L.length cap)) := by
     show _ = _;rw [heap_alloc_old _ _ (blt hB2d)]; exact hB2d
    have HX3 : Hid ((wd.alloc (.cells #[.int .i64 k, .int .i64 v.kind, .int .i64 v.n, .string v.s, .slice none 0 0, .slice none 0 0, .string s, .string t2, .slice a i u, .slice b j p] 170)).heap[wd.heap.size]? = some (.cells #[.int .i64 k, .int .i64 v.kind, .int .i64 v.n, .string v.s, .slice none 0 0, .slice none 0 0, .string s, .string t2, .slice a i u, .slice b j p] 170 (0, 0))) := heap_alloc_new _ _;have hGd := HGc.out.fr hfd (fun c e => by omega);have HGe : Hid (P.GrowF w1.heap.size d (wd.alloc (.cells #[.int .i64 k, .int .i64 v.kind, .int .i64 v.n, .string v.s, .slice none 0 0, .slice none 0 0, .string s, .string t2, .slice a i u, .slice b j p] 170)) (.slice an N.length capn) (.slice ao L.length cap) N L) := hGd.fr ((Fr.refl wd (fun _ => False)).alloc _) (fun _ e => e.elim);have HFde : Hid (Fr wd (wd.alloc (.cells #[.int .i64 k, .int .i64 v.kind, .int .i64 v.n, .string v.s, .slice none 0 0, .slice none 0 0, .string s, .string t2, .slice a i u, .slice b j p] 170)) (fun _ => False)) := (Fr.refl wd _).alloc _;have HSe : Hid ((wd.alloc (.cells #[.int .i64 k, .int .i64 v.kind, .int .i64 v.n, .string v.s, .slice none 0 0, .slice none 0 0, .string s, .string t2, .slice a i u, .slice b j p] 170)).heap.size = wd.heap.size + 1) := by
     show _ = _;simp
    have HSc : Hid (w1.heap.size <= wc.heap.size) := HIc.out.fr.size;have HON1 : Hid (∀ c, (Value.slice an N.length capn).ownBlock = some c -> w1.heap.size <= c /\ c < wc.heap.size) := fun c hc => HGc.out.ownN.lt c hc
    have HOL1 : Hid (∀ c, (Value.slice ao L.length cap).ownBlock = some c -> w1.heap.size <= c /\ c < wc.heap.size) := fun c hc => HGc.out.own.lt c hc
    obtain ⟨HFcd, HRES, HRn, HRl⟩ := hd4 hfd hres hRn hRl;clear hfd hres hB1d hB2d hGd HIN b1 b2 b3;go_wp2_with fail;generalize (wd.alloc _) = we at *;have HNO : Hid (we.ownsRow w1.heap.size 9 1 (.slice an N.length capn) N.length (N.map Value.string)) := by
     have h1 := HGe.out.ownN;exact h1
    have HN42 : Hid (N.length <= 4200) := by
     show _ <= _;rw [HNA.out];have := HIb.out.len;omega
    have HL42 : Hid (L.length <= 4200) := by
     show _ <= _;have h1 := congrArg List.length e2;rw [List.length_map, List.length_map] at h1;have := HIb.out.len;omega
    have KQ : Hid (∀ W, Fr we W (fun c => (Value.slice an N.length capn).ownBlock = some c \/ (Value.slice ao L.length cap).ownBlock = some c) -> W.heap[Bn]? = some (P.nbox an N.length capn) /\ W.heap[Bl]? = some (P.lbox ao L.length cap) /\ W.heap[wd.heap.size]? = some (.cells #[.int .i64 k, .int .i64 v.kind, .int .i64 v.n, .string v.s, .slice none 0 0, .slice none 0 0, .string s, .string t2, .slice a i u, .slice b j p] 170 (0, 0))) := by
     intro W hf;have l1 := HFcd.out.size;have q : ∀ {c : Nat} {o : Obj}, (c < w1.heap.size \/ wc.heap.size <= c) -> we.heap[c]? = some o -> W.heap[c]? = some o := fun {c o} hc ho =>
      (hf.block c (blt ho) (fun e => by
       rcases e with e | e
       ·have := HON1.out c e;omega
       ·have := HOL1.out c e;omega)).trans ho
     exact ⟨q (.inl hn) HB1e.out, q (.inl hl) HB2e.out, q (.inr l1) HX3.out⟩
    have HFIN : Hid (∀ (gN capN gL capL : Nat) (wL wz : World), wL.ownsRow w1.heap.size 9 1 (.slice (some ⟨gN, 0, none⟩) (N.length + 1) capN) (N.length + 1) (N.map Value.string ++ [.string sn]) -> wL.ownsRow w1.heap.size 170 10 (.slice (some ⟨gL, 0, none⟩) (L.length + 1) capL) (L.length + 1) ((L.flatMap (fun x => x.2)) ++ [.int .i64 k, .int .i64 v.kind, .int .i64 v.n, .string v.s, .slice none 0 0, .slice none 0 0, .string s, .string t2, .slice a i u, .slice b j p]) -> Fr we wL (fun c => (Value.slice an N.length capn).ownBlock = some c \/ (Value.slice ao L.length cap).ownBlock = some c) ->
      ((Value.slice an N.length capn).ownBlock = some gN \/ we.heap.size <= gN) -> ((Value.slice ao L.length cap).ownBlock = some gL \/ we.heap.size <= gL) -> Fr wL wz (fun c => c = Bn \/ c = Bl) -> wz.heap[Bn]? = some (P.nbox (some ⟨gN, 0, none⟩) (N.length + 1) capN) -> wz.heap[Bl]? = some (P.lbox (some ⟨gL, 0, none⟩) (L.length + 1) capL) ->
      ∃ ev', Ending.returned ev = .returned ev' /\ ((∃ acc' n, P.oneF most one acc (P.fc (t :: ts1)) = some (acc', P.fc ((t :: ts1).drop (n + 1))) /\ ((t :: ts1).drop (n + 1)).length < (t :: ts1).length /\ ev' = .nilIface /\ P.ItF w1 R Bn Bl d M ((t :: ts1).drop (n + 1)) acc' wz) \/ (P.oneF most one acc (P.fc (t :: ts1)) = none /\ (∃ f : Int, ev' = .iface 54 (.int .i64 f)) /\ P.ItFBad w1 R Bn Bl wz))) := by
     intro gN capN gL capL wL wz hN hL hF hgN hgL hz hb1 hb2;have l1 := HFcd.out.size;have l2 := HSe.out;have l3 := HSc.out;have l4 := hF.size;have l5 := hz.size;have l6 := (hN.lt gN rfl)
     have l7 := (hL.lt gL rfl)
     have hRn := HRn.out;have hRl := HRl.out;have hfz : Fr we wz (fun c => c = Bn \/ c = Bl \/ (Value.slice an N.length capn).ownBlock = some c \/ (Value.slice ao L.length cap).ownBlock = some c) := (hF.weak (fun _ _ e => .inr (.inr e))).trans hz (fun c _ e => e.elim .inl (fun e => .inr (.inl e)));have hFz : Fr w1 wz (fun c => c = R \/ c = Bn \/ c = Bl) := ((HIc.out.fr.trans HFcd.out (fun _ _ e => .inl e)).trans HFde.out (fun _ _ e => e.elim)).trans hfz (fun c hc e => by
      rcases e with e | e | e | e
      ·exact .inr (.inl e)
      ·exact .inr (.inr e)
      ·have := HON1.out c e;omega
      ·have := HOL1.out c e;omega)
     have hrd : ∀ ts', P.Rdr R wd ts' -> P.Rdr R wz ts' := fun ts' hr => (hr.fr HFde.out (fun _ e => e.elim)).fr hfz (fun c e => by
      rcases e with e | e | e | e
      ·omega
      ·omega
      ·have := HON1.out c e;omega
      ·have := HOL1.out c e;omega)
     have hoz : P.oneF most one acc (P.fc (t :: ts1)) = (one (P.fc ts2)).map (fun p => (acc ++ [(sn, p.1)], p.2)) := by
      rw [P.oneF, HE1.out];simp only;rw [if_neg HMO.out, if_neg (by rw [HAB.out]; simp), show P.found 4 [58] _ = _ from HE2.out]
     have hl2 : ts1.length = ts2.length + 1 := by rw [HT2.out, List.length_cons]
     refine ⟨ev, rfl, ?_⟩;rcases HRES.out with ⟨e, n, hE, hev, hM, hbk, hr⟩ | ⟨hE, hev, ts', hr⟩
     ·have hdr : (t :: ts1).drop (n + 2 + 1) = ts2.drop (n + 1) := by rw [HT2.out]; rfl
      have hle : (ts2.drop (n + 1)).length <= ts2.length := by
       rw [List.length_drop];omega
      refine .inl ⟨acc ++ [(sn, e)], n + 2, by rw [hoz, hE, hdr]; rfl, by rw [hdr, List.length_cons]; omega, hev, ?_⟩;rw [hdr];have hown : ∀ c, c < we.heap.size -> (Value.slice ao L.length cap).ownBlock ≠ some c -> (Value.slice an N.length capn).ownBlock ≠ some c -> c ≠ gN /\ c ≠ gL := fun c hc h1 h2 => by
       constructor
       ·rintro rfl;rcases hgN with h | h
        ·exact h2 h
        ·omega
       ·rintro rfl;rcases hgL with h | h
        ·exact h1 h
        ·omega
      refine ⟨hFz, hrd _ hr, ⟨some ⟨gN, 0, none⟩, capN, some ⟨gL, 0, none⟩, capL, N ++ [sn], L ++ [(e, [.int .i64 k, .int .i64 v.kind, .int .i64 v.n, .string v.s, .slice none 0 0, .slice none 0 0, .string s, .string t2, .slice a i u, .slice b j p])], by rw [List.map_append, e1]; rfl, by rw [List.map_append, List.map_append, e2]; rfl, by rw [List.length_append]; exact hb1, by rw [List.length_append]; exact hb2, ⟨fun x hx => ?_, ?_, ?_, fun x hx => ?_⟩⟩, ?_, ?_⟩
      ·rcases List.mem_append.1 hx with hx | hx
       ·exact HGe.out.ten x hx
       ·rw [List.mem_singleton] at hx;subst hx;rfl
      ·rw [List.length_append, List.map_append];exact P.owns_fr hN hz (fun c hc e => by have h1 : gN = c := Option.some.inj hc; omega)
      ·rw [List.length_append, List.flatMap_append];exact P.owns_fr hL hz (fun c hc e => by have h1 : gL = c := Option.some.inj hc; omega)
      ·rcases List.mem_append.1 hx with hx | hx
       ·refine (HGe.out.mem x hx).to (fun c hc => hfz.block c hc.2.1 (fun e => ?_)) (fun c hc => ⟨hc.1, by have := hc.2.1; omega, fun e => ?_, fun e => ?_⟩)
        ·rcases e with e | e | e | e
         ·have := hc.1;omega
         ·have := hc.1;omega
         ·exact hc.2.2.2 e
         ·exact hc.2.2.1 e
        ·have h1 : gL = c := Option.some.inj e;exact (hown c hc.2.1 hc.2.2.1 hc.2.2.2).2 h1.symm
        ·have h1 : gN = c := Option.some.inj e;exact (hown c hc.2.1 hc.2.2.1 hc.2.2.2).1 h1.symm
       ·rw [List.mem_singleton] at hx;subst hx;have ho1 : ∀ c, P.New wc wd c -> (Value.slice ao L.length cap).ownBlock ≠ some c /\ (Value.slice an N.length capn).ownBlock ≠ some c := fun c hc => by
         have h1 := hc.1;exact ⟨fun e => by have := HOL1.out c e; omega, fun e => by have := HON1.out c e; omega⟩
        refine hM.to (fun c hc => ?_) (fun c hc => ⟨by have := hc.1; omega, by have := hc.2; omega, fun e => ?_, fun e => ?_⟩)
        ·have h1 := hc.1;have h2 := hc.2;rw [hfz.block c (by omega) (fun e => ?_), HFde.out.block c (by omega) (fun e => e.elim)];rcases e with e | e | e | e
         ·omega
         ·omega
         ·exact (ho1 c hc).2 e
         ·exact (ho1 c hc).1 e
        ·have h1 : gL = c := Option.some.inj e;exact (hown c (by have := hc.2; omega) (ho1 c hc).1 (ho1 c hc).2).2 h1.symm
        ·have h1 : gN = c := Option.some.inj e;exact (hown c (by have := hc.2; omega) (ho1 c hc).1 (ho1 c hc).2).1 h1.symm
      ·have h1 := HIb.out.bulk;have h2 := HV.out;simp only [X.sumN, X.sumA, List.map_append, List.map_cons, List.map_nil, List.sum_append, List.sum_cons, List.sum_nil, List.length_append, List.length_cons, List.length_nil] at h1 ⊢;omega
      ·have h1 := HIb.out.len;simp only [List.length_append, List.length_cons, List.length_nil];omega
     ·exact .inr ⟨by rw [hoz, hE]; rfl, hev, hFz, ⟨_, hrd _ hr⟩, ⟨_, _, _, hb1⟩, ⟨_, _, _, hb2⟩⟩
    clear HRES HE1 HE2 HT2 HMO HAB HIb HIc HFde HGc HB1c HB2c HX3 HB1e HB2e HV;refine Lt.start (fun W => Fr we W (fun c => (Value.slice an N.length capn).ownBlock = some c \/ (Value.slice ao L.length cap).ownBlock = some c)) [8, 9] (by kernel_rfl) ?_;have HS0 : Fr we we.drew (fun c => (Value.slice an N.length capn).ownBlock = some c \/ (Value.slice ao L.length cap).ownBlock = some c) := (Fr.refl we _).drew;refine Lt.takeT 5 (i := 0) (v := (.slice an N.length capn)) rfl (by kernel_rfl) (by kernel_rfl) (by kernel_rfl) (by kernel_rfl) (by kernel_rfl) (by kernel_rfl) (by kernel_rfl) (fun _ _ _ h => h) (Or.inl ⟨by rfl, ?_⟩) (HS0) ?_
    ·intro W hW;have k1 := (KQ.out W hW).1;unfold P.nbox at k1;have x0 := cell_of_block k1 0 _ rfl;clear k1;go_simp
    refine Lt.takeY (i := 1) (v := .string sn) rfl (by kernel_rfl) (by kernel_rfl) (by kernel_rfl) (by kernel_rfl) (fun _ _ _ h => h) (Or.inl ⟨by rfl, ?_⟩) (HS0) ?_
    ·intro w;go_simp
    refine Lt.takeT 5 (i := 4) (v := (.slice ao L.length cap)) rfl (by kernel_rfl) (by kernel_rfl) (by kernel_rfl) (by kernel_rfl) (by kernel_rfl) (by kernel_rfl) (by kernel_rfl) (fun _ _ _ h => h) (Or.inl ⟨by rfl, ?_⟩) (HS0) ?_
    ·intro W hW;have k1 := (KQ.out W hW).2.1;unfold P.lbox at k1;have x0 := cell_of_block k1 0 _ rfl;clear k1;go_simp
    refine Lt.takeT 5 (i := 5) (v := .agg #[.int .i64 k, .int .i64 v.kind, .int .i64 v.n, .string v.s, .slice none 0 0, .slice none 0 0, .string s, .string t2, .slice a i u, .slice b j p]) rfl (by kernel_rfl) (by kernel_rfl) (by kernel_rfl) (by kernel_rfl) (by kernel_rfl) (by kernel_rfl) (by kernel_rfl) (fun _ _ _ h => h) (Or.inl ⟨by rfl, ?_⟩) (HS0) ?_
    ·intro W hW;have k1 := (KQ.out W hW).2.2;obtain ⟨x0, x1, x2, x3, x4, x5, x6, x7, x8, x9⟩ := cl10 k1;clear k1;go_simp
    go_simp;refine Lt.ready2 (i := 2) (j := 6) (by kernel_rfl) rfl rfl (fun K hK => ?_) (fun K hK => ?_)
    ·go_simp;refine hK _ _ (fun _ => HS0.alloc _) ?_;clear hK K;refine Lt.ready2 (i := 3) (j := 6) (by kernel_rfl) rfl rfl (fun K hK => ?_) (fun K hK => ?_)
     ·have hl9 := HN42.out;have hs9 := HSe.out;have hs8 := HSc.out;have hs7 := HFcd.out.size;refine step_append_lies _ ?_ (.tmp 59) (.tmp 61) 102 ?_ w1.heap.size 9 i9 (.string ⟨#[]⟩) 1 16 Tryz.underlying102 hj0 hy0 hy1 hy2 rfl Nat.one_pos (.slice an N.length capn) N.length (N.map Value.string) ?_ ?_ ⟨we.heap.size, 0, none⟩ 1 1 [.string sn] ?_ rfl ?_ ?_ Nat.one_pos ?_ ?_ ?_ _ rfl ?_;rfl;rfl;rfl;exact P.owns_fr HNO.out (ex := fun _ => False) (Fr.alloc (Fr.drew (Fr.refl we (fun _ => False))) _) (fun _ _ e => e);rfl;exact news_alloc we.drew #[.string sn] 9 _ rfl;simp [Value.oneCell']
      (unfold maxLen; omega)
      omega
      (simp; omega)
      intro gN capN wN hownN hgrowN hatN hltN;clear hl9 hs9 hs8 hs7
      try go_simp
      have hFN : Fr we wN (fun c => (Value.slice an N.length capn).ownBlock = some c) := Fr.grown (Fr.weak (Fr.alloc (Fr.drew (Fr.refl we (fun _ => False))) _) (fun _ _ e => e.elim)) hgrowN (fun c e _ => e);have HGN : Hid ((Value.slice an N.length capn).ownBlock = some gN \/ we.heap.size <= gN) := by
       rcases hatN with e | e
       ·exact .inl e
       ·refine .inr ?_;rw [e];simp <;> omega
      refine hK _ _ (fun _ => hFN.weak (fun _ _ e => .inl e)) ?_;clear hK K hatN hltN;refine Lt.ready1 (i := 6) (by kernel_rfl) rfl (fun K hK => ?_);go_simp;refine hK _ _ (fun _ => (hFN.weak (fun _ _ e => .inl e)).alloc _) ?_;clear hK K;have hl9 := HL42.out;have hs9 := HSe.out;have hs8 := HSc.out;have hs7 := HFcd.out.size;have hs6 := ((hFN.alloc (.cells #[.int .i64 k, .int .i64 v.kind, .int .i64 v.n, .string v.s, .slice none 0 0, .slice none 0 0, .string s, .string t2, .slice a i u, .slice b j p] 170))).size;have hOW := P.owns_fr HGe.out.own (hFN.alloc (.cells #[.int .i64 k, .int .i64 v.kind, .int .i64 v.n, .string v.s, .slice none 0 0, .slice none 0 0, .string s, .string t2, .slice a i u, .slice b j p] 170)) (fun c hc e => P.owns_two HNO.out HGe.out.own (by decide) c e hc);have HFW := hide (hFN.alloc (.cells #[.int .i64 k, .int .i64 v.kind, .int .i64 v.n, .string v.s, .slice none 0 0, .slice none 0 0, .string s, .string t2, .slice a i u, .slice b j p] 170));have HNW := hide (hownN.alloc (.cells #[.int .i64 k, .int .i64 v.kind, .int .i64 v.n, .string v.s, .slice none 0 0, .slice none 0 0, .string s, .string t2, .slice a i u, .slice b j p] 170));refine Lt.ready1 (i := 7) (by kernel_rfl) rfl (fun K hK => ?_);refine step_append_lies _ ?_ (.tmp 63) (.tmp 65) 168 ?_ w1.heap.size 170 i0 (.agg #[.int .i64 0, .int .i64 0, .int .i64 0, .string ⟨#[]⟩, .slice none 0 0, .slice none 0 0, .string ⟨#[]⟩, .string ⟨#[]⟩, .slice none 0 0, .slice none 0 0]) 10 168 Tryz.underlying168 hi0 hz0 hz1 hz2 rfl h10 (.slice ao L.length cap) L.length (L.flatMap (fun x => x.2)) ?_ ?_ ⟨wN.heap.size, 0, none⟩ 1 1 [.int .i64 k, .int .i64 v.kind, .int .i64 v.n, .string v.s, .slice none 0 0, .slice none 0 0, .string s, .string t2, .slice a i u, .slice b j p] ?_ rfl ?_ ?_ Nat.one_pos ?_ ?_ ?_ _ rfl ?_;rfl;rfl;rfl;exact hOW;rfl;exact news_alloc wN #[.int .i64 k, .int .i64 v.kind, .int .i64 v.n, .string v.s, .slice none 0 0, .slice none 0 0, .string s, .string t2, .slice a i u, .slice b j p] 170 _ rfl;simp [Value.oneCell']
      (unfold maxLen; omega)
      omega
      (first | omega | (simp at hs6; omega))
      intro gL capL wL hownL hgrowL hatL hltL;clear hl9 hs9 hs8 hs7
      try go_simp
      have hFL : Fr we wL (fun c => (Value.slice an N.length capn).ownBlock = some c \/ (Value.slice ao L.length cap).ownBlock = some c) := (HFW.out.weak (fun _ _ e => .inl e)).grown hgrowL (fun c e _ => .inr e);have HGL : Hid ((Value.slice ao L.length cap).ownBlock = some gL \/ we.heap.size <= gL) := by
       rcases hatL with e | e
       ·exact .inl e
       ·refine .inr ?_;rw [e]
        (first | omega | (simp at hs6 ⊢; omega))
      have HNL : Hid (wL.ownsRow w1.heap.size 9 1 (.slice (some ⟨gN, 0, none⟩) (N.length + 1) capN) (N.length + 1) (N.map Value.string ++ [.string sn])) := HNW.out.kept hgrowL (.inr (fun e => by
       cases hv : (Value.slice ao L.length cap).ownBlock with
       | none =>
        rw [hv] at e;cases e
       | some c =>
        rw [hv] at e;exact P.owns_two HNW.out hOW (by decide) c e hv))
      refine hK _ _ (fun _ => hFL) ?_;obtain ⟨kb1, kb2, _⟩ := KQ.out wL hFL;obtain ⟨HLL, HFL⟩ := hd2 hownL hFL;clear hK K hatL hltL hownL hgrowL hFL hOW hs6;obtain ⟨HK1, HK2⟩ := hd2 kb1 kb2;unfold P.nbox at kb1;have x0 := cell_of_block kb1 0 _ rfl;have y0 := free_of_block kb1 0;clear kb1 kb2;refine Lt.ready1 (i := 8) (by kernel_rfl) rfl (fun K hK => ?_);go_simp;have HB8 : Hid ((wL.setCell ⟨Bn, 0, none⟩ (.slice (some ⟨gN, 0, none⟩) (N.length + 1) capN)).heap[Bn]? = some (P.nbox (some ⟨gN, 0, none⟩) (N.length + 1) capN)) := block_set (i := 0) HK1.out _;have HF8 : Hid (Fr wL (wL.setCell ⟨Bn, 0, none⟩ (.slice (some ⟨gN, 0, none⟩) (N.length + 1) capN)) (fun c => c = Bn \/ c = Bl)) := (Fr.set1 wL Bn 0 _).weak (fun _ _ e => .inl e);have HK8 : Hid ((wL.setCell ⟨Bn, 0, none⟩ (.slice (some ⟨gN, 0, none⟩) (N.length + 1) capN)).heap[Bl]? = some (P.lbox ao L.length cap)) := ((Fr.set1 wL Bn 0 _).block Bl (blt HK2.out) (fun e => hnl e.symm)).trans HK2.out;clear x0 y0;generalize wL.setCell _ _ = w8 at *;refine hK _ _ (Lt.is_late (by kernel_rfl)) ?_;clear hK K;have kb2 := HK8.out;unfold P.lbox at kb2;have x0 := cell_of_block kb2 0 _ rfl;have y0 := free_of_block kb2 0;clear kb2;refine Lt.ready1 (i := 9) (by kernel_rfl) rfl (fun K hK => ?_);go_simp;have HB9 : Hid ((w8.setCell ⟨Bl, 0, none⟩ (.slice (some ⟨gL, 0, none⟩) (L.length + 1) capL)).heap[Bl]? = some (P.lbox (some ⟨gL, 0, none⟩) (L.length + 1) capL)) := block_set (i := 0) HK8.out _;have HF9 : Hid (Fr wL (w8.setCell ⟨Bl, 0, none⟩ (.slice (some ⟨gL, 0, none⟩) (L.length + 1) capL)) (fun c => c = Bn \/ c = Bl)) := HF8.out.trans (Fr.set1 w8 Bl 0 _) (fun _ _ e => .inr e);have HB89 : Hid ((w8.setCell ⟨Bl, 0, none⟩ (.slice (some ⟨gL, 0, none⟩) (L.length + 1) capL)).heap[Bn]? = some (P.nbox (some ⟨gN, 0, none⟩) (N.length + 1) capN)) := ((Fr.set1 w8 Bl 0 _).block Bn (blt HB8.out) hnl).trans HB8.out;clear x0 y0;generalize w8.setCell _ _ = wz at *;refine hK _ _ (Lt.is_late (by kernel_rfl)) ?_;clear hK K;refine Lt.done (by kernel_rfl) ?_ _;have HE9 := hide (HFIN.out gN capN gL capL wL wz HNL.out HLL.out HFL.out HGN.out HGL.out HF9.out HB89.out HB9.out);clear HFIN;go_wp2_with fail;exact bodyPost_ret (v := ev) (by simp [results, Tryz.results202, go_sem]) rfl HE9.out
     ·go_simp;refine hK _ _ (fun _ => (HS0.alloc _).alloc _) ?_;clear hK K;refine Lt.ready1 (i := 3) (by kernel_rfl) rfl (fun K hK => ?_);have hl9 := HN42.out;have hs9 := HSe.out;have hs8 := HSc.out;have hs7 := HFcd.out.size;refine step_append_lies _ ?_ (.tmp 59) (.tmp 61) 102 ?_ w1.heap.size 9 i9 (.string ⟨#[]⟩) 1 16 Tryz.underlying102 hj0 hy0 hy1 hy2 rfl Nat.one_pos (.slice an N.length capn) N.length (N.map Value.string) ?_ ?_ ⟨we.heap.size, 0, none⟩ 1 1 [.string sn] ?_ rfl ?_ ?_ Nat.one_pos ?_ ?_ ?_ _ rfl ?_;rfl;rfl;rfl;exact P.owns_fr HNO.out (ex := fun _ => False) (Fr.alloc (Fr.alloc (Fr.drew (Fr.refl we (fun _ => False))) (.cells #[.string sn] 9)) (.cells #[.int .i64 k, .int .i64 v.kind, .int .i64 v.n, .string v.s, .slice none 0 0, .slice none 0 0, .string s, .string t2, .slice a i u, .slice b j p] 170)) (fun _ _ e => e);rfl;exact fun j u hu => kept_cell (ba) (news_alloc we.drew #[.string sn] 9 _ rfl j u hu)
      simp [Value.oneCell']
      (unfold maxLen; omega)
      omega
      (simp; omega)
      intro gN capN wN hownN hgrowN hatN hltN;have HXB : Hid (wN.heap[we.heap.size + 1]? = some (.cells #[.int .i64 k, .int .i64 v.kind, .int .i64 v.n, .string v.s, .slice none 0 0, .slice none 0 0, .string s, .string t2, .slice a i u, .slice b j p] 170 (0, 0))) := (hgrowN.block (we.heap.size + 1) (by simp) (fun e => by have := (HON1.out _ e.symm).2; have := HFcd.out.size; have := HSe.out; omega)).trans (by have h1 := heap_alloc_new (we.alloc (.cells #[.string sn] 9)) (.cells #[.int .i64 k, .int .i64 v.kind, .int .i64 v.n, .string v.s, .slice none 0 0, .slice none 0 0, .string s, .string t2, .slice a i u, .slice b j p] 170); rw [P.size_alloc] at h1; exact h1);clear hl9 hs9 hs8 hs7
      try go_simp
      have hFN : Fr we wN (fun c => (Value.slice an N.length capn).ownBlock = some c) := Fr.grown (Fr.weak (Fr.alloc (Fr.alloc (Fr.drew (Fr.refl we (fun _ => False))) (.cells #[.string sn] 9)) (.cells #[.int .i64 k, .int .i64 v.kind, .int .i64 v.n, .string v.s, .slice none 0 0, .slice none 0 0, .string s, .string t2, .slice a i u, .slice b j p] 170)) (fun _ _ e => e.elim)) hgrowN (fun c e _ => e);have HGN : Hid ((Value.slice an N.length capn).ownBlock = some gN \/ we.heap.size <= gN) := by
       rcases hatN with e | e
       ·exact .inl e
       ·refine .inr ?_;rw [e];simp <;> omega
      refine hK _ _ (fun _ => hFN.weak (fun _ _ e => .inl e)) ?_;clear hK K hatN hltN;have hl9 := HL42.out;have hs9 := HSe.out;have hs8 := HSc.out;have hs7 := HFcd.out.size;have hs6 := (hFN).size;have hOW := P.owns_fr HGe.out.own hFN (fun c hc e => P.owns_two HNO.out HGe.out.own (by decide) c e hc);obtain ⟨HFW, HNW⟩ := hd2 hFN hownN;refine Lt.ready1 (i := 7) (by kernel_rfl) rfl (fun K hK => ?_);refine step_append_lies _ ?_ (.tmp 63) (.tmp 65) 168 ?_ w1.heap.size 170 i0 (.agg #[.int .i64 0, .int .i64 0, .int .i64 0, .string ⟨#[]⟩, .slice none 0 0, .slice none 0 0, .string ⟨#[]⟩, .string ⟨#[]⟩, .slice none 0 0, .slice none 0 0]) 10 168 Tryz.underlying168 hi0 hz0 hz1 hz2 rfl h10 (.slice ao L.length cap) L.length (L.flatMap (fun x => x.2)) ?_ ?_ ⟨(we.heap.size + 1), 0, none⟩ 1 1 [.int .i64 k, .int .i64 v.kind, .int .i64 v.n, .string v.s, .slice none 0 0, .slice none 0 0, .string s, .string t2, .slice a i u, .slice b j p] ?_ rfl ?_ ?_ Nat.one_pos ?_ ?_ ?_ _ rfl ?_;rfl;rfl;rfl;exact hOW;rfl;exact World.news_of_block HXB.out;simp [Value.oneCell']
      (unfold maxLen; omega)
      omega
      (first | omega | (simp at hs6; omega))
      intro gL capL wL hownL hgrowL hatL hltL;clear hl9 hs9 hs8 hs7
      try go_simp
      have hFL : Fr we wL (fun c => (Value.slice an N.length capn).ownBlock = some c \/ (Value.slice ao L.length cap).ownBlock = some c) := (HFW.out.weak (fun _ _ e => .inl e)).grown hgrowL (fun c e _ => .inr e);have HGL : Hid ((Value.slice ao L.length cap).ownBlock = some gL \/ we.heap.size <= gL) := by
       rcases hatL with e | e
       ·exact .inl e
       ·refine .inr ?_;rw [e]
        (first | omega | (simp at hs6 ⊢; omega))
      have HNL : Hid (wL.ownsRow w1.heap.size 9 1 (.slice (some ⟨gN, 0, none⟩) (N.length + 1) capN) (N.length + 1) (N.map Value.string ++ [.string sn])) := HNW.out.kept hgrowL (.inr (fun e => by
       cases hv : (Value.slice ao L.length cap).ownBlock with
       | none =>
        rw [hv] at e;cases e
       | some c =>
        rw [hv] at e;exact P.owns_two HNW.out hOW (by decide) c e hv))
      refine hK _ _ (fun _ => hFL) ?_;obtain ⟨kb1, kb2, _⟩ := KQ.out wL hFL;obtain ⟨HLL, HFL⟩ := hd2 hownL hFL;clear hK K hatL hltL hownL hgrowL hFL hOW hs6;obtain ⟨HK1, HK2⟩ := hd2 kb1 kb2;unfold P.nbox at kb1;have x0 := cell_of_block kb1 0 _ rfl;have y0 := free_of_block kb1 0;clear kb1 kb2;refine Lt.ready1 (i := 8) (by kernel_rfl) rfl (fun K hK => ?_);go_simp;have HB8 : Hid ((wL.setCell ⟨Bn, 0, none⟩ (.slice (some ⟨gN, 0, none⟩) (N.length + 1) capN)).heap[Bn]? = some (P.nbox (some ⟨gN, 0, none⟩) (N.length + 1) capN)) := block_set (i := 0) HK1.out _;have HF8 : Hid (Fr wL (wL.setCell ⟨Bn, 0, none⟩ (.slice (some ⟨gN, 0, none⟩) (N.length + 1) capN)) (fun c => c = Bn \/ c = Bl)) := (Fr.set1 wL Bn 0 _).weak (fun _ _ e => .inl e);have HK8 : Hid ((wL.setCell ⟨Bn, 0, none⟩ (.slice (some ⟨gN, 0, none⟩) (N.length + 1) capN)).heap[Bl]? = some (P.lbox ao L.length cap)) := ((Fr.set1 wL Bn 0 _).block Bl (blt HK2.out) (fun e => hnl e.symm)).trans HK2.out;clear x0 y0;generalize wL.setCell _ _ = w8 at *;refine hK _ _ (Lt.is_late (by kernel_rfl)) ?_;clear hK K;have kb2 := HK8.out;unfold P.lbox at kb2;have x0 := cell_of_block kb2 0 _ rfl;have y0 := free_of_block kb2 0;clear kb2;refine Lt.ready1 (i := 9) (by kernel_rfl) rfl (fun K hK => ?_);go_simp;have HB9 : Hid ((w8.setCell ⟨Bl, 0, none⟩ (.slice (some ⟨gL, 0, none⟩) (L.length + 1) capL)).heap[Bl]? = some (P.lbox (some ⟨gL, 0, none⟩) (L.length + 1) capL)) := block_set (i := 0) HK8.out _;have HF9 : Hid (Fr wL (w8.setCell ⟨Bl, 0, none⟩ (.slice (some ⟨gL, 0, none⟩) (L.length + 1) capL)) (fun c => c = Bn \/ c = Bl)) := HF8.out.trans (Fr.set1 w8 Bl 0 _) (fun _ _ e => .inr e);have HB89 : Hid ((w8.setCell ⟨Bl, 0, none⟩ (.slice (some ⟨gL, 0, none⟩) (L.length + 1) capL)).heap[Bn]? = some (P.nbox (some ⟨gN, 0, none⟩) (N.length + 1) capN)) := ((Fr.set1 w8 Bl 0 _).block Bn (blt HB8.out) hnl).trans HB8.out;clear x0 y0;generalize w8.setCell _ _ = wz at *;refine hK _ _ (Lt.is_late (by kernel_rfl)) ?_;clear hK K;refine Lt.done (by kernel_rfl) ?_ _;have HE9 := hide (HFIN.out gN capN gL capL wL wz HNL.out HLL.out HFL.out HGN.out HGL.out HF9.out HB89.out HB9.out);clear HFIN;go_wp2_with fail;exact bodyPost_ret (v := ev) (by simp [results, Tryz.results202, go_sem]) rfl HE9.out
    ·go_simp;refine hK _ _ (fun _ => HS0.alloc _) ?_;clear hK K;refine Lt.ready1 (i := 2) (by kernel_rfl) rfl (fun K hK => ?_);go_simp;refine hK _ _ (fun _ => (HS0.alloc _).alloc _) ?_;clear hK K;refine Lt.ready1 (i := 3) (by kernel_rfl) rfl (fun K hK => ?_);have hl9 := HN42.out;have hs9 := HSe.out;have hs8 := HSc.out;have hs7 := HFcd.out.size;refine step_append_lies _ ?_ (.tmp 59) (.tmp 61) 102 ?_ w1.heap.size 9 i9 (.string ⟨#[]⟩) 1 16 Tryz.underlying102 hj0 hy0 hy1 hy2 rfl Nat.one_pos (.slice an N.length capn) N.length (N.map Value.string) ?_ ?_ ⟨(we.heap.size + 1), 0, none⟩ 1 1 [.string sn] ?_ rfl ?_ ?_ Nat.one_pos ?_ ?_ ?_ _ rfl ?_;rfl;rfl;rfl;exact P.owns_fr HNO.out (ex := fun _ => False) (Fr.alloc (Fr.alloc (Fr.drew (Fr.refl we (fun _ => False))) (.cells #[.int .i64 k, .int .i64 v.kind, .int .i64 v.n, .string v.s, .slice none 0 0, .slice none 0 0, .string s, .string t2, .slice a i u, .slice b j p] 170)) (.cells #[.string sn] 9)) (fun _ _ e => e);rfl;exact news_alloc (we.drew.alloc (.cells #[.int .i64 k, .int .i64 v.kind, .int .i64 v.n, .string v.s, .slice none 0 0, .slice none 0 0, .string s, .string t2, .slice a i u, .slice b j p] 170)) #[.string sn] 9 _ (by simp);simp [Value.oneCell']
     (unfold maxLen; omega)
     omega
     (simp; omega)
     intro gN capN wN hownN hgrowN hatN hltN;have HXB : Hid (wN.heap[we.heap.size]? = some (.cells #[.int .i64 k, .int .i64 v.kind, .int .i64 v.n, .string v.s, .slice none 0 0, .slice none 0 0, .string s, .string t2, .slice a i u, .slice b j p] 170 (0, 0))) := (hgrowN.block we.heap.size (by simp; omega) (fun e => by have := (HON1.out _ e.symm).2; have := HFcd.out.size; have := HSe.out; omega)).trans (by have h1 := (heap_alloc_old (we.alloc (.cells #[.int .i64 k, .int .i64 v.kind, .int .i64 v.n, .string v.s, .slice none 0 0, .slice none 0 0, .string s, .string t2, .slice a i u, .slice b j p] 170)) (.cells #[.string sn] 9) (by simp : we.heap.size < (we.alloc (.cells #[.int .i64 k, .int .i64 v.kind, .int .i64 v.n, .string v.s, .slice none 0 0, .slice none 0 0, .string s, .string t2, .slice a i u, .slice b j p] 170)).heap.size)).trans (heap_alloc_new we (.cells #[.int .i64 k, .int .i64 v.kind, .int .i64 v.n, .string v.s, .slice none 0 0, .slice none 0 0, .string s, .string t2, .slice a i u, .slice b j p] 170)); exact h1);clear hl9 hs9 hs8 hs7
     try go_simp
     have hFN : Fr we wN (fun c => (Value.slice an N.length capn).ownBlock = some c) := Fr.grown (Fr.weak (Fr.alloc (Fr.alloc (Fr.drew (Fr.refl we (fun _ => False))) (.cells #[.int .i64 k, .int .i64 v.kind, .int .i64 v.n, .string v.s, .slice none 0 0, .slice none 0 0, .string s, .string t2, .slice a i u, .slice b j p] 170)) (.cells #[.string sn] 9)) (fun _ _ e => e.elim)) hgrowN (fun c e _ => e);have HGN : Hid ((Value.slice an N.length capn).ownBlock = some gN \/ we.heap.size <= gN) := by
      rcases hatN with e | e
      ·exact .inl e
      ·refine .inr ?_;rw [e];simp <;> omega
     refine hK _ _ (fun _ => hFN.weak (fun _ _ e => .inl e)) ?_;clear hK K hatN hltN;have hl9 := HL42.out;have hs9 := HSe.out;have hs8 := HSc.out;have hs7 := HFcd.out.size;have hs6 := (hFN).size;have hOW := P.owns_fr HGe.out.own hFN (fun c hc e => P.owns_two HNO.out HGe.out.own (by decide) c e hc);obtain ⟨HFW, HNW⟩ := hd2 hFN hownN;refine Lt.ready1 (i := 7) (by kernel_rfl) rfl (fun K hK => ?_);refine step_append_lies _ ?_ (.tmp 63) (.tmp 65) 168 ?_ w1.heap.size 170 i0 (.agg #[.int .i64 0, .int .i64 0, .int .i64 0, .string ⟨#[]⟩, .slice none 0 0, .slice none 0 0, .string ⟨#[]⟩, .string ⟨#[]⟩, .slice none 0 0, .slice none 0 0]) 10 168 Tryz.underlying168 hi0 hz0 hz1 hz2 rfl h10 (.slice ao L.length cap) L.length (L.flatMap (fun x => x.2)) ?_ ?_ ⟨we.heap.size, 0, none⟩ 1 1 [.int .i64 k, .int .i64 v.kind, .int .i64 v.n, .string v.s, .slice none 0 0, .slice none 0 0, .string s, .string t2, .slice a i u, .slice b j p] ?_ rfl ?_ ?_ Nat.one_pos ?_ ?_ ?_ _ rfl ?_;rfl;rfl;rfl;exact hOW;rfl;exact World.news_of_block HXB.out;simp [Value.oneCell']
     (unfold maxLen; omega)
     omega
     (first | omega | (simp at hs6; omega))
     intro gL capL wL hownL hgrowL hatL hltL;clear hl9 hs9 hs8 hs7
     try go_simp
     have hFL : Fr we wL (fun c => (Value.slice an N.length capn).ownBlock = some c \/ (Value.slice ao L.length cap).ownBlock = some c) := (HFW.out.weak (fun _ _ e => .inl e)).grown hgrowL (fun c e _ => .inr e);have HGL : Hid ((Value.slice ao L.length cap).ownBlock = some gL \/ we.heap.size <= gL) := by
      rcases hatL with e | e
      ·exact .inl e
      ·refine .inr ?_;rw [e]
       (first | omega | (simp at hs6 ⊢; omega))
     have HNL : Hid (wL.ownsRow w1.heap.size 9 1 (.slice (some ⟨gN, 0, none⟩) (N.length + 1) capN) (N.length + 1) (N.map Value.string ++ [.string sn])) := HNW.out.kept hgrowL (.inr (fun e => by
      cases hv : (Value.slice ao L.length cap).ownBlock with
      | none =>
       rw [hv] at e;cases e
      | some c =>
       rw [hv] at e;exact P.owns_two HNW.out hOW (by decide) c e hv))
     refine hK _ _ (fun _ => hFL) ?_;obtain ⟨kb1, kb2, _⟩ := KQ.out wL hFL;obtain ⟨HLL, HFL⟩ := hd2 hownL hFL;clear hK K hatL hltL hownL hgrowL hFL hOW hs6;obtain ⟨HK1, HK2⟩ := hd2 kb1 kb2;unfold P.nbox at kb1;have x0 := cell_of_block kb1 0 _ rfl;have y0 := free_of_block kb1 0;clear kb1 kb2;refine Lt.ready1 (i := 8) (by kernel_rfl) rfl (fun K hK => ?_);go_simp;have HB8 : Hid ((wL.setCell ⟨Bn, 0, none⟩ (.slice (some ⟨gN, 0, none⟩) (N.length + 1) capN)).heap[Bn]? = some (P.nbox (some ⟨gN, 0, none⟩) (N.length + 1) capN)) := block_set (i := 0) HK1.out _;have HF8 : Hid (Fr wL (wL.setCell ⟨Bn, 0, none⟩ (.slice (some ⟨gN, 0, none⟩) (N.length + 1) capN)) (fun c => c = Bn \/ c = Bl)) := (Fr.set1 wL Bn 0 _).weak (fun _ _ e => .inl e);have HK8 : Hid ((wL.setCell ⟨Bn, 0, none⟩ (.slice (some ⟨gN, 0, none⟩) (N.length + 1) capN)).heap[Bl]? = some (P.lbox ao L.length cap)) := ((Fr.set1 wL Bn 0 _).block Bl (blt HK2.out) (fun e => hnl e.symm)).trans HK2.out;clear x0 y0;generalize wL.setCell _ _ = w8 at *;refine hK _ _ (Lt.is_late (by kernel_rfl)) ?_;clear hK K;have kb2 := HK8.out;unfold P.lbox at kb2;have x0 := cell_of_block kb2 0 _ rfl;have y0 := free_of_block kb2 0;clear kb2;refine Lt.ready1 (i := 9) (by kernel_rfl) rfl (fun K hK => ?_);go_simp;have HB9 : Hid ((w8.setCell ⟨Bl, 0, none⟩ (.slice (some ⟨gL, 0, none⟩) (L.length + 1) capL)).heap[Bl]? = some (P.lbox (some ⟨gL, 0, none⟩) (L.length + 1) capL)) := block_set (i := 0) HK8.out _;have HF9 : Hid (Fr wL (w8.setCell ⟨Bl, 0, none⟩ (.slice (some ⟨gL, 0, none⟩) (L.length + 1) capL)) (fun c => c = Bn \/ c = Bl)) := HF8.out.trans (Fr.set1 w8 Bl 0 _) (fun _ _ e => .inr e);have HB89 : Hid ((w8.setCell ⟨Bl, 0, none⟩ (.slice (some ⟨gL, 0, none⟩) (L.length + 1) capL)).heap[Bn]? = some (P.nbox (some ⟨gN, 0, none⟩) (N.length + 1) capN)) := ((Fr.set1 w8 Bl 0 _).block Bn (blt HB8.out) hnl).trans HB8.out;clear x0 y0;generalize w8.setCell _ _ = wz at *;refine hK _ _ (Lt.is_late (by kernel_rfl)) ?_;clear hK K;refine Lt.done (by kernel_rfl) ?_ _;have HE9 := hide (HFIN.out gN capN gL capL wL wz HNL.out HLL.out HFL.out HGN.out HGL.out HF9.out HB89.out HB9.out);clear HFIN;go_wp2_with fail;exact bodyPost_ret (v := ev) (by simp [results, Tryz.results202, go_sem]) rfl HE9.out
   ·exfalso;obtain ⟨y, hy⟩ := HNE.out;rw [P.oneF, HE1.out] at hy;simp only at hy;rw [if_neg HMO.out, if_neg (by rw [HAB.out]; simp), show P.found 4 [58] _ = _ from hE2] at hy;cases hy
 ·exfalso;obtain ⟨y, hy⟩ := HNE.out;rw [P.oneF, hE1] at hy;cases hy
end Go.Proofs.YtcekcfjabhlheaaGreatDoor.Vx
