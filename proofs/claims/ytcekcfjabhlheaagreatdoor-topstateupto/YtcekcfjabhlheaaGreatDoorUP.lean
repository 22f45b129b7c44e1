/- TopState: UP. -/
import Derived.Test.YtcekcfjabhlheaaGreatDoorUO
set_option maxRecDepth 100000
set_option maxHeartbeats 3200000
namespace Go.Proofs.YtcekcfjabhlheaaGreatDoor.Vx
open Go.RowKit
namespace P
def Val5 (m : Nat) (D : Nat -> Prop) (w : World) (v : Val) (cs : List Value) : Prop := (∃ k n s a1 n1 c1 a2 n2 c2, cs = [.int .i64 k, .int .i64 n, .string s, .slice a1 n1 c1, .slice a2 n2 c2]) /\ KM (BV m) D w v cs
theorem Val5.of {m : Nat} {D : Nat -> Prop} {w : World} {v : Val} {cs : List Value} (h : KM (BV m) D w v cs) : Val5 m D w v cs := by
 obtain ⟨a1, n1, c1, a2, n2, c2, e⟩ := S.Mem.form (h w (fun _ _ => rfl))
 exact ⟨⟨_, _, _, _, _, _, _, _, _, e⟩, h⟩
structure Frm (m C o base : Nat) (De D : Nat -> Prop) (w : World) (e : Ex) (gv : Value) (L : List (Val × List Value)) : Prop where
 ex : ∃ pb po cs, w.cell? ⟨C, o, none⟩ = some (.pointer (some ⟨pb, po, none⟩)) /\ (∀ j, j < 10 -> w.cell? ⟨pb, po + j, none⟩ = cs[j]?) /\ X.MemD De (m + 1) w e cs
 got : w.cell? ⟨C, o + 1, none⟩ = some gv
 row : GrowD (BV m) 61 5 base D w gv L
 vals : L.map (fun x => x.1) = (e.a.take L.length).map (X.val m)
 few : L.length <= e.a.length
 fine : X.Fine (m + 1) e
end P
theorem X.MemD.lit {De : Nat -> Prop} {m : Nat} {w : World} {e : Ex} {cs : List Value} (h : X.MemD De (m + 1) w e cs) : ∃ c0 c1 c2 c3 c4 av nv, cs = [.int .i64 e.kind, c0, c1, c2, c3, c4, .string e.s, .string e.t, av, nv] /\ P.KM (P.BV (m + 1)) De w e.v [c0, c1, c2, c3, c4] /\ (∃ aa ca, av = .slice aa e.a.length ca) /\ ∃ an cn, nv = .slice an e.n.length cn := by
 obtain ⟨c0, c1, c2, c3, c4, av, nv, hcs, hv, ha, hn⟩ := h w (fun _ _ => rfl)
 refine ⟨c0, c1, c2, c3, c4, av, nv, hcs, fun w2 hw2 => ?_, ha.shape, hn.shape⟩
 obtain ⟨d0, d1, d2, d3, d4, av', nv', hcs', hv', _⟩ := h w2 hw2
 rw [hcs] at hcs'
 simp only [List.cons.injEq, and_true, true_and] at hcs'
 obtain ⟨rfl, rfl, rfl, rfl, rfl, _⟩ := hcs'
 exact hv'
theorem made_any (m C o base : Nat) (De D : Nat -> Prop) (w : World) (e : Ex) (gv : Value) (L : List (Val × List Value)) (h : P.Frm m C o base De D w e gv L) (hDe : ∀ c, De c -> c < w.heap.size) (hD : ∀ c, D c -> c < w.heap.size) (hall : L.length = e.a.length) :
  Calls Tryz.prog 169 #[.pointer (some ⟨C, o, none⟩), .agg #[.map none, .map none, .map none]] w fun r w' => (∃ cs, r = .returned (.tuple #[.agg cs.toArray, .nilIface]) /\ P.Val5 (m + 1) (fun c => De c \/ D c \/ gv.ownBlock = some c \/ P.New w w' c) w' (X.val (m + 1) e) cs) /\ Below w.heap.size w w' := by
 obtain ⟨⟨pb, po, cs, p0, hcell, hM⟩, hgot, hrow, hvals, hfew, hfine⟩ := h
 rw [hall, List.take_length] at hvals
 obtain ⟨c0, c1, c2, c3, c4, av, nv, rfl, hKV, ⟨aa, ca, rfl⟩, an, cn, rfl⟩ := hM.lit
 obtain ⟨a1, n1, k1, a2, n2, k2, hcs5⟩ := S.Mem.form (hKV w (fun _ _ => rfl))
 simp only [List.cons.injEq, and_true] at hcs5
 obtain ⟨rfl, rfl, rfl, rfl, rfl⟩ := hcs5
 obtain ⟨ga, gc, rfl⟩ := own_shape hrow.own
 have hb0 : Below w.heap.size w ((w.alloc (.cells #[.map none, .map none, .map none] 178)).alloc (.cells #[.int .i64 0, .int .i64 0, .string ⟨#[]⟩, .slice none 0 0, .slice none 0 0] 61)) := ((Below.refl _ _).alloc (Nat.le_refl _) _).alloc (by simp) _
 have hA0 : ((w.alloc (.cells #[.map none, .map none, .map none] 178)).alloc (.cells #[.int .i64 0, .int .i64 0, .string ⟨#[]⟩, .slice none 0 0, .slice none 0 0] 61)).heap[w.heap.size + 1]? = some (.cells #[.int .i64 0, .int .i64 0, .string ⟨#[]⟩, .slice none 0 0, .slice none 0 0] 61 (0, 0)) := by
  have := heap_alloc_new (w.alloc (.cells #[.map none, .map none, .map none] 178)) (.cells #[.int .i64 0, .int .i64 0, .string ⟨#[]⟩, .slice none 0 0, .slice none 0 0] 61)
  simpa using this
 have y0 := kept_cell hb0 (hcell 0 (by decide))
 have y1 := kept_cell hb0 (hcell 1 (by decide))
 have y2 := kept_cell hb0 (hcell 2 (by decide))
 have y3 := kept_cell hb0 (hcell 3 (by decide))
 have y4 := kept_cell hb0 (hcell 4 (by decide))
 have y5 := kept_cell hb0 (hcell 5 (by decide))
 have y8 := kept_cell hb0 (hcell 8 (by decide))
 have y9 := kept_cell hb0 (hcell 9 (by decide))
 simp only [Nat.add_zero] at y0
 have z0 := kept_cell hb0 p0
 have z1 := kept_cell hb0 hgot
 have HS0 : Hid (((w.alloc (.cells #[.map none, .map none, .map none] 178)).alloc (.cells #[.int .i64 0, .int .i64 0, .string ⟨#[]⟩, .slice none 0 0, .slice none 0 0] 61)).heap.size = w.heap.size + 2) := by
  show _ = _
  simp
 obtain ⟨HKV, HROW, HM, HB0, HA0, HDE, HD, HVALS⟩ := hd8 hKV hrow hM hb0 hA0 hDe hD hvals
 have HALL := hide hall
 have HLEN : Hid (e.a.length <= 60) := hfine.2.2.2.1
 have hkc : e.kind = 1 \/ e.kind = 8 \/ (e.kind = 9 /\ e.a.length = e.n.length) := by
  rcases hfine.1 with h | h | h
  ·exact .inl h.1
  ·exact .inr (.inl h.1)
  ·exact .inr (.inr h)
 have HCT := hide (counted_any C o pb po e.kind aa e.a.length ca an e.n.length cn ((w.alloc (.cells #[.map none, .map none, .map none] 178)).alloc (.cells #[.int .i64 0, .int .i64 0, .string ⟨#[]⟩, .slice none 0 0, .slice none 0 0] 61)) z0 y0 y8 y9 hkc)
 have HVE : Hid (X.val (m + 1) e = if e.kind = 1 then e.v else if e.kind = 8 then ⟨4, 0, ⟨#[]⟩, e.a.map (X.val m), []⟩ else ⟨5, 0, ⟨#[]⟩, [], e.n.zip (e.a.map (X.val m))⟩) := by
  show _ = _
  rw [X.val]
 generalize X.val (m + 1) e = RV at *
 clear hcell p0 hgot hrow hM hb0 hA0 hKV hDe hD hvals hall hfine hfew
 go_enter Tryz.func169, Tryz.ntmps169
 go_wp2_with fail
 generalize ((w.alloc _).alloc _) = w0 at *
 refine HCT.out.mono ?_
 rintro r w1 ⟨rfl, nn, hw1⟩
 rw [hw1]
 clear hw1 HCT
 have hbd : Below w0.heap.size w0 (w0.drewN nn) := below_drewN (Below.refl _ _) nn
 have HB1 := hide (HB0.out.trans (hbd.mono HB0.out.size))
 have hA1 := (hbd.block (w.heap.size + 1) (by have := HS0.out; omega)).trans HA0.out
 have HSZ : Hid (w.heap.size + 2 <= (w0.drewN nn).heap.size) := by
  show _ <= _
  have := HS0.out
  have := hbd.size
  omega
 replace y0 := kept_cell hbd y0
 replace y1 := kept_cell hbd y1
 replace y2 := kept_cell hbd y2
 replace y3 := kept_cell hbd y3
 replace y4 := kept_cell hbd y4
 replace y5 := kept_cell hbd y5
 replace y9 := kept_cell hbd y9
 replace z0 := kept_cell hbd z0
 replace z1 := kept_cell hbd z1
 clear hbd y8 HB0 HA0
 generalize w0.drewN nn = w1 at *
 have HA1 := hide hA1
 rcases hkc with hk | hk | ⟨hk, hnn⟩
 ·rw [hk] at y0
  rw [hk, if_pos rfl] at HVE
  clear hk
  obtain ⟨m0, m1, m2, m3, m4⟩ := cl5 hA1
  obtain ⟨f0, f1, f2, f3, f4⟩ := fl5 hA1
  clear hA1
  obtain ⟨HAz, HBz⟩ := hd2 HA1.out HB1.out
  go_wp2_with fail
  have hF5 : Fr w1 (((((w1.setCell ⟨w.heap.size + 1, 0, none⟩ (.int .i64 e.v.kind)).setCell ⟨w.heap.size + 1, 1, none⟩ (.int .i64 e.v.n)).setCell ⟨w.heap.size + 1, 2, none⟩ (.string e.v.s)).setCell ⟨w.heap.size + 1, 3, none⟩ (.slice a1 n1 k1)).setCell ⟨w.heap.size + 1, 4, none⟩ (.slice a2 n2 k2)) (fun c => c = w.heap.size + 1) := (((((Fr.refl w1 (fun c => c = w.heap.size + 1)).set ⟨w.heap.size + 1, 0, none⟩ _ (fun _ => rfl)).set ⟨w.heap.size + 1, 1, none⟩ _ (fun _ => rfl)).set ⟨w.heap.size + 1, 2, none⟩ _ (fun _ => rfl)).set ⟨w.heap.size + 1, 3, none⟩ _ (fun _ => rfl)).set ⟨w.heap.size + 1, 4, none⟩ _ (fun _ => rfl)
  have hB5 : (((((w1.setCell ⟨w.heap.size + 1, 0, none⟩ (.int .i64 e.v.kind)).setCell ⟨w.heap.size + 1, 1, none⟩ (.int .i64 e.v.n)).setCell ⟨w.heap.size + 1, 2, none⟩ (.string e.v.s)).setCell ⟨w.heap.size + 1, 3, none⟩ (.slice a1 n1 k1)).setCell ⟨w.heap.size + 1, 4, none⟩ (.slice a2 n2 k2)).heap[w.heap.size + 1]? = some (.cells #[.int .i64 e.v.kind, .int .i64 e.v.n, .string e.v.s, .slice a1 n1 k1, .slice a2 n2 k2] 61 (0, 0)) := by
    have q0 : (w1.setCell ⟨w.heap.size + 1, 0, none⟩ (.int .i64 e.v.kind)).heap[w.heap.size + 1]? = _ := block_set (i := 0) HAz.out (.int .i64 e.v.kind)
    have q1 := block_set (i := 1) q0 (.int .i64 e.v.n)
    have q2 := block_set (i := 2) q1 (.string e.v.s)
    have q3 := block_set (i := 3) q2 (.slice a1 n1 k1)
    exact block_set (i := 4) q3 (.slice a2 n2 k2)
  generalize (((((w1.setCell _ _).setCell _ _).setCell _ _).setCell _ _).setCell _ _) = wz at *
  obtain ⟨r0, r1, r2, r3, r4⟩ := cl5 hB5
  have hsz := HSZ.out
  refine bodyPost_ret (v := .tuple #[.agg #[.int .i64 e.v.kind, .int .i64 e.v.n, .string e.v.s, .slice a1 n1 k1, .slice a2 n2 k2], .nilIface]) (by simp [results, Tryz.results169, go_sem, r0, r1, r2, r3, r4]) rfl ⟨⟨[.int .i64 e.v.kind, .int .i64 e.v.n, .string e.v.s, .slice a1 n1 k1, .slice a2 n2 k2], rfl, P.Val5.of ?_⟩, HBz.out.trans (hF5.below HBz.out.size (fun c e => by omega))⟩
  rw [HVE.out]
  exact HKV.out.to (fun c hc => by
   have := HDE.out c hc
   rw [hF5.block c (by omega) (by omega)]
   exact HBz.out.block c this) (fun c hc => .inl hc)
 ·rw [hk] at y0
  rw [hk, if_neg (by decide), if_pos rfl] at HVE
  clear hk
  obtain ⟨m0, m1, m2, m3, m4⟩ := cl5 hA1
  obtain ⟨f0, f1, f2, f3, f4⟩ := fl5 hA1
  clear hA1
  obtain ⟨HAz, HBz⟩ := hd2 HA1.out HB1.out
  go_wp2_with fail
  have hF5 : Fr w1 (((((w1.setCell ⟨w.heap.size + 1, 0, none⟩ (.int .i64 4)).setCell ⟨w.heap.size + 1, 1, none⟩ (.int .i64 0)).setCell ⟨w.heap.size + 1, 2, none⟩ (.string ⟨#[]⟩)).setCell ⟨w.heap.size + 1, 3, none⟩ (.slice ga L.length gc)).setCell ⟨w.heap.size + 1, 4, none⟩ (.slice none 0 0)) (fun c => c = w.heap.size + 1) := (((((Fr.refl w1 (fun c => c = w.heap.size + 1)).set ⟨w.heap.size + 1, 0, none⟩ _ (fun _ => rfl)).set ⟨w.heap.size + 1, 1, none⟩ _ (fun _ => rfl)).set ⟨w.heap.size + 1, 2, none⟩ _ (fun _ => rfl)).set ⟨w.heap.size + 1, 3, none⟩ _ (fun _ => rfl)).set ⟨w.heap.size + 1, 4, none⟩ _ (fun _ => rfl)
  have hB5 : (((((w1.setCell ⟨w.heap.size + 1, 0, none⟩ (.int .i64 4)).setCell ⟨w.heap.size + 1, 1, none⟩ (.int .i64 0)).setCell ⟨w.heap.size + 1, 2, none⟩ (.string ⟨#[]⟩)).setCell ⟨w.heap.size + 1, 3, none⟩ (.slice ga L.length gc)).setCell ⟨w.heap.size + 1, 4, none⟩ (.slice none 0 0)).heap[w.heap.size + 1]? = some (.cells #[.int .i64 4, .int .i64 0, .string ⟨#[]⟩, .slice ga L.length gc, .slice none 0 0] 61 (0, 0)) := by
    have q0 : (w1.setCell ⟨w.heap.size + 1, 0, none⟩ (.int .i64 4)).heap[w.heap.size + 1]? = _ := block_set (i := 0) HAz.out (.int .i64 4)
    have q1 := block_set (i := 1) q0 (.int .i64 0)
    have q2 := block_set (i := 2) q1 (.string ⟨#[]⟩)
    have q3 := block_set (i := 3) q2 (.slice ga L.length gc)
    exact block_set (i := 4) q3 (.slice none 0 0)
  generalize (((((w1.setCell _ _).setCell _ _).setCell _ _).setCell _ _).setCell _ _) = wz at *
  obtain ⟨r0, r1, r2, r3, r4⟩ := cl5 hB5
  have hsz := HSZ.out
  refine bodyPost_ret (v := .tuple #[.agg #[.int .i64 4, .int .i64 0, .string ⟨#[]⟩, .slice ga L.length gc, .slice none 0 0], .nilIface]) (by simp [results, Tryz.results169, go_sem, r0, r1, r2, r3, r4]) rfl ⟨⟨[.int .i64 4, .int .i64 0, .string ⟨#[]⟩, .slice ga L.length gc, .slice none 0 0], rfl, P.Val5.of ?_⟩, HBz.out.trans (hF5.below HBz.out.size (fun c e => by omega))⟩
  rw [HVE.out]
  intro w2 hw2
  have hr := HROW.out.row w2 (fun c hc => by
   have hlt : c < w.heap.size := by
    rcases hc with h | h
    ·exact HD.out c h
    ·exact (HROW.out.own.lt c h).2
   refine (hw2 c ?_).trans ((hF5.block c (by omega) (by omega)).trans (HBz.out.block c hlt))
   rcases hc with h | h
   ·exact .inr (.inl h)
   ·exact .inr (.inr (.inl h)))
  rw [HVALS.out] at hr
  refine ⟨_, _, rfl, ?_, V.Row.zero _ _ _⟩
  exact hr
 ·rw [hk] at y0
  rw [hk, if_neg (by decide), if_neg (by decide)] at HVE
  clear hk
  have hbd : Below w1.heap.size w1 w1.drew := below_drewN (Below.refl _ _) 1
  have hB1d := HB1.out.trans (hbd.mono HB1.out.size)
  have hMd := HM.out w1.drew (fun c hc => hB1d.block c (HDE.out c hc))
  have hREC : Calls Tryz.prog 191 #[.slice an e.n.length cn, .slice ga L.length gc] w1.drew fun r w2 => (∃ af cf, r = .returned (.agg #[.int .i64 5, .int .i64 0, .string ⟨#[]⟩, .slice none 0 0, .slice af L.length cf]) /\
    Hid (P.KM (P.BV (m + 1)) (fun c => D c \/ P.New w1.drew w2 c) w2 ⟨5, 0, ⟨#[]⟩, [], e.n.zip (L.map (fun x => x.1))⟩ [.int .i64 5, .int .i64 0, .string ⟨#[]⟩, .slice none 0 0, .slice af L.length cf])) /\ Hid (Below w.heap.size w w2) /\ Hid (w2.heap[w.heap.size + 1]? = some (.cells #[.int .i64 0, .int .i64 0, .string ⟨#[]⟩, .slice none 0 0, .slice none 0 0] 61 (0, 0))) /\ Hid (w1.heap.size <= w2.heap.size) := by
   obtain ⟨d0, d1, d2, d3, d4, av', nv', hcs', _, _, hn'⟩ := hMd
   simp only [List.cons.injEq, and_true, true_and] at hcs'
   obtain ⟨_, _, _, _, _, _, rfl⟩ := hcs'
   have hfr : Fr w w1.drew (fun _ => False) := ⟨hB1d.os, hB1d.tape, hB1d.output, hB1d.size, fun c hc _ => hB1d.block c hc⟩
   refine (record_any m w1.drew e.n L an cn (.slice ga L.length gc) D base hn' (HROW.out.keep hfr (fun c hc => ⟨HD.out c hc, fun e => e⟩) (fun _ _ e => e) (fun _ h => h) HROW.out.apart) (fun c hc => Nat.lt_of_lt_of_le (HD.out c hc) hB1d.size) (by rw [<- hnn]; exact HALL.out.symm) (by rw [HALL.out]; exact HLEN.out)).mono ?_
   rintro r w2 ⟨⟨af, cf, rfl, hk⟩, hb⟩
   exact ⟨⟨af, cf, rfl, hk⟩, hB1d.trans (hb.mono hB1d.size), (hb.block (w.heap.size + 1) (by have := HSZ.out; exact this)).trans HA1.out, hb.size⟩
  have HREC := hide hREC
  clear hbd hB1d hMd hREC hA1
  go_wp2_with fail
  go_region_with (go_at_call 191; refine Calls.mono HREC.out ?_; rintro r w2 ⟨⟨af, cf, rfl, HK2⟩, HB2, HA2, HS2⟩; have g0 := cell_of_block HA2.out 0 _ rfl; have g1 := cell_of_block HA2.out 1 _ rfl; have g2 := cell_of_block HA2.out 2 _ rfl; have g3 := cell_of_block HA2.out 3 _ rfl; have g4 := cell_of_block HA2.out 4 _ rfl; have f0 := free_of_block HA2.out 0; have f1 := free_of_block HA2.out 1; have f2 := free_of_block HA2.out 2; have f3 := free_of_block HA2.out 3; have f4 := free_of_block HA2.out 4)
  all_goals
   obtain ⟨HAz, HBz, HSz⟩ := hd3 HA2.out HB2.out HS2.out
   clear g0 g1 g2 g3 g4 f0 f1 f2 f3 f4 HREC
   go_wp2_with fail
   have hF5 : Fr w2 (((((w2.setCell ⟨w.heap.size + 1, 0, none⟩ (.int .i64 5)).setCell ⟨w.heap.size + 1, 1, none⟩ (.int .i64 0)).setCell ⟨w.heap.size + 1, 2, none⟩ (.string ⟨#[]⟩)).setCell ⟨w.heap.size + 1, 3, none⟩ (.slice none 0 0)).setCell ⟨w.heap.size + 1, 4, none⟩ (.slice af L.length cf)) (fun c => c = w.heap.size + 1) := (((((Fr.refl w2 (fun c => c = w.heap.size + 1)).set ⟨w.heap.size + 1, 0, none⟩ _ (fun _ => rfl)).set ⟨w.heap.size + 1, 1, none⟩ _ (fun _ => rfl)).set ⟨w.heap.size + 1, 2, none⟩ _ (fun _ => rfl)).set ⟨w.heap.size + 1, 3, none⟩ _ (fun _ => rfl)).set ⟨w.heap.size + 1, 4, none⟩ _ (fun _ => rfl)
   have hB5 : (((((w2.setCell ⟨w.heap.size + 1, 0, none⟩ (.int .i64 5)).setCell ⟨w.heap.size + 1, 1, none⟩ (.int .i64 0)).setCell ⟨w.heap.size + 1, 2, none⟩ (.string ⟨#[]⟩)).setCell ⟨w.heap.size + 1, 3, none⟩ (.slice none 0 0)).setCell ⟨w.heap.size + 1, 4, none⟩ (.slice af L.length cf)).heap[w.heap.size + 1]? = some (.cells #[.int .i64 5, .int .i64 0, .string ⟨#[]⟩, .slice none 0 0, .slice af L.length cf] 61 (0, 0)) := by
     have q0 : (w2.setCell ⟨w.heap.size + 1, 0, none⟩ (.int .i64 5)).heap[w.heap.size + 1]? = _ := block_set (i := 0) HAz.out (.int .i64 5)
     have q1 := block_set (i := 1) q0 (.int .i64 0)
     have q2 := block_set (i := 2) q1 (.string ⟨#[]⟩)
     have q3 := block_set (i := 3) q2 (.slice none 0 0)
     exact block_set (i := 4) q3 (.slice af L.length cf)
   generalize (((((w2.setCell _ _).setCell _ _).setCell _ _).setCell _ _).setCell _ _) = wz at *
   obtain ⟨r0, r1, r2, r3, r4⟩ := cl5 hB5
   have hsz := HSZ.out
   have hs2 := HSz.out
   refine bodyPost_ret (v := .tuple #[.agg #[.int .i64 5, .int .i64 0, .string ⟨#[]⟩, .slice none 0 0, .slice af L.length cf], .nilIface]) (by simp [results, Tryz.results169, go_sem, r0, r1, r2, r3, r4]) rfl ⟨⟨[.int .i64 5, .int .i64 0, .string ⟨#[]⟩, .slice none 0 0, .slice af L.length cf], rfl, P.Val5.of ?_⟩, HBz.out.trans (hF5.below HBz.out.size (fun c e => by omega))⟩
   rw [HVE.out, <- HVALS.out]
   exact HK2.out.to (fun c hc => hF5.block c (by
     rcases hc with h | h
     ·have := HD.out c h
      omega
     ·exact h.2) (by
     rcases hc with h | h
     ·have := HD.out c h
      omega
     ·have h1 : w1.heap.size <= c := h.1
      omega)) (fun c hc => by
    rcases hc with h | h
    ·exact .inr (.inl h)
    ·have h1 : w1.heap.size <= c := h.1
     have h2 := h.2
     have h3 := hF5.size
     exact .inr (.inr (.inr ⟨by omega, by omega⟩)))
theorem P.Frm.kept {m C o base : Nat} {De D : Nat -> Prop} {w w' : World} {e : Ex} {gv : Value} {L : List (Val × List Value)} (h : P.Frm m C o base De D w e gv L) (hb : Below w.heap.size w w') (hDe : ∀ c, De c -> c < w.heap.size) (hD : ∀ c, D c -> c < w.heap.size) : P.Frm m C o base De D w' e gv L := by
 obtain ⟨⟨pb, po, cs, p0, hcell, hM⟩, hgot, hrow, hvals, hfew, hfine⟩ := h
 refine ⟨⟨pb, po, cs, kept_cell hb p0, fun j hj => ?_, hM.to (fun c hc => hb.block c (hDe c hc)) (fun _ h => h)⟩, kept_cell hb hgot, hrow.keep (ex := fun _ => False) ⟨hb.os, hb.tape, hb.output, hb.size, fun c hc _ => hb.block c hc⟩ (fun c hc => ⟨hD c hc, fun e => e⟩) (fun _ _ e => e) (fun _ h => h) hrow.apart, hvals, hfew, hfine⟩
 have h1 := hcell j hj
 obtain ⟨c0, c1, c2, c3, c4, av, nv, rfl, _⟩ := hM.lit
 rw [<- h1]
 have : ∃ u, w.cell? ⟨pb, po + j, none⟩ = some u := by
  rw [h1]
  exact ⟨_, List.getElem?_eq_getElem (by simpa using hj)⟩
 obtain ⟨u, hu⟩ := this
 rw [hu]
 exact kept_cell hb hu
theorem checked_any (m C o base : Nat) (De D : Nat -> Prop) (w : World) (e : Ex) (gv : Value) (L : List (Val × List Value)) (h : P.Frm m C o base De D w e gv L) (hDe : ∀ c, De c -> c < w.heap.size) (hD : ∀ c, D c -> c < w.heap.size) (hall : L.length = e.a.length) :
  Calls Tryz.prog 153 #[.pointer (some ⟨C, o, none⟩), .agg #[.map none, .map none, .map none]] w fun r w' => (∃ cs, r = .returned (.tuple #[.agg cs.toArray, .nilIface]) /\ P.Val5 (m + 1) (fun c => De c \/ D c \/ gv.ownBlock = some c \/ P.New w w' c) w' (X.val (m + 1) e) cs) /\ Below w.heap.size w w' := by
 have hb0 : Below w.heap.size w ((w.alloc (.cells #[.map none, .map none, .map none] 178)).alloc (.cells #[.int .i64 0, .int .i64 0, .string ⟨#[]⟩, .slice none 0 0, .slice none 0 0] 61)) := ((Below.refl _ _).alloc (Nat.le_refl _) _).alloc (by simp) _
 have hA0 : ((w.alloc (.cells #[.map none, .map none, .map none] 178)).alloc (.cells #[.int .i64 0, .int .i64 0, .string ⟨#[]⟩, .slice none 0 0, .slice none 0 0] 61)).heap[w.heap.size + 1]? = some (.cells #[.int .i64 0, .int .i64 0, .string ⟨#[]⟩, .slice none 0 0, .slice none 0 0] 61 (0, 0)) := by
  have := heap_alloc_new (w.alloc (.cells #[.map none, .map none, .map none] 178)) (.cells #[.int .i64 0, .int .i64 0, .string ⟨#[]⟩, .slice none 0 0, .slice none 0 0] 61)
  simpa using this
 have hE0 : ((w.alloc (.cells #[.map none, .map none, .map none] 178)).alloc (.cells #[.int .i64 0, .int .i64 0, .string ⟨#[]⟩, .slice none 0 0, .slice none 0 0] 61)).heap[w.heap.size]? = some (.cells #[.map none, .map none, .map none] 178 (0, 0)) := by
  rw [heap_alloc_old _ _ (by simp)]
  exact heap_alloc_new _ _
 have HSZ : Hid (((w.alloc (.cells #[.map none, .map none, .map none] 178)).alloc (.cells #[.int .i64 0, .int .i64 0, .string ⟨#[]⟩, .slice none 0 0, .slice none 0 0] 61)).heap.size = w.heap.size + 2) := by
  show _ = _
  simp
 have HMD := hide (made_any m C o base De D _ e gv L (h.kept hb0 hDe hD) (fun c hc => Nat.lt_of_lt_of_le (hDe c hc) hb0.size) (fun c hc => Nat.lt_of_lt_of_le (hD c hc) hb0.size) hall)
 have HFT : Hid (V.fault (m + 1) (X.val (m + 1) e) = 0) := h.fine.2.1
 have HBK : Hid (V.bulk (m + 1) (X.val (m + 1) e) <= 2000000) := h.fine.2.2.1
 have HOW : Hid (∀ c, gv.ownBlock = some c -> c < w.heap.size) := fun c hc => (h.row.own.lt c hc).2
 obtain ⟨HDE, HD, HB0, HA0⟩ := hd4 hDe hD hb0 hA0
 obtain ⟨e0, e1, e2⟩ := cl3 hE0
 generalize X.val (m + 1) e = RV at *
 clear h hDe hD hall hb0 hA0 hE0
 go_enter Tryz.func153, Tryz.ntmps153
 go_wp2_with fail
 generalize ((w.alloc _).alloc _) = w0 at *
 refine HMD.out.mono ?_
 rintro r wb ⟨⟨cs, rfl, ⟨k, n, s, a1, n1, c1, a2, n2, c2, rfl⟩, hK⟩, hb1⟩
 have hB1 := HB0.out.trans (hb1.mono HB0.out.size)
 have hbx : Below wb.heap.size wb (wb.alloc (.cells #[.int .i64 k, .int .i64 n, .string s, .slice a1 n1 c1, .slice a2 n2 c2] 61)) := (Below.refl _ _).alloc (Nat.le_refl _) _
 have hX := heap_alloc_new wb (.cells #[.int .i64 k, .int .i64 n, .string s, .slice a1 n1 c1, .slice a2 n2 c2] 61)
 have hA1 := (hb1.block (w.heap.size + 1) (by have := HSZ.out; omega)).trans HA0.out
 have hA2 := (hbx.block (w.heap.size + 1) (blt hA1)).trans hA1
 have hs1 := hb1.size
 have HKb : Hid (P.KM (P.BV (m + 1)) (fun c => De c \/ D c \/ gv.ownBlock = some c \/ P.New w0 wb c) wb RV [.int .i64 k, .int .i64 n, .string s, .slice a1 n1 c1, .slice a2 n2 c2]) := hK
 have hCK : ∀ W : World, Below wb.heap.size wb W -> W.heap[wb.heap.size]? = some (.cells #[.int .i64 k, .int .i64 n, .string s, .slice a1 n1 c1, .slice a2 n2 c2] 61 (0, 0)) -> Calls Tryz.prog 69 #[.agg #[.int .i64 k, .int .i64 n, .string s, .slice a1 n1 c1, .slice a2 n2 c2]] W fun r w4 => r = .returned .nilIface /\ (w4.cell? ⟨wb.heap.size, 0, none⟩ = some (.int .i64 k) /\ w4.cell? ⟨wb.heap.size, 1, none⟩ = some (.int .i64 n) /\ w4.cell? ⟨wb.heap.size, 2, none⟩ = some (.string s) /\ w4.cell? ⟨wb.heap.size, 3, none⟩ = some (.slice a1 n1 c1) /\ w4.cell? ⟨wb.heap.size, 4, none⟩ = some (.slice a2 n2 c2)) /\ Hid (Below wb.heap.size wb w4) := fun W hW hblk => by
  refine (check_any (m + 1) W RV _ _ _ _ _ (V.Mem.kept (m + 1) (hK wb (fun _ _ => rfl)) hW) HBK.out).mono ?_
  rintro r w4 ⟨rfl, hb⟩
  rw [HFT.out]
  have hblk4 := (hb.block wb.heap.size (blt hblk)).trans hblk
  exact ⟨rfl, ⟨cell_of_block hblk4 0 _ rfl, cell_of_block hblk4 1 _ rfl, cell_of_block hblk4 2 _ rfl, cell_of_block hblk4 3 _ rfl, cell_of_block hblk4 4 _ rfl⟩, hW.trans (hb.mono hW.size)⟩
 have HCK := hide (fun nn => hCK ((wb.alloc (.cells #[.int .i64 k, .int .i64 n, .string s, .slice a1 n1 c1, .slice a2 n2 c2] 61)).drewN nn) (below_drewN hbx nn) hX)
 have HCK1 := hide (hCK ((wb.alloc (.cells #[.int .i64 k, .int .i64 n, .string s, .slice a1 n1 c1, .slice a2 n2 c2] 61)).drew) (below_drewN hbx 1) hX)
 obtain ⟨HB1, HA2, HA1⟩ := hd3 hB1 hA2 hA1
 have HS1 : Hid (w.heap.size + 2 <= wb.heap.size) := by
  show _ <= _
  have := HSZ.out
  omega
 obtain ⟨x0, x1, x2, x3, x4⟩ := cl5 hX
 clear hK hb1 hB1 hbx hX hA1 hA2 hs1 hCK e0 e1 e2 HMD
 go_wp2_with fail
 go_region_with (go_at_call 69; refine Calls.mono HCK1.out ?_; rintro r w4 ⟨rfl, ⟨t0, t1, t2, t3, t4⟩, HB4⟩; have hA4 := (HB4.out.block (w.heap.size + 1) (by have := HS1.out; omega)).trans HA1.out; have g0 := cell_of_block hA4 0 _ rfl; have g1 := cell_of_block hA4 1 _ rfl; have g2 := cell_of_block hA4 2 _ rfl; have g3 := cell_of_block hA4 3 _ rfl; have g4 := cell_of_block hA4 4 _ rfl; have f0 := free_of_block hA4 0; have f1 := free_of_block hA4 1; have f2 := free_of_block hA4 2; have f3 := free_of_block hA4 3; have f4 := free_of_block hA4 4)
 all_goals
  have HA4 := hide hA4
  clear hA4 t0 t1 t2 t3 t4 g0 g1 g2 g3 g4 f0 f1 f2 f3 f4 x0 x1 x2 x3 x4
  go_wp2_with fail
  have hF5 : Fr w4 (((((w4.setCell ⟨w.heap.size + 1, 0, none⟩ (.int .i64 k)).setCell ⟨w.heap.size + 1, 1, none⟩ (.int .i64 n)).setCell ⟨w.heap.size + 1, 2, none⟩ (.string s)).setCell ⟨w.heap.size + 1, 3, none⟩ (.slice a1 n1 c1)).setCell ⟨w.heap.size + 1, 4, none⟩ (.slice a2 n2 c2)) (fun c => c = w.heap.size + 1) := (((((Fr.refl w4 (fun c => c = w.heap.size + 1)).set ⟨w.heap.size + 1, 0, none⟩ _ (fun _ => rfl)).set ⟨w.heap.size + 1, 1, none⟩ _ (fun _ => rfl)).set ⟨w.heap.size + 1, 2, none⟩ _ (fun _ => rfl)).set ⟨w.heap.size + 1, 3, none⟩ _ (fun _ => rfl)).set ⟨w.heap.size + 1, 4, none⟩ _ (fun _ => rfl)
  have hB5 : (((((w4.setCell ⟨w.heap.size + 1, 0, none⟩ (.int .i64 k)).setCell ⟨w.heap.size + 1, 1, none⟩ (.int .i64 n)).setCell ⟨w.heap.size + 1, 2, none⟩ (.string s)).setCell ⟨w.heap.size + 1, 3, none⟩ (.slice a1 n1 c1)).setCell ⟨w.heap.size + 1, 4, none⟩ (.slice a2 n2 c2)).heap[w.heap.size + 1]? = some (.cells #[.int .i64 k, .int .i64 n, .string s, .slice a1 n1 c1, .slice a2 n2 c2] 61 (0, 0)) := by
   have q0 : (w4.setCell ⟨w.heap.size + 1, 0, none⟩ (.int .i64 k)).heap[w.heap.size + 1]? = _ := block_set (i := 0) HA4.out (.int .i64 k)
   have q1 := block_set (i := 1) q0 (.int .i64 n)
   have q2 := block_set (i := 2) q1 (.string s)
   have q3 := block_set (i := 3) q2 (.slice a1 n1 c1)
   exact block_set (i := 4) q3 (.slice a2 n2 c2)
  generalize (((((w4.setCell _ _).setCell _ _).setCell _ _).setCell _ _).setCell _ _) = wz at *
  obtain ⟨r0, r1, r2, r3, r4⟩ := cl5 hB5
  have hsz := HSZ.out
  have hs1 := HS1.out
  have hs4 := HB4.out.size
  have hBw4 := HB1.out.trans (HB4.out.mono HB1.out.size)
  refine bodyPost_ret (v := .tuple #[.agg #[.int .i64 k, .int .i64 n, .string s, .slice a1 n1 c1, .slice a2 n2 c2], .nilIface]) (by simp [results, Tryz.results153, go_sem, r0, r1, r2, r3, r4]) rfl ⟨⟨[.int .i64 k, .int .i64 n, .string s, .slice a1 n1 c1, .slice a2 n2 c2], rfl, P.Val5.of ?_⟩, hBw4.trans (hF5.below hBw4.size (fun c e => by omega))⟩
  have hkey : ∀ c, (De c \/ D c \/ gv.ownBlock = some c \/ P.New w0 wb c) -> c < wb.heap.size /\ c ≠ w.heap.size + 1 := fun c hc => by
   rcases hc with h | h | h | h
   ·have := HDE.out c h
    omega
   ·have := HD.out c h
    omega
   ·have := HOW.out c h
    omega
   ·have h1 := h.1
    have h2 := h.2
    omega
  refine HKb.out.to (fun c hc => ?_) (fun c hc => ?_)
  ·obtain ⟨h1, h2⟩ := hkey c hc
   exact (hF5.block c (by omega) h2).trans (HB4.out.block c h1)
  ·rcases hc with h | h | h | h
   ·exact .inl h
   ·exact .inr (.inl h)
   ·exact .inr (.inr (.inl h))
   ·have h1 := h.1
    have h2 := h.2
    have h3 := hF5.size
    exact .inr (.inr (.inr ⟨by omega, by omega⟩))
end Go.Proofs.YtcekcfjabhlheaaGreatDoor.Vx
