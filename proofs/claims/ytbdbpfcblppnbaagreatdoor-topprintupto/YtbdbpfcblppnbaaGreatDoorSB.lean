/- For TopPrint: resource. -/
import Derived.Test.YtbdbpfcblppnbaaGreatDoorRV
import Derived.Test.YtbdbpfcblppnbaaGreatDoorRX
namespace Go.Proofs.YtbdbpfcblppnbaaGreatDoor.Vx
open Go.RowKit
namespace P
theorem row_own {w : World} {base sz n : Nat} {ty : TypeId} {v : Value} (C : List (List Value)) (h : w.ownsRow base ty sz v n C.flatten) (hl : C.length = n) (hs : ∀ c ∈ C, c.length = sz) : V.Row w v n sz (fun i c => C[i]? = some c) := by
 rcases h.2 with ⟨hv, hn⟩ | ⟨g, cap', cur, hv, hg, hh, hnc, _, hcs, htk⟩
 ·rw [hv, hn]
  exact V.Row.zero _ _ _
 ·refine ⟨some ⟨g, 0, none⟩, cap', hv, .inr ⟨g, 0, rfl, fun i hi => ?_⟩⟩
  have hx : C[i]? = some C[i] := List.getElem?_eq_getElem (by omega)
  obtain ⟨h1, h2⟩ := flat_atK sz (C.map (fun c => ((), c))) (fun x hx => by
   obtain ⟨c, hc, rfl⟩ := List.mem_map.1 hx
   exact hs c hc) i ((), C[i]) (by rw [List.getElem?_map, hx]; rfl)
  refine ⟨C[i], h1, fun j hj => ?_, hx⟩
  have h3 := h2 j hj
  have hij : i * sz + j < n * sz := by
   have : (i + 1) * sz ≤ n * sz := Nat.mul_le_mul_right sz hi
   rw [Nat.succ_mul] at this
   omega
  have e : (C.map (fun c => ((), c))).flatMap (fun x => x.2) = C.flatten := by
   rw [List.flatMap_def, List.map_map]
   exact congrArg List.flatten (List.map_id C)
  rw [e, ← htk, List.getElem?_toArray, List.getElem?_take, if_pos hij, Array.getElem?_toList] at h3
  rw [cell_of_row w g _ _ _ _ hh, Nat.zero_add]
  exact h3
theorem row_names {w : World} {base n : Nat} {v : Value} (N : List ByteArray) (h : w.ownsRow base 9 1 v n (N.map Value.string)) (hl : N.length = n) : V.Row w v n 1 (fun i c => ∃ x, N[i]? = some x ∧ c = [.string x]) := by
 have e : N.map Value.string = (N.map (fun x => [Value.string x])).flatten := by
  clear h hl
  induction N with
  | nil => rfl
  | cons a N ih => simp [ih]
 rw [e] at h
 obtain ⟨ao, cap, hv, hr⟩ := row_own _ h (by rw [List.length_map, hl]) (fun c hc => by
  obtain ⟨x, _, rfl⟩ := List.mem_map.1 hc
  rfl)
 refine ⟨ao, cap, hv, hr.imp id (fun ⟨b, off, e2, h⟩ => ⟨b, off, e2, fun i hi => ?_⟩)⟩
 obtain ⟨cs, h1, h2, h3⟩ := h i hi
 rw [List.getElem?_map] at h3
 cases hx : N[i]? with
 | none => rw [hx] at h3; cases h3
 | some x =>
  rw [hx] at h3
  cases h3
  exact ⟨_, h1, h2, x, hx, rfl⟩
theorem zip_self : ∀ acc : List (ByteArray × Ex), (acc.map (·.1)).zip (acc.map (·.2)) = acc
 | [] => rfl
 | a :: l => by simp [zip_self l]
theorem sumP_eq (m : Nat) : ∀ acc : List (ByteArray × Ex), X.sumP m acc = X.sumN (acc.map (·.1)) + X.sumA (X.bulk m) (acc.map (·.2))
 | [] => rfl
 | a :: l => by
  have := sumP_eq m l
  unfold X.sumP X.sumN X.sumA at *
  simp only [List.map_cons, List.sum_cons] at *
  omega
theorem owns_lower {w : World} {base base' n z : Nat} {t : TypeId} {v : Value} {xs : List Value} (h : w.ownsRow base t z v n xs) (hb : base' ≤ base) : w.ownsRow base' t z v n xs := by
 refine ⟨h.1, ?_⟩
 rcases h.2 with h1 | ⟨g, cap, cur, e, hg, r⟩
 ·exact .inl h1
 ·exact .inr ⟨g, cap, cur, e, Nat.le_trans hb hg, r⟩
theorem GrowF.lower {base base' d : Nat} {w : World} {vn v : Value} {N : List ByteArray} {L : List (Ex × List Value)} (h : GrowF base d w vn v N L) (hb : base' ≤ base) : GrowF base' d w vn v N L :=
 ⟨h.ten, owns_lower h.ownN hb, owns_lower h.own hb, fun x hx => (h.mem x hx).to (fun _ _ => rfl) (fun c hc => ⟨by have := hc.1; omega, hc.2.1, hc.2.2.1, hc.2.2.2⟩)⟩
theorem parts_row {base : Nat} {w w2 : World} {vn v : Value} {ap : Option Addr} {cp : Nat} {acc : List (ByteArray × Ex)} {N : List ByteArray} {L : List (Ex × List Value)} (hG : GrowF base 6 w vn v N L) (e1 : acc.map (·.1) = N) (e2 : acc.map (·.2) = L.map (fun x => x.1)) (hb : Below w.heap.size w w2)
  (ho : w2.ownsRow w.heap.size 59 11 (.slice ap N.length cp) N.length (partCells N (L.map (fun x => x.2)))) (hbase : base ≤ w.heap.size) : KRow BO 11 (fun c => base ≤ c ∧ c < w2.heap.size) w2 (.slice ap N.length cp) acc := by
 have hl : L.length = N.length := by
  have h1 := congrArg List.length e1
  have h2 := congrArg List.length e2
  simp only [List.length_map] at h1 h2
  omega
 have hlen : ((N.zip L).map (fun x => ((x.1, x.2.1), Value.string x.1 :: x.2.2))).length = N.length := by
  rw [List.length_map, List.length_zip, hl, Nat.min_self]
 have hfm : ((N.zip L).map (fun x => ((x.1, x.2.1), Value.string x.1 :: x.2.2))).flatMap (fun x => x.2) = partCells N (L.map (fun x => x.2)) := by
  unfold partCells
  rw [List.zip_map_right, List.flatMap_map, List.flatMap_map]
  rfl
 have hfst : ((N.zip L).map (fun x => ((x.1, x.2.1), Value.string x.1 :: x.2.2))).map (fun x => x.1) = acc := by
  rw [List.map_map, ← zip_self acc, e1, e2, List.zip_map_right]
  rfl
 have hK : GrowK BO 59 11 base w2 (.slice ap N.length cp) ((N.zip L).map (fun x => ((x.1, x.2.1), Value.string x.1 :: x.2.2))) := by
  refine ⟨fun x hx => ?_, ?_, fun x hx => ?_⟩
  ·obtain ⟨y, hy, rfl⟩ := List.mem_map.1 hx
   have := hG.ten y.2 (List.of_mem_zip hy).2
   simp [this]
  ·rw [hlen, hfm]
   exact owns_lower ho hbase
  ·obtain ⟨y, hy, rfl⟩ := List.mem_map.1 hx
   refine (BO_of (hG.mem y.2 (List.of_mem_zip hy).2)).to (fun c hc => hb.block c hc.2.1) (fun c hc => ⟨hc.1, by have := hb.size; have := hc.2.1; omega, fun e => ?_⟩)
   have := (ho.lt c e).1
   have := hc.2.1
   omega
 have := hK.row
 rw [hfst] at this
 exact this
theorem BR_of {D : Nat → Prop} {w : World} {r : Rs} {pv : Value} (h : KRow BO 11 D w pv r.parts) : KM BR D w r [.string r.kind, .string r.name, pv] := fun w2 h2 => ⟨pv, rfl, h.named w2 h2⟩
theorem name_size {l : List UInt8} (h : V.name l = true) : (V.str l).size ≤ 12 := by
 rw [← V.length_bl, V.bl_str]
 unfold V.name at h
 simp only [Bool.and_eq_true, decide_eq_true_eq] at h
 exact h.1.2
end P
theorem whole_ev (sm : Val → Val → Bool) (hsm : V.Says sm) (R : Nat) (w : World) (ts : List P.K) (h : P.Rdr R w ts) :
  Calls Tryz.prog 45 #[.pointer (some ⟨R, 0, none⟩)] w fun r w' => Fr w w' (fun c => c = R) ∧ ∃ k v s t a i u b j p ev, r = .returned (.tuple #[.agg (P.xc k v s t a i u b j p).toArray, ev]) ∧
   ((∃ e n, P.whole (P.okE sm) (P.fc ts) = some (e, P.fc (ts.drop (n + 1))) ∧ ev = .nilIface ∧ X.MemD (P.New w w') 6 w' e (P.xc k v s t a i u b j p) ∧ X.bulk 6 e + 60 * (ts.drop (n + 1)).length ≤ 60 * ts.length ∧ P.Rdr R w' (ts.drop (n + 1))) ∨
    (P.whole (P.okE sm) (P.fc ts) = none ∧ (∃ f : Int, ev = .iface 62 (.int .i64 f)) ∧ ∃ ts', P.Rdr R w' ts')) := by
 refine (whole_any sm hsm R w ts h).mono ?_
 rintro r w' ⟨hf, ⟨e, n, k, v, s, t, a, i, u, b, j, p, hE, rfl, hM, hbk, hr⟩ | ⟨hE, ⟨k, v, s, t, a, i, u, b, j, p, f, rfl⟩, ts', hr⟩⟩
 ·exact ⟨hf, k, v, s, t, a, i, u, b, j, p, _, rfl, .inl ⟨e, n, hE, rfl, hM, hbk, hr⟩⟩
 ·exact ⟨hf, k, v, s, t, a, i, u, b, j, p, _, rfl, .inr ⟨hE, ⟨f, rfl⟩, ts', hr⟩⟩
set_option maxRecDepth 100000 in
set_option maxHeartbeats 6400000 in
theorem resource_any (sm : Val → Val → Bool) (hsm : V.Says sm) (R : Nat) (w : World) (ts : List P.K) (h : P.Rdr R w ts) :
  Calls Tryz.prog 29 #[.pointer (some ⟨R, 0, none⟩)] w fun r w' => Fr w w' (fun c => c = R) ∧ P.OneK P.BR (fun r => r.kind.size + r.name.size + X.sumP 6 r.parts) P.ShR (P.resource (P.okE sm)) R w w' ts r := by
 have hR := h.lt
 have hb0 : Below w.heap.size w (w.alloc (.cells #[.string ⟨#[]⟩, .string ⟨#[]⟩, .slice none 0 0] 53)) := (Below.refl _ _).alloc (Nat.le_refl _) _
 have hA0 : (w.alloc (.cells #[.string ⟨#[]⟩, .string ⟨#[]⟩, .slice none 0 0] 53)).heap[w.heap.size]? = some (.cells #[.string ⟨#[]⟩, .string ⟨#[]⟩, .slice none 0 0] 53 (0, 0)) := heap_alloc_new _ _
 have hsz : (w.alloc (.cells #[.string ⟨#[]⟩, .string ⟨#[]⟩, .slice none 0 0] 53)).heap.size = w.heap.size + 1 := by simp
 have HF0 : Hid (Fr w (w.alloc (.cells #[.string ⟨#[]⟩, .string ⟨#[]⟩, .slice none 0 0] 53)) (fun c => c = R)) := (P.fr_below hb0).weak (fun _ _ e => e.elim)
 have HN1 := hide (rname_any R _ ts (h.kept hb0))
 have HA0 := hide hA0
 have HSZ := hide hsz
 clear h hb0 hA0 hsz
 go_enter Tryz.func29, Tryz.ntmps29
 go_wp2_with fail
 generalize (w.alloc (.cells #[.string ⟨#[]⟩, .string ⟨#[]⟩, .slice none 0 0] 53)) = w0 at *
 refine HN1.out.mono ?_
 rintro r wa ⟨hfa, ⟨tk, ts1, rfl, hE1, hn1, rfl, hr1⟩ | ⟨hE1, rfl, hr1⟩⟩
 ·have HAa := hide ((hfa.block w.heap.size (blt HA0.out) (by omega)).trans HA0.out)
  have HFa := hide (HF0.out.trans hfa (fun _ _ e => e))
  have HLa : Hid (w.heap.size + 1 ≤ wa.heap.size) := by
   show _ ≤ _
   have := hfa.size
   have := HSZ.out
   omega
  have HE1 := hide hE1
  have HN2 := hide (rname_any R wa ts1 hr1)
  clear hfa hE1 hr1 HN1
  go_wp2_with fail
  refine HN2.out.mono ?_
  rintro r wb ⟨hfb, ⟨tl, ts2, rfl, hE2, hn2, rfl, hr2⟩ | ⟨hE2, rfl, hr2⟩⟩
  ·have HAb := hide ((hfb.block w.heap.size (blt HAa.out) (by omega)).trans HAa.out)
   have HFb := hide (HFa.out.trans hfb (fun _ _ e => e))
   have HLb : Hid (w.heap.size + 1 ≤ wb.heap.size) := by
    show _ ≤ _
    have := hfb.size
    have := HLa.out
    omega
   have HE2 := hide hE2
   have HNS : Hid ((V.str tk.2.2).size ≤ 12 ∧ (V.str tl.2.2).size ≤ 12) := ⟨P.name_size hn1, P.name_size hn2⟩
   have HSG := hide (sign_ev R wb ts2 ⟨#[123]⟩ hr2)
   clear hfb hE2 hr2 hn1 hn2 HN2
   go_wp2_with fail
   refine HSG.out.mono ?_
   rintro r wc ⟨hfc, ev, rfl, ⟨t3, ts3, rfl, hE3, rfl, hr3⟩ | ⟨hE3, rfl, hr3⟩⟩
   ·have HLEN := hide hr3.len
    have HAc := hide ((hfc.block w.heap.size (blt HAb.out) (by omega)).trans HAb.out)
    have HFc := hide (HFb.out.trans hfc (fun _ _ e => e))
    have HLc : Hid (w.heap.size + 1 ≤ wc.heap.size) := by
     show _ ≤ _
     have := hfc.size
     have := HLb.out
     omega
    have HE3 := hide (show P.found 4 [123] _ = _ from hE3)
    have HFS := hide (fields_any45 (P.whole (P.okE sm)) 6 6 R wc ts3 hr3 (fun W tsW _ hr => whole_ev sm hsm R W tsW hr))
    clear hfc hE3 hr3 HSG
    go_wp2_with fail
    refine HFS.out.mono ?_
    rintro r wd ⟨hfd, ⟨acc, m, an, capn, ao, cap, N, L, hE4, rfl, e1, e2, hG, hbk, hlt, hr4⟩ | ⟨hE4, ⟨an, n1, capn, ao, cap, f, rfl, hOF⟩, ts', hr4⟩⟩
    ·have hl : L.length = N.length := by
      have h1 := congrArg List.length e1
      have h2 := congrArg List.length e2
      simp only [List.length_map] at h1 h2
      omega
     have hN42 : N.length ≤ 200000 := by
      have h1 := congrArg List.length e1
      simp only [List.length_map] at h1
      have := HLEN.out
      omega
     have HPO : Hid (Calls Tryz.prog 48 #[.slice an N.length capn, .slice ao L.length cap] wd fun r w' => Below wd.heap.size wd w' ∧ ∃ ap cp, r = .returned (.slice ap N.length cp) ∧ w'.ownsRow wd.heap.size 59 11 (.slice ap N.length cp) N.length (P.partCells N (L.map (fun x => x.2)))) := by
      have h2 := hG.own
      rw [List.flatMap_def, hl] at h2
      rw [hl]
      exact partsOf_any wd N (L.map (fun x => x.2)) an capn ao cap (P.row_names N hG.ownN rfl) (P.row_own _ h2 (by rw [List.length_map, hl]) (fun c hc => by
       obtain ⟨x, hx, rfl⟩ := List.mem_map.1 hc
       exact hG.ten x hx)) (fun c hc => by
       obtain ⟨x, hx, rfl⟩ := List.mem_map.1 hc
       exact P.sh10_of (hG.mem x hx).mem) (by rw [List.length_map, hl]) hN42
     have hAd := (hfd.block w.heap.size (blt HAc.out) (by omega)).trans HAc.out
     have HFd := hide (HFc.out.trans hfd (fun _ _ e => e))
     have HP : Hid (P.resource (P.okE sm) (P.fc (tk :: tl :: t3 :: ts3)) = some (⟨V.str tk.2.2, V.str tl.2.2, acc⟩, P.fc ((tk :: tl :: t3 :: ts3).drop (m + 1 + 3)))) := by
      show _ = _
      unfold P.resource
      rw [HE1.out]
      simp only
      rw [HE2.out]
      simp only
      rw [HE3.out]
      simp only
      rw [hE4]
      rfl
     have HG := hide (hG.lower (base' := wc.heap.size) (by omega))
     have HE12 : Hid (acc.map (·.1) = N ∧ acc.map (·.2) = L.map (fun x => x.1)) := ⟨e1, e2⟩
     have HBK := hide hbk
     have HRd := hide hr4
     have HAd := hide hAd
     have HLd : Hid (wc.heap.size ≤ wd.heap.size) := hfd.size
     clear hl hN42 hfd hE4 e1 e2 hG hbk hlt hr4 hAd HFS
     go_wp2_with fail
     refine HPO.out.mono ?_
     rintro r we ⟨hbe, ap, cp, rfl, howe⟩
     have hAe := (hbe.block w.heap.size (blt HAd.out)).trans HAd.out
     have HF3 : Hid (Fr w we (fun c => c = R)) := HFd.out.trans ((P.fr_below hbe).weak (ex1 := fun c => c = R) (fun _ _ e => e.elim)) (fun _ _ e => e)
     have HKR : Hid (P.KRow P.BO 11 (fun c => wc.heap.size ≤ c ∧ c < we.heap.size) we (.slice ap N.length cp) acc) := P.parts_row HG.out HE12.out.1 HE12.out.2 hbe howe HLd.out
     have HRe := hide (HRd.out.kept hbe)
     clear hbe howe HPO
     obtain ⟨z0, z1, z2⟩ := cl3 hAe
     obtain ⟨f0, f1, f2⟩ := fl3 hAe
     have HAx := hide hAe
     clear hAe
     go_wp2_with fail
     obtain ⟨wz, hwz, hBz, hFz⟩ := P.sf3 HAx.out (.string (V.str tk.2.2)) (.string (V.str tl.2.2)) (.slice ap N.length cp)
     rw [← hwz]
     clear hwz
     obtain ⟨r0, r1, r2⟩ := cl3 hBz
     refine bodyPost_ret (v := .tuple #[.agg #[.string (V.str tk.2.2), .string (V.str tl.2.2), .slice ap N.length cp], .nilIface]) (by simp [results, Tryz.results29, go_sem, r0, r1, r2]) rfl ⟨HF3.out.trans hFz (fun c hc e => by omega), .inl ⟨⟨V.str tk.2.2, V.str tl.2.2, acc⟩, m + 1 + 3, [.string (V.str tk.2.2), .string (V.str tl.2.2), .slice ap N.length cp], HP.out, rfl, ⟨_, _, _, _, _, rfl⟩, P.BR_of (r := ⟨V.str tk.2.2, V.str tl.2.2, acc⟩) (HKR.out.to (fun c hc => hFz.block c hc.2 (by have := hc.1; have := HLc.out; omega)) (fun c hc => ⟨by have := hc.1; have := HLc.out; omega, by have := hc.2; have := hFz.size; omega⟩)), ?_, HRe.out.fr hFz (fun c e => by omega)⟩⟩
     have h1 := HBK.out
     have h2 := HNS.out
     have h3 := P.sumP_eq 6 acc
     show (V.str tk.2.2).size + (V.str tl.2.2).size + X.sumP 6 acc + 60 * (ts3.drop (m + 1)).length ≤ 60 * (ts3.length + 1 + 1 + 1)
     omega
    ·obtain ⟨hn42, N, C, hN1, hC1, hS, hON, hOC⟩ := hOF
     have HPO : Hid (Calls Tryz.prog 48 #[.slice an n1 capn, .slice ao n1 cap] wd fun r w' => Below wd.heap.size wd w' ∧ ∃ ap cp, r = .returned (.slice ap n1 cp)) := by
      subst hN1
      refine (partsOf_any wd N C an capn ao cap (P.row_names N hON rfl) (P.row_own C hOC hC1 (fun c hc => (hS c hc).len)) hS hC1 (by omega)).mono ?_
      rintro r w' ⟨h1, ap, cp, h2, _⟩
      exact ⟨h1, ap, cp, h2⟩
     have hAd := (hfd.block w.heap.size (blt HAc.out) (by omega)).trans HAc.out
     have HFd := hide (HFc.out.trans hfd (fun _ _ e => e))
     have HP : Hid (P.resource (P.okE sm) (P.fc (tk :: tl :: t3 :: ts3)) = none) := by
      show _ = _
      unfold P.resource
      rw [HE1.out]
      simp only
      rw [HE2.out]
      simp only
      rw [HE3.out]
      simp only
      rw [hE4]
      rfl
     have HRd := hide hr4
     have HAd := hide hAd
     clear hn42 hN1 hC1 hS hON hOC hfd hE4 hr4 hAd HFS
     go_wp2_with fail
     refine HPO.out.mono ?_
     rintro r we ⟨hbe, ap, cp, rfl⟩
     have hAe := (hbe.block w.heap.size (blt HAd.out)).trans HAd.out
     have HF3 : Hid (Fr w we (fun c => c = R)) := HFd.out.trans ((P.fr_below hbe).weak (ex1 := fun c => c = R) (fun _ _ e => e.elim)) (fun _ _ e => e)
     have HRe := hide (HRd.out.kept hbe)
     clear hbe HPO
     obtain ⟨z0, z1, z2⟩ := cl3 hAe
     obtain ⟨f0, f1, f2⟩ := fl3 hAe
     have HAx := hide hAe
     clear hAe
     go_wp2_with fail
     obtain ⟨wz, hwz, hBz, hFz⟩ := P.sf3 HAx.out (.string (V.str tk.2.2)) (.string (V.str tl.2.2)) (.slice ap n1 cp)
     rw [← hwz]
     clear hwz
     obtain ⟨r0, r1, r2⟩ := cl3 hBz
     refine bodyPost_ret (v := .tuple #[.agg #[.string (V.str tk.2.2), .string (V.str tl.2.2), .slice ap n1 cp], .iface 62 (.int .i64 f)]) (by simp [results, Tryz.results29, go_sem, r0, r1, r2]) rfl ⟨HF3.out.trans hFz (fun c hc e => by omega), .inr ⟨HP.out, ⟨[.string (V.str tk.2.2), .string (V.str tl.2.2), .slice ap n1 cp], f, rfl, ⟨_, _, _, _, _, rfl⟩⟩, _, HRe.out.fr hFz (fun c e => by omega)⟩⟩
   ·have HP : Hid (P.resource (P.okE sm) (P.fc (tk :: tl :: ts2)) = none) := by
     show _ = _
     unfold P.resource
     rw [HE1.out]
     simp only
     rw [HE2.out]
     simp only
     rw [show P.found 4 [123] _ = _ from hE3]
    have hAx := (hfc.block w.heap.size (blt HAb.out) (by omega)).trans HAb.out
    have HF3 := hide (HFb.out.trans hfc (fun _ _ e => e))
    have HRa := hide hr3
    clear hfc hr3 hE3 HSG
    obtain ⟨z0, z1, z2⟩ := cl3 hAx
    obtain ⟨f0, f1, f2⟩ := fl3 hAx
    have HAx := hide hAx
    clear hAx
    go_wp2_with fail
    obtain ⟨wz, hwz, hBz, hFz⟩ := P.sf3 HAx.out (.string ⟨#[]⟩) (.string ⟨#[]⟩) (.slice none 0 0)
    rw [← hwz]
    clear hwz
    obtain ⟨r0, r1, r2⟩ := cl3 hBz
    refine bodyPost_ret (v := .tuple #[.agg #[.string ⟨#[]⟩, .string ⟨#[]⟩, .slice none 0 0], .iface 62 (.int .i64 5)]) (by simp [results, Tryz.results29, go_sem, r0, r1, r2]) rfl ⟨HF3.out.trans hFz (fun c hc e => by omega), .inr ⟨HP.out, ⟨[.string ⟨#[]⟩, .string ⟨#[]⟩, .slice none 0 0], 5, rfl, ⟨_, _, _, _, _, rfl⟩⟩, _, HRa.out.fr hFz (fun c e => by omega)⟩⟩
  ·have HP : Hid (P.resource (P.okE sm) (P.fc (tk :: ts1)) = none) := by
    show _ = _
    unfold P.resource
    rw [HE1.out]
    simp only
    rw [hE2]
   have hAx := (hfb.block w.heap.size (blt HAa.out) (by omega)).trans HAa.out
   have HF3 := hide (HFa.out.trans hfb (fun _ _ e => e))
   have HRa := hide hr2
   clear hfb hr2 hE2 hn1 HN2
   obtain ⟨z0, z1, z2⟩ := cl3 hAx
   obtain ⟨f0, f1, f2⟩ := fl3 hAx
   have HAx := hide hAx
   clear hAx
   go_wp2_with fail
   obtain ⟨wz, hwz, hBz, hFz⟩ := P.sf3 HAx.out (.string ⟨#[]⟩) (.string ⟨#[]⟩) (.slice none 0 0)
   rw [← hwz]
   clear hwz
   obtain ⟨r0, r1, r2⟩ := cl3 hBz
   refine bodyPost_ret (v := .tuple #[.agg #[.string ⟨#[]⟩, .string ⟨#[]⟩, .slice none 0 0], .iface 62 (.int .i64 5)]) (by simp [results, Tryz.results29, go_sem, r0, r1, r2]) rfl ⟨HF3.out.trans hFz (fun c hc e => by omega), .inr ⟨HP.out, ⟨[.string ⟨#[]⟩, .string ⟨#[]⟩, .slice none 0 0], 5, rfl, ⟨_, _, _, _, _, rfl⟩⟩, _, HRa.out.fr hFz (fun c e => by omega)⟩⟩
 ·have HP : Hid (P.resource (P.okE sm) (P.fc ts) = none) := by
   show _ = _
   unfold P.resource
   rw [hE1]
  have hAx := (hfa.block w.heap.size (blt HA0.out) (by omega)).trans HA0.out
  have HF3 := hide (HF0.out.trans hfa (fun _ _ e => e))
  have HRa := hide hr1
  clear hfa hr1 hE1 HN1
  obtain ⟨z0, z1, z2⟩ := cl3 hAx
  obtain ⟨f0, f1, f2⟩ := fl3 hAx
  have HAx := hide hAx
  clear hAx
  go_wp2_with fail
  obtain ⟨wz, hwz, hBz, hFz⟩ := P.sf3 HAx.out (.string ⟨#[]⟩) (.string ⟨#[]⟩) (.slice none 0 0)
  rw [← hwz]
  clear hwz
  obtain ⟨r0, r1, r2⟩ := cl3 hBz
  refine bodyPost_ret (v := .tuple #[.agg #[.string ⟨#[]⟩, .string ⟨#[]⟩, .slice none 0 0], .iface 62 (.int .i64 5)]) (by simp [results, Tryz.results29, go_sem, r0, r1, r2]) rfl ⟨HF3.out.trans hFz (fun c hc e => by omega), .inr ⟨HP.out, ⟨[.string ⟨#[]⟩, .string ⟨#[]⟩, .slice none 0 0], 5, rfl, ⟨_, _, _, _, _, rfl⟩⟩, _, HRa.out.fr hFz (fun c e => by omega)⟩⟩
end Go.Proofs.YtbdbpfcblppnbaaGreatDoor.Vx
