/- TopState: RR. -/
import Derived.Test.YtcekcfjabhlheaaGreatDoorRQ
set_option maxRecDepth 100000
set_option maxHeartbeats 6400000
namespace Go.Proofs.YtcekcfjabhlheaaGreatDoor.Vx
open Go.RowKit
attribute [local go_sem ↓] Go.wp_at_zero Go.wp_at_succ
theorem row_any64 {σ : Type} (one : σ -> List P.T -> Option (σ × List P.T)) (Inv Inv2 : List P.K -> σ -> World -> Prop) (Bad : World -> Prop) (R BR Bn Bm Bc Bl : Nat) (e : ByteArray)
  (hR : ∀ ts s w, Inv ts s w -> P.Rdr R w ts) (hR2 : ∀ ts s w, Inv2 ts s w -> P.Rdr R w ts) (hK : ∀ ts s w ts' w', Inv ts s w -> Fr w w' (fun c => c = R) -> ts'.length <= ts.length -> P.Rdr R w' ts' -> Inv ts' s w')
  (hC : ∀ ts s w ts' w', Inv2 ts s w -> Fr w w' (fun c => c = R) -> ts'.length + 1 <= ts.length -> P.Rdr R w' ts' -> Inv ts' s w')
  (hS : ∀ ts s w w', Inv2 ts s w -> Fr w w' (fun c => c = R) -> P.Rdr R w' ts -> Inv2 ts s w')
  (hB : ∀ ts s w ts' w', Inv2 ts s w -> Fr w w' (fun c => c = R) -> P.Rdr R w' ts' -> Bad w')
  (x : σ × List P.T) (hone : ∀ ts s w n, Inv ts s w -> P.rowS (V.bl e) one n s (P.fc ts) = some x -> Calls Tryz.prog 202 #[.pointer (some ⟨BR, 0, none⟩), .pointer (some ⟨Bn, 0, none⟩), .pointer (some ⟨Bm, 0, none⟩), .pointer (some ⟨Bc, 0, none⟩), .pointer (some ⟨Bl, 0, none⟩)] w fun r w' => ∃ ev, r = .returned ev /\ ((∃ s' n, one s (P.fc ts) = some (s', P.fc (ts.drop (n + 1))) /\ (ts.drop (n + 1)).length < ts.length /\ ev = .nilIface /\ Inv2 (ts.drop (n + 1)) s' w') \/ (one s (P.fc ts) = none /\ (∃ f : Int, ev = .iface 54 (.int .i64 f)) /\ Bad w')))
  (w : World) (ts : List P.K) (s : σ) (h : Inv ts s w) (hx : ∀ y, P.rowsS (V.bl e) one s (P.fc ts) = some y -> y = x) (hx2 : ∃ y, P.rowsS (V.bl e) one s (P.fc ts) = some y) :
  Calls Tryz.prog 200 #[.pointer (some ⟨R, 0, none⟩), .string e, .func (.func 202) #[] #[.pointer (some ⟨BR, 0, none⟩), .pointer (some ⟨Bn, 0, none⟩), .pointer (some ⟨Bm, 0, none⟩), .pointer (some ⟨Bc, 0, none⟩), .pointer (some ⟨Bl, 0, none⟩)]] w fun r w' => ∃ ev, r = .returned ev /\ ((∃ s' m, P.rowsS (V.bl e) one s (P.fc ts) = some (s', P.fc (ts.drop (m + 1))) /\ ev = .nilIface /\ (ts.drop (m + 1)).length < ts.length /\ Inv (ts.drop (m + 1)) s' w') \/ (P.rowsS (V.bl e) one s (P.fc ts) = none /\ (∃ f : Int, ev = .iface 54 (.int .i64 f)) /\ Bad w')) := by
 have HFD := hide (found_any R w ts 4 e (by decide) (hR ts s w h))
 obtain ⟨HR, HK, HR2, HC, HS, HB, HO, HI⟩ := hd8 hR hK hR2 hC hS hB hone h
 have HX : Hid (P.rowsS (V.bl e) one s (P.fc ts) = some x) := by
  obtain ⟨y, hy⟩ := hx2
  rw [<- hx y hy]
  exact hy
 clear hR hK hB hone h hR2 hC hS hx hx2
 go_enter Tryz.func200, Tryz.ntmps200
 go_wp2_with fail
 refine HFD.out.mono ?_
 rintro r w1 ⟨hf1, ⟨t, ts1, eT, hE, rfl, hr1⟩ | ⟨hE, rfl, hr1⟩⟩
 ·subst eT
  have HP : Hid (P.rowsS (V.bl e) one s (P.fc (t :: ts1)) = some (s, P.fc ((t :: ts1).drop (0 + 1)))) := by
   show _ = _
   unfold P.rowsS
   rw [hE]
   rfl
  have HI1 : Hid (Inv ((t :: ts1).drop (0 + 1)) s w1) := HK.out _ _ _ _ _ HI.out hf1 (by simp) hr1
  clear hE hf1 hr1 HFD
  go_wp2_with fail
  exact bodyPost_ret (v := .nilIface) (by simp [results, Tryz.results200, go_sem]) rfl ⟨_, rfl, .inl ⟨s, 0, HP.out, rfl, by simp, HI1.out⟩⟩
 ·have HP : Hid (P.rowsS (V.bl e) one s (P.fc ts) = P.rowS (V.bl e) one ts.length s (P.fc ts)) := by
   show _ = _
   unfold P.rowsS
   rw [hE]
   simp [P.fc]
  have HI1 : Hid (Inv ts s w1) := HK.out _ _ _ _ _ HI.out hf1 (Nat.le_refl _) hr1
  clear hE hf1 hr1 HFD HI
  go_wp2_with fail
  go_loopg [6, 7] ts.length (fun gk _ _ wr => ∃ (s' : σ) (m : Nat), Inv (ts.drop m) s' wr /\ (ts.drop m).length <= gk /\ P.rowsS (V.bl e) one s (P.fc ts) = P.rowS (V.bl e) one gk s' (P.fc (ts.drop m)))
  case atStart => exact ⟨s, 0, by simpa using HI1.out, by simp, by simpa using HP.out⟩
  case round =>
   clear HP HI1
   obtain ⟨s', m, hI, hl, hq⟩ := hrel
   obtain ⟨HQ, HL, HI2⟩ := hd3 hq hl hI
   clear hq hl hI
   go_wp2_with fail
   refine (HO.out _ _ _ _ HI2.out (HQ.out.symm.trans HX.out)).mono ?_
   rintro r w2 ⟨ev, rfl, ⟨s2, n, hE2, hl2, rfl, hI3⟩ | ⟨hE2, ⟨f, rfl⟩, hb⟩⟩
   ·have HFD := hide (found_any R w2 ((ts.drop m).drop (n + 1)) 4 ⟨#[44]⟩ (by decide) (HR2.out _ _ _ hI3))
    obtain ⟨HI3, HE2, HL2⟩ := hd3 hI3 hE2 hl2
    clear hI3 hE2 hl2
    go_wp2_with fail
    refine HFD.out.mono ?_
    rintro r w3 ⟨hf3, ⟨t, ts3, eT, hE3, rfl, hr3⟩ | ⟨hE3, rfl, hr3⟩⟩
    ·have e3 : ts3 = ts.drop (m + (n + 1) + 1) := by
      rw [List.drop_drop] at eT
      exact (P.drop_next eT).symm
     have h4 : ((ts.drop m).drop (n + 1)).length = ts3.length + 1 := by rw [eT, List.length_cons]
     have h5 := HL.out
     have h6 := HL2.out
     obtain ⟨g, hg⟩ : ∃ g, gk = g + 1 := ⟨gk - 1, by omega⟩
     have HI4 : Hid (Inv (ts.drop (m + (n + 1) + 1)) s2 w3) := by
      rw [<- e3]
      exact HC.out _ _ _ _ _ HI3.out hf3 (by omega) hr3
     have HQ4 : Hid (P.rowsS (V.bl e) one s (P.fc ts) = P.rowS (V.bl e) one g s2 (P.fc (ts.drop (m + (n + 1) + 1)))) := by
      show _ = _
      rw [HQ.out, hg, P.rowS, HE2.out]
      simp only
      rw [show P.found 4 [44] _ = _ from hE3, e3]
     have HL4 : Hid ((ts.drop (m + (n + 1) + 1)).length <= g) := by
      show _ <= _
      rw [<- e3]
      omega
     have HG : Hid (g < gk) := by
      show _ < _
      omega
     clear hf3 hr3 hE3 HFD e3 h4 h5 h6 eT hg
     go_wp2_with fail
     go_roundg g
     case measure => exact HG.out
     case rel => exact ⟨s2, _, HI4.out, HL4.out, HQ4.out⟩
    ·have HSG := hide (sign_ev R w3 ((ts.drop m).drop (n + 1)) e hr3)
     have HI4 : Hid (Inv2 ((ts.drop m).drop (n + 1)) s2 w3) := HS.out _ _ _ _ HI3.out hf3 hr3
     have HQ4 : Hid (P.rowsS (V.bl e) one s (P.fc ts) = (P.found 4 (V.bl e) (P.fc ((ts.drop m).drop (n + 1)))).map (fun t2 => (s2, t2))) := by
      show _ = _
      obtain ⟨g, hg⟩ : ∃ g, gk = g + 1 := ⟨gk - 1, by have := HL.out; have := HL2.out; omega⟩
      rw [HQ.out, hg, P.rowS, HE2.out]
      simp only
      rw [show P.found 4 [44] _ = _ from hE3]
     clear hf3 hr3 hE3 HFD HQ
     go_wp2_with fail
     refine HSG.out.mono ?_
     rintro r w4 ⟨hf4, ev, rfl, ⟨t, ts4, eT, hE4, rfl, hr4⟩ | ⟨hE4, rfl, hr4⟩⟩
     ·have e4 : ts.drop (m + (n + 1) + 1) = ts4 := by
       rw [List.drop_drop] at eT
       exact P.drop_next eT
      have h4 : ((ts.drop m).drop (n + 1)).length = ts4.length + 1 := by rw [eT, List.length_cons]
      have HI5 : Hid (Inv (ts.drop (m + (n + 1) + 1)) s2 w4) := by
       rw [e4]
       exact HC.out _ _ _ _ _ HI4.out hf4 (by omega) hr4
      have HQ5 : Hid (P.rowsS (V.bl e) one s (P.fc ts) = some (s2, P.fc (ts.drop (m + (n + 1) + 1)))) := by
       show _ = _
       rw [HQ4.out, hE4, e4]
       rfl
      have HL5 : Hid ((ts.drop (m + (n + 1) + 1)).length < ts.length) := by
       show _ < _
       rw [e4]
       have h7 : ((ts.drop m).drop (n + 1)).length <= ts.length := by
        simp only [List.length_drop]
        omega
       omega
      clear hf4 hr4 hE4 HSG e4 h4 eT
      go_wp2_with fail
      exact bodyPost_ret (v := .nilIface) (by simp [results, Tryz.results200, go_sem]) rfl ⟨_, rfl, .inl ⟨s2, _, HQ5.out, rfl, HL5.out, HI5.out⟩⟩
     ·have HB5 := hide (HB.out _ _ _ _ _ HI4.out hf4 hr4)
      have HQ5 : Hid (P.rowsS (V.bl e) one s (P.fc ts) = none) := by
       show _ = _
       rw [HQ4.out, hE4]
       rfl
      clear hf4 hr4 hE4 HSG
      go_wp2_with fail
      exact bodyPost_ret (v := .iface 54 (.int .i64 5)) (by simp [results, Tryz.results200, go_sem]) rfl ⟨_, rfl, .inr ⟨HQ5.out, ⟨5, rfl⟩, HB5.out⟩⟩
   ·have HQ5 : Hid (P.rowsS (V.bl e) one s (P.fc ts) = none) := by
     show _ = _
     rw [HQ.out]
     cases gk with
     | zero => rfl
     | succ g =>
      rw [P.rowS, hE2]
    have HB5 := hide hb
    clear hE2 hb HQ
    go_wp2_with fail
    exact bodyPost_ret (v := .iface 54 (.int .i64 f)) (by simp [results, Tryz.results200, go_sem]) rfl ⟨_, rfl, .inr ⟨HQ5.out, ⟨f, rfl⟩, HB5.out⟩⟩
theorem fields_any80 (Wq : List P.T -> Prop) (one : List P.T -> Option (Ex × List P.T)) (most d R Br Bd : Nat) (w : World) (ts : List P.K) (h : P.Rdr R w ts)
  (hone : ∀ W tsW, Fr w W (fun c => c = R) -> P.Rdr R W tsW -> Wq (P.fc tsW) -> Calls Tryz.prog 175 #[.pointer (some ⟨Br, 0, none⟩), .pointer (some ⟨Bd, 0, none⟩)] W fun r w' => Fr W w' (fun c => c = R) /\ ∃ k v s t a i u b j p ev, r = .returned (.tuple #[.agg (P.xc k v s t a i u b j p).toArray, ev]) /\ ((∃ e n, one (P.fc tsW) = some (e, P.fc (tsW.drop (n + 1))) /\ ev = .nilIface /\ X.MemD (P.New W w') d w' e (P.xc k v s t a i u b j p) /\ X.bulk d e + 60 * (tsW.drop (n + 1)).length <= 60 * tsW.length /\ P.Rdr R w' (tsW.drop (n + 1))) \/ (one (P.fc tsW) = none /\ (∃ f : Int, ev = .iface 54 (.int .i64 f)) /\ ∃ ts', P.Rdr R w' ts'))) (x : List (ByteArray × Ex) × List P.T) (hx : P.fields most one (P.fc ts) = some x) (hxq : ∀ n acc l s t1 t2, P.rowS [125] (P.oneF most one) n acc l = some x -> P.name l = some (s, t1) -> P.found 4 [58] t1 = some t2 -> Wq t2) :
  Calls Tryz.prog 180 #[.pointer (some ⟨R, 0, none⟩), .int .i64 most, .func (.func 175) #[] #[.pointer (some ⟨Br, 0, none⟩), .pointer (some ⟨Bd, 0, none⟩)]] w fun r w' => Fr w w' (fun c => c = R) /\
   ((∃ acc m an capn ao cap N L, P.fields most one (P.fc ts) = some (acc, P.fc (ts.drop (m + 1))) /\ r = .returned (.tuple #[.slice an N.length capn, .slice ao L.length cap, .nilIface]) /\ acc.map (·.1) = N /\ acc.map (·.2) = L.map (fun x : Ex × List Value => x.1) /\ P.GrowF (w.heap.size + 5) d w' (.slice an N.length capn) (.slice ao L.length cap) N L /\
     2 * acc.length + X.sumN (acc.map (·.1)) + X.sumA (X.bulk d) (acc.map (·.2)) + 60 * (ts.drop (m + 1)).length <= 60 * ts.length /\ (ts.drop (m + 1)).length < ts.length /\ P.Rdr R w' (ts.drop (m + 1))) \/
    (P.fields most one (P.fc ts) = none /\ (∃ an n1 capn ao n2 cap f, r = .returned (.tuple #[.slice an n1 capn, .slice ao n2 cap, .iface 54 (.int .i64 f)])) /\ ∃ ts', P.Rdr R w' ts')) := by
 have hR := h.lt
 have hb1 : Below w.heap.size w (((((w.alloc (.cells #[.pointer (some ⟨R, 0, none⟩)] 188)).alloc (.cells #[.int .i64 most] 3)).alloc (.cells #[.func (.func 175) #[] #[.pointer (some ⟨Br, 0, none⟩), .pointer (some ⟨Bd, 0, none⟩)]] 190)).alloc (.cells #[.slice none 0 0] 102)).alloc (.cells #[.slice none 0 0] 168)) := (((((Below.refl _ _).alloc (Nat.le_refl _) _).alloc (by simp) _).alloc (by simp <;> omega) _).alloc (by simp <;> omega) _).alloc (by simp <;> omega) _
 have hBR : (((((w.alloc (.cells #[.pointer (some ⟨R, 0, none⟩)] 188)).alloc (.cells #[.int .i64 most] 3)).alloc (.cells #[.func (.func 175) #[] #[.pointer (some ⟨Br, 0, none⟩), .pointer (some ⟨Bd, 0, none⟩)]] 190)).alloc (.cells #[.slice none 0 0] 102)).alloc (.cells #[.slice none 0 0] 168)).heap[w.heap.size]? = some (.cells #[.pointer (some ⟨R, 0, none⟩)] 188 (0, 0)) := by
  rw [heap_alloc_old _ _ (by simp <;> omega), heap_alloc_old _ _ (by simp <;> omega), heap_alloc_old _ _ (by simp <;> omega), heap_alloc_old _ _ (by simp)]; exact heap_alloc_new _ _
 have hBm : (((((w.alloc (.cells #[.pointer (some ⟨R, 0, none⟩)] 188)).alloc (.cells #[.int .i64 most] 3)).alloc (.cells #[.func (.func 175) #[] #[.pointer (some ⟨Br, 0, none⟩), .pointer (some ⟨Bd, 0, none⟩)]] 190)).alloc (.cells #[.slice none 0 0] 102)).alloc (.cells #[.slice none 0 0] 168)).heap[w.heap.size + 1]? = some (.cells #[.int .i64 most] 3 (0, 0)) := by
  rw [heap_alloc_old _ _ (by simp <;> omega), heap_alloc_old _ _ (by simp <;> omega), heap_alloc_old _ _ (by simp)]
  have h1 := heap_alloc_new (w.alloc (.cells #[.pointer (some ⟨R, 0, none⟩)] 188)) (.cells #[.int .i64 most] 3)
  rw [P.size_alloc] at h1
  exact h1
 have hBc : (((((w.alloc (.cells #[.pointer (some ⟨R, 0, none⟩)] 188)).alloc (.cells #[.int .i64 most] 3)).alloc (.cells #[.func (.func 175) #[] #[.pointer (some ⟨Br, 0, none⟩), .pointer (some ⟨Bd, 0, none⟩)]] 190)).alloc (.cells #[.slice none 0 0] 102)).alloc (.cells #[.slice none 0 0] 168)).heap[w.heap.size + 2]? = some (.cells #[.func (.func 175) #[] #[.pointer (some ⟨Br, 0, none⟩), .pointer (some ⟨Bd, 0, none⟩)]] 190 (0, 0)) := by
  rw [heap_alloc_old _ _ (by simp <;> omega), heap_alloc_old _ _ (by simp)]
  have h1 := heap_alloc_new ((w.alloc (.cells #[.pointer (some ⟨R, 0, none⟩)] 188)).alloc (.cells #[.int .i64 most] 3)) (.cells #[.func (.func 175) #[] #[.pointer (some ⟨Br, 0, none⟩), .pointer (some ⟨Bd, 0, none⟩)]] 190)
  rw [P.size_alloc, P.size_alloc] at h1
  exact h1
 have hBn : (((((w.alloc (.cells #[.pointer (some ⟨R, 0, none⟩)] 188)).alloc (.cells #[.int .i64 most] 3)).alloc (.cells #[.func (.func 175) #[] #[.pointer (some ⟨Br, 0, none⟩), .pointer (some ⟨Bd, 0, none⟩)]] 190)).alloc (.cells #[.slice none 0 0] 102)).alloc (.cells #[.slice none 0 0] 168)).heap[w.heap.size + 3]? = some (P.nbox none 0 0) := by
  rw [heap_alloc_old _ _ (by simp)]
  have h1 := heap_alloc_new (((w.alloc (.cells #[.pointer (some ⟨R, 0, none⟩)] 188)).alloc (.cells #[.int .i64 most] 3)).alloc (.cells #[.func (.func 175) #[] #[.pointer (some ⟨Br, 0, none⟩), .pointer (some ⟨Bd, 0, none⟩)]] 190)) (.cells #[.slice none 0 0] 102)
  rw [P.size_alloc, P.size_alloc, P.size_alloc] at h1
  exact h1
 have hBl : (((((w.alloc (.cells #[.pointer (some ⟨R, 0, none⟩)] 188)).alloc (.cells #[.int .i64 most] 3)).alloc (.cells #[.func (.func 175) #[] #[.pointer (some ⟨Br, 0, none⟩), .pointer (some ⟨Bd, 0, none⟩)]] 190)).alloc (.cells #[.slice none 0 0] 102)).alloc (.cells #[.slice none 0 0] 168)).heap[w.heap.size + 4]? = some (P.lbox none 0 0) := by
  have h1 := heap_alloc_new ((((w.alloc (.cells #[.pointer (some ⟨R, 0, none⟩)] 188)).alloc (.cells #[.int .i64 most] 3)).alloc (.cells #[.func (.func 175) #[] #[.pointer (some ⟨Br, 0, none⟩), .pointer (some ⟨Bd, 0, none⟩)]] 190)).alloc (.cells #[.slice none 0 0] 102)) (.cells #[.slice none 0 0] 168)
  rw [P.size_alloc, P.size_alloc, P.size_alloc, P.size_alloc] at h1
  exact h1
 have hsz : (((((w.alloc (.cells #[.pointer (some ⟨R, 0, none⟩)] 188)).alloc (.cells #[.int .i64 most] 3)).alloc (.cells #[.func (.func 175) #[] #[.pointer (some ⟨Br, 0, none⟩), .pointer (some ⟨Bd, 0, none⟩)]] 190)).alloc (.cells #[.slice none 0 0] 102)).alloc (.cells #[.slice none 0 0] 168)).heap.size = w.heap.size + 5 := by simp
 have hr1 := h.kept hb1
 have HF1 := hide (P.fr_below hb1)
 have HPI : Hid (P.rowsS [125] (P.oneF most one) [] (P.fc ts) = P.fields most one (P.fc ts)) := P.rowsF most one (P.fc ts)
 have HL := hide h.len
 have HIT : Hid (P.ItF (((((w.alloc (.cells #[.pointer (some ⟨R, 0, none⟩)] 188)).alloc (.cells #[.int .i64 most] 3)).alloc (.cells #[.func (.func 175) #[] #[.pointer (some ⟨Br, 0, none⟩), .pointer (some ⟨Bd, 0, none⟩)]] 190)).alloc (.cells #[.slice none 0 0] 102)).alloc (.cells #[.slice none 0 0] 168)) R (w.heap.size + 3) (w.heap.size + 4) d (60 * ts.length) ts [] (((((w.alloc (.cells #[.pointer (some ⟨R, 0, none⟩)] 188)).alloc (.cells #[.int .i64 most] 3)).alloc (.cells #[.func (.func 175) #[] #[.pointer (some ⟨Br, 0, none⟩), .pointer (some ⟨Bd, 0, none⟩)]] 190)).alloc (.cells #[.slice none 0 0] 102)).alloc (.cells #[.slice none 0 0] 168))) :=
  ⟨Fr.refl _ _, hr1, ⟨none, 0, none, 0, [], [], rfl, rfl, hBn, hBl, P.GrowF.nil _ _ _⟩, by simp [X.sumN, X.sumA], by have := HL.out; simp; omega⟩
 have HRW := hide (row_any64 (P.oneF most one) (P.ItF (((((w.alloc (.cells #[.pointer (some ⟨R, 0, none⟩)] 188)).alloc (.cells #[.int .i64 most] 3)).alloc (.cells #[.func (.func 175) #[] #[.pointer (some ⟨Br, 0, none⟩), .pointer (some ⟨Bd, 0, none⟩)]] 190)).alloc (.cells #[.slice none 0 0] 102)).alloc (.cells #[.slice none 0 0] 168)) R (w.heap.size + 3) (w.heap.size + 4) d (60 * ts.length)) (P.ItF (((((w.alloc (.cells #[.pointer (some ⟨R, 0, none⟩)] 188)).alloc (.cells #[.int .i64 most] 3)).alloc (.cells #[.func (.func 175) #[] #[.pointer (some ⟨Br, 0, none⟩), .pointer (some ⟨Bd, 0, none⟩)]] 190)).alloc (.cells #[.slice none 0 0] 102)).alloc (.cells #[.slice none 0 0] 168)) R (w.heap.size + 3) (w.heap.size + 4) d (60 * ts.length)) (P.ItFBad (((((w.alloc (.cells #[.pointer (some ⟨R, 0, none⟩)] 188)).alloc (.cells #[.int .i64 most] 3)).alloc (.cells #[.func (.func 175) #[] #[.pointer (some ⟨Br, 0, none⟩), .pointer (some ⟨Bd, 0, none⟩)]] 190)).alloc (.cells #[.slice none 0 0] 102)).alloc (.cells #[.slice none 0 0] 168)) R (w.heap.size + 3) (w.heap.size + 4)) R w.heap.size (w.heap.size + 3) (w.heap.size + 1) (w.heap.size + 2) (w.heap.size + 4) ⟨#[125]⟩
  (fun _ _ _ h => h.rdr) (fun _ _ _ h => h.rdr) (fun _ _ _ _ _ h hf hl hr => h.move (by omega) (by omega) (by omega) hf hl hr) (fun _ _ _ _ _ h hf hl hr => h.move (by omega) (by omega) (by omega) hf (by omega) hr) (fun _ _ _ _ h hf hr => h.move (by omega) (by omega) (by omega) hf (Nat.le_refl _) hr)
  (fun _ _ _ _ _ h hf hr => h.bad (by omega) (by omega) hf hr)
  x (fun ts acc w' n h hr => fields1_any80 Wq one most d R w.heap.size (w.heap.size + 3) (w.heap.size + 1) (w.heap.size + 2) (w.heap.size + 4) _ Br Bd _ hBR hBm hBc (by omega) (by omega) (by omega) (by omega) (by omega) (by omega) (by omega) (by omega) (fun W tsW hf hr hq => hone W tsW ((HF1.out.weak (fun _ _ e => e.elim)).trans hf (fun c hc e => by omega)) hr hq) ts acc w' h (fun s t1 t2 h1 h2 => hxq n acc (P.fc ts) s t1 t2 hr h1 h2) (P.rowS_one hr)) _ ts [] HIT.out (fun y hy => Option.some.inj (hy.symm.trans (HPI.out.trans hx))) ⟨x, HPI.out.trans hx⟩)
 have HSZ := hide hsz
 have hc0 := cell_of_block hBR 0 _ rfl
 have HPX : Hid (P.rowsS [125] (P.oneF most one) [] (P.fc ts) = some x) := HPI.out.trans hx
 clear h hb1 hBR hBm hBc hBn hBl hr1 hone HIT HL hx hxq
 go_enter Tryz.func180, Tryz.ntmps180
 go_wp2_with fail
 generalize (((((w.alloc _).alloc _).alloc _).alloc _).alloc _) = w1 at *
 refine HRW.out.mono ?_
 rintro r w2 ⟨ev, rfl, ⟨acc, m, hE, rfl, hlt, hI⟩ | ⟨hE, ⟨f, rfl⟩, hI⟩⟩
 ·obtain ⟨an, capn, ao, cap, N, L, e1, e2, hb1, hb2, hG⟩ := hI.row
  have HBX : Hid (w2.heap[w.heap.size + 3]? = some (P.nbox an N.length capn) /\ w2.heap[w.heap.size + 4]? = some (P.lbox ao L.length cap)) := ⟨hb1, hb2⟩
  obtain ⟨HG, HRD, HBK⟩ := hd3 hG hI.rdr hI.bulk
  have HF2 : Hid (Fr w w2 (fun c => c = R)) := (HF1.out.weak (fun _ _ e => e.elim)).trans hI.fr (fun c hc e => by omega)
  have HP : Hid (P.fields most one (P.fc ts) = some (acc, P.fc (ts.drop (m + 1)))) := by
   show _ = _
   rw [<- HPI.out]
   exact hE
  have HLT := hide hlt
  clear hI hE hlt hb1 hb2 hG HRW
  have HS1 : Hid (∀ W : World, (W.heap[w.heap.size + 3]? = some (P.nbox an N.length capn) /\ W.heap[w.heap.size + 4]? = some (P.lbox ao L.length cap)) -> (W.setCell ⟨w.heap.size + 3, 0, none⟩ (.slice an N.length capn)).heap[w.heap.size + 3]? = some (P.nbox an N.length capn) /\ (W.setCell ⟨w.heap.size + 3, 0, none⟩ (.slice an N.length capn)).heap[w.heap.size + 4]? = some (P.lbox ao L.length cap)) := fun W h =>
   ⟨block_set (i := 0) h.1 _, ((Fr.set1 W (w.heap.size + 3) 0 _).block _ (blt h.2) (by omega)).trans h.2⟩
  have HS2 : Hid (∀ W : World, (W.heap[w.heap.size + 3]? = some (P.nbox an N.length capn) /\ W.heap[w.heap.size + 4]? = some (P.lbox ao L.length cap)) -> (W.setCell ⟨w.heap.size + 4, 0, none⟩ (.slice ao L.length cap)).heap[w.heap.size + 3]? = some (P.nbox an N.length capn) /\ (W.setCell ⟨w.heap.size + 4, 0, none⟩ (.slice ao L.length cap)).heap[w.heap.size + 4]? = some (P.lbox ao L.length cap)) := fun W h =>
   ⟨((Fr.set1 W (w.heap.size + 4) 0 _).block _ (blt h.1) (by omega)).trans h.1, block_set (i := 0) h.2 _⟩
  go_wp2_with fail
  refine Lt.start (fun W => W.heap[w.heap.size + 3]? = some (P.nbox an N.length capn) /\ W.heap[w.heap.size + 4]? = some (P.lbox ao L.length cap)) [] (by kernel_rfl) ?_
  have HS0 : w2.drew.heap[w.heap.size + 3]? = some (P.nbox an N.length capn) /\ w2.drew.heap[w.heap.size + 4]? = some (P.lbox ao L.length cap) := HBX.out
  refine Lt.takeS (i := 0) (v := (.slice an N.length capn)) rfl (by kernel_rfl) (by kernel_rfl) (by kernel_rfl) (by kernel_rfl) (by kernel_rfl) (by kernel_rfl) (fun _ _ _ h => h) (Or.inl ⟨by rfl, ?_⟩) (HS0) ?_
  ·intro W hW
   have k1 := hW.1
   unfold P.nbox at k1
   have x0 := cell_of_block k1 0 _ rfl
   clear k1
   go_simp
  refine Lt.takeS (i := 1) (v := (.slice ao L.length cap)) rfl (by kernel_rfl) (by kernel_rfl) (by kernel_rfl) (by kernel_rfl) (by kernel_rfl) (by kernel_rfl) (fun _ _ _ h => h) (Or.inl ⟨by rfl, ?_⟩) (HS0) ?_
  ·intro W hW
   have k1 := hW.2
   unfold P.lbox at k1
   have x0 := cell_of_block k1 0 _ rfl
   clear k1
   go_simp
  refine Lt.takeY (i := 2) (v := .nilIface) rfl (by kernel_rfl) (by kernel_rfl) (by kernel_rfl) (by kernel_rfl) (fun _ _ _ h => h) (Or.inl ⟨by rfl, ?_⟩) (HS0) ?_
  ·intro w
   go_simp
  go_simp
  have k1 := HS0.1
  unfold P.nbox at k1
  have x0 := cell_of_block k1 0 _ rfl
  have y0 := free_of_block k1 0
  clear k1 HS0
  refine Lt.ready1 (i := 3) (by kernel_rfl) rfl (fun K hK => ?_)
  go_simp
  have HS3 : Hid ((w2.setCell ⟨w.heap.size + 3, 0, none⟩ (.slice an N.length capn)).drew.heap[w.heap.size + 3]? = some (P.nbox an N.length capn) /\ (w2.setCell ⟨w.heap.size + 3, 0, none⟩ (.slice an N.length capn)).drew.heap[w.heap.size + 4]? = some (P.lbox ao L.length cap)) := HS1.out w2 HBX.out
  have HF3 : Hid (Fr w2 _ (fun c => c = w.heap.size + 3 \/ c = w.heap.size + 4)) := ((Fr.refl w2 _).set ⟨w.heap.size + 3, 0, none⟩ (.slice an N.length capn) (fun _ => .inl rfl)).drew
  clear x0 y0
  generalize (w2.setCell _ _).drew = w3 at *
  refine hK _ _ (fun _ => HS3.out) ?_
  clear hK K
  have k1 := HS3.out.2
  unfold P.lbox at k1
  have x0 := cell_of_block k1 0 _ rfl
  have y0 := free_of_block k1 0
  clear k1
  refine Lt.ready1 (i := 4) (by kernel_rfl) rfl (fun K hK => ?_)
  go_simp
  have HS4 := hide (HS2.out _ HS3.out)
  have HF4 : Hid (Fr w2 _ (fun c => c = w.heap.size + 3 \/ c = w.heap.size + 4)) := HF3.out.set ⟨w.heap.size + 4, 0, none⟩ (.slice ao L.length cap) (fun _ => .inr rfl)
  clear x0 y0
  generalize w3.setCell _ _ = w4 at *
  refine hK _ _ (fun _ => HS4.out) ?_
  clear hK K
  refine Lt.ready1 (i := 5) (by kernel_rfl) rfl (fun K hK => ?_)
  go_simp
  refine hK _ _ (fun _ => HS4.out) ?_
  clear hK K
  refine Lt.done (by kernel_rfl) ?_ _
  have k1 := HS4.out.1
  unfold P.nbox at k1
  have x0 := cell_of_block k1 0 _ rfl
  have k2 := HS4.out.2
  unfold P.lbox at k2
  have x1 := cell_of_block k2 0 _ rfl
  clear k1 k2
  go_wp2_with fail
  have hFz := HF4.out
  exact bodyPost_ret (v := .tuple #[(.slice an N.length capn), (.slice ao L.length cap), .nilIface]) (by simp [results, Tryz.results180, go_sem, x0, x1]) rfl ⟨HF2.out.trans hFz (fun c hc e => by omega), .inl ⟨acc, m, an, capn, ao, cap, N, L, HP.out, rfl, e1, e2, (by have h1 := HG.out.fr hFz (fun c e => by have := HSZ.out; omega); rw [HSZ.out] at h1; exact h1), HBK.out, HLT.out, HRD.out.fr hFz (fun c e => by omega)⟩⟩
 ·cases HPX.out.symm.trans (show P.rowsS [125] (P.oneF most one) [] (P.fc ts) = none from hE)
end Go.Proofs.YtcekcfjabhlheaaGreatDoor.Vx
