/- StateSays: RK RL. -/
import Derived.Test.YtcekcfjabhlheaaGreatDoorRG
import Derived.Laws.OwnMore
import Derived.Deep.AppendLies
set_option maxRecDepth 100000
set_option maxHeartbeats 3200000
namespace Go.Proofs.YtcekcfjabhlheaaGreatDoor.Vx
open Go.RowKit
def P.rowS {σ : Type} (e : List UInt8) (one : σ -> List P.T -> Option (σ × List P.T)) : Nat -> σ -> List P.T -> Option (σ × List P.T)
 | 0, _, _ => none
 | n + 1, s, ts =>
  match one s ts with
  | none => none
  | some (s', t1) =>
   match P.found 4 [44] t1 with
   | some t2 => P.rowS e one n s' t2
   | none => (P.found 4 e t1).map (fun t2 => (s', t2))
def P.rowsS {σ : Type} (e : List UInt8) (one : σ -> List P.T -> Option (σ × List P.T)) (s : σ) (ts : List P.T) : Option (σ × List P.T) :=
 match P.found 4 e ts with
 | some r => some (s, r)
 | none => P.rowS e one ts.length s ts
theorem row_any102 {σ : Type} (one : σ -> List P.T -> Option (σ × List P.T)) (Inv Inv2 : List P.K -> σ -> World -> Prop) (Bad : World -> Prop) (R A B : Nat) (e : ByteArray)
  (hR : ∀ ts s w, Inv ts s w -> P.Rdr R w ts) (hR2 : ∀ ts s w, Inv2 ts s w -> P.Rdr R w ts) (hK : ∀ ts s w ts' w', Inv ts s w -> Fr w w' (fun c => c = R) -> ts'.length <= ts.length -> P.Rdr R w' ts' -> Inv ts' s w')
  (hC : ∀ ts s w ts' w', Inv2 ts s w -> Fr w w' (fun c => c = R) -> ts'.length + 1 <= ts.length -> P.Rdr R w' ts' -> Inv ts' s w')
  (hS : ∀ ts s w w', Inv2 ts s w -> Fr w w' (fun c => c = R) -> P.Rdr R w' ts -> Inv2 ts s w')
  (hB : ∀ ts s w ts' w', Inv2 ts s w -> Fr w w' (fun c => c = R) -> P.Rdr R w' ts' -> Bad w')
  (x : σ × List P.T) (hone : ∀ ts s w n, Inv ts s w -> P.rowS (V.bl e) one n s (P.fc ts) = some x -> Calls Tryz.prog 201 #[.pointer (some ⟨A, 0, none⟩), .pointer (some ⟨B, 0, none⟩)] w fun r w' => ∃ ev, r = .returned ev /\ ((∃ s' n, one s (P.fc ts) = some (s', P.fc (ts.drop (n + 1))) /\ (ts.drop (n + 1)).length < ts.length /\ ev = .nilIface /\ Inv2 (ts.drop (n + 1)) s' w') \/ (one s (P.fc ts) = none /\ (∃ f : Int, ev = .iface 54 (.int .i64 f)) /\ Bad w')))
  (w : World) (ts : List P.K) (s : σ) (h : Inv ts s w) (hx : ∀ y, P.rowsS (V.bl e) one s (P.fc ts) = some y -> y = x) (hx2 : ∃ y, P.rowsS (V.bl e) one s (P.fc ts) = some y) :
  Calls Tryz.prog 200 #[.pointer (some ⟨R, 0, none⟩), .string e, .func (.func 201) #[] #[.pointer (some ⟨A, 0, none⟩), .pointer (some ⟨B, 0, none⟩)]] w fun r w' => ∃ ev, r = .returned ev /\ ((∃ s' m, P.rowsS (V.bl e) one s (P.fc ts) = some (s', P.fc (ts.drop (m + 1))) /\ ev = .nilIface /\ (ts.drop (m + 1)).length < ts.length /\ Inv (ts.drop (m + 1)) s' w') \/ (P.rowsS (V.bl e) one s (P.fc ts) = none /\ (∃ f : Int, ev = .iface 54 (.int .i64 f)) /\ Bad w')) := by
 have HFD := hide (found_any R w ts 4 e (by decide) (hR ts s w h));obtain ⟨HR, HK, HR2, HC, HS, HB, HO, HI⟩ := hd8 hR hK hR2 hC hS hB hone h;have HX : Hid (P.rowsS (V.bl e) one s (P.fc ts) = some x) := by
  obtain ⟨y, hy⟩ := hx2;rw [<- hx y hy];exact hy
 clear hR hK hB hone h hR2 hC hS hx hx2;go_enter Tryz.func200, Tryz.ntmps200;go_wp2_with fail;refine HFD.out.mono ?_;rintro r w1 ⟨hf1, ⟨t, ts1, eT, hE, rfl, hr1⟩ | ⟨hE, rfl, hr1⟩⟩
 ·subst eT;have HP : Hid (P.rowsS (V.bl e) one s (P.fc (t :: ts1)) = some (s, P.fc ((t :: ts1).drop (0 + 1)))) := by
   show _ = _;unfold P.rowsS;rw [hE];rfl
  have HI1 : Hid (Inv ((t :: ts1).drop (0 + 1)) s w1) := HK.out _ _ _ _ _ HI.out hf1 (by simp) hr1;clear hE hf1 hr1 HFD;go_wp2_with fail;exact bodyPost_ret (v := .nilIface) (by simp [results, Tryz.results200, go_sem]) rfl ⟨_, rfl, .inl ⟨s, 0, HP.out, rfl, by simp, HI1.out⟩⟩
 ·have HP : Hid (P.rowsS (V.bl e) one s (P.fc ts) = P.rowS (V.bl e) one ts.length s (P.fc ts)) := by
   show _ = _;unfold P.rowsS;rw [hE];simp [P.fc]
  have HI1 : Hid (Inv ts s w1) := HK.out _ _ _ _ _ HI.out hf1 (Nat.le_refl _) hr1;clear hE hf1 hr1 HFD HI;go_wp2_with fail;go_loopg [6, 7] ts.length (fun gk _ _ wr => ∃ (s' : σ) (m : Nat), Inv (ts.drop m) s' wr /\ (ts.drop m).length <= gk /\ P.rowsS (V.bl e) one s (P.fc ts) = P.rowS (V.bl e) one gk s' (P.fc (ts.drop m)))
  case atStart => exact ⟨s, 0, by simpa using HI1.out, by simp, by simpa using HP.out⟩
  case round =>
   clear HP HI1;obtain ⟨s', m, hI, hl, hq⟩ := hrel;obtain ⟨HQ, HL, HI2⟩ := hd3 hq hl hI;clear hq hl hI;go_wp2_with fail;refine (HO.out _ _ _ _ HI2.out (HQ.out.symm.trans HX.out)).mono ?_;rintro r w2 ⟨ev, rfl, ⟨s2, n, hE2, hl2, rfl, hI3⟩ | ⟨hE2, ⟨f, rfl⟩, hb⟩⟩
   ·have HFD := hide (found_any R w2 ((ts.drop m).drop (n + 1)) 4 ⟨#[44]⟩ (by decide) (HR2.out _ _ _ hI3));obtain ⟨HI3, HE2, HL2⟩ := hd3 hI3 hE2 hl2;clear hI3 hE2 hl2;go_wp2_with fail;refine HFD.out.mono ?_;rintro r w3 ⟨hf3, ⟨t, ts3, eT, hE3, rfl, hr3⟩ | ⟨hE3, rfl, hr3⟩⟩
    ·have e3 : ts3 = ts.drop (m + (n + 1) + 1) := by
      rw [List.drop_drop] at eT;exact (P.drop_next eT).symm
     have h4 : ((ts.drop m).drop (n + 1)).length = ts3.length + 1 := by rw [eT, List.length_cons]
     have h5 := HL.out;have h6 := HL2.out;obtain ⟨g, hg⟩ : ∃ g, gk = g + 1 := ⟨gk - 1, by omega⟩
     have HI4 : Hid (Inv (ts.drop (m + (n + 1) + 1)) s2 w3) := by
      rw [<- e3];exact HC.out _ _ _ _ _ HI3.out hf3 (by omega) hr3
     have HQ4 : Hid (P.rowsS (V.bl e) one s (P.fc ts) = P.rowS (V.bl e) one g s2 (P.fc (ts.drop (m + (n + 1) + 1)))) := by
      show _ = _;rw [HQ.out, hg, P.rowS, HE2.out];simp only;rw [show P.found 4 [44] _ = _ from hE3, e3]
     have HL4 : Hid ((ts.drop (m + (n + 1) + 1)).length <= g) := by
      show _ <= _;rw [<- e3];omega
     have HG : Hid (g < gk) := by
      show _ < _;omega
     clear hf3 hr3 hE3 HFD e3 h4 h5 h6 eT hg;go_wp2_with fail
     go_roundg g
     case measure => exact HG.out
     case rel => exact ⟨s2, _, HI4.out, HL4.out, HQ4.out⟩
    ·have HSG := hide (sign_ev R w3 ((ts.drop m).drop (n + 1)) e hr3);have HI4 : Hid (Inv2 ((ts.drop m).drop (n + 1)) s2 w3) := HS.out _ _ _ _ HI3.out hf3 hr3;have HQ4 : Hid (P.rowsS (V.bl e) one s (P.fc ts) = (P.found 4 (V.bl e) (P.fc ((ts.drop m).drop (n + 1)))).map (fun t2 => (s2, t2))) := by
      show _ = _;obtain ⟨g, hg⟩ : ∃ g, gk = g + 1 := ⟨gk - 1, by have := HL.out; have := HL2.out; omega⟩
      rw [HQ.out, hg, P.rowS, HE2.out];simp only;rw [show P.found 4 [44] _ = _ from hE3]
     clear hf3 hr3 hE3 HFD HQ;go_wp2_with fail;refine HSG.out.mono ?_;rintro r w4 ⟨hf4, ev, rfl, ⟨t, ts4, eT, hE4, rfl, hr4⟩ | ⟨hE4, rfl, hr4⟩⟩
     ·have e4 : ts.drop (m + (n + 1) + 1) = ts4 := by
       rw [List.drop_drop] at eT;exact P.drop_next eT
      have h4 : ((ts.drop m).drop (n + 1)).length = ts4.length + 1 := by rw [eT, List.length_cons]
      have HI5 : Hid (Inv (ts.drop (m + (n + 1) + 1)) s2 w4) := by
       rw [e4];exact HC.out _ _ _ _ _ HI4.out hf4 (by omega) hr4
      have HQ5 : Hid (P.rowsS (V.bl e) one s (P.fc ts) = some (s2, P.fc (ts.drop (m + (n + 1) + 1)))) := by
       show _ = _;rw [HQ4.out, hE4, e4];rfl
      have HL5 : Hid ((ts.drop (m + (n + 1) + 1)).length < ts.length) := by
       show _ < _;rw [e4];have h7 : ((ts.drop m).drop (n + 1)).length <= ts.length := by
        simp only [List.length_drop];omega
       omega
      clear hf4 hr4 hE4 HSG e4 h4 eT;go_wp2_with fail;exact bodyPost_ret (v := .nilIface) (by simp [results, Tryz.results200, go_sem]) rfl ⟨_, rfl, .inl ⟨s2, _, HQ5.out, rfl, HL5.out, HI5.out⟩⟩
     ·have HB5 := hide (HB.out _ _ _ _ _ HI4.out hf4 hr4);have HQ5 : Hid (P.rowsS (V.bl e) one s (P.fc ts) = none) := by
       show _ = _;rw [HQ4.out, hE4];rfl
      clear hf4 hr4 hE4 HSG;go_wp2_with fail;exact bodyPost_ret (v := .iface 54 (.int .i64 5)) (by simp [results, Tryz.results200, go_sem]) rfl ⟨_, rfl, .inr ⟨HQ5.out, ⟨5, rfl⟩, HB5.out⟩⟩
   ·have HQ5 : Hid (P.rowsS (V.bl e) one s (P.fc ts) = none) := by
     show _ = _;rw [HQ.out];cases gk with
     | zero => rfl
     | succ g =>
      rw [P.rowS, hE2]
    have HB5 := hide hb;clear hE2 hb HQ;go_wp2_with fail;exact bodyPost_ret (v := .iface 54 (.int .i64 f)) (by simp [results, Tryz.results200, go_sem]) rfl ⟨_, rfl, .inr ⟨HQ5.out, ⟨f, rfl⟩, HB5.out⟩⟩
namespace P
theorem owns_fr {w w' : World} {base n z : Nat} {t : TypeId} {v : Value} {xs : List Value} {ex : Nat -> Prop} (h : w.ownsRow base t z v n xs) (hf : Fr w w' ex) (hne : ∀ c, v.ownBlock = some c -> ¬ ex c) : w'.ownsRow base t z v n xs := by
 refine ⟨h.1, ?_⟩;rcases h.2 with h1 | ⟨g, cap, cur, e, hg, hh, r⟩
 ·exact .inl h1
 ·exact .inr ⟨g, cap, cur, e, hg, (hf.block g (blt hh) (hne g (by rw [e]; rfl))).trans hh, r⟩
theorem set_app {xs l : List Value} {i j : Nat} (u : Value) (h : i = xs.length + j) : (xs ++ l).set i u = xs ++ l.set j u := by
 subst h;rw [List.set_append_right _ _ (by omega), Nat.add_sub_cancel_left]
theorem own_set10 {w : World} {base g n m cap : Nat} {t : TypeId} {xs : List Value} {z0 z1 z2 z3 z4 z5 z6 z7 z8 z9 : Value} (h : w.ownsRow base t 10 (.slice (some ⟨g, 0, none⟩) m cap) m (xs ++ [z0, z1, z2, z3, z4, z5, z6, z7, z8, z9])) (hx : xs.length = n) (y0 y1 y2 y3 y4 y5 y6 y7 y8 y9 : Value) :
  ((((((((((w.setCell ⟨g, n, none⟩ y0).setCell ⟨g, n + 1, none⟩ y1).setCell ⟨g, n + 2, none⟩ y2).setCell ⟨g, n + 3, none⟩ y3).setCell ⟨g, n + 4, none⟩ y4).setCell ⟨g, n + 5, none⟩ y5).setCell ⟨g, n + 6, none⟩ y6).setCell ⟨g, n + 7, none⟩ y7).setCell ⟨g, n + 8, none⟩ y8).setCell ⟨g, n + 9, none⟩ y9).ownsRow base t 10 (.slice (some ⟨g, 0, none⟩) m cap) m (xs ++ [y0, y1, y2, y3, y4, y5, y6, y7, y8, y9]) := by
 subst hx;have h0 := (h.stored xs.length y0).1;rw [set_app (j := 0) y0 (by omega)] at h0;have h1 := (h0.stored (xs.length + 1) y1).1;rw [set_app (j := 1) y1 rfl] at h1;have h2 := (h1.stored (xs.length + 2) y2).1;rw [set_app (j := 2) y2 rfl] at h2;have h3 := (h2.stored (xs.length + 3) y3).1;rw [set_app (j := 3) y3 rfl] at h3;have h4 := (h3.stored (xs.length + 4) y4).1;rw [set_app (j := 4) y4 rfl] at h4;have h5 := (h4.stored (xs.length + 5) y5).1;rw [set_app (j := 5) y5 rfl] at h5;have h6 := (h5.stored (xs.length + 6) y6).1;rw [set_app (j := 6) y6 rfl] at h6;have h7 := (h6.stored (xs.length + 7) y7).1;rw [set_app (j := 7) y7 rfl] at h7;have h8 := (h7.stored (xs.length + 8) y8).1;rw [set_app (j := 8) y8 rfl] at h8;have h9 := (h8.stored (xs.length + 9) y9).1;rw [set_app (j := 9) y9 rfl] at h9;exact h9
theorem frn10 (w : World) (g n : Nat) (y0 y1 y2 y3 y4 y5 y6 y7 y8 y9 : Value) : Fr w ((((((((((w.setCell ⟨g, n, none⟩ y0).setCell ⟨g, n + 1, none⟩ y1).setCell ⟨g, n + 2, none⟩ y2).setCell ⟨g, n + 3, none⟩ y3).setCell ⟨g, n + 4, none⟩ y4).setCell ⟨g, n + 5, none⟩ y5).setCell ⟨g, n + 6, none⟩ y6).setCell ⟨g, n + 7, none⟩ y7).setCell ⟨g, n + 8, none⟩ y8).setCell ⟨g, n + 9, none⟩ y9) (fun c => c = g) :=
 ((((((((((Fr.refl w (fun c => c = g)).set ⟨g, n, none⟩ y0 (fun _ => rfl)).set ⟨g, n + 1, none⟩ y1 (fun _ => rfl)).set ⟨g, n + 2, none⟩ y2 (fun _ => rfl)).set ⟨g, n + 3, none⟩ y3 (fun _ => rfl)).set ⟨g, n + 4, none⟩ y4 (fun _ => rfl)).set ⟨g, n + 5, none⟩ y5 (fun _ => rfl)).set ⟨g, n + 6, none⟩ y6 (fun _ => rfl)).set ⟨g, n + 7, none⟩ y7 (fun _ => rfl)).set ⟨g, n + 8, none⟩ y8 (fun _ => rfl)).set ⟨g, n + 9, none⟩ y9 (fun _ => rfl)
theorem Inn.far {R Br Bd d B : Nat} {w w' : World} (h : Inn R Br Bd d w) (hf : Fr w w' (fun c => c = R \/ c = B)) (h1 : Br ≠ B) (h2 : Bd ≠ B) : Inn R Br Bd d w' := by
 have hk : ∀ {b : Nat} {u : Value}, R < b -> b ≠ B -> w.cell? ⟨b, 0, none⟩ = some u -> w'.cell? ⟨b, 0, none⟩ = some u := fun {b u} hb hB hu => by
  have hlt := World.block_lt_of_cell? w _ hu;have := hf.block b hlt (by omega);unfold World.cell? at hu ⊢;rw [this];exact hu
 exact ⟨hk h.b1 h1 h.c1, hk h.b2 h2 h.c2, h.b1, h.b2⟩
theorem Fr.inl {w w' : World} {R B : Nat} (h : Fr w w' (fun c => c = R)) : Fr w w' (fun c => c = R \/ c = B) := h.weak (fun _ _ e => .inl e)
def iblk (ao : Option Addr) (n cap : Nat) : Obj := .cells #[.int .i64 8, .int .i64 0, .int .i64 0, .string ⟨#[]⟩, .slice none 0 0, .slice none 0 0, .string ⟨#[]⟩, .string ⟨#[]⟩, .slice ao n cap, .slice none 0 0] 170 (0, 0)
structure Grow (base d : Nat) (w : World) (v : Value) (L : List (Ex × List Value)) : Prop where
 ten : ∀ x ∈ L, x.2.length = 10
 own : w.ownsRow base 170 10 v L.length (L.flatMap (fun x => x.2))
 mem : ∀ x ∈ L, X.MemD (fun c => base <= c /\ c < w.heap.size /\ v.ownBlock ≠ some c) d w x.1 x.2
theorem Grow.fr {base d : Nat} {w w' : World} {v : Value} {L : List (Ex × List Value)} {ex : Nat -> Prop} (h : Grow base d w v L) (hf : Fr w w' ex) (hx : ∀ c, ex c -> c < base) : Grow base d w' v L :=
 ⟨h.ten, owns_fr h.own hf (fun c hc e => by have := hx c e; have := (h.own.lt c hc).1; omega),
  fun x hxm => (h.mem x hxm).to (fun c hc => hf.block c hc.2.1 (fun e => by have := hx c e; have := hc.1; omega)) (fun c hc => ⟨hc.1, by have := hf.size; have := hc.2.1; omega, hc.2.2⟩)⟩
theorem Grow.nil (base d : Nat) (w : World) : Grow base d w (.slice none 0 0) [] := ⟨fun _ h => absurd h (by simp), World.ownsRow_nil _ _ _ _, fun _ h => absurd h (by simp)⟩
structure It (w1 : World) (R B d N : Nat) (ts : List K) (acc : List Ex) (w : World) : Prop where
 fr : Fr w1 w (fun c => c = R \/ c = B)
 rdr : Rdr R w ts
 row : ∃ ao cap L, acc = L.map (fun x : Ex × List Value => x.1) /\ w.heap[B]? = some (iblk ao L.length cap) /\ Grow w1.heap.size d w (.slice ao L.length cap) L
 bulk : acc.length + (acc.map (X.bulk d)).sum + 60 * ts.length <= N
 len : acc.length + ts.length <= 4200
def ItBad (w1 : World) (R B : Nat) (w : World) : Prop := Fr w1 w (fun c => c = R \/ c = B) /\ (∃ ts', Rdr R w ts') /\ ∃ ao n cap, w.heap[B]? = some (iblk ao n cap)
theorem It.move {w1 : World} {R B d N : Nat} {ts ts' : List K} {acc : List Ex} {w w' : World} (h : It w1 R B d N ts acc w) (hR : R < w1.heap.size) (hB : B ≠ R) (hf : Fr w w' (fun c => c = R)) (hl : ts'.length <= ts.length) (hr : Rdr R w' ts') : It w1 R B d N ts' acc w' := by
 obtain ⟨ao, cap, L, e, hb, hg⟩ := h.row;refine ⟨h.fr.trans hf (fun _ _ e => .inl e), hr, ⟨ao, cap, L, e, (hf.block B (blt hb) hB).trans hb, hg.fr hf (fun c e => by omega)⟩, by have := h.bulk; omega, by have := h.len; omega⟩
theorem It.comma {w1 : World} {R B d N : Nat} {ts ts' : List K} {acc : List Ex} {w w' : World} (h : It w1 R B d (N + 1) ts acc w) (hR : R < w1.heap.size) (hB : B ≠ R) (hf : Fr w w' (fun c => c = R)) (hl : ts'.length + 1 <= ts.length) (hr : Rdr R w' ts') : It w1 R B d N ts' acc w' := by
 have h1 := h.move hR hB hf (by omega) hr;exact ⟨h1.fr, h1.rdr, h1.row, by have := h.bulk; omega, h1.len⟩
theorem It.bad {w1 : World} {R B d N : Nat} {ts ts' : List K} {acc : List Ex} {w w' : World} (h : It w1 R B d N ts acc w) (hB : B ≠ R) (hf : Fr w w' (fun c => c = R)) (hr : Rdr R w' ts') : ItBad w1 R B w' := by
 obtain ⟨ao, cap, L, e, hb, hg⟩ := h.row;exact ⟨h.fr.trans hf (fun _ _ e => .inl e), ⟨_, hr⟩, ao, _, cap, (hf.block B (blt hb) hB).trans hb⟩
theorem grow_node {base d : Nat} {w : World} {ao : Option Addr} {cap : Nat} {L : List (Ex × List Value)} (h : Grow base d w (.slice ao L.length cap) L) (k : Int) (s t : ByteArray) :
  X.MemD (fun c => base <= c /\ c < w.heap.size) (d + 1) w ⟨k, V.zero, s, t, L.map (fun x => x.1), []⟩ (xc k V.zero s t ao L.length cap none 0 0) := by
 rcases h.own.2 with ⟨hv, hn⟩ | ⟨g, cap', cur, hv, hg, hh, hnc, _, hcs, htk⟩
 ·obtain ⟨rfl, _, rfl⟩ := Value.slice.inj hv;have hL : L = [] := List.length_eq_zero_iff.1 hn;subst hL;exact fun w2 hw => ⟨_, _, _, _, _, _, _, rfl, vmem d w2 0 0 ⟨#[]⟩, X.RowA.zero _ _, V.Row.zero _ _ _⟩
 ·simp only [Value.slice.injEq, true_and] at hv;obtain ⟨rfl, rfl⟩ := hv;have hlt := (blt hh)
  refine xnode (l := L) k s t hh (fun i x hx => ?_) (fun x hx => (h.mem x hx).to (fun _ _ => rfl) (fun c hc => ⟨hc.1, hc.2.1⟩)) ⟨hg, hlt⟩;obtain ⟨h1, h2⟩ := flat_at L h.ten i x hx;refine ⟨h1, fun j hj => ?_⟩;have hi : i < L.length := (List.getElem?_eq_some_iff.1 hx).1;have h3 := h2 j hj;rw [<- htk, List.getElem?_toArray, List.getElem?_take, if_pos (by omega), Array.getElem?_toList] at h3;exact h3
theorem bulk_pos (d : Nat) (e : Ex) : 0 < X.bulk (d + 1) e := by
 simp only [X.bulk];omega
def oneI (d : Nat) (acc : List Ex) (ts : List T) : Option (List Ex × List T) := (ex d ts).map (fun p => (acc ++ [p.1], p.2))
theorem rowI (d : Nat) (e : List UInt8) : ∀ (n : Nat) (acc : List Ex) (ts : List T), rowS e (oneI d) n acc ts = (row e (ex d) n ts).map (fun p => (acc ++ p.1, p.2))
 | 0, _, _ => rfl
 | n + 1, acc, ts => by
  rw [rowS, row, oneI];cases h : ex d ts with
  | none => rfl
  | some p =>
   obtain ⟨a, t1⟩ := p;simp only [Option.map_some];cases h2 : found 4 [44] t1 with
   | none =>
    simp only;cases found 4 e t1 <;> rfl
   | some t2 =>
    simp only;rw [rowI d e n];cases row e (ex d) n t2 with
    | none => rfl
    | some q => simp
theorem rowsI (d : Nat) (e : List UInt8) (ts : List T) : rowsS e (oneI d) [] ts = rows e (ex d) ts := by
 unfold rowsS rows;cases found 4 e ts with
 | some r => rfl
 | none =>
  simp only;rw [rowI];cases row e (ex d) ts.length ts <;> simp
end P
theorem P.rowI_ok {d n : Nat} {e : List UInt8} {acc : List Ex} {ts : List P.T} {x : List Ex × List P.T} (h : P.rowS e (P.oneI d) n acc ts = some x) (hw : ∀ y ∈ x.1, P.Wr d y) : P.Wok d ts := by
 rw [P.rowI] at h;cases n with
 | zero => cases h
 | succ n =>
  rw [P.row] at h;cases he : P.ex d ts with
  | none =>
   rw [he] at h;cases h
  | some p =>
   obtain ⟨a, t1⟩ := p;refine ⟨a, t1, he, hw a ?_⟩;rw [he] at h;simp only at h;cases hf : P.found 4 [44] t1 with
   | none =>
    rw [hf] at h;simp only at h;cases hf2 : P.found 4 e t1 with
    | none =>
     rw [hf2] at h;cases h
    | some t2 =>
     rw [hf2] at h;have := Option.some.inj h;rw [<- this];simp
   | some t2 =>
    rw [hf] at h;simp only at h;cases hr : P.row e (P.ex d) n t2 with
    | none =>
     rw [hr] at h;cases h
    | some q =>
     rw [hr] at h;have := Option.some.inj h;rw [<- this];simp
theorem inner_ev (d R Br Bd : Nat) (w : World) (ts : List P.K) (hd : d <= 6) (ih : P.IH d) (h : P.Rdr R w ts) (hi : P.Inn R Br Bd d w) (hq : P.Wok d (P.fc ts)) :
  Calls Tryz.prog 175 #[.pointer (some ⟨Br, 0, none⟩), .pointer (some ⟨Bd, 0, none⟩)] w fun r w' => Fr w w' (fun c => c = R) /\ ∃ k v s t a i u b j p ev, r = .returned (.tuple #[.agg (P.xc k v s t a i u b j p).toArray, ev]) /\
   ((∃ e n, P.ex d (P.fc ts) = some (e, P.fc (ts.drop (n + 1))) /\ ev = .nilIface /\ X.MemD (P.New w w') d w' e (P.xc k v s t a i u b j p) /\ X.bulk d e + 60 * (ts.drop (n + 1)).length <= 60 * ts.length /\ P.Rdr R w' (ts.drop (n + 1))) \/
    (P.ex d (P.fc ts) = none /\ (∃ f : Int, ev = .iface 54 (.int .i64 f)) /\ ∃ ts', P.Rdr R w' ts')) := by
 refine (inner_any d R Br Bd w ts hd ih h hi hq).mono ?_;rintro r w' ⟨hf, ⟨e, n, k, v, s, t, a, i, u, b, j, p, hE, rfl, hM, hbk, hr⟩ | ⟨hE, ⟨k, v, s, t, a, i, u, b, j, p, f, rfl⟩, ts', hr⟩⟩
 ·exact ⟨hf, k, v, s, t, a, i, u, b, j, p, _, rfl, .inl ⟨e, n, hE, rfl, hM, hbk, hr⟩⟩
 ·exact ⟨hf, k, v, s, t, a, i, u, b, j, p, _, rfl, .inr ⟨hE, ⟨f, rfl⟩, ts', hr⟩⟩
end Go.Proofs.YtcekcfjabhlheaaGreatDoor.Vx
