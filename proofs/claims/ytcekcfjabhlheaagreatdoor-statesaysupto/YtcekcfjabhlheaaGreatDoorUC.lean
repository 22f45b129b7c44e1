/- StateSays: UC. -/
import Derived.Test.YtcekcfjabhlheaaGreatDoorUO
import Derived.Test.YtcekcfjabhlheaaGreatDoorXD
set_option maxRecDepth 100000
set_option maxHeartbeats 1600000
namespace Go.Proofs.YtcekcfjabhlheaaGreatDoor.Vx
open Go.RowKit
namespace S
def Small (m : Nat) (h : Hd) : Prop := h.name.size <= 2000000 /\ h.kind.size <= 2000000 /\ V.bulk m h.v <= 2000000
def after (a : Option ByteArray) (b : ByteArray) : Bool := match a with | none => true | some y => Op.bytesLess (V.bl y) (V.bl b)
def heldF (m : Nat) (l : List Hd) (k : Nat) : Nat :=
 match l[k]? with
 | none => 0
 | some x => if faultH m x ≠ 0 then faultH m x else if x.id = 0 \/ (k ≠ 0 /\ after (l[k - 1]?.map (·.name)) x.name = false) then 3 else 0
def heldFault (m : Nat) (l : List Hd) : Nat := X.firstErr ((List.range l.length).map (heldF m l))
end S
theorem checkHeld_any (m : Nat) (w : World) (v : Value) (l : List Hd) (hl : S.HRow m w v l) (hsm : ∀ x ∈ l, S.Small m x) (hlen : l.length <= 1000) :
  Calls Tryz.prog 35 #[v] w fun o w' => o = .returned (V.errOf (S.heldFault m l)) /\ Below w.heap.size w w' := by
 obtain ⟨ao, cap, rfl⟩ := V.Row.shape hl;have HE : Hid (S.heldFault m l = X.firstErr ((List.range l.length).map (S.heldF m l))) := rfl;obtain ⟨HL, HSM⟩ := hd2 hl hsm;have HB0 : Hid (Below w.heap.size w w) := Below.refl _ _;generalize S.heldFault m l = F at *;clear hl hsm;go_enter Tryz.func35, Tryz.ntmps35;go_wp2_with fail;go_loopw [8, 3, 4, 5] (fun vi _ _ _ wr => ∃ k : Nat, k <= l.length /\ vi = .int .i64 k /\ (∀ j, j < k -> S.heldF m l j = 0) /\ Below w.heap.size w wr)
  (fun vi _ _ _ _ => l.length - (intOf vi).toNat)
 case atStart => exact ⟨0, Nat.zero_le _, rfl, fun j hj => absurd hj (by omega), HB0.out⟩
 case round =>
  clear HB0;obtain ⟨k, hk, rfl, hok, hB⟩ := hrel;obtain ⟨HOK, HB⟩ := hd2 hok hB;clear hok;by_cases hlt : k < l.length
  ·obtain ⟨b, off, cap', x, a0, a1, a2, a3, a4, e1, hx, hm, hid64, y0, y1, y2, y3, y4, y5, y6, y7⟩ := S.elemH (HL.out.kept hB) k hlt;obtain ⟨rfl, _, rfl⟩ := Value.slice.inj e1;obtain ⟨s1, s2, s3⟩ := HSM.out x (List.mem_of_getElem? hx);obtain ⟨al, ll, cl, af, lf, cf, hcs⟩ := S.Mem.form hm;obtain ⟨rfl, rfl, rfl, rfl, rfl⟩ := ij5 hcs;have hbA : Below wr.heap.size wr (wr.alloc (.cells #[.string x.name, .string x.kind, .int .i64 x.id, .int .i64 x.v.kind, .int .i64 x.v.n, .string x.v.s, .slice al ll cl, .slice af lf cf] 63)) := ba;have hA := heap_alloc_new wr (.cells #[.string x.name, .string x.kind, .int .i64 x.id, .int .i64 x.v.kind, .int .i64 x.v.n, .string x.v.s, .slice al ll cl, .slice af lf cf] 63);have HCK := hide (checkOne_any m _ x _ _ _ _ _ (V.Mem.kept m hm hbA) s3 (by unfold maxLen; omega) (by unfold maxLen; omega));have HF : Hid (S.heldF m l k = if S.faultH m x ≠ 0 then S.faultH m x else if x.id = 0 \/ (k ≠ 0 /\ S.after (l[k - 1]?.map (·.name)) x.name = false) then 3 else 0) := by
    show _ = _;rw [S.heldF, hx]
   obtain ⟨HX, HBA, HA⟩ := hd3 hx hbA hA;have f0 := free_of_block hA;obtain ⟨x0, x1, x2, x3, x4, x5, x6, x7⟩ := cl8 hA;clear hm hB hbA hA hx hid64 s1 s2 s3;go_wp2_with fail;have HLA := hide (blt HA.out);generalize (wr.alloc _) = wa at *;refine HCK.out.mono ?_;rintro o w2 ⟨rfl, hb2⟩;have hA2 := (hb2.block wr.heap.size HLA.out).trans HA.out;have hw2 := HBA.out.trans (hb2.mono HBA.out.size);have HW2 := hide hw2;have HB2 := bt HB hw2;clear HCK hb2 x0 x1 x2 x3 x4 x5 x6 x7 f0;have f0 := free_of_block hA2;have x0 := cell_of_block hA2 0 _ rfl;have x2 := cell_of_block hA2 2 _ rfl;generalize S.faultH m x = G at *;clear hA2 y1 y2 y3 y4 y5 y6 y7;by_cases hG : G = 0
   ·subst hG;have hF := HF.out;rw [if_neg (fun h => h rfl)] at hF;have HF2 := hide hF;clear hF HF;rw [V.errOf, if_pos rfl];by_cases h0 : x.id = 0
    ·have hd : (x.id == 0) = true := by simp [h0]
     have E : Hid (F = 3) := HE.out.trans (X.firstErr_at (k := k) (fun j hj => by rw [X.faults_get (by omega), HOK.out j hj]) (by rw [X.faults_get hlt, HF2.out, if_pos (.inl h0)]) (by decide));clear h0 HF2;go_wp2_with fail;go_quiet (fail)
     all_goals
      go_wp2_with fail;go_ret;exact ⟨ret_val (by rw [E.out]; rfl), below_drewN HB2.out _⟩
    ·have hd : (x.id == 0) = false := by simp [h0]
     by_cases hk0 : k = 0
     ·have hF0 : S.heldF m l k = 0 := by rw [HF2.out, if_neg (fun h => h.elim h0 (fun h => h.1 hk0))]
      have HF0 := hide hF0;clear h0 HF2 hF0 HLA HA;subst hk0;clear y0;go_wp2_with fail;go_quiet (fail)
      all_goals
       go_wp2_with fail;go_roundw
       case rel => exact ⟨1, by omega, by go_num, fun j hj => by rw [show j = 0 by omega]; exact HF0.out, below_drewN HB2.out _⟩
       case measure => simp [intOf]; omega
     ·obtain ⟨k', rfl⟩ : ∃ k', k = k' + 1 := ⟨k - 1, by omega⟩
      obtain ⟨b', off', cap', y, _, _, _, _, _, e1, hy, _, _, zn, _⟩ := S.elemH (HL.out.kept HB2.out) k' (by omega);simp only [Value.slice.injEq, Option.some.injEq, Addr.mk.injEq] at e1;obtain ⟨⟨rfl, rfl, _⟩, _, rfl⟩ := e1;have hF := HF2.out;rw [show k' + 1 - 1 = k' from rfl, hy] at hF;have gk : decide (0 < ((k' + 1 : Nat) : Int)) = true := decide_eq_true (by omega);have hfl := less_flip (V.bl x.name) (V.bl y.name);clear hy HF2 y0;cases hls : Op.bytesLess (V.bl y.name) (V.bl x.name)
      ·have E : Hid (F = 3) := HE.out.trans (X.firstErr_at (k := k' + 1) (fun j hj => by rw [X.faults_get (by omega), HOK.out j hj]) (by rw [X.faults_get hlt, hF, if_pos (.inr ⟨by omega, hls⟩)]) (by decide));rw [hls, <- V.toList_bl, <- V.toList_bl] at hfl;clear hF hls h0;go_wp2_with fail;go_quiet (fail)
       all_goals
        go_wp2_with fail;go_ret;exact ⟨ret_val (by rw [E.out]; rfl), below_drewN HB2.out _⟩
      ·have hF0 : S.heldF m l (k' + 1) = 0 := by
        rw [hF, if_neg (fun h => h.elim h0 (fun h => by have h2 : Op.bytesLess (V.bl y.name) (V.bl x.name) = false := h.2; rw [hls] at h2; exact absurd h2 (by decide)))]
       have HF0 := hide hF0;rw [hls, <- V.toList_bl, <- V.toList_bl] at hfl;clear hF hF0 hls h0;go_wp2_with fail;go_quiet (fail)
       all_goals
        go_wp2_with fail;go_roundw
        case rel =>
         refine ⟨k' + 1 + 1, by omega, by go_num, fun j hj => ?_, below_drewN HB2.out _⟩;by_cases e : j = k' + 1
         ·rw [e]; exact HF0.out
         ·exact HOK.out j (by omega)
        case measure => simp [intOf]; omega
   ·have E : Hid (F = G) := HE.out.trans (X.firstErr_at (k := k) (fun j hj => by rw [X.faults_get (by omega), HOK.out j hj]) (by rw [X.faults_get hlt, HF.out, if_pos hG]) hG);clear HF;rw [err_ne G hG];go_wp2_with fail;go_ret;exact ⟨ret_val (by rw [E.out, err_ne G hG]; rfl), HB2.out⟩
  ·have E : Hid (F = 0) := HE.out.trans (X.firstErr_none (fun j hj => by
    have hj' : j < l.length := by simpa using hj
    rw [X.faults_get hj', HOK.out j (by omega)]))
   clear hB;go_wp2_with fail;go_ret;exact ⟨ret_val (by rw [E.out]; rfl), HB.out⟩
namespace S
def itF (m : Nat) (l : List It) (k : Nat) : Nat :=
 match l[k]? with
 | none => 0
 | some x => if faultH m x.h ≠ 0 then faultH m x.h else if x.op < 1 \/ 3 < x.op \/ Dx.N.upto 36 x.token = false then 3 else 0
def itFault (m : Nat) (l : List It) : Nat := X.firstErr ((List.range l.length).map (itF m l))
end S
theorem checkIntents_any (m : Nat) (w : World) (v : Value) (l : List It) (hl : S.IRow m w v l) (hsm : ∀ x ∈ l, S.Small m x.h /\ x.token.size <= 2000000) (hlen : l.length <= 1000) :
  Calls Tryz.prog 36 #[v] w fun o w' => o = .returned (V.errOf (S.itFault m l)) /\ Below w.heap.size w w' := by
 obtain ⟨ao, cap, rfl⟩ := V.Row.shape hl;have HE : Hid (S.itFault m l = X.firstErr ((List.range l.length).map (S.itF m l))) := rfl;obtain ⟨HL, HSM⟩ := hd2 hl hsm;have HB0 : Hid (Below w.heap.size w w) := Below.refl _ _;generalize S.itFault m l = F at *;clear hl hsm;go_enter Tryz.func36, Tryz.ntmps36;go_wp2_with fail;go_loopw [8, 4, 5] (fun vi _ _ wr => ∃ k : Nat, k <= l.length /\ vi = .int .i64 k /\ (∀ j, j < k -> S.itF m l j = 0) /\ Below w.heap.size w wr)
  (fun vi _ _ _ => l.length - (intOf vi).toNat)
 case atStart => exact ⟨0, Nat.zero_le _, rfl, fun j hj => absurd hj (by omega), HB0.out⟩
 case round =>
  clear HB0;obtain ⟨k, hk, rfl, hok, hB⟩ := hrel;obtain ⟨HOK, HB⟩ := hd2 hok hB;clear hok;by_cases hlt : k < l.length
  ·obtain ⟨b, off, cap', x, a0, a1, a2, a3, a4, e1, hx, hm, hid64, ho64, y0, y1, y2, y3, y4, y5, y6, y7, y8, y9⟩ := S.elemI (HL.out.kept hB) k hlt;obtain ⟨rfl, _, rfl⟩ := Value.slice.inj e1;obtain ⟨⟨s1, s2, s3⟩, s4⟩ := HSM.out x (List.mem_of_getElem? hx);obtain ⟨al, ll, cl, af, lf, cf, hcs⟩ := S.Mem.form hm;obtain ⟨rfl, rfl, rfl, rfl, rfl⟩ := ij5 hcs;have hbA : Below wr.heap.size wr (wr.alloc (.cells #[.int .i64 x.op, .string x.h.name, .string x.h.kind, .int .i64 x.h.id, .int .i64 x.h.v.kind, .int .i64 x.h.v.n, .string x.h.v.s, .slice al ll cl, .slice af lf cf, .string x.token] 66)) := ba;have hA := heap_alloc_new wr (.cells #[.int .i64 x.op, .string x.h.name, .string x.h.kind, .int .i64 x.h.id, .int .i64 x.h.v.kind, .int .i64 x.h.v.n, .string x.h.v.s, .slice al ll cl, .slice af lf cf, .string x.token] 66);have HCK := hide (checkOne_any m _ x.h _ _ _ _ _ (V.Mem.kept m hm hbA) s3 (by unfold maxLen; omega) (by unfold maxLen; omega));have HDT := hide (fun w => Dx.dotted_any x.token 36 w (by unfold maxLen; omega));have HF : Hid (S.itF m l k = if S.faultH m x.h ≠ 0 then S.faultH m x.h else if x.op < 1 \/ 3 < x.op \/ Dx.N.upto 36 x.token = false then 3 else 0) := by
    show _ = _;rw [S.itF, hx]
   obtain ⟨HBA, HA⟩ := hd2 hbA hA;have f0 := free_of_block hA;obtain ⟨x0, x1, x2, x3, x4, x5, x6, x7, x8, x9⟩ := cl10 hA;clear hm hB hbA hA hx hid64 ho64 s1 s2 s3 s4;go_wp2_with fail;have HLA := hide (blt HA.out);generalize (wr.alloc _) = wa at *;refine HCK.out.mono ?_;rintro o w2 ⟨rfl, hb2⟩;have hA2 := (hb2.block wr.heap.size HLA.out).trans HA.out;have hw2 := HBA.out.trans (hb2.mono HBA.out.size);have HB2 := bt HB hw2;clear HCK hb2 hw2 x0 x1 x2 x3 x4 x5 x6 x7 x8 x9 f0;have f0 := free_of_block hA2;have x0 := cell_of_block hA2 0 _ rfl;have x9 := cell_of_block hA2 9 _ rfl;generalize S.faultH m x.h = G at *;clear hA2 y0 y1 y2 y3 y4 y5 y6 y7 y8 y9;by_cases hG : G = 0
   ·subst hG;have hF := HF.out;rw [if_neg (fun h => h rfl)] at hF;have HF2 := hide hF;clear hF HF;rw [V.errOf, if_pos rfl];by_cases h1 : x.op < 1
    ·have E : Hid (F = 3) := HE.out.trans (X.firstErr_at (k := k) (fun j hj => by rw [X.faults_get (by omega), HOK.out j hj]) (by rw [X.faults_get hlt, HF2.out, if_pos (.inl h1)]) (by decide));clear HF2;go_wp2_with fail;go_ret;exact ⟨ret_val (by rw [E.out]; rfl), HB2.out⟩
    ·by_cases h3 : 3 < x.op
     ·have E : Hid (F = 3) := HE.out.trans (X.firstErr_at (k := k) (fun j hj => by rw [X.faults_get (by omega), HOK.out j hj]) (by rw [X.faults_get hlt, HF2.out, if_pos (.inr (.inl h3))]) (by decide));clear HF2;go_wp2_with fail;go_ret;exact ⟨ret_val (by rw [E.out]; rfl), HB2.out⟩
     ·cases hu : Dx.N.upto 36 x.token
      ·have E : Hid (F = 3) := HE.out.trans (X.firstErr_at (k := k) (fun j hj => by rw [X.faults_get (by omega), HOK.out j hj]) (by rw [X.faults_get hlt, HF2.out, if_pos (.inr (.inr hu))]) (by decide));have HU := hide hu;clear HF2 hu;go_wp2_with fail;refine (HDT.out _).mono ?_;rintro o w3 ⟨rfl, hw⟩;rw [hw, HU.out];clear hw;go_wp2_with fail;go_ret;exact ⟨ret_val (by rw [E.out]; rfl), HB2.out⟩
      ·have hF0 : S.itF m l k = 0 := by rw [HF2.out, if_neg (fun h => h.elim h1 (fun h => h.elim h3 (fun h => by rw [hu] at h; exact absurd h (by decide))))]
       obtain ⟨HF0, HU⟩ := hd2 hF0 hu;clear HF2 hF0 hu;go_wp2_with fail;refine (HDT.out _).mono ?_;rintro o w3 ⟨rfl, hw⟩;rw [hw, HU.out];clear hw;go_wp2_with fail;go_roundw
       case rel =>
        refine ⟨k + 1, by omega, by go_num, fun j hj => ?_, HB2.out⟩;by_cases e : j = k
        ·rw [e]; exact HF0.out
        ·exact HOK.out j (by omega)
       case measure => simp [intOf]; omega
   ·have E : Hid (F = G) := HE.out.trans (X.firstErr_at (k := k) (fun j hj => by rw [X.faults_get (by omega), HOK.out j hj]) (by rw [X.faults_get hlt, HF.out, if_pos hG]) hG);clear HF;rw [err_ne G hG];go_wp2_with fail;go_ret;exact ⟨ret_val (by rw [E.out, err_ne G hG]; rfl), HB2.out⟩
  ·have E : Hid (F = 0) := HE.out.trans (X.firstErr_none (fun j hj => by
    have hj' : j < l.length := by simpa using hj
    rw [X.faults_get hj', HOK.out j (by omega)]))
   clear hB;go_wp2_with fail;go_ret;exact ⟨ret_val (by rw [E.out]; rfl), HB.out⟩
namespace S
def outF (m : Nat) (l : List (ByteArray × Val)) (k : Nat) : Nat :=
 match l[k]? with
 | none => 0
 | some x => if V.name (V.bl x.1) = false \/ (k ≠ 0 /\ after (l[k - 1]?.map (·.1)) x.1 = false) then 3 else V.fault m x.2
def outFault (m : Nat) (l : List (ByteArray × Val)) : Nat := X.firstErr ((List.range l.length).map (outF m l))
end S
theorem checkOuts_any (m : Nat) (w : World) (v : Value) (l : List (ByteArray × Val)) (hl : S.ORow m w v l) (hsm : ∀ x ∈ l, x.1.size <= 2000000 /\ V.bulk m x.2 <= 2000000) (hlen : l.length <= 1000) :
  Calls Tryz.prog 37 #[v] w fun o w' => o = .returned (V.errOf (S.outFault m l)) /\ Below w.heap.size w w' := by
 obtain ⟨ao, cap, rfl⟩ := V.Row.shape hl;have HE : Hid (S.outFault m l = X.firstErr ((List.range l.length).map (S.outF m l))) := rfl;obtain ⟨HL, HSM⟩ := hd2 hl hsm;have HB0 : Hid (Below w.heap.size w w) := Below.refl _ _;generalize S.outFault m l = F at *;clear hl hsm;go_enter Tryz.func37, Tryz.ntmps37;go_wp2_with fail;go_loopw [8, 3, 4, 5] (fun vi _ _ _ wr => ∃ k : Nat, k <= l.length /\ vi = .int .i64 k /\ (∀ j, j < k -> S.outF m l j = 0) /\ Below w.heap.size w wr)
  (fun vi _ _ _ _ => l.length - (intOf vi).toNat)
 case atStart => exact ⟨0, Nat.zero_le _, rfl, fun j hj => absurd hj (by omega), HB0.out⟩
 case round =>
  clear HB0;obtain ⟨k, hk, rfl, hok, hB⟩ := hrel;obtain ⟨HOK, HB⟩ := hd2 hok hB;clear hok;by_cases hlt : k < l.length
  ·obtain ⟨b, off, cap', x, a0, a1, a2, a3, a4, e1, hx, hm, y0, y1, y2, y3, y4, y5⟩ := S.elemO (HL.out.kept hB) k hlt;obtain ⟨rfl, _, rfl⟩ := Value.slice.inj e1;obtain ⟨s1, s3⟩ := HSM.out x (List.mem_of_getElem? hx);obtain ⟨al, ll, cl, af, lf, cf, hcs⟩ := S.Mem.form hm;obtain ⟨rfl, rfl, rfl, rfl, rfl⟩ := ij5 hcs;have hbA : Below wr.heap.size wr (wr.alloc (.cells #[.string x.1, .int .i64 x.2.kind, .int .i64 x.2.n, .string x.2.s, .slice al ll cl, .slice af lf cf] 68)) := ba;have hA := heap_alloc_new wr (.cells #[.string x.1, .int .i64 x.2.kind, .int .i64 x.2.n, .string x.2.s, .slice al ll cl, .slice af lf cf] 68);have HCK := hide (fun w' (hB' : Below (wr.alloc (.cells #[.string x.1, .int .i64 x.2.kind, .int .i64 x.2.n, .string x.2.s, .slice al ll cl, .slice af lf cf] 68)).heap.size (wr.alloc (.cells #[.string x.1, .int .i64 x.2.kind, .int .i64 x.2.n, .string x.2.s, .slice al ll cl, .slice af lf cf] 68)) w') => check_any m w' x.2 _ _ _ _ _ (V.Mem.kept m (V.Mem.kept m hm hbA) hB') s3);have HNC := hide (fun w => name_any x.1 w (by unfold maxLen; omega));have HF : Hid (S.outF m l k = if V.name (V.bl x.1) = false \/ (k ≠ 0 /\ S.after (l[k - 1]?.map (·.1)) x.1 = false) then 3 else V.fault m x.2) := by
    show _ = _;rw [S.outF, hx]
   have HBA2 := bt HB hbA;have HBA := hide hbA;have f0 := free_of_block hA;obtain ⟨x0, x1, x2, x3, x4, x5⟩ := cl6 hA;clear hm hB hbA hA hx s1 s3;generalize V.fault m x.2 = G at *;cases hn : V.name (V.bl x.1)
   ·have E : Hid (F = 3) := HE.out.trans (X.firstErr_at (k := k) (fun j hj => by rw [X.faults_get (by omega), HOK.out j hj]) (by rw [X.faults_get hlt, HF.out, if_pos (.inl hn)]) (by decide));rw [hn] at HNC;clear hn HF HCK;go_wp2_with fail;go_quiet ((go_at_call 21; exact Calls.quiet_of_same (HNC.out _)))
    all_goals
     go_wp2_with fail;go_ret;exact ⟨ret_val (by rw [E.out]; rfl), below_drewN HBA2.out _⟩
   ·rw [hn] at HNC;by_cases hk0 : k = 0
    ·have hF0 : S.outF m l k = G := by rw [HF.out, if_neg (fun h => h.elim (fun h => by rw [hn] at h; exact absurd h (by decide)) (fun h => h.1 hk0))]
     have HF0 := hide hF0;clear hn HF hF0;subst hk0;simp only [Nat.zero_mul, Nat.add_zero] at y0 y1 y2 y3 y4 y5;by_cases hG : G = 0
     ·subst hG;go_wp2_with fail;go_quiet ((go_at_call 21; exact Calls.quiet_of_same (HNC.out _)))
      all_goals
       go_wp2_with fail;refine (HCK.out _ (below_drewN (Below.refl _ _) _)).mono ?_;rintro o w2 ⟨rfl, hb2⟩;rw [V.errOf, if_pos rfl];have HB2 := hide (HBA2.out.trans (((below_drewN (Below.refl _ _) _).trans hb2).mono HBA2.out.size));clear hb2;go_wp2_with fail;go_roundw
       case rel =>
        refine ⟨0 + 1, by omega, by go_num, fun j hj => ?_, HB2.out⟩;by_cases e : j = 0
        ·rw [e]; exact HF0.out
        ·exact HOK.out j (by omega)
       case measure => simp [intOf]; omega
     ·have E : Hid (F = G) := HE.out.trans (X.firstErr_at (k := 0) (fun j hj => by rw [X.faults_get (by omega), HOK.out j hj]) (by rw [X.faults_get hlt, HF0.out]) hG);go_wp2_with fail;go_quiet ((go_at_call 21; exact Calls.quiet_of_same (HNC.out _)))
      all_goals
       go_wp2_with fail;refine (HCK.out _ (below_drewN (Below.refl _ _) _)).mono ?_;rintro o w2 ⟨rfl, hb2⟩;rw [err_ne G hG];have HB2 := hide (HBA2.out.trans (((below_drewN (Below.refl _ _) _).trans hb2).mono HBA2.out.size));clear hb2;go_wp2_with fail;go_ret;exact ⟨ret_val (by rw [E.out, err_ne G hG]; rfl), HB2.out⟩
    ·obtain ⟨k', rfl⟩ : ∃ k', k = k' + 1 := ⟨k - 1, by omega⟩
     obtain ⟨b', off', cap', y, _, _, _, _, _, e1, hy, _, zn, _⟩ := S.elemO (HL.out.kept HBA2.out) k' (by omega);obtain ⟨b2, off2, cap2, y2', _, _, _, _, _, e2, hy2, _, zn2, _⟩ := S.elemO (HL.out.kept HB.out) k' (by omega);simp only [Value.slice.injEq, Option.some.injEq, Addr.mk.injEq] at e1 e2;obtain ⟨⟨rfl, rfl, _⟩, _, rfl⟩ := e1;obtain ⟨⟨rfl, rfl, _⟩, _, rfl⟩ := e2;have hF := HF.out;rw [show k' + 1 - 1 = k' from rfl, hy] at hF;have gk : decide (0 < ((k' + 1 : Nat) : Int)) = true := decide_eq_true (by omega);have hfl := less_flip (V.bl x.1) (V.bl y.1);clear hy hy2 HF zn2;cases hls : Op.bytesLess (V.bl y.1) (V.bl x.1)
     ·have E : Hid (F = 3) := HE.out.trans (X.firstErr_at (k := k' + 1) (fun j hj => by rw [X.faults_get (by omega), HOK.out j hj]) (by rw [X.faults_get hlt, hF, if_pos (.inr ⟨by omega, hls⟩)]) (by decide));rw [hls, <- V.toList_bl, <- V.toList_bl] at hfl;clear hF hls hn HCK;go_wp2_with fail;go_quiet ((go_at_call 21; exact Calls.quiet_of_same (HNC.out _)))
      all_goals
       go_wp2_with fail;go_ret;exact ⟨ret_val (by rw [E.out]; rfl), below_drewN HBA2.out _⟩
     ·have hF0 : S.outF m l (k' + 1) = G := by
       rw [hF, if_neg (fun h => h.elim (fun h => by rw [hn] at h; exact absurd h (by decide)) (fun h => by have h2 : Op.bytesLess (V.bl y.1) (V.bl x.1) = false := h.2; rw [hls] at h2; exact absurd h2 (by decide)))]
      have HF0 := hide hF0;rw [hls, <- V.toList_bl, <- V.toList_bl] at hfl;clear hF hF0 hls hn;by_cases hG : G = 0
      ·subst hG;go_wp2_with fail;go_quiet ((go_at_call 21; exact Calls.quiet_of_same (HNC.out _)))
       all_goals
        go_wp2_with fail;refine (HCK.out _ (below_drewN (Below.refl _ _) _)).mono ?_;rintro o w2 ⟨rfl, hb2⟩;rw [V.errOf, if_pos rfl];have HB2 := hide (HBA2.out.trans (((below_drewN (Below.refl _ _) _).trans hb2).mono HBA2.out.size));clear hb2;go_wp2_with fail;go_roundw
        case rel =>
         refine ⟨(k' + 1) + 1, by omega, by go_num, fun j hj => ?_, HB2.out⟩;by_cases e : j = (k' + 1)
         ·rw [e]; exact HF0.out
         ·exact HOK.out j (by omega)
        case measure => simp [intOf]; omega
      ·have E : Hid (F = G) := HE.out.trans (X.firstErr_at (k := (k' + 1)) (fun j hj => by rw [X.faults_get (by omega), HOK.out j hj]) (by rw [X.faults_get hlt, HF0.out]) hG);go_wp2_with fail;go_quiet ((go_at_call 21; exact Calls.quiet_of_same (HNC.out _)))
       all_goals
        go_wp2_with fail;refine (HCK.out _ (below_drewN (Below.refl _ _) _)).mono ?_;rintro o w2 ⟨rfl, hb2⟩;rw [err_ne G hG];have HB2 := hide (HBA2.out.trans (((below_drewN (Below.refl _ _) _).trans hb2).mono HBA2.out.size));clear hb2;go_wp2_with fail;go_ret;exact ⟨ret_val (by rw [E.out, err_ne G hG]; rfl), HB2.out⟩
  ·have E : Hid (F = 0) := HE.out.trans (X.firstErr_none (fun j hj => by
    have hj' : j < l.length := by simpa using hj
    rw [X.faults_get hj', HOK.out j (by omega)]))
   clear hB;go_wp2_with fail;go_ret;exact ⟨ret_val (by rw [E.out]; rfl), HB.out⟩
namespace S
def fault (m : Nat) (s : St) : Nat := if s.serial < 0 \/ 1000000000 < s.serial then 1 else if 16 < s.held.length \/ 8 < s.its.length \/ 8 < s.outs.length then 2
 else if heldFault m s.held ≠ 0 then heldFault m s.held else if itFault m s.its ≠ 0 then itFault m s.its else outFault m s.outs
structure Few (m : Nat) (s : St) : Prop where
 held : ∀ x ∈ s.held, Small m x
 its : ∀ x ∈ s.its, Small m x.h /\ x.token.size <= 2000000
 outs : ∀ x ∈ s.outs, x.1.size <= 2000000 /\ V.bulk m x.2 <= 2000000
end S
theorem stateCheck_any (m : Nat) (w : World) (s : St) (c0 c1 c2 c3 : Value) (h : S.Mem m w s [c0, c1, c2, c3]) (hf : S.Few m s) :
  Calls Tryz.prog 17 #[.agg #[c0, c1, c2, c3]] w fun o w' => o = .returned (V.errOf (S.fault m s)) /\ Below w.heap.size w w' := by
 obtain ⟨hv, iv, ov, hcs, hh, hi, ho, h64⟩ := h;obtain ⟨rfl, rfl, rfl, rfl⟩ := ij4 hcs;obtain ⟨ah, ch, rfl⟩ := V.Row.shape hh;obtain ⟨ai, ci, rfl⟩ := V.Row.shape hi;obtain ⟨ao, co, rfl⟩ := V.Row.shape ho;have hb0 : Below w.heap.size w (w.alloc (.cells #[.int .i64 s.serial, .slice ah s.held.length ch, .slice ai s.its.length ci, .slice ao s.outs.length co] 26)) := ba;have hA := heap_alloc_new w (.cells #[.int .i64 s.serial, .slice ah s.held.length ch, .slice ai s.its.length ci, .slice ao s.outs.length co] 26);have HLT := hide (blt hA);obtain ⟨HB0, HA⟩ := hd2 hb0 hA;have HE : Hid (S.fault m s = if s.serial < 0 \/ 1000000000 < s.serial then 1 else if 16 < s.held.length \/ 8 < s.its.length \/ 8 < s.outs.length then 2
  else if S.heldFault m s.held ≠ 0 then S.heldFault m s.held else if S.itFault m s.its ≠ 0 then S.itFault m s.its else S.outFault m s.outs) := rfl
 have HH := hide (fun w' (hB : Below w.heap.size w w') (hl : s.held.length <= 1000) => checkHeld_any m w' _ s.held (S.HRow.kept hh hB) hf.held hl);have HI := hide (fun w' (hB : Below w.heap.size w w') (hl : s.its.length <= 1000) => checkIntents_any m w' _ s.its (S.IRow.kept hi hB) hf.its hl);have HO := hide (fun w' (hB : Below w.heap.size w w') (hl : s.outs.length <= 1000) => checkOuts_any m w' _ s.outs (S.ORow.kept ho hB) hf.outs hl);have f0 := free_of_block hA;obtain ⟨x0, x1, x2, x3⟩ := cl4 hA;generalize S.fault m s = F at *;clear hh hi ho hf hb0 hA h64;by_cases s1 : s.serial < 0
 ·have E : Hid (F = 1) := HE.out.trans (if_pos (.inl s1));clear HE;go_enter Tryz.func17, Tryz.ntmps17;go_wp2_with fail;go_ret;exact ⟨ret_val (by rw [E.out]; rfl), HB0.out⟩
 by_cases s2 : 1000000000 < s.serial
 ·have E : Hid (F = 1) := HE.out.trans (if_pos (.inr s2));clear HE;go_enter Tryz.func17, Tryz.ntmps17;go_wp2_with fail;go_ret;exact ⟨ret_val (by rw [E.out]; rfl), HB0.out⟩
 have HE2 := hide (HE.out.trans (if_neg (by omega)));clear HE;by_cases l1 : 16 < s.held.length
 ·have E : Hid (F = 2) := HE2.out.trans (if_pos (.inl l1));clear HE2;go_enter Tryz.func17, Tryz.ntmps17;go_wp2_with fail;go_ret;exact ⟨ret_val (by rw [E.out]; rfl), HB0.out⟩
 by_cases l2 : 8 < s.its.length
 ·have E : Hid (F = 2) := HE2.out.trans (if_pos (.inr (.inl l2)));clear HE2;go_enter Tryz.func17, Tryz.ntmps17;go_wp2_with fail;go_ret;exact ⟨ret_val (by rw [E.out]; rfl), HB0.out⟩
 by_cases l3 : 8 < s.outs.length
 ·have E : Hid (F = 2) := HE2.out.trans (if_pos (.inr (.inr l3)));clear HE2;go_enter Tryz.func17, Tryz.ntmps17;go_wp2_with fail;go_ret;exact ⟨ret_val (by rw [E.out]; rfl), HB0.out⟩
 have HE3 := hide (HE2.out.trans (if_neg (by omega)));clear HE2;go_enter Tryz.func17, Tryz.ntmps17;go_wp2_with fail;generalize (w.alloc _) = wa at *;refine (HH.out _ HB0.out (by omega)).mono ?_;rintro o w1 ⟨rfl, hb1⟩;have hA1 := (hb1.block w.heap.size HLT.out).trans HA.out;have HL1 : Hid (w.heap.size < w1.heap.size) := Nat.lt_of_lt_of_le HLT.out hb1.size;have HB1 := bt HB0 hb1;have HA1 := hide hA1;clear hb1 HH HB0 HA HLT x0 x1 x2 x3 f0;have f0 := free_of_block hA1;have x2 := cell_of_block hA1 2 _ rfl;have x3 := cell_of_block hA1 3 _ rfl;clear hA1;generalize S.heldFault m s.held = G at *;by_cases hG : G = 0
 ·subst hG;have HE4 := hide (HE3.out.trans (if_neg (fun h => h rfl)));clear HE3;rw [V.errOf, if_pos rfl];go_wp2_with fail;refine (HI.out _ HB1.out (by omega)).mono ?_;rintro o w2 ⟨rfl, hb2⟩;have hA2 := (hb2.block w.heap.size HL1.out).trans HA1.out;have HB2 := bt HB1 hb2;clear hb2 HI HB1 HA1 HL1 x2 x3 f0;have f0 := free_of_block hA2;have x3 := cell_of_block hA2 3 _ rfl;clear hA2;generalize S.itFault m s.its = G at *;by_cases hG : G = 0
  ·subst hG;have HE5 := hide (HE4.out.trans (if_neg (fun h => h rfl)));clear HE4;rw [V.errOf, if_pos rfl];go_wp2_with fail;refine (HO.out _ HB2.out (by omega)).mono ?_;rintro o w3 ⟨rfl, hb3⟩;have HB3 := bt HB2 hb3;clear hb3;go_wp2_with fail;go_ret;exact ⟨ret_val (by rw [HE5.out]; rfl), HB3.out⟩
  ·have E : Hid (F = G) := HE4.out.trans (if_pos hG);clear HE4;rw [err_ne G hG];go_wp2_with fail;go_ret;exact ⟨ret_val (by rw [E.out, err_ne G hG]; rfl), HB2.out⟩
 ·have E : Hid (F = G) := HE3.out.trans (if_pos hG);clear HE3;rw [err_ne G hG];go_wp2_with fail;go_ret;exact ⟨ret_val (by rw [E.out, err_ne G hG]; rfl), HB1.out⟩
end Go.Proofs.YtcekcfjabhlheaaGreatDoor.Vx
