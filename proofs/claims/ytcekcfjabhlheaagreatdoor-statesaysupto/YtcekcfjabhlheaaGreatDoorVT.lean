/- StateSays: VT. -/
import Derived.Test.YtcekcfjabhlheaaGreatDoorVS
set_option maxRecDepth 100000
set_option maxHeartbeats 3200000
namespace Go.Proofs.YtcekcfjabhlheaaGreatDoor.Vx
open Go.RowKit
namespace V
def At (m : Nat) (w : World) (v : Val) (b o : Nat) : Prop := ∃ c0 c1 c2 c3 c4, Mem m w v [c0, c1, c2, c3, c4] /\ w.cell? ⟨b, o, none⟩ = some c0 /\ w.cell? ⟨b, o + 1, none⟩ = some c1 /\ w.cell? ⟨b, o + 2, none⟩ = some c2 /\ w.cell? ⟨b, o + 3, none⟩ = some c3 /\ w.cell? ⟨b, o + 4, none⟩ = some c4
def names (l : List (ByteArray × Val)) : List ByteArray := l.map (·.1)
def near (a b : Val) : Bool := above a b && decide (names a.f = names b.f)
theorem near_false1 (a b : Val) (h : above a b = false) : near a b = false := by unfold near; simp [h]
theorem near_false2 (a b : Val) (k : Nat) (x y : ByteArray × Val) (hx : a.f[k]? = some x) (hy : b.f[k]? = some y) (hn : x.1.toList ≠ y.1.toList) : near a b = false := by
 unfold near;have : ¬ names a.f = names b.f := by
  intro h;have h2 : (names a.f)[k]? = (names b.f)[k]? := by rw [h]
  unfold names at h2;rw [List.getElem?_map, List.getElem?_map, hx, hy] at h2;simp at h2;exact hn (by rw [h2])
 simp [this]
theorem near_true (a b : Val) (h : above a b = true) (hn : ∀ (j : Nat) (x y : ByteArray × Val), a.f[j]? = some x -> b.f[j]? = some y -> x.1.toList = y.1.toList) : near a b = true := by
 unfold near;have h5 := (above_true a b h).2.2.2.2;have : names a.f = names b.f := by
  unfold names;apply List.ext_getElem?;intro j;rw [List.getElem?_map, List.getElem?_map];rcases Nat.lt_or_ge j a.f.length with h | h
  ·rw [List.getElem?_eq_getElem h, List.getElem?_eq_getElem (by omega : j < b.f.length)];have := hn j _ _ (List.getElem?_eq_getElem h) (List.getElem?_eq_getElem (by omega : j < b.f.length));simp only [Option.map_some, Option.some.injEq];exact toList_inj this
  ·rw [List.getElem?_eq_none h, List.getElem?_eq_none (by omega)]
 simp [h, this]
end V
theorem alikeAbove_any (m : Nat) (w : World) (a b : Val) (pa oa pb ob : Nat) (ha : V.At (m + 1) w a pa oa) (hb : V.At (m + 1) w b pb ob) (hka : V.bulk (m + 1) a <= 2000000) (hkb : V.bulk (m + 1) b <= 2000000) :
  Calls Tryz.prog 212 #[.pointer (some ⟨pa, oa, none⟩), .pointer (some ⟨pb, ob, none⟩)] w fun e w' => e = .returned (.bool (V.near a b)) /\ ∃ n, w' = w.drewN n := by
 obtain ⟨c0, c1, c2, c3, c4, ⟨lv, fv, hcs, hl, hf⟩, p0, p1, p2, p3, p4⟩ := ha;obtain ⟨d0, d1, d2, d3, d4, ⟨lv2, fv2, hcs2, hl2, hf2⟩, q0, q1, q2, q3, q4⟩ := hb;simp only [List.cons.injEq, and_true] at hcs hcs2;obtain ⟨rfl, rfl, rfl, rfl, rfl⟩ := hcs;obtain ⟨rfl, rfl, rfl, rfl, rfl⟩ := hcs2;obtain ⟨al, cl, rfl⟩ := hl.shape;obtain ⟨af, cf, rfl⟩ := hf.shape;obtain ⟨al2, cl2, rfl⟩ := hl2.shape;obtain ⟨af2, cf2, rfl⟩ := hf2.shape;obtain ⟨bs, bl, bf, bn⟩ := V.bulk_s m a _ hka;obtain ⟨bs2, bl2, bf2, bn2⟩ := V.bulk_s m b _ hkb;have HF : Hid _ := hf;have HF2 : Hid _ := hf2;clear hf hf2 hl hl2 bn bn2 hka hkb;by_cases k1 : a.kind = b.kind
 rotate_left
 ·have E : Hid (V.near a b = false) := V.near_false1 a b (by rw [<- Bool.not_eq_true]; intro h; have h2 := V.above_true a b h; exact k1 (by first | exact h2.1 | exact h2.2.1 | (rw [h2.2.2.1]) | exact h2.2.2.2.1 | exact h2.2.2.2.2));have g1 : (a.kind != b.kind) = true := by simpa using k1
  clear k1;go_enter Tryz.func212, Tryz.ntmps212;go_wp2_with fail;go_quiet (fail);go_wp2_with fail;go_ret;exact ⟨ret_bool E.out.symm, _, rfl⟩
 have g1 : (a.kind != b.kind) = false := by simp [k1]
 by_cases k2 : a.n = b.n
 rotate_left
 ·have E : Hid (V.near a b = false) := V.near_false1 a b (by rw [<- Bool.not_eq_true]; intro h; have h2 := V.above_true a b h; exact k2 (by first | exact h2.1 | exact h2.2.1 | (rw [h2.2.2.1]) | exact h2.2.2.2.1 | exact h2.2.2.2.2));have g2 : (a.n != b.n) = true := by simpa using k2
  clear k1 k2;go_enter Tryz.func212, Tryz.ntmps212;go_wp2_with fail;go_quiet (fail);go_wp2_with fail;go_ret;exact ⟨ret_bool E.out.symm, _, rfl⟩
 have g2 : (a.n != b.n) = false := by simp [k2]
 by_cases k3 : a.s.toList = b.s.toList
 rotate_left
 ·have E : Hid (V.near a b = false) := V.near_false1 a b (by rw [<- Bool.not_eq_true]; intro h; have h2 := V.above_true a b h; exact k3 (by first | exact h2.1 | exact h2.2.1 | (rw [h2.2.2.1]) | exact h2.2.2.2.1 | exact h2.2.2.2.2));have g3 : (a.s.toList == b.s.toList) = false := beq_eq_false_iff_ne.2 k3;clear k1 k2 k3;go_enter Tryz.func212, Tryz.ntmps212;go_wp2_with fail;go_quiet (fail);go_wp2_with fail;go_ret;exact ⟨ret_bool E.out.symm, _, rfl⟩
 by_cases k4 : a.l.length = b.l.length
 rotate_left
 ·have E : Hid (V.near a b = false) := V.near_false1 a b (by rw [<- Bool.not_eq_true]; intro h; have h2 := V.above_true a b h; exact k4 (by first | exact h2.1 | exact h2.2.1 | (rw [h2.2.2.1]) | exact h2.2.2.2.1 | exact h2.2.2.2.2));have g4 : ((a.l.length : Int) != (b.l.length : Int)) = true := by rw [bne_iff_ne]; omega
  clear k1 k2 k4;go_enter Tryz.func212, Tryz.ntmps212;go_wp2_with fail;go_quiet (fail);go_wp2_with fail;go_ret;exact ⟨ret_bool E.out.symm, _, rfl⟩
 have g4 : ((a.l.length : Int) != (b.l.length : Int)) = false := by simp [k4]
 by_cases k5 : a.f.length = b.f.length
 rotate_left
 ·have E : Hid (V.near a b = false) := V.near_false1 a b (by rw [<- Bool.not_eq_true]; intro h; have h2 := V.above_true a b h; exact k5 (by first | exact h2.1 | exact h2.2.1 | (rw [h2.2.2.1]) | exact h2.2.2.2.1 | exact h2.2.2.2.2));have g5 : ((a.f.length : Int) != (b.f.length : Int)) = true := by rw [bne_iff_ne]; omega
  clear k1 k2 k4 k5;go_enter Tryz.func212, Tryz.ntmps212;go_wp2_with fail;go_quiet (fail);go_wp2_with fail;go_ret;exact ⟨ret_bool E.out.symm, _, rfl⟩
 have g5 : ((a.f.length : Int) != (b.f.length : Int)) = false := by simp [k5]
 have hab : V.above a b = true := by
  unfold V.above;simp only [Bool.and_eq_true, beq_iff_eq];exact ⟨k1, k2, k3, k4, k5⟩
 have HAB : Hid _ := hab;have K5 : Hid _ := k5;clear k1 k2 k4 k5 hab;go_enter Tryz.func212, Tryz.ntmps212;go_wp2_with fail;go_quiet (fail);go_wp2_with fail;go_loopw [68, 5] (fun vi _ wr => ∃ k : Nat, k <= a.f.length /\ vi = .int .i64 k /\ (∀ (j : Nat) (x y : ByteArray × Val), j < k -> a.f[j]? = some x -> b.f[j]? = some y -> x.1.toList = y.1.toList) /\ ∃ n, wr = w.drewN n) (fun vi _ _ => a.f.length - (intOf vi).toNat)
 case atStart => exact ⟨0, Nat.zero_le _, rfl, fun j _ _ hj => absurd hj (by omega), _, rfl⟩
 case round =>
  obtain ⟨k, hk, rfl, hok, n0, hW⟩ := hrel;have HOK : Hid _ := hok;have HW : Hid _ := hW;have hcw : ∀ p, wr.cell? p = w.cell? p := fun p => by rw [hW]; rfl
  have HCW : Hid _ := hcw;rw [<- hcw] at p3 p4 q3 q4;clear hok hW hcw;by_cases hlt : k < a.f.length
  ·obtain ⟨p, off, cap, x, x0, x1, x2, x3, x4, e1, hx, _, un, _⟩ := V.elemF HF.out k hlt;obtain ⟨rfl, _, rfl⟩ := Value.slice.inj e1;obtain ⟨p', off', cap', y, y0, y1, y2, y3, y4, e2, hy, _, vn, _⟩ := V.elemF HF2.out k (by have := K5.out; omega);obtain ⟨rfl, _, rfl⟩ := Value.slice.inj e2;rw [<- HCW.out] at un vn;have hltb : k < b.f.length := by have := K5.out; omega
   by_cases hnm : x.1.toList = y.1.toList
   ·have HN : Hid _ := hnm;have HX : Hid _ := hx;have HY : Hid _ := hy;clear hx hy;go_wp2_with fail;go_quiet (fail);go_wp2_with fail;go_roundw
    case rel =>
     refine ⟨k + 1, by omega, by go_num, fun j u v hj hu hv => ?_, by rw [HW.out]; exact drewN_some _ _ _⟩;rcases Nat.lt_or_ge j k with h | h
     ·exact HOK.out j u v h hu hv
     ·have e : j = k := by omega
      rw [e, HX.out] at hu; rw [e, HY.out] at hv; cases hu; cases hv; exact HN.out
    case measure => simp [intOf]; omega
   ·have E : Hid (V.near a b = false) := V.near_false2 a b k x y hx hy hnm;have g1 : (x.1.toList == y.1.toList) = false := beq_eq_false_iff_ne.2 hnm;clear hx hy hnm;go_wp2_with fail;go_quiet (fail);go_wp2_with fail;go_ret;exact ⟨ret_bool E.out.symm, by rw [HW.out]; exact drewN_some _ _ _⟩
  ·have E : Hid (V.near a b = true) := V.near_true a b HAB.out (fun j x y hx hy => HOK.out j x y (by have := V.lt_of_get hx; omega) hx hy);go_wp2_with fail;go_ret;exact ⟨ret_bool E.out.symm, _, HW.out⟩
end Go.Proofs.YtcekcfjabhlheaaGreatDoor.Vx
