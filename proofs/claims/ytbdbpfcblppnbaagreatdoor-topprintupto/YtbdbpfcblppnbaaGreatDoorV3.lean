/- value.alikeAbove. -/
import Derived.Test.YtbdbpfcblppnbaaGreatDoorV2
namespace Go.Proofs.YtbdbpfcblppnbaaGreatDoor.Vx
open Go.RowKit
namespace V
/-- A test that tells whether two values are the same. -/
def Says (sm : Val → Val → Bool) : Prop := ∀ a b, sm a b = true ↔ a = b
theorem Says.yes {sm : Val → Val → Bool} (h : Says sm) (a b : Val) (e : a = b) : sm a b = true := (h a b).2 e
theorem Says.no {sm : Val → Val → Bool} (h : Says sm) (a b : Val) (e : a ≠ b) : sm a b = false := by
 cases hs : sm a b
 ·rfl
 ·exact absurd ((h a b).1 hs) e
theorem Says.eq {sm : Val → Val → Bool} (h : Says sm) (a b : Val) (e : sm a b = true) : a = b := (h a b).1 e
theorem says_some : ∃ sm : Val → Val → Bool, Says sm := ⟨fun a b => @decide (a = b) (Classical.propDecidable _), fun a b => by simp⟩
theorem val_ext (a b : Val) (h1 : a.kind = b.kind) (h2 : a.n = b.n) (h3 : a.s = b.s) (h4 : a.l = b.l) (h5 : a.f = b.f) : a = b := by
 cases a; cases b; simp_all
/-- All but what is in them. -/
def above (a b : Val) : Bool := a.kind == b.kind && (a.n == b.n && (a.s.toList == b.s.toList && (a.l.length == b.l.length && a.f.length == b.f.length)))
theorem toList_inj {a b : ByteArray} (h : a.toList = b.toList) : a = b := by
 rw [toList_bl, toList_bl] at h
 rw [← str_bl a, ← str_bl b, h]
theorem above_true (a b : Val) (h : above a b = true) : a.kind = b.kind ∧ a.n = b.n ∧ a.s = b.s ∧ a.l.length = b.l.length ∧ a.f.length = b.f.length := by
 unfold above at h
 simp only [Bool.and_eq_true, beq_iff_eq] at h
 exact ⟨h.1, h.2.1, toList_inj h.2.2.1, h.2.2.2.1, h.2.2.2.2⟩
theorem above_ne (a b : Val) (h : above a b = false) : a ≠ b := by
 rintro rfl
 unfold above at h
 simp at h
end V
end Go.Proofs.YtbdbpfcblppnbaaGreatDoor.Vx
namespace Go.Proofs.YtbdbpfcblppnbaaGreatDoor.Vx
open Go.RowKit
namespace V
def zero : Val := ⟨0, 0, ⟨#[]⟩, [], []⟩
def find (l : List (ByteArray × Val)) (s : ByteArray) : Option Val := (l.find? (fun x => x.1.toList == s.toList)).map (·.2)
def found (l : List (ByteArray × Val)) (s : ByteArray) : Val := (find l s).getD zero
theorem Row.zero (w : World) (sz : Nat) (P : Nat → List Value → Prop) : Row w (.slice none 0 0) 0 sz P := ⟨none, 0, rfl, .inl rfl⟩
theorem Mem.zero (m : Nat) (w : World) : Mem (m + 1) w zero [.int .i64 0, .int .i64 0, .string ⟨#[]⟩, .slice none 0 0, .slice none 0 0] := ⟨_, _, rfl, Row.zero _ _ _, Row.zero _ _ _⟩
theorem Row.imp {w : World} {v : Value} {n sz : Nat} {P Q : Nat → List Value → Prop} (h : Row w v n sz P) (hPQ : ∀ i c, P i c → Q i c) : Row w v n sz Q := by
 obtain ⟨ao, cap, rfl, h⟩ := h
 refine ⟨ao, cap, rfl, ?_⟩
 rcases h with h | ⟨b, off, rfl, h⟩
 ·exact .inl h
 ·refine .inr ⟨b, off, rfl, fun i hi => ?_⟩
  obtain ⟨cs, h1, h2, h3⟩ := h i hi
  exact ⟨cs, h1, h2, hPQ i cs h3⟩
theorem Mem.up : ∀ (m : Nat) {w : World} {v : Val} {cs : List Value}, Mem m w v cs → Mem (m + 1) w v cs
 | 0, _, _, _, h => h.elim
 | m + 1, _, _, _, ⟨lv, fv, h1, h2, h3⟩ => ⟨lv, fv, h1, h2.imp (fun _ _ ⟨x, hx, hm⟩ => ⟨x, hx, Mem.up m hm⟩), h3.imp (fun _ _ ⟨x, c', hx, hc, hm⟩ => ⟨x, c', hx, hc, Mem.up m hm⟩)⟩
theorem Row.all {w : World} {v : Value} {n sz : Nat} {P : Nat → List Value → Prop} (h : Row w v n sz P) (i : Nat) (hi : i < n) : ∃ c, P i c := by
 obtain ⟨ao, cap, rfl, h⟩ := h
 rcases h with h | ⟨b, off, rfl, h⟩
 ·omega
 ·obtain ⟨cs, _, _, h3⟩ := h i hi; exact ⟨cs, h3⟩
theorem sumL_congr (g h : Val → Nat) (l : List Val) (hh : ∀ x ∈ l, g x = h x) : sumL g l = sumL h l := by
 unfold sumL; rw [List.map_congr_left hh]
theorem sumF_congr (g h : ByteArray × Val → Nat) (l : List (ByteArray × Val)) (hh : ∀ x ∈ l, g x = h x) : sumF g l = sumF h l := by
 unfold sumF; rw [List.map_congr_left hh]
theorem bulk_up : ∀ (m : Nat) {w : World} {v : Val} {cs : List Value}, Mem m w v cs → bulk (m + 1) v = bulk m v
 | 0, _, _, _, h => h.elim
 | m + 1, w, v, cs, ⟨lv, fv, h1, h2, h3⟩ => by
  rw [bulk, bulk, sumL_congr (bulk (m + 1)) (bulk m) v.l (fun x hx => by
   obtain ⟨j, hj⟩ := List.getElem?_of_mem hx
   obtain ⟨c, y, hy, hm⟩ := h2.all j (lt_of_get hj)
   rw [hj] at hy; cases hy; exact bulk_up m hm), sumF_congr (fun x => x.1.size + bulk (m + 1) x.2) (fun x => x.1.size + bulk m x.2) v.f (fun x hx => by
   obtain ⟨j, hj⟩ := List.getElem?_of_mem hx
   obtain ⟨c, y, c', hy, _, hm⟩ := h3.all j (lt_of_get hj)
   rw [hj] at hy; cases hy
   show _ + _ = _ + _
   rw [bulk_up m hm])]
end V
theorem block_set {w : World} {g i : Nat} {cs : Array Value} {t : TypeId} {fr : Nat × Nat} (h : w.heap[g]? = some (.cells cs t fr)) (v : Value) : (w.setCell ⟨g, i, none⟩ v).heap[g]? = some (.cells (cs.setIfInBounds i v) t fr) := by
 rw [setCell_eq_setRow w g i cs t fr v h]
 exact setRow_heap w g _ _ t _ h
theorem set5 {w : World} {g : Nat} {t : TypeId} {z0 z1 z2 z3 z4 : Value} (h : w.heap[g]? = some (.cells #[z0, z1, z2, z3, z4] t (0, 0))) (y0 y1 y2 y3 y4 : Value) :
  (((((w.setCell ⟨g, 0, none⟩ y0).setCell ⟨g, 1, none⟩ y1).setCell ⟨g, 2, none⟩ y2).setCell ⟨g, 3, none⟩ y3).setCell ⟨g, 4, none⟩ y4).heap[g]? = some (.cells #[y0, y1, y2, y3, y4] t (0, 0)) := by
 have h0 := block_set (i := 0) h y0
 have h1 := block_set (i := 1) h0 y1
 have h2 := block_set (i := 2) h1 y2
 have h3 := block_set (i := 3) h2 y3
 exact block_set (i := 4) h3 y4
end Go.Proofs.YtbdbpfcblppnbaaGreatDoor.Vx
namespace Go.Proofs.YtbdbpfcblppnbaaGreatDoor.Vx
open Go.RowKit
namespace V
/-- The five cells at a place hold that value. -/
def At (m : Nat) (w : World) (v : Val) (b o : Nat) : Prop := ∃ c0 c1 c2 c3 c4, Mem m w v [c0, c1, c2, c3, c4] ∧ w.cell? ⟨b, o, none⟩ = some c0 ∧ w.cell? ⟨b, o + 1, none⟩ = some c1 ∧ w.cell? ⟨b, o + 2, none⟩ = some c2 ∧ w.cell? ⟨b, o + 3, none⟩ = some c3 ∧ w.cell? ⟨b, o + 4, none⟩ = some c4
def names (l : List (ByteArray × Val)) : List ByteArray := l.map (·.1)
def near (a b : Val) : Bool := above a b && decide (names a.f = names b.f)
theorem near_false1 (a b : Val) (h : above a b = false) : near a b = false := by unfold near; simp [h]
theorem near_false2 (a b : Val) (k : Nat) (x y : ByteArray × Val) (hx : a.f[k]? = some x) (hy : b.f[k]? = some y) (hn : x.1.toList ≠ y.1.toList) : near a b = false := by
 unfold near
 have : ¬ names a.f = names b.f := by
  intro h
  have h2 : (names a.f)[k]? = (names b.f)[k]? := by rw [h]
  unfold names at h2
  rw [List.getElem?_map, List.getElem?_map, hx, hy] at h2
  simp at h2
  exact hn (by rw [h2])
 simp [this]
theorem near_true (a b : Val) (h : above a b = true) (hn : ∀ (j : Nat) (x y : ByteArray × Val), a.f[j]? = some x → b.f[j]? = some y → x.1.toList = y.1.toList) : near a b = true := by
 unfold near
 have h5 := (above_true a b h).2.2.2.2
 have : names a.f = names b.f := by
  unfold names
  apply List.ext_getElem?
  intro j
  rw [List.getElem?_map, List.getElem?_map]
  rcases Nat.lt_or_ge j a.f.length with h | h
  ·rw [List.getElem?_eq_getElem h, List.getElem?_eq_getElem (by omega : j < b.f.length)]
   have := hn j _ _ (List.getElem?_eq_getElem h) (List.getElem?_eq_getElem (by omega : j < b.f.length))
   simp only [Option.map_some, Option.some.injEq]
   exact toList_inj this
  ·rw [List.getElem?_eq_none h, List.getElem?_eq_none (by omega)]
 simp [h, this]
end V
set_option maxRecDepth 100000 in
set_option maxHeartbeats 3200000 in
theorem alikeAbove_any (m : Nat) (w : World) (a b : Val) (pa oa pb ob : Nat) (ha : V.At (m + 1) w a pa oa) (hb : V.At (m + 1) w b pb ob) (hka : V.bulk (m + 1) a ≤ 2000000) (hkb : V.bulk (m + 1) b ≤ 2000000) :
  Calls Tryz.prog 116 #[.pointer (some ⟨pa, oa, none⟩), .pointer (some ⟨pb, ob, none⟩)] w fun e w' => e = .returned (.bool (V.near a b)) ∧ ∃ n, w' = w.drewN n := by
 obtain ⟨c0, c1, c2, c3, c4, ⟨lv, fv, hcs, hl, hf⟩, p0, p1, p2, p3, p4⟩ := ha
 obtain ⟨d0, d1, d2, d3, d4, ⟨lv2, fv2, hcs2, hl2, hf2⟩, q0, q1, q2, q3, q4⟩ := hb
 simp only [List.cons.injEq, and_true] at hcs hcs2
 obtain ⟨rfl, rfl, rfl, rfl, rfl⟩ := hcs
 obtain ⟨rfl, rfl, rfl, rfl, rfl⟩ := hcs2
 obtain ⟨al, cl, rfl⟩ := hl.shape
 obtain ⟨af, cf, rfl⟩ := hf.shape
 obtain ⟨al2, cl2, rfl⟩ := hl2.shape
 obtain ⟨af2, cf2, rfl⟩ := hf2.shape
 obtain ⟨bs, bl, bf, bn⟩ := V.bulk_s m a _ hka
 obtain ⟨bs2, bl2, bf2, bn2⟩ := V.bulk_s m b _ hkb
 have HF : Hid _ := hf
 have HF2 : Hid _ := hf2
 clear hf hf2 hl hl2 bn bn2 hka hkb
 by_cases k1 : a.kind = b.kind
 rotate_left
 ·have E : Hid (V.near a b = false) := V.near_false1 a b (by rw [← Bool.not_eq_true]; intro h; have h2 := V.above_true a b h; exact k1 (by first | exact h2.1 | exact h2.2.1 | (rw [h2.2.2.1]) | exact h2.2.2.2.1 | exact h2.2.2.2.2))
  have g1 : (a.kind != b.kind) = true := by simpa using k1
  clear k1
  go_enter Tryz.func116, Tryz.ntmps116
  go_wp2_with fail
  go_quiet (fail)
  go_wp2_with fail
  go_ret
  exact ⟨ret_bool E.out.symm, _, rfl⟩
 have g1 : (a.kind != b.kind) = false := by simp [k1]
 by_cases k2 : a.n = b.n
 rotate_left
 ·have E : Hid (V.near a b = false) := V.near_false1 a b (by rw [← Bool.not_eq_true]; intro h; have h2 := V.above_true a b h; exact k2 (by first | exact h2.1 | exact h2.2.1 | (rw [h2.2.2.1]) | exact h2.2.2.2.1 | exact h2.2.2.2.2))
  have g2 : (a.n != b.n) = true := by simpa using k2
  clear k1 k2
  go_enter Tryz.func116, Tryz.ntmps116
  go_wp2_with fail
  go_quiet (fail)
  go_wp2_with fail
  go_ret
  exact ⟨ret_bool E.out.symm, _, rfl⟩
 have g2 : (a.n != b.n) = false := by simp [k2]
 by_cases k3 : a.s.toList = b.s.toList
 rotate_left
 ·have E : Hid (V.near a b = false) := V.near_false1 a b (by rw [← Bool.not_eq_true]; intro h; have h2 := V.above_true a b h; exact k3 (by first | exact h2.1 | exact h2.2.1 | (rw [h2.2.2.1]) | exact h2.2.2.2.1 | exact h2.2.2.2.2))
  have g3 : (a.s.toList == b.s.toList) = false := beq_eq_false_iff_ne.2 k3
  clear k1 k2 k3
  go_enter Tryz.func116, Tryz.ntmps116
  go_wp2_with fail
  go_quiet (fail)
  go_wp2_with fail
  go_ret
  exact ⟨ret_bool E.out.symm, _, rfl⟩
 by_cases k4 : a.l.length = b.l.length
 rotate_left
 ·have E : Hid (V.near a b = false) := V.near_false1 a b (by rw [← Bool.not_eq_true]; intro h; have h2 := V.above_true a b h; exact k4 (by first | exact h2.1 | exact h2.2.1 | (rw [h2.2.2.1]) | exact h2.2.2.2.1 | exact h2.2.2.2.2))
  have g4 : ((a.l.length : Int) != (b.l.length : Int)) = true := by rw [bne_iff_ne]; omega
  clear k1 k2 k4
  go_enter Tryz.func116, Tryz.ntmps116
  go_wp2_with fail
  go_quiet (fail)
  go_wp2_with fail
  go_ret
  exact ⟨ret_bool E.out.symm, _, rfl⟩
 have g4 : ((a.l.length : Int) != (b.l.length : Int)) = false := by simp [k4]
 by_cases k5 : a.f.length = b.f.length
 rotate_left
 ·have E : Hid (V.near a b = false) := V.near_false1 a b (by rw [← Bool.not_eq_true]; intro h; have h2 := V.above_true a b h; exact k5 (by first | exact h2.1 | exact h2.2.1 | (rw [h2.2.2.1]) | exact h2.2.2.2.1 | exact h2.2.2.2.2))
  have g5 : ((a.f.length : Int) != (b.f.length : Int)) = true := by rw [bne_iff_ne]; omega
  clear k1 k2 k4 k5
  go_enter Tryz.func116, Tryz.ntmps116
  go_wp2_with fail
  go_quiet (fail)
  go_wp2_with fail
  go_ret
  exact ⟨ret_bool E.out.symm, _, rfl⟩
 have g5 : ((a.f.length : Int) != (b.f.length : Int)) = false := by simp [k5]
 have hab : V.above a b = true := by
  unfold V.above
  simp only [Bool.and_eq_true, beq_iff_eq]
  exact ⟨k1, k2, k3, k4, k5⟩
 have HAB : Hid _ := hab
 have K5 : Hid _ := k5
 clear k1 k2 k4 k5 hab
 go_enter Tryz.func116, Tryz.ntmps116
 go_wp2_with fail
 go_quiet (fail)
 go_wp2_with fail
 go_loopw [68, 5] (fun vi _ wr => ∃ k : Nat, k ≤ a.f.length ∧ vi = .int .i64 k ∧ (∀ (j : Nat) (x y : ByteArray × Val), j < k → a.f[j]? = some x → b.f[j]? = some y → x.1.toList = y.1.toList) ∧ ∃ n, wr = w.drewN n) (fun vi _ _ => a.f.length - (intOf vi).toNat)
 case atStart => exact ⟨0, Nat.zero_le _, rfl, fun j _ _ hj => absurd hj (by omega), _, rfl⟩
 case round =>
  obtain ⟨k, hk, rfl, hok, n0, hW⟩ := hrel
  have HOK : Hid _ := hok
  have HW : Hid _ := hW
  have hcw : ∀ p, wr.cell? p = w.cell? p := fun p => by rw [hW]; rfl
  have HCW : Hid _ := hcw
  rw [← hcw] at p3 p4 q3 q4
  clear hok hW hcw
  by_cases hlt : k < a.f.length
  ·obtain ⟨p, off, cap, x, x0, x1, x2, x3, x4, e1, hx, _, un, _⟩ := V.elemF HF.out k hlt
   simp only [Value.slice.injEq] at e1
   obtain ⟨rfl, _, rfl⟩ := e1
   obtain ⟨p', off', cap', y, y0, y1, y2, y3, y4, e2, hy, _, vn, _⟩ := V.elemF HF2.out k (by have := K5.out; omega)
   simp only [Value.slice.injEq] at e2
   obtain ⟨rfl, _, rfl⟩ := e2
   rw [← HCW.out] at un vn
   have hltb : k < b.f.length := by have := K5.out; omega
   by_cases hnm : x.1.toList = y.1.toList
   ·have HN : Hid _ := hnm
    have HX : Hid _ := hx
    have HY : Hid _ := hy
    clear hx hy
    go_wp2_with fail
    go_quiet (fail)
    go_wp2_with fail
    go_roundw
    case rel =>
     refine ⟨k + 1, by omega, by go_num, fun j u v hj hu hv => ?_, by rw [HW.out]; exact drewN_some _ _ _⟩
     rcases Nat.lt_or_ge j k with h | h
     ·exact HOK.out j u v h hu hv
     ·have e : j = k := by omega
      rw [e, HX.out] at hu; rw [e, HY.out] at hv; cases hu; cases hv; exact HN.out
    case measure => simp [intOf]; omega
   ·have E : Hid (V.near a b = false) := V.near_false2 a b k x y hx hy hnm
    have g1 : (x.1.toList == y.1.toList) = false := beq_eq_false_iff_ne.2 hnm
    clear hx hy hnm
    go_wp2_with fail
    go_quiet (fail)
    go_wp2_with fail
    go_ret
    exact ⟨ret_bool E.out.symm, by rw [HW.out]; exact drewN_some _ _ _⟩
  ·have E : Hid (V.near a b = true) := V.near_true a b HAB.out (fun j x y hx hy => HOK.out j x y (by have := V.lt_of_get hx; omega) hx hy)
   go_wp2_with fail
   go_ret
   exact ⟨ret_bool E.out.symm, _, HW.out⟩
end Go.Proofs.YtbdbpfcblppnbaaGreatDoor.Vx
