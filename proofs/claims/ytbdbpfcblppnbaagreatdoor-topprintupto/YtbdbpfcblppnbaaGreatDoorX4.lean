/- LightStacks: it answers, whatever it is. -/
import Derived.Test.YtbdbpfcblppnbaaGreatDoorX3
namespace Go.Proofs.YtbdbpfcblppnbaaGreatDoor.Vx
open Go.RowKit
theorem X.elemA2 {w w1 : World} {v : Value} {n m : Nat} {l : List Ex} (h : V.Row w v n 10 (fun i c => ∃ x, l[i]? = some x ∧ X.Mem m w1 x c)) (i : Nat) (hi : i < n) :
  ∃ b off cap x d0 d1 d2 d3 d4 d5 d6 d7 d8 d9, v = .slice (some ⟨b, off, none⟩) n cap ∧ l[i]? = some x ∧ X.Mem m w1 x [d0, d1, d2, d3, d4, d5, d6, d7, d8, d9] ∧
   w.cell? ⟨b, off + i * 10, none⟩ = some d0 ∧ w.cell? ⟨b, off + i * 10 + 1, none⟩ = some d1 ∧ w.cell? ⟨b, off + i * 10 + 2, none⟩ = some d2 ∧ w.cell? ⟨b, off + i * 10 + 3, none⟩ = some d3 ∧ w.cell? ⟨b, off + i * 10 + 4, none⟩ = some d4 ∧
   w.cell? ⟨b, off + i * 10 + 5, none⟩ = some d5 ∧ w.cell? ⟨b, off + i * 10 + 6, none⟩ = some d6 ∧ w.cell? ⟨b, off + i * 10 + 7, none⟩ = some d7 ∧ w.cell? ⟨b, off + i * 10 + 8, none⟩ = some d8 ∧ w.cell? ⟨b, off + i * 10 + 9, none⟩ = some d9 := by
 obtain ⟨ao, cap, rfl, h | ⟨b, off, rfl, h⟩⟩ := h
 ·omega
 ·obtain ⟨cs, h1, h2, x, hx, hm⟩ := h i hi
  match cs, h1 with
  | [d0, d1, d2, d3, d4, d5, d6, d7, d8, d9], _ => exact ⟨b, off, cap, x, d0, d1, d2, d3, d4, d5, d6, d7, d8, d9, rfl, hx, hm, h2 0 (by omega), h2 1 (by omega), h2 2 (by omega), h2 3 (by omega), h2 4 (by omega), h2 5 (by omega), h2 6 (by omega), h2 7 (by omega), h2 8 (by omega), h2 9 (by omega)⟩
set_option maxRecDepth 100000 in
set_option maxHeartbeats 4000000 in
theorem load_any (most : Int) (m : Nat) : ∀ (w : World) (e : Ex) (d0 d1 d2 d3 d4 d5 d6 d7 d8 d9 : Value), X.Mem m w e [d0, d1, d2, d3, d4, d5, d6, d7, d8, d9] → X.bulk m e ≤ 2000000 →
  Calls Tryz.prog 14 #[.agg #[d0, d1, d2, d3, d4, d5, d6, d7, d8, d9], .int .i64 most] w fun o w' => (∃ n : Int, o = .returned (.int .i64 n)) ∧ Below w.heap.size w w' := by
 induction m with
 | zero => intro w e d0 d1 d2 d3 d4 d5 d6 d7 d8 d9 h; exact h.elim
 | succ m ih =>
  intro w e d0 d1 d2 d3 d4 d5 d6 d7 d8 d9 ⟨c0, c1, c2, c3, c4, av, nv, hcs, hv, ha, hn⟩ hbk
  simp only [List.cons.injEq, and_true] at hcs
  obtain ⟨rfl, rfl, rfl, rfl, rfl, rfl, rfl, rfl, rfl, rfl⟩ := hcs
  obtain ⟨aa, ca, rfl⟩ := ha.shape
  obtain ⟨an, cn, rfl⟩ := hn.shape
  have IH : Hid _ := ih
  clear ih
  have HBK := hide hbk
  rw [X.bulk] at hbk
  have hbL : Below w.heap.size w (w.alloc (.cells #[.int .i64 e.kind, d1, d2, d3, d4, d5, .string e.s, .string e.t, .slice aa e.a.length ca, .slice an e.n.length cn] 57)) := (Below.refl _ _).alloc (Nat.le_refl _) _
  have hE0 : (w.alloc (.cells #[.int .i64 e.kind, d1, d2, d3, d4, d5, .string e.s, .string e.t, .slice aa e.a.length ca, .slice an e.n.length cn] 57)).heap[w.heap.size]? = some (.cells #[.int .i64 e.kind, d1, d2, d3, d4, d5, .string e.s, .string e.t, .slice aa e.a.length ca, .slice an e.n.length cn] 57 (0, 0)) := heap_alloc_new _ _
  have hs1 : e.s.size ≤ 2000000 := by omega
  have hs2 : e.t.size ≤ 2000000 := by omega
  have hs3 : e.n.length ≤ 2000000 := by omega
  have hs4 : e.a.length ≤ 2000000 := by omega
  have hd0 : Below (w.alloc (.cells #[.int .i64 e.kind, d1, d2, d3, d4, d5, .string e.s, .string e.t, .slice aa e.a.length ca, .slice an e.n.length cn] 57)).heap.size (w.alloc (.cells #[.int .i64 e.kind, d1, d2, d3, d4, d5, .string e.s, .string e.t, .slice aa e.a.length ca, .slice an e.n.length cn] 57)) (w.alloc (.cells #[.int .i64 e.kind, d1, d2, d3, d4, d5, .string e.s, .string e.t, .slice aa e.a.length ca, .slice an e.n.length cn] 57)).drew := (Below.refl _ _).drew
  have HW : Hid (∀ w', Below (w.alloc (.cells #[.int .i64 e.kind, d1, d2, d3, d4, d5, .string e.s, .string e.t, .slice aa e.a.length ca, .slice an e.n.length cn] 57)).heap.size (w.alloc (.cells #[.int .i64 e.kind, d1, d2, d3, d4, d5, .string e.s, .string e.t, .slice aa e.a.length ca, .slice an e.n.length cn] 57)) w' → Calls Tryz.prog 13 #[.agg #[d1, d2, d3, d4, d5], .int .i64 most] w' fun e w'' => (∃ n : Int, e = .returned (.int .i64 n)) ∧ Below w'.heap.size w' w'') := fun w' hb =>
   weight_any most (m + 1) w' e.v d1 d2 d3 d4 d5 (V.Mem.kept _ hv (hbL.trans (hb.mono hbL.size))) (by omega)
  have g6 := cell_of_block hE0 6 _ rfl
  have g7 := cell_of_block hE0 7 _ rfl
  have g1 := cell_of_block hE0 1 _ rfl
  have g2 := cell_of_block hE0 2 _ rfl
  have g3 := cell_of_block hE0 3 _ rfl
  have g4 := cell_of_block hE0 4 _ rfl
  have g5 := cell_of_block hE0 5 _ rfl
  have g9 := cell_of_block hE0 9 _ rfl
  have HA := hide ha
  have HNN := hide hn
  have HE0 := hide hE0
  have HBL := hide hbL
  clear hv ha hn hbk hE0 hbL
  go_enter Tryz.func14, Tryz.ntmps14
  go_wp2_with fail
  go_region_held3 (fun W' => W'.cell? ⟨w.heap.size, 6, none⟩ = some (.string e.s) ∧ W'.cell? ⟨w.heap.size, 7, none⟩ = some (.string e.t) ∧ W'.cell? ⟨w.heap.size, 1, none⟩ = some d1 ∧ W'.cell? ⟨w.heap.size, 2, none⟩ = some d2 ∧ W'.cell? ⟨w.heap.size, 3, none⟩ = some d3 ∧ W'.cell? ⟨w.heap.size, 4, none⟩ = some d4 ∧ W'.cell? ⟨w.heap.size, 5, none⟩ = some d5 ∧ W'.cell? ⟨w.heap.size, 9, none⟩ = some (.slice an e.n.length cn) ∧ Below (w.alloc (.cells #[.int .i64 e.kind, d1, d2, d3, d4, d5, .string e.s, .string e.t, .slice aa e.a.length ca, .slice an e.n.length cn] 57)).heap.size (w.alloc (.cells #[.int .i64 e.kind, d1, d2, d3, d4, d5, .string e.s, .string e.t, .slice aa e.a.length ca, .slice an e.n.length cn] 57)) W') (first | exact ⟨g6, g7, g1, g2, g3, g4, g5, g9, hd0⟩ | exact ⟨q6, q7, q1, q2, q3, q4, q5, q9, t3⟩ | go_keep)
   (first | (go_at_call 13; (with_reducible refine Calls.mono (HW.out _ ?_) ?_); assumption; rintro o w2 ⟨⟨n2, rfl⟩, hb2⟩; have t3 := hd0.trans (hb2.mono (Nat.le_refl _)); have q6 := kept_cell t3 g6; have q7 := kept_cell t3 g7; have q1 := kept_cell t3 g1; have q2 := kept_cell t3 g2; have q3 := kept_cell t3 g3; have q4 := kept_cell t3 g4; have q5 := kept_cell t3 g5; have q9 := kept_cell t3 g9))
  have hE2 : w2.heap[w.heap.size]? = some (.cells #[.int .i64 e.kind, d1, d2, d3, d4, d5, .string e.s, .string e.t, .slice aa e.a.length ca, .slice an e.n.length cn] 57 (0, 0)) := (t3.block w.heap.size (lt_alloc w _)).trans HE0.out
  have hB2 : Below w.heap.size w w2 := HBL.out.trans (t3.mono HBL.out.size)
  have HE2 := hide hE2
  have HB2 := hide hB2
  clear q6 q7 q1 q2 q3 q4 q5 q9 t3 hb2 g6 g7 g1 g2 g3 g4 g5 g9 hd0 HW hE2 hB2 HE0 HBL
  go_wp2_with fail
  go_loopw [5, 6] (fun vn vi wr => ∃ k : Nat, k ≤ e.n.length ∧ vi = .int .i64 k ∧ (∃ n : Int, vn = .int .i64 n) ∧ wr.heap[w.heap.size]? = some (.cells #[.int .i64 e.kind, d1, d2, d3, d4, d5, .string e.s, .string e.t, .slice aa e.a.length ca, .slice an e.n.length cn] 57 (0, 0)) ∧ Below w.heap.size w wr)
   (fun _ vi _ => e.n.length - (intOf vi).toNat)
  case atStart => exact ⟨0, Nat.zero_le _, rfl, ⟨_, rfl⟩, HE2.out, HB2.out⟩
  case round =>
   clear HE2 HB2
   obtain ⟨k, hk, rfl, ⟨n, rfl⟩, hblk, hB⟩ := hrel
   have b9 := cell_of_block hblk 9 _ rfl
   have b8 := cell_of_block hblk 8 _ rfl
   have hgo : (k < e.n.length ∧ n ≤ most) ∨ ¬ k < e.n.length ∨ (k < e.n.length ∧ most < n) := by omega
   rcases hgo with ⟨hlt, hn⟩ | hno
   ·obtain ⟨b, off, cap, x, e1, hx, y0⟩ := X.elemN (HNN.out.kept hB (fun _ _ h => h)) k hlt
    simp only [Value.slice.injEq] at e1
    obtain ⟨rfl, _, rfl⟩ := e1
    clear b8
    go_wp2_with fail
    go_roundw
    case rel => exact ⟨k + 1, by omega, by go_num, ⟨_, rfl⟩, hblk, hB⟩
    case measure => simp [intOf]; omega
   ·rcases hno with hno | ⟨hno, hn⟩
    all_goals
     go_wp2_with fail
     go_loopw [5, 7] (fun vn vi wr => ∃ k : Nat, k ≤ e.a.length ∧ vi = .int .i64 k ∧ (∃ n : Int, vn = .int .i64 n) ∧ wr.heap[w.heap.size]? = some (.cells #[.int .i64 e.kind, d1, d2, d3, d4, d5, .string e.s, .string e.t, .slice aa e.a.length ca, .slice an e.n.length cn] 57 (0, 0)) ∧ Below w.heap.size w wr)
      (fun _ vi _ => e.a.length - (intOf vi).toNat)
     case atStart => exact ⟨0, Nat.zero_le _, rfl, ⟨_, rfl⟩, hblk, hB⟩
     case round =>
      clear hblk hB b9 b8
      obtain ⟨k, hk, rfl, ⟨n, rfl⟩, hblk, hB⟩ := hrel
      have b8 := cell_of_block hblk 8 _ rfl
      have hgo : (k < e.a.length ∧ n ≤ most) ∨ ¬ k < e.a.length ∨ (k < e.a.length ∧ most < n) := by omega
      rcases hgo with ⟨hlt, hn⟩ | hno
      ·obtain ⟨b, off, cap, x, f0, f1, f2, f3, f4, f5, f6, f7, f8, f9, e1, hx, hm, y0, y1, y2, y3, y4, y5, y6, y7, y8, y9⟩ := X.elemA2 (w1 := wr) (HA.out.kept hB (fun _ _ ⟨x, hx, hm⟩ => ⟨x, hx, X.Mem.kept m hm hB⟩)) k hlt
       simp only [Value.slice.injEq] at e1
       obtain ⟨rfl, _, rfl⟩ := e1
       have hbx : X.bulk m x ≤ 2000000 := X.bulk_a m e x (List.mem_of_getElem? hx) _ HBK.out
       have hlt2 : w.heap.size < wr.heap.size := (blt hblk)
       have HI := hide (IH.out wr x f0 f1 f2 f3 f4 f5 f6 f7 f8 f9 hm hbx)
       have HBLK := hide hblk
       clear hm hx hbx
       go_wp2_with fail
       refine HI.out.mono ?_
       rintro o w3 ⟨⟨n2, rfl⟩, hb3⟩
       clear HI y0 y1 y2 y3 y4 y5 y6 y7 y8 y9 b8
       go_wp2_with fail
       go_roundw
       case rel => exact ⟨k + 1, by omega, by go_num, ⟨_, rfl⟩, (hb3.block w.heap.size hlt2).trans HBLK.out, hB.trans (hb3.mono hB.size)⟩
       case measure => simp [intOf]; omega
      ·rcases hno with hno | ⟨hno, hn⟩
       all_goals
        go_wp2_with fail
        go_ret
        exact ⟨⟨_, rfl⟩, hB⟩
end Go.Proofs.YtbdbpfcblppnbaaGreatDoor.Vx
namespace Go.Proofs.YtbdbpfcblppnbaaGreatDoor.Vx
open Go.RowKit
def X.SomeB (o : Ending) : Prop := ∃ b : Bool, o = .returned (.bool b)
theorem X.elemP {m : Nat} {w : World} {v : Value} {l : List (ByteArray × Ex)} (h : X.Named m w v l) (i : Nat) (hi : i < l.length) :
  ∃ b off cap x f0 f1 f2 f3 f4 f5 f6 f7 f8 f9, v = .slice (some ⟨b, off, none⟩) l.length cap ∧ l[i]? = some x ∧ X.Mem m w x.2 [f0, f1, f2, f3, f4, f5, f6, f7, f8, f9] ∧ w.cell? ⟨b, off + i * 11, none⟩ = some (.string x.1) ∧
   w.cell? ⟨b, off + i * 11 + 1, none⟩ = some f0 ∧ w.cell? ⟨b, off + i * 11 + 2, none⟩ = some f1 ∧ w.cell? ⟨b, off + i * 11 + 3, none⟩ = some f2 ∧ w.cell? ⟨b, off + i * 11 + 4, none⟩ = some f3 ∧ w.cell? ⟨b, off + i * 11 + 5, none⟩ = some f4 ∧ w.cell? ⟨b, off + i * 11 + 6, none⟩ = some f5 ∧ w.cell? ⟨b, off + i * 11 + 7, none⟩ = some f6 ∧ w.cell? ⟨b, off + i * 11 + 8, none⟩ = some f7 ∧ w.cell? ⟨b, off + i * 11 + 9, none⟩ = some f8 ∧ w.cell? ⟨b, off + i * 11 + 10, none⟩ = some f9 := by
 obtain ⟨b, off, cap, x, al, cl, af, cf, aa, ca, an, cn, h1, h2, h3, h4, h5, h6, h7, h8, h9, k1, k2, k3, k4, k5⟩ := X.elemE h i hi
 exact ⟨b, off, cap, x, _, _, _, _, _, _, _, _, _, _, h1, h2, h3, h4, h5, h6, h7, h8, h9, k1, k2, k3, k4, k5⟩
set_option maxRecDepth 100000 in
set_option maxHeartbeats 8000000 in
theorem lightStacks_any (m : Nat) (l : List Sk) (v : Value) (w : World) (h : X.Stks m w v l) (hbk : ∀ x : Sk, x ∈ l → X.bulkS m x ≤ 2000000) :
  Calls Tryz.prog 5 #[v] w fun o w' => X.SomeB o ∧ Below w.heap.size w w' := by
 obtain ⟨av, cv, rfl⟩ := V.Row.shape h
 have H := hide h
 have HBK := hide hbk
 clear h hbk
 by_cases hlen : 12 < l.length
 ·go_enter Tryz.func5, Tryz.ntmps5
  go_wp2_with fail
  go_ret
  exact ⟨⟨false, rfl⟩, Below.refl _ _⟩
 go_enter Tryz.func5, Tryz.ntmps5
 go_wp2_with fail
 go_loopw [3, 4] (fun vn vi wr => ∃ k : Nat, k ≤ l.length ∧ vi = .int .i64 k ∧ (∃ n : Int, vn = .int .i64 n) ∧ Below w.heap.size w wr) (fun _ vi _ => l.length - (intOf vi).toNat)
 case atStart => exact ⟨0, Nat.zero_le _, rfl, ⟨_, rfl⟩, Below.refl _ _⟩
 case round =>
  obtain ⟨wO, hwO⟩ : ∃ z, z = wr := ⟨_, rfl⟩
  subst hwO
  obtain ⟨i, hi, rfl, ⟨n, rfl⟩, hB⟩ := hrel
  by_cases hlt : i < l.length
  ·obtain ⟨b, off, cap, x, ai, ci, ar, cr, ao, co, e1, hx, hI, hR, hO, y0, y1, y2, y3⟩ := X.elemS (H.out.kept hB) i hlt
   simp only [Value.slice.injEq] at e1
   obtain ⟨rfl, _, rfl⟩ := e1
   have hbx : X.bulkS m x ≤ 2000000 := HBK.out x (List.mem_of_getElem? hx)
   have hbL : Below wO.heap.size wO (wO.alloc (.cells #[.string x.name, .slice ai x.ins.length ci, .slice ar x.res.length cr, .slice ao x.outs.length co] 41)) := (Below.refl _ _).alloc (Nat.le_refl _) _
   have hE0 : (wO.alloc (.cells #[.string x.name, .slice ai x.ins.length ci, .slice ar x.res.length cr, .slice ao x.outs.length co] 41)).heap[wO.heap.size]? = some (.cells #[.string x.name, .slice ai x.ins.length ci, .slice ar x.res.length cr, .slice ao x.outs.length co] 41 (0, 0)) := heap_alloc_new _ _
   have hbs := id hbx
   unfold X.bulkS at hbs
   have HE0 := hide hE0
   have HBL := hide hbL
   have HI := hide hI
   have HR := hide hR
   have HO := hide hO
   have HS1 : Hid (X.sumI m x.ins ≤ 2000000) := by show _ ≤ _; omega
   have HS2 : Hid (X.sumR m x.res ≤ 2000000) := by show _ ≤ _; omega
   have HS3 : Hid (X.sumP m x.outs ≤ 2000000) := by show _ ≤ _; omega
   have hl1 : x.ins.length ≤ 2000000 := by omega
   have hl2 : x.res.length ≤ 2000000 := by omega
   have hl3 : x.outs.length ≤ 2000000 := by omega
   have HB := hide hB
   clear hE0 hbL hI hR hO hx hbx hbs hB
   go_wp2_with fail
   all_goals try (go_ret; exact ⟨⟨false, rfl⟩, HB.out.trans (HBL.out.mono HB.out.size)⟩)
   clear y0 y1 y2 y3
   go_loopw [3, 6] (fun vn vi wy => ∃ k : Nat, k ≤ x.ins.length ∧ vi = .int .i64 k ∧ (∃ n : Int, vn = .int .i64 n) ∧ wy.heap[wO.heap.size]? = some (.cells #[.string x.name, .slice ai x.ins.length ci, .slice ar x.res.length cr, .slice ao x.outs.length co] 41 (0, 0)) ∧ Below wO.heap.size wO wy) (fun _ vi _ => x.ins.length - (intOf vi).toNat)
   case atStart => exact ⟨0, Nat.zero_le _, rfl, ⟨_, rfl⟩, HE0.out, HBL.out⟩
   case round =>
    obtain ⟨wy, hwy⟩ : ∃ z, z = wr := ⟨_, rfl⟩
    subst hwy
    clear HE0 HBL
    obtain ⟨k, hk, rfl, ⟨n, rfl⟩, hblk, hBy⟩ := hrel
    have b1 := cell_of_block hblk 1 _ rfl
    by_cases hlt : k < x.ins.length
    ·obtain ⟨b2, off2, cap2, u, f0, f1, f2, f3, f4, e1, hu, hm, zn, z0, z1, z2, z3, z4⟩ := V.elemF (HI.out.kept hBy) k hlt
     simp only [Value.slice.injEq] at e1
     obtain ⟨rfl, _, rfl⟩ := e1
     have hbu : V.bulk m u.2 ≤ 2000000 := (X.sumI_mem (List.mem_of_getElem? hu) HS1.out).2
     have hlt2 : wO.heap.size < wy.heap.size := (blt hblk)
     have HC : Hid (∀ w', Below wy.heap.size wy w' → Calls Tryz.prog 13 #[.agg #[f0, f1, f2, f3, f4], .int .i64 9000] w' fun e w'' => (∃ n : Int, e = .returned (.int .i64 n)) ∧ Below w'.heap.size w' w'') := fun w' hb => weight_any 9000 m w' u.2 f0 f1 f2 f3 f4 (V.Mem.kept _ hm hb) hbu
     have hd0 : Below wy.heap.size wy wy.drew := (Below.refl _ _).drew
     have HBLK := hide hblk
     have HBY := hide hBy
     clear hm hu hbu hblk hBy
     go_wp2_with fail
     go_region_held3 (fun W' => W'.cell? ⟨wO.heap.size, 1, none⟩ = some (.slice (some ⟨b2, off2, none⟩) x.ins.length ci) ∧ W'.cell? ⟨b2, off2 + k * 6, none⟩ = some (.string u.1) ∧ W'.cell? ⟨b2, off2 + k * 6 + 1, none⟩ = some f0 ∧ W'.cell? ⟨b2, off2 + k * 6 + 2, none⟩ = some f1 ∧ W'.cell? ⟨b2, off2 + k * 6 + 3, none⟩ = some f2 ∧ W'.cell? ⟨b2, off2 + k * 6 + 4, none⟩ = some f3 ∧ W'.cell? ⟨b2, off2 + k * 6 + 5, none⟩ = some f4 ∧ Below wy.heap.size wy W') (first | exact ⟨b1, zn, z0, z1, z2, z3, z4, hd0⟩ | exact ⟨q, qn, q0, q1, q2, q3, q4, t3⟩ | go_keep)
      (first | (go_at_call 13; (with_reducible refine Calls.mono (HC.out _ ?_) ?_); assumption; rintro o w3 ⟨⟨n2, rfl⟩, hb3⟩; have t3 := hd0.trans (hb3.mono (Nat.le_refl _)); have q := kept_cell t3 b1; have qn := kept_cell t3 zn; have q0 := kept_cell t3 z0; have q1 := kept_cell t3 z1; have q2 := kept_cell t3 z2; have q3 := kept_cell t3 z3; have q4 := kept_cell t3 z4))
     have HT := hide t3
     clear t3 q qn q0 q1 q2 q3 q4 b1 zn z0 z1 z2 z3 z4 hb3 hd0 HC
     go_wp2_with fail
     go_roundw
     case rel => exact ⟨k + 1, by omega, by go_num, ⟨_, rfl⟩, (HT.out.block wO.heap.size hlt2).trans HBLK.out, HBY.out.trans (HT.out.mono HBY.out.size)⟩
     case measure => simp [intOf]; omega
    ·go_wp2_with fail
     clear b1
     go_loopw [3, 7] (fun vn vi wy => ∃ k : Nat, k ≤ x.res.length ∧ vi = .int .i64 k ∧ (∃ n : Int, vn = .int .i64 n) ∧ wy.heap[wO.heap.size]? = some (.cells #[.string x.name, .slice ai x.ins.length ci, .slice ar x.res.length cr, .slice ao x.outs.length co] 41 (0, 0)) ∧ Below wO.heap.size wO wy) (fun _ vi _ => x.res.length - (intOf vi).toNat)
     case atStart => exact ⟨0, Nat.zero_le _, rfl, ⟨_, rfl⟩, hblk, hBy⟩
     case round =>
      clear hblk hBy
      obtain ⟨wy, hwy⟩ : ∃ z, z = wr := ⟨_, rfl⟩
      subst hwy
      obtain ⟨j, hj, rfl, ⟨n, rfl⟩, hblk, hBy⟩ := hrel
      have b1 := cell_of_block hblk 2 _ rfl
      have hgo : (j < x.res.length ∧ n < 9000) ∨ ¬ j < x.res.length ∨ (j < x.res.length ∧ 9000 ≤ n) := by omega
      rcases hgo with ⟨hltj, hn⟩ | hno
      ·obtain ⟨b3, off3, cap3, y, ap, cp, e1, hy, hNm, z0, z1, z2⟩ := X.elemR (HR.out.kept hBy) j hltj
       simp only [Value.slice.injEq] at e1
       obtain ⟨rfl, _, rfl⟩ := e1
       have hsp : X.sumP m y.parts ≤ 2000000 := (X.sumR_mem (List.mem_of_getElem? hy) HS2.out).2.2
       have hlo : wO.heap.size < wy.heap.size := (blt hblk)
       have hbL3 : Below wy.heap.size wy (wy.alloc (.cells #[.string y.kind, .string y.name, .slice ap y.parts.length cp] 53)) := (Below.refl _ _).alloc (Nat.le_refl _) _
       have hE3 : (wy.alloc (.cells #[.string y.kind, .string y.name, .slice ap y.parts.length cp] 53)).heap[wy.heap.size]? = some (.cells #[.string y.kind, .string y.name, .slice ap y.parts.length cp] 53 (0, 0)) := heap_alloc_new _ _
       have HSP := hide hsp
       have HL3 := hide hbL3
       have HE3 := hide hE3
       have HNM := hide hNm
       have HBLK3 := hide hblk
       have HBY3 := hide hBy
       clear hsp hbL3 hE3 hNm hblk hBy hy
       by_cases hpl : 12 < y.parts.length
       ·go_wp2_with fail
        go_ret
        exact ⟨⟨false, rfl⟩, HB.out.trans ((HBY3.out.trans (HL3.out.mono HBY3.out.size)).mono HB.out.size)⟩
       ·go_wp2_with fail
        clear z0 z1 z2 b1
        go_loopw [3, 9] (fun vn vi wz => ∃ k : Nat, k ≤ y.parts.length ∧ vi = .int .i64 k ∧ (∃ n : Int, vn = .int .i64 n) ∧ wz.heap[wy.heap.size]? = some (.cells #[.string y.kind, .string y.name, .slice ap y.parts.length cp] 53 (0, 0)) ∧ Below wy.heap.size wy wz) (fun _ vi _ => y.parts.length - (intOf vi).toNat)
        case atStart => exact ⟨0, Nat.zero_le _, rfl, ⟨_, rfl⟩, HE3.out, HL3.out⟩
        case round =>
         clear HE3 HL3
         obtain ⟨wz, hwz⟩ : ∃ z, z = wr := ⟨_, rfl⟩
         subst hwz
         obtain ⟨k, hk, rfl, ⟨n, rfl⟩, hblk, hBy⟩ := hrel
         have b1 := cell_of_block hblk 2 _ rfl
         have hgo : (k < y.parts.length ∧ n < 9000) ∨ ¬ k < y.parts.length ∨ (k < y.parts.length ∧ 9000 ≤ n) := by omega
         rcases hgo with ⟨hlt, hn⟩ | hno
         ·obtain ⟨b2, off2, cap2, u, f0, f1, f2, f3, f4, f5, f6, f7, f8, f9, e1, hu, hm, zn, z0, z1, z2, z3, z4, z5, z6, z7, z8, z9⟩ := X.elemP (HNM.out.kept hBy) k hlt
          simp only [Value.slice.injEq] at e1
          obtain ⟨rfl, _, rfl⟩ := e1
          have hbu : X.bulk m u.2 ≤ 2000000 := (X.sumP_mem (List.mem_of_getElem? hu) HSP.out).2
          have hlt2 : wy.heap.size < wz.heap.size := (blt hblk)
          have HC : Hid (∀ w', Below wz.heap.size wz w' → Calls Tryz.prog 14 #[.agg #[f0, f1, f2, f3, f4, f5, f6, f7, f8, f9], .int .i64 9000] w' fun e w'' => (∃ n : Int, e = .returned (.int .i64 n)) ∧ Below w'.heap.size w' w'') := fun w' hb => load_any 9000 m w' u.2 f0 f1 f2 f3 f4 f5 f6 f7 f8 f9 (X.Mem.kept _ hm hb) hbu
          have hd0 : Below wz.heap.size wz wz.drew := (Below.refl _ _).drew
          have HBLK := hide hblk
          have HBY := hide hBy
          clear hm hu hbu hblk hBy
          go_wp2_with fail
          go_region_held3 (fun W' => W'.cell? ⟨wy.heap.size, 2, none⟩ = some (.slice (some ⟨b2, off2, none⟩) y.parts.length cp) ∧ W'.cell? ⟨b2, off2 + k * 11, none⟩ = some (.string u.1) ∧ W'.cell? ⟨b2, off2 + k * 11 + 1, none⟩ = some f0 ∧ W'.cell? ⟨b2, off2 + k * 11 + 2, none⟩ = some f1 ∧ W'.cell? ⟨b2, off2 + k * 11 + 3, none⟩ = some f2 ∧ W'.cell? ⟨b2, off2 + k * 11 + 4, none⟩ = some f3 ∧ W'.cell? ⟨b2, off2 + k * 11 + 5, none⟩ = some f4 ∧ W'.cell? ⟨b2, off2 + k * 11 + 6, none⟩ = some f5 ∧ W'.cell? ⟨b2, off2 + k * 11 + 7, none⟩ = some f6 ∧ W'.cell? ⟨b2, off2 + k * 11 + 8, none⟩ = some f7 ∧ W'.cell? ⟨b2, off2 + k * 11 + 9, none⟩ = some f8 ∧ W'.cell? ⟨b2, off2 + k * 11 + 10, none⟩ = some f9 ∧ Below wz.heap.size wz W') (first | exact ⟨b1, zn, z0, z1, z2, z3, z4, z5, z6, z7, z8, z9, hd0⟩ | exact ⟨q, qn, q0, q1, q2, q3, q4, q5, q6, q7, q8, q9, t3⟩ | go_keep)
           (first | (go_at_call 14; (with_reducible refine Calls.mono (HC.out _ ?_) ?_); assumption; rintro o w3 ⟨⟨n2, rfl⟩, hb3⟩; have t3 := hd0.trans (hb3.mono (Nat.le_refl _)); have q := kept_cell t3 b1; have qn := kept_cell t3 zn; have q0 := kept_cell t3 z0; have q1 := kept_cell t3 z1; have q2 := kept_cell t3 z2; have q3 := kept_cell t3 z3; have q4 := kept_cell t3 z4; have q5 := kept_cell t3 z5; have q6 := kept_cell t3 z6; have q7 := kept_cell t3 z7; have q8 := kept_cell t3 z8; have q9 := kept_cell t3 z9))
          have HT := hide t3
          clear t3 q qn q0 q1 q2 q3 q4 q5 q6 q7 q8 q9 b1 zn z0 z1 z2 z3 z4 z5 z6 z7 z8 z9 hb3 hd0 HC
          go_wp2_with fail
          go_roundw
          case rel => exact ⟨k + 1, by omega, by go_num, ⟨_, rfl⟩, (HT.out.block wy.heap.size hlt2).trans HBLK.out, HBY.out.trans (HT.out.mono HBY.out.size)⟩
          case measure => simp [intOf]; omega
         ·rcases hno with hno | ⟨hno, hn⟩
          all_goals
           go_wp2_with fail
           go_roundw
           case rel => exact ⟨j + 1, by omega, by go_num, ⟨_, rfl⟩, (hBy.block wO.heap.size hlo).trans HBLK3.out, HBY3.out.trans (hBy.mono HBY3.out.size)⟩
           case measure => simp [intOf]; omega
      ·rcases hno with hno | ⟨hno, hn⟩
       all_goals
        go_wp2_with fail
        clear b1
        go_loopw [3, 10] (fun vn vi wy => ∃ k : Nat, k ≤ x.outs.length ∧ vi = .int .i64 k ∧ (∃ n : Int, vn = .int .i64 n) ∧ wy.heap[wO.heap.size]? = some (.cells #[.string x.name, .slice ai x.ins.length ci, .slice ar x.res.length cr, .slice ao x.outs.length co] 41 (0, 0)) ∧ Below wO.heap.size wO wy) (fun _ vi _ => x.outs.length - (intOf vi).toNat)
        case atStart => exact ⟨0, Nat.zero_le _, rfl, ⟨_, rfl⟩, hblk, hBy⟩
        case round =>
         clear hblk hBy
         obtain ⟨wz, hwz⟩ : ∃ z, z = wr := ⟨_, rfl⟩
         subst hwz
         obtain ⟨k, hk, rfl, ⟨n, rfl⟩, hblk, hBy⟩ := hrel
         have b1 := cell_of_block hblk 3 _ rfl
         have hgo : (k < x.outs.length ∧ n < 9000) ∨ ¬ k < x.outs.length ∨ (k < x.outs.length ∧ 9000 ≤ n) := by omega
         rcases hgo with ⟨hlt, hn⟩ | hno
         ·obtain ⟨b2, off2, cap2, u, f0, f1, f2, f3, f4, f5, f6, f7, f8, f9, e1, hu, hm, zn, z0, z1, z2, z3, z4, z5, z6, z7, z8, z9⟩ := X.elemP (HO.out.kept hBy) k hlt
          simp only [Value.slice.injEq] at e1
          obtain ⟨rfl, _, rfl⟩ := e1
          have hbu : X.bulk m u.2 ≤ 2000000 := (X.sumP_mem (List.mem_of_getElem? hu) HS3.out).2
          have hlt2 : wO.heap.size < wz.heap.size := (blt hblk)
          have HC : Hid (∀ w', Below wz.heap.size wz w' → Calls Tryz.prog 14 #[.agg #[f0, f1, f2, f3, f4, f5, f6, f7, f8, f9], .int .i64 9000] w' fun e w'' => (∃ n : Int, e = .returned (.int .i64 n)) ∧ Below w'.heap.size w' w'') := fun w' hb => load_any 9000 m w' u.2 f0 f1 f2 f3 f4 f5 f6 f7 f8 f9 (X.Mem.kept _ hm hb) hbu
          have hd0 : Below wz.heap.size wz wz.drew := (Below.refl _ _).drew
          have HBLK := hide hblk
          have HBY := hide hBy
          clear hm hu hbu hblk hBy
          go_wp2_with fail
          go_region_held3 (fun W' => W'.cell? ⟨wO.heap.size, 3, none⟩ = some (.slice (some ⟨b2, off2, none⟩) x.outs.length co) ∧ W'.cell? ⟨b2, off2 + k * 11, none⟩ = some (.string u.1) ∧ W'.cell? ⟨b2, off2 + k * 11 + 1, none⟩ = some f0 ∧ W'.cell? ⟨b2, off2 + k * 11 + 2, none⟩ = some f1 ∧ W'.cell? ⟨b2, off2 + k * 11 + 3, none⟩ = some f2 ∧ W'.cell? ⟨b2, off2 + k * 11 + 4, none⟩ = some f3 ∧ W'.cell? ⟨b2, off2 + k * 11 + 5, none⟩ = some f4 ∧ W'.cell? ⟨b2, off2 + k * 11 + 6, none⟩ = some f5 ∧ W'.cell? ⟨b2, off2 + k * 11 + 7, none⟩ = some f6 ∧ W'.cell? ⟨b2, off2 + k * 11 + 8, none⟩ = some f7 ∧ W'.cell? ⟨b2, off2 + k * 11 + 9, none⟩ = some f8 ∧ W'.cell? ⟨b2, off2 + k * 11 + 10, none⟩ = some f9 ∧ Below wz.heap.size wz W') (first | exact ⟨b1, zn, z0, z1, z2, z3, z4, z5, z6, z7, z8, z9, hd0⟩ | exact ⟨q, qn, q0, q1, q2, q3, q4, q5, q6, q7, q8, q9, t3⟩ | go_keep)
           (first | (go_at_call 14; (with_reducible refine Calls.mono (HC.out _ ?_) ?_); assumption; rintro o w3 ⟨⟨n2, rfl⟩, hb3⟩; have t3 := hd0.trans (hb3.mono (Nat.le_refl _)); have q := kept_cell t3 b1; have qn := kept_cell t3 zn; have q0 := kept_cell t3 z0; have q1 := kept_cell t3 z1; have q2 := kept_cell t3 z2; have q3 := kept_cell t3 z3; have q4 := kept_cell t3 z4; have q5 := kept_cell t3 z5; have q6 := kept_cell t3 z6; have q7 := kept_cell t3 z7; have q8 := kept_cell t3 z8; have q9 := kept_cell t3 z9))
          have HT := hide t3
          clear t3 q qn q0 q1 q2 q3 q4 q5 q6 q7 q8 q9 b1 zn z0 z1 z2 z3 z4 z5 z6 z7 z8 z9 hb3 hd0 HC
          go_wp2_with fail
          go_roundw
          case rel => exact ⟨k + 1, by omega, by go_num, ⟨_, rfl⟩, (HT.out.block wO.heap.size hlt2).trans HBLK.out, HBY.out.trans (HT.out.mono HBY.out.size)⟩
          case measure => simp [intOf]; omega
         ·rcases hno with hno | ⟨hno, hn⟩
          all_goals
           by_cases h9 : 9000 < n
           ·go_wp2_with fail
            go_ret
            exact ⟨⟨false, rfl⟩, HB.out.trans (hBy.mono HB.out.size)⟩
           ·go_wp2_with fail
            go_roundw
            case rel => exact ⟨i + 1, by omega, by go_num, ⟨_, rfl⟩, HB.out.trans (hBy.mono HB.out.size)⟩
            case measure => simp [intOf]; omega
  ·go_wp2_with fail
   go_ret
   exact ⟨⟨true, rfl⟩, hB⟩
end Go.Proofs.YtbdbpfcblppnbaaGreatDoor.Vx
