/- load: it answers, whatever it is. -/
import Derived.Test.YtienhelohfhhfaaXJ
import Derived.Test.YtienhelohfhhfaaGN
namespace Go.Proofs.Ytienhelohfhhfaa.Vx
open Go.RowKit
attribute [local go_sem ↓] Go.wp_at_zero Go.wp_at_succ
/-- What orderOf says. -/
def X.Ordered (NZ : List (List Int)) (w : World) (e : Ending) (w' : World) : Prop :=
  ((64 < NZ.length ∧ e = .returned (.tuple #[.slice none 0 0, .iface 68 (.int .i64 2)])) ∨
   (NZ.length ≤ 64 ∧ (∃ a x, a < NZ.length ∧ x ∈ Gr.row NZ a ∧ ¬ (0 ≤ x ∧ x < NZ.length)) ∧ e = .returned (.tuple #[.slice none 0 0, .iface 68 (.int .i64 1)])) ∨
   (NZ.length ≤ 64 ∧ (∀ a, a < NZ.length → ∀ x ∈ Gr.row NZ a, 0 ≤ x ∧ x < NZ.length) ∧ ∃ (N U : Gr.Net), Gr.Net2 NZ NZ.length N U ∧ ∃ k, Gr.Ends N NZ.length k ∧
     ((Gr.left N NZ.length k = 0 ∧ ∃ v, e = .returned (.tuple #[v, .nilIface]) ∧ Gr.Ints w' v (Gr.ofN (Gr.flat N NZ.length k))) ∨
      (Gr.left N NZ.length k ≠ 0 ∧ ∃ v, e = .returned (.tuple #[v, .iface 68 (.int .i64 8)]) ∧ Gr.Ints w' v [])))) ∧ Below w.heap.size w w'
set_option maxRecDepth 100000 in
set_option maxHeartbeats 2000000 in
theorem orderOf_any (NZ : List (List Int)) (v : Value) (w : World) (hL : Gr.Lists w v NZ) (ht : Gr.tot NZ ≤ 900) : Calls Try.prog 42 #[v] w (X.Ordered NZ w) := by
  have hnew := new_any NZ v w hL (Nat.le_trans ht (by decide))
  have hrl : ∀ i, i < NZ.length → (Gr.row NZ i).length ≤ 900 := by
    intro i hi
    have h1 := Gr.tot_take (L := NZ) (k := i) (List.getElem?_eq_getElem hi)
    have h2 := Gr.tot_le NZ (i + 1)
    have h3 : Gr.row NZ i = NZ[i] := by unfold Gr.row; rw [List.getD_eq_getElem?_getD, List.getElem?_eq_getElem hi]; rfl
    rw [h3]; omega
  have HN := hide hnew
  have HRL := hide hrl
  obtain ⟨av, cv, rfl, _⟩ := id hL
  clear hnew hrl hL
  go_enter Try.func42, Try.ntmps42
  go_wp2_with fail
  refine HN.out.mono ?_
  rintro o w1 ⟨⟨h1, rfl⟩ | ⟨h1, h2, rfl⟩ | ⟨h1, h2, b, N, U, hN, hG, rfl⟩, hb1⟩
  · clear HN HRL
    go_wp2_with fail
    go_ret2
    exact ⟨.inl ⟨h1, rfl⟩, hb1⟩
  · have H2 := hide h2
    clear HN HRL h2
    go_wp2_with fail
    go_ret2
    exact ⟨.inr (.inl ⟨h1, H2.out, rfl⟩), hb1⟩
  · have hod := order_any N NZ.length b _ w1 (by omega) hG hN.bn (fun i hi => by have h3 := hN.ln i hi; have h4 := HRL.out i hi; omega)
    have HOD := hide hod
    have H2 := hide h2
    have HN2 := hide hN
    have HB1 := hide hb1
    clear HN HRL hod h2 hG hN hb1
    go_wp2_with fail
    refine HOD.out.mono ?_
    rintro o w2 ⟨⟨k, hE, ⟨hl, u, rfl, hI⟩ | ⟨hl, u, rfl, hI⟩⟩, hb2⟩
    · have HL := hide hl
      have HE := hide hE
      clear HOD hl hE
      go_wp2_with fail
      go_ret2
      exact ⟨.inr (.inr ⟨h1, H2.out, N, U, HN2.out, k, HE.out, .inl ⟨HL.out, u, rfl, hI⟩⟩), HB1.out.trans (hb2.mono HB1.out.size)⟩
    · have HL := hide hl
      have HE := hide hE
      clear HOD hl hE
      go_wp2_with fail
      go_ret2
      exact ⟨.inr (.inr ⟨h1, H2.out, N, U, HN2.out, k, HE.out, .inr ⟨HL.out, u, rfl, hI⟩⟩), HB1.out.trans (hb2.mono HB1.out.size)⟩
end Go.Proofs.Ytienhelohfhhfaa.Vx
namespace Go.Proofs.Ytienhelohfhhfaa.Vx
open Go.RowKit
set_option maxRecDepth 100000 in
set_option maxHeartbeats 4000000 in
theorem load_any (most : Int) (m : Nat) : ∀ (w : World) (e : Ex) (d0 d1 d2 d3 d4 d5 d6 d7 d8 d9 : Value), X.Mem m w e [d0, d1, d2, d3, d4, d5, d6, d7, d8, d9] → X.bulk m e ≤ 2000000 →
    Calls Try.prog 45 #[.agg #[d0, d1, d2, d3, d4, d5, d6, d7, d8, d9], .int .i64 most] w fun o w' => (∃ n : Int, o = .returned (.int .i64 n)) ∧ Below w.heap.size w w' := by
  induction m with
  | zero => intro w e d0 d1 d2 d3 d4 d5 d6 d7 d8 d9 h; exact h.elim
  | succ m ih =>
    intro w e d0 d1 d2 d3 d4 d5 d6 d7 d8 d9 ⟨c0, c1, c2, c3, c4, av, nv, hcs, hv, ha, hn⟩ hbk
    simp only [List.cons.injEq, and_true] at hcs
    obtain ⟨rfl, rfl, rfl, rfl, rfl, rfl, rfl, rfl, rfl, rfl⟩ := hcs
    obtain ⟨aa, ca, rfl⟩ := ha.shape
    obtain ⟨an, cn, rfl⟩ := hn.shape
    have IH : Hid _ := ih
    clear ih
    have HBK := hide hbk
    rw [X.bulk] at hbk
    have hbL : Below w.heap.size w (w.alloc (.cells #[.int .i64 e.kind, d1, d2, d3, d4, d5, .string e.s, .string e.t, .slice aa e.a.length ca, .slice an e.n.length cn] 109)) := (Below.refl _ _).alloc (Nat.le_refl _) _
    have hE0 : (w.alloc (.cells #[.int .i64 e.kind, d1, d2, d3, d4, d5, .string e.s, .string e.t, .slice aa e.a.length ca, .slice an e.n.length cn] 109)).heap[w.heap.size]? = some (.cells #[.int .i64 e.kind, d1, d2, d3, d4, d5, .string e.s, .string e.t, .slice aa e.a.length ca, .slice an e.n.length cn] 109 (0, 0)) := heap_alloc_new _ _
    have hs1 : e.s.size ≤ 2000000 := by omega
    have hs2 : e.t.size ≤ 2000000 := by omega
    have hs3 : e.n.length ≤ 2000000 := by omega
    have hs4 : e.a.length ≤ 2000000 := by omega
    have hd0 : Below (w.alloc (.cells #[.int .i64 e.kind, d1, d2, d3, d4, d5, .string e.s, .string e.t, .slice aa e.a.length ca, .slice an e.n.length cn] 109)).heap.size (w.alloc (.cells #[.int .i64 e.kind, d1, d2, d3, d4, d5, .string e.s, .string e.t, .slice aa e.a.length ca, .slice an e.n.length cn] 109)) (w.alloc (.cells #[.int .i64 e.kind, d1, d2, d3, d4, d5, .string e.s, .string e.t, .slice aa e.a.length ca, .slice an e.n.length cn] 109)).drew := (Below.refl _ _).drew
    have HW : Hid (∀ w', Below (w.alloc (.cells #[.int .i64 e.kind, d1, d2, d3, d4, d5, .string e.s, .string e.t, .slice aa e.a.length ca, .slice an e.n.length cn] 109)).heap.size (w.alloc (.cells #[.int .i64 e.kind, d1, d2, d3, d4, d5, .string e.s, .string e.t, .slice aa e.a.length ca, .slice an e.n.length cn] 109)) w' → Calls Try.prog 44 #[.agg #[d1, d2, d3, d4, d5], .int .i64 most] w' fun e w'' => (∃ n : Int, e = .returned (.int .i64 n)) ∧ Below w'.heap.size w' w'') := fun w' hb =>
      weight_any most (m + 1) w' e.v d1 d2 d3 d4 d5 (V.Mem.kept _ hv (hbL.trans (hb.mono hbL.size))) (by omega)
    have g6 := cell_of_block hE0 6 _ rfl
    have g7 := cell_of_block hE0 7 _ rfl
    have g1 := cell_of_block hE0 1 _ rfl
    have g2 := cell_of_block hE0 2 _ rfl
    have g3 := cell_of_block hE0 3 _ rfl
    have g4 := cell_of_block hE0 4 _ rfl
    have g5 := cell_of_block hE0 5 _ rfl
    have g9 := cell_of_block hE0 9 _ rfl
    have HA := hide ha
    have HNN := hide hn
    have HE0 := hide hE0
    have HBL := hide hbL
    clear hv ha hn hbk hE0 hbL
    go_enter Try.func45, Try.ntmps45
    go_wp2_with fail
    go_region_held3 (fun W' => W'.cell? ⟨w.heap.size, 6, none⟩ = some (.string e.s) ∧ W'.cell? ⟨w.heap.size, 7, none⟩ = some (.string e.t) ∧ W'.cell? ⟨w.heap.size, 1, none⟩ = some d1 ∧ W'.cell? ⟨w.heap.size, 2, none⟩ = some d2 ∧ W'.cell? ⟨w.heap.size, 3, none⟩ = some d3 ∧ W'.cell? ⟨w.heap.size, 4, none⟩ = some d4 ∧ W'.cell? ⟨w.heap.size, 5, none⟩ = some d5 ∧ W'.cell? ⟨w.heap.size, 9, none⟩ = some (.slice an e.n.length cn) ∧ Below (w.alloc (.cells #[.int .i64 e.kind, d1, d2, d3, d4, d5, .string e.s, .string e.t, .slice aa e.a.length ca, .slice an e.n.length cn] 109)).heap.size (w.alloc (.cells #[.int .i64 e.kind, d1, d2, d3, d4, d5, .string e.s, .string e.t, .slice aa e.a.length ca, .slice an e.n.length cn] 109)) W') (first | exact ⟨g6, g7, g1, g2, g3, g4, g5, g9, hd0⟩ | exact ⟨q6, q7, q1, q2, q3, q4, q5, q9, t3⟩ | go_keep)
      (first | (go_at_call 44; (with_reducible refine Calls.mono (HW.out _ ?_) ?_); assumption; rintro o w2 ⟨⟨n2, rfl⟩, hb2⟩; have t3 := hd0.trans (hb2.mono (Nat.le_refl _)); have q6 := kept_cell t3 g6; have q7 := kept_cell t3 g7; have q1 := kept_cell t3 g1; have q2 := kept_cell t3 g2; have q3 := kept_cell t3 g3; have q4 := kept_cell t3 g4; have q5 := kept_cell t3 g5; have q9 := kept_cell t3 g9))
    have hE2 : w2.heap[w.heap.size]? = some (.cells #[.int .i64 e.kind, d1, d2, d3, d4, d5, .string e.s, .string e.t, .slice aa e.a.length ca, .slice an e.n.length cn] 109 (0, 0)) := (t3.block w.heap.size (lt_alloc w _)).trans HE0.out
    have hB2 : Below w.heap.size w w2 := HBL.out.trans (t3.mono HBL.out.size)
    have HE2 := hide hE2
    have HB2 := hide hB2
    clear q6 q7 q1 q2 q3 q4 q5 q9 t3 hb2 g6 g7 g1 g2 g3 g4 g5 g9 hd0 HW hE2 hB2 HE0 HBL
    go_wp2_with fail
    go_loopw [5, 6] (fun vn vi wr => ∃ k : Nat, k ≤ e.n.length ∧ vi = .int .i64 k ∧ (∃ n : Int, vn = .int .i64 n) ∧ wr.heap[w.heap.size]? = some (.cells #[.int .i64 e.kind, d1, d2, d3, d4, d5, .string e.s, .string e.t, .slice aa e.a.length ca, .slice an e.n.length cn] 109 (0, 0)) ∧ Below w.heap.size w wr)
      (fun _ vi _ => e.n.length - (intOf vi).toNat)
    case atStart => exact ⟨0, Nat.zero_le _, rfl, ⟨_, rfl⟩, HE2.out, HB2.out⟩
    case round =>
      clear HE2 HB2
      obtain ⟨k, hk, rfl, ⟨n, rfl⟩, hblk, hB⟩ := hrel
      have b9 := cell_of_block hblk 9 _ rfl
      have b8 := cell_of_block hblk 8 _ rfl
      have hgo : (k < e.n.length ∧ n ≤ most) ∨ ¬ k < e.n.length ∨ (k < e.n.length ∧ most < n) := by omega
      rcases hgo with ⟨hlt, hn⟩ | hno
      · obtain ⟨b, off, cap, x, e1, hx, y0⟩ := X.elemN (HNN.out.kept hB (fun _ _ h => h)) k hlt
        simp only [Value.slice.injEq] at e1
        obtain ⟨rfl, _, rfl⟩ := e1
        clear b8
        go_wp2_with fail
        go_roundw
        case rel => exact ⟨k + 1, by omega, by go_num, ⟨_, rfl⟩, hblk, hB⟩
        case measure => simp [intOf]; omega
      · rcases hno with hno | ⟨hno, hn⟩
        all_goals
          go_wp2_with fail
          go_loopw [5, 7] (fun vn vi wr => ∃ k : Nat, k ≤ e.a.length ∧ vi = .int .i64 k ∧ (∃ n : Int, vn = .int .i64 n) ∧ wr.heap[w.heap.size]? = some (.cells #[.int .i64 e.kind, d1, d2, d3, d4, d5, .string e.s, .string e.t, .slice aa e.a.length ca, .slice an e.n.length cn] 109 (0, 0)) ∧ Below w.heap.size w wr)
            (fun _ vi _ => e.a.length - (intOf vi).toNat)
          case atStart => exact ⟨0, Nat.zero_le _, rfl, ⟨_, rfl⟩, hblk, hB⟩
          case round =>
            clear hblk hB b9 b8
            obtain ⟨k, hk, rfl, ⟨n, rfl⟩, hblk, hB⟩ := hrel
            have b8 := cell_of_block hblk 8 _ rfl
            have hgo : (k < e.a.length ∧ n ≤ most) ∨ ¬ k < e.a.length ∨ (k < e.a.length ∧ most < n) := by omega
            rcases hgo with ⟨hlt, hn⟩ | hno
            · obtain ⟨b, off, cap, x, f0, f1, f2, f3, f4, f5, f6, f7, f8, f9, e1, hx, hm, y0, y1, y2, y3, y4, y5, y6, y7, y8, y9⟩ := X.elemA2 (w1 := wr) (HA.out.kept hB (fun _ _ ⟨x, hx, hm⟩ => ⟨x, hx, X.Mem.kept m hm hB⟩)) k hlt
              simp only [Value.slice.injEq] at e1
              obtain ⟨rfl, _, rfl⟩ := e1
              have hbx : X.bulk m x ≤ 2000000 := X.bulk_a m e x (List.mem_of_getElem? hx) _ HBK.out
              have hlt2 : w.heap.size < wr.heap.size := (Array.getElem?_eq_some_iff.1 hblk).1
              have HI := hide (IH.out wr x f0 f1 f2 f3 f4 f5 f6 f7 f8 f9 hm hbx)
              have HBLK := hide hblk
              clear hm hx hbx
              go_wp2_with fail
              refine HI.out.mono ?_
              rintro o w3 ⟨⟨n2, rfl⟩, hb3⟩
              clear HI y0 y1 y2 y3 y4 y5 y6 y7 y8 y9 b8
              go_wp2_with fail
              go_roundw
              case rel => exact ⟨k + 1, by omega, by go_num, ⟨_, rfl⟩, (hb3.block w.heap.size hlt2).trans HBLK.out, hB.trans (hb3.mono hB.size)⟩
              case measure => simp [intOf]; omega
            · rcases hno with hno | ⟨hno, hn⟩
              all_goals
                go_wp2_with fail
                go_ret
                exact ⟨⟨_, rfl⟩, hB⟩
end Go.Proofs.Ytienhelohfhhfaa.Vx
