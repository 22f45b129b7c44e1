/- graph.Concat, graph.Order, check.orderOf: what they answer lies in new blocks. -/
import Derived.Test.YtienhelohfhhfaaXTc
namespace Go.Proofs.Ytienhelohfhhfaa.Vx
open Go.RowKit
namespace X
/-- Rows as a net. -/
def net (L : List (List Nat)) : Gr.Net := fun i => L.getD i []
/-- Nothing needs itself. -/
def Fine (L : List (List Nat)) : Prop := ∀ i, i < L.length → Gr.D (net L) L.length i = true
/-- The order. -/
def ord (L : List (List Nat)) : List Nat := Gr.flat (net L) L.length L.length
theorem D_congr {N M : Gr.Net} {n : Nat} (hN : ∀ i, i < n → ∀ j ∈ N i, j < n) (h : ∀ i, i < n → ∀ j, j ∈ N i ↔ j ∈ M i) : ∀ (k i : Nat), i < n → Gr.D N k i = Gr.D M k i
  | 0, _, _ => rfl
  | k + 1, i, hi => by
    rw [Gr.D_succ, Gr.D_succ]
    apply Bool.eq_iff_iff.2
    simp only [List.all_eq_true]
    constructor
    · intro a j hj
      have hj2 := (h i hi j).2 hj
      rw [← D_congr hN h k j (hN i hi j hj2)]; exact a j hj2
    · intro a j hj
      rw [D_congr hN h k j (hN i hi j hj)]; exact a j ((h i hi j).1 hj)
theorem wave_congr {N M : Gr.Net} {n : Nat} (hN : ∀ i, i < n → ∀ j ∈ N i, j < n) (h : ∀ i, i < n → ∀ j, j ∈ N i ↔ j ∈ M i) (k : Nat) : Gr.wave N n k = Gr.wave M n k := by
  unfold Gr.wave
  apply List.filter_congr
  intro i hi
  rw [List.mem_range] at hi
  rw [D_congr hN h k i hi, D_congr hN h (k + 1) i hi]
theorem flat_congr {N M : Gr.Net} {n : Nat} (hN : ∀ i, i < n → ∀ j ∈ N i, j < n) (h : ∀ i, i < n → ∀ j, j ∈ N i ↔ j ∈ M i) (k : Nat) : Gr.flat N n k = Gr.flat M n k := by
  unfold Gr.flat
  congr 1
  apply List.map_congr_left
  intro j _
  exact wave_congr hN h j
theorem flat_long (N : Gr.Net) (n k : Nat) (hl : Gr.left N n k = 0) : ∀ m, Gr.flat N n (k + m) = Gr.flat N n k
  | 0 => rfl
  | m + 1 => by
    rw [show k + (m + 1) = (k + m) + 1 from rfl, Gr.flat_succ, flat_long N n k hl m]
    have : Gr.wave N n (k + m) = [] := by
      apply List.eq_nil_iff_forall_not_mem.2
      intro i hi
      rw [Gr.mem_wave] at hi
      have := Gr.D_le N (show k ≤ k + m by omega) (Gr.left_done N n k hl i hi.1)
      rw [this] at hi
      exact absurd hi.2.1 (by decide)
    rw [this, List.append_nil]
theorem row_ofN (L : List (List Nat)) (i : Nat) : Gr.row (L.map Gr.ofN) i = Gr.ofN (L.getD i []) := by
  unfold Gr.row
  rw [List.getD_eq_getElem?_getD, List.getD_eq_getElem?_getD, List.getElem?_map]
  cases L[i]? <;> rfl
theorem mem_ofN (l : List Nat) (j : Nat) : (j : Int) ∈ Gr.ofN l ↔ j ∈ l := by
  unfold Gr.ofN
  rw [List.mem_map]
  constructor
  · rintro ⟨x, hx, e⟩
    have : x = j := by
      have e' : (x : Int) = (j : Int) := e
      omega
    rw [← this]; exact hx
  · intro h; exact ⟨j, h, rfl⟩
theorem tot_ofN : ∀ (L : List (List Nat)) (b : Nat), (∀ r ∈ L, r.length ≤ b) → Gr.tot (L.map Gr.ofN) ≤ L.length * b
  | [], b, _ => by simp [Gr.tot]
  | r :: L, b, h => by
    have h1 := tot_ofN L b (fun r hr => h r (by simp [hr]))
    have h2 := h r (by simp)
    have h3 : Gr.tot ((r :: L).map Gr.ofN) = r.length + Gr.tot (L.map Gr.ofN) := by simp [Gr.tot, Gr.ofN_length]
    rw [h3, List.length_cons, Nat.add_mul, Nat.one_mul]; omega
/-- What orderOf says, of plain numbers. -/
def Ord (L : List (List Nat)) (w' : World) (o : Ending) : Prop :=
  (Fine L ∧ ∃ a c, o = .returned (.tuple #[.slice a (ord L).length c, .nilIface]) ∧ Gr.Ints w' (.slice a (ord L).length c) (Gr.ofN (ord L))) ∨ (¬ Fine L ∧ ∃ a n c, o = .returned (.tuple #[.slice a n c, .iface 68 (.int .i64 8)]))
end X
theorem orderOf_nat (L : List (List Nat)) (v : Value) (w : World) (hL : Gr.Lists w v (L.map Gr.ofN)) (h8 : L.length ≤ 8) (hg : ∀ r ∈ L, X.Good L.length r) : Calls Try.prog 42 #[v] w fun o w' => X.Ord L w' o ∧ Below w.heap.size w w' := by
  have ht : Gr.tot (L.map Gr.ofN) ≤ 900 := by
    have h1 := X.tot_ofN L 8 (fun r hr => Nat.le_trans (hg r hr).len h8)
    omega
  refine (orderOf_any (L.map Gr.ofN) v w hL ht).mono ?_
  rintro o w' ⟨h, hb⟩
  refine ⟨?_, hb⟩
  have hrow : ∀ i, i < L.length → ∀ j ∈ X.net L i, j < L.length := by
    intro i hi j hj
    unfold X.net at hj
    rw [List.getD_eq_getElem?_getD, List.getElem?_eq_getElem hi] at hj
    exact (hg _ (List.getElem_mem hi)).2 j hj
  rw [List.length_map] at h
  rcases h with ⟨h1, _⟩ | ⟨_, ⟨a, x, ha, hx, hn⟩, _⟩ | ⟨_, _, N, U, hN, k, hE, h⟩
  · omega
  · exfalso
    rw [X.row_ofN] at hx
    apply hn
    obtain ⟨j, hj, rfl⟩ := List.mem_map.1 hx
    have := hrow a ha j hj
    constructor
    · exact Int.natCast_nonneg j
    · exact Int.ofNat_lt.2 this
  · have hmem : ∀ i, i < L.length → ∀ j, j ∈ N i ↔ j ∈ X.net L i := by
      intro i hi j
      rw [hN.mn i hi j, X.row_ofN, X.mem_ofN]; rfl
    have hfl : Gr.left N L.length k = 0 ↔ X.Fine L := by
      rw [Gr.ends_all N L.length k hN.bn hE]
      unfold X.Fine
      constructor
      · intro h i hi; rw [← X.D_congr hN.bn hmem _ i hi]; exact h i hi
      · intro h i hi; rw [X.D_congr hN.bn hmem _ i hi]; exact h i hi
    rcases h with ⟨h1, u, rfl, hI⟩ | ⟨h1, u, rfl, hI⟩
    · have e : Gr.flat N L.length k = X.ord L := by
        have hk := Gr.ends_le N L.length k hE
        obtain ⟨m, hm⟩ := Nat.le.dest hk
        have h2 := X.flat_long N L.length k h1 m
        rw [hm] at h2
        rw [← h2]; exact X.flat_congr hN.bn hmem _
      rw [e] at hI
      obtain ⟨a, c, e2, hI2⟩ := id hI
      rw [Gr.ofN_length] at e2
      subst e2
      exact .inl ⟨hfl.1 h1, a, c, rfl, hI⟩
    · obtain ⟨a, c, e2, _⟩ := id hI
      subst e2
      exact .inr ⟨fun h => h1 (hfl.2 h), a, _, c, rfl⟩
end Go.Proofs.Ytienhelohfhhfaa.Vx
namespace Go.Proofs.Ytienhelohfhhfaa
open Go.RowKit
attribute [local go_sem ↓] Go.wp_at_zero Go.wp_at_succ
open Gr (Ints Lists Bools hide cells On ofN lists onb Graf wave left Got)
theorem Gr.owns_base {w : World} {base base2 n : Nat} {t : TypeId} {v : Value} {xs : List Value} (h : w.ownsRow base t 1 v n xs) (hb : base2 ≤ base) : w.ownsRow base2 t 1 v n xs := by
  refine ⟨h.1, ?_⟩
  rcases h.2 with h1 | ⟨g, cap, cur, rfl, hg, r⟩
  · exact .inl h1
  · exact .inr ⟨g, cap, cur, rfl, Nat.le_trans hb hg, r⟩
set_option maxRecDepth 100000 in
set_option maxHeartbeats 1000000 in
theorem concat_own (L : List (List Int)) (v : Value) (w : World) (hL : L.length ≤ 1000) (ht : Gr.tot L ≤ 1000000) (hne : ∀ l ∈ L, l ≠ []) (hI : Lists w v L) :
    Calls Try.prog 37 #[v] w fun e w' => (∃ v', e = .returned v' ∧ w'.ownsRow w.heap.size 3 1 v' L.flatten.length (cells L.flatten)) ∧ Below w.heap.size w w' := by
  obtain ⟨i0, hi0, hz0, hz1, hz2⟩ := info_parts info3
  obtain ⟨av, cv, rfl, _⟩ := id hI
  have HI := hide hI
  have HNE := hide hne
  clear hI hne
  go_enter Try.func37, Try.ntmps37
  go_wp2_with fail
  go_loop [11, 3, 5] (fun vi vs _ => ∃ k : Nat, k ≤ L.length ∧ vi = .int .i64 k ∧ vs = .int .i64 (Gr.tot (L.take k))) (fun vi _ _ => L.length - (intOf vi).toNat)
  case atStart => exact ⟨0, Nat.zero_le _, rfl, rfl⟩
  case round =>
    obtain ⟨k, hk, rfl, rfl⟩ := hrel
    by_cases hlt : k < L.length
    · obtain ⟨l, hl⟩ := getElem_some hlt
      obtain ⟨b, off, cap, au, cu, e1, c1, h1⟩ := Gr.Lists.get HI.out hl
      simp only [Value.slice.injEq] at e1
      obtain ⟨rfl, _, rfl⟩ := e1
      have t1 := Gr.tot_take hl
      have t2 := Gr.tot_le L (k + 1)
      have T1 := hide t1
      have hsm : Gr.tot (L.take k) + l.length ≤ 1000000 := by omega
      clear t1 t2 hl h1
      go_wp2_with fail
      go_round
      case rel => exact ⟨k + 1, by omega, by go_num, by rw [T1.out]; go_num⟩
      case measure => simp [intOf]; omega
    · have hkk : k = L.length := by omega
      subst hkk
      rw [List.take_length]
      have hgr := grow_none (Gr.tot L) w ht
      have HGR := hide hgr
      clear hgr
      go_wp2_with (go_at_call 54; refine HGR.out.mono ?_; rintro e w1 ⟨⟨v0, rfl, hown1⟩, hB1⟩; obtain ⟨ao1, cap1, rfl⟩ := own_shape hown1; have HO1 := hide hown1; have HB1 := hide hB1; clear hown1 hB1)
      go_loopw [27, 6, 8] (fun vi vs _ wx => ∃ (k : Nat) (ao : Option Addr) (cap : Nat), k ≤ L.length ∧ vi = .int .i64 k ∧ vs = .slice ao (Gr.tot (L.take k)) cap ∧ wx.ownsRow w.heap.size 3 1 (.slice ao (Gr.tot (L.take k)) cap) (Gr.tot (L.take k)) (cells (L.take k).flatten) ∧ Below w.heap.size w wx) (fun vi _ _ _ => L.length - (intOf vi).toNat)
      case atStart => exact ⟨0, ao1, cap1, Nat.zero_le _, rfl, rfl, HO1.out, HB1.out⟩
      case round =>
        obtain ⟨k, ao, cap, hk, rfl, rfl, hown, hB⟩ := hrel
        have hBs := hB.size
        by_cases hlt : k < L.length
        · obtain ⟨l, hl⟩ := getElem_some hlt
          obtain ⟨b, off, cap2, au, cu, e1, c1, h1⟩ := Gr.Lists.get (HI.out.kept hB (Nat.le_refl _)) hl
          simp only [Value.slice.injEq] at e1
          obtain ⟨rfl, _, rfl⟩ := e1
          have hlne := HNE.out l (List.mem_of_getElem? hl)
          have hlp : 0 < l.length := List.length_pos_iff.2 hlne
          obtain ⟨bl, ol, rfl, hcl⟩ : ∃ bl ol, au = some ⟨bl, ol, none⟩ ∧ ∀ j u, (cells l)[j]? = some u → wr.cell? ((⟨bl, ol, none⟩ : Addr).add j) = some u := by
            obtain ⟨a', c', q5, q6⟩ := h1
            simp only [Value.slice.injEq] at q5
            obtain ⟨rfl, _, rfl⟩ := q5
            rcases q6 with q6 | ⟨b2, o2, rfl, q6⟩
            · exact absurd q6 hlne
            · refine ⟨b2, o2, rfl, fun j u hu => ?_⟩
              unfold cells at hu
              rw [List.getElem?_map] at hu
              obtain ⟨x, hx, rfl⟩ := Option.map_eq_some_iff.1 hu
              rw [addr_off]; exact q6 j x hx
          have t1 := Gr.tot_take hl
          have t2 := Gr.tot_le L (k + 1)
          have hsm : Gr.tot (L.take k) + l.length ≤ 1000000 := by omega
          have T1 := hide t1
          have HL := hide hl
          have HOW := hide hown
          have HB := hide hB
          have HCL := hide hcl
          clear t1 t2 hl h1 hown hB hcl HGR HO1 HB1
          go_wp2_with (at_builtin; go_must (refine wpList_append_lies _ rfl (.tmp 31) (.tmp 32) 37 rfl w.heap.size 3 i0 (.int .i64 0) 1 8 Try.underlying37 hi0 hz0 hz1 hz2 rfl (by decide) (.slice ao (Gr.tot (L.take k)) cap) (Gr.tot (L.take k)) (cells (L.take k).flatten) rfl HOW.out ⟨bl, ol, none⟩ l.length cu (cells l) rfl (by rw [Gr.cells_length, Nat.mul_one]) HCL.out (cells_one l) hlp (by unfold maxLen; omega) (by omega) (by omega) _ rfl ?_); intro g cap' w4 hown4 hgrow hat hlt4)
          go_roundw
          case rel =>
            have e2 : (L.take (k + 1)).flatten = (L.take k).flatten ++ l := by rw [take_next HL.out]; simp
            refine ⟨k + 1, some ⟨g, 0, none⟩, cap', by omega, by go_num, by rw [T1.out], ?_, HB.out.grown hgrow (by omega) (fun c hc => (HOW.out.lt c hc).1)⟩
            rw [e2, T1.out, Gr.cells_append]; exact hown4
          case measure => simp [intOf]; omega
        · have hkk : k = L.length := by omega
          subst hkk
          rw [List.take_length] at hown ⊢
          have HOW := hide hown
          have HB := hide hB
          clear hown hB
          go_wp2_with fail
          go_ret
          refine ⟨⟨_, rfl, ?_⟩, HB.out⟩
          rw [Gr.tot_flat]; exact HOW.out
set_option maxRecDepth 100000 in
theorem order_own (N : Gr.Net) (n b : Nat) (LU : List (List Int)) (w : World) (hn : n ≤ 1000) (hG : Graf w b (lists N n) LU)
    (hN : ∀ i, i < n → ∀ j ∈ N i, j < n) (hl : ∀ i, i < n → (N i).length ≤ 1000) :
    Calls Try.prog 19 #[.pointer (some ⟨b, 0, none⟩)] w fun e w' => (∃ k, Gr.Ends N n k ∧ ((left N n k = 0 ∧ ∃ v, e = .returned (.tuple #[v, .nilIface]) ∧ w'.ownsRow w.heap.size 3 1 v (ofN (Gr.flat N n k)).length (cells (ofN (Gr.flat N n k)))) ∨
      (left N n k ≠ 0 ∧ ∃ v, e = .returned (.tuple #[v, .iface 68 (.int .i64 8)]) ∧ Ints w' v []))) ∧ Below w.heap.size w w' := by
  have hw := waves_any N n b LU w hn hG hN hl
  have HW := hide hw
  clear hw hG
  go_enter Try.func19, Try.ntmps19
  go_wp2_with fail
  refine HW.out.mono ?_
  rintro e w1 ⟨⟨k, hk, h⟩, hB1⟩
  have hkn := Gr.ends_le N n k hk
  rcases h with ⟨h0, v, rfl, hL⟩ | ⟨h0, rfl⟩
  · have hc := concat_own _ v w1 (by simp; omega) (by
      rw [← Gr.tot_flat, Gr.flat_of, Gr.ofN_length]
      have := Gr.length_flat N n k
      omega) (by
      intro l hl
      obtain ⟨j, hj, rfl⟩ := List.mem_map.1 hl
      have := hk.1 j (List.mem_range.1 hj)
      unfold ofN
      simpa using this) hL
    rw [Gr.flat_of] at hc
    have HC := hide hc
    have HK := hide hk
    have HB := hide hB1
    have H0 := hide h0
    clear hc hk hB1 h0 hL
    go_wp2_with (go_at_call 37; refine HC.out.mono ?_; rintro e w2 ⟨⟨v', rfl, hv⟩, hB2⟩)
    go_ret2
    exact ⟨⟨k, HK.out, .inl ⟨H0.out, _, rfl, Gr.owns_base hv HB.out.size⟩⟩, HB.out.trans (hB2.mono HB.out.size)⟩
  · have hc := concat_any [] (.slice none 0 0) w1 (by simp) (by simp [Gr.tot]) (by intro l hl; simp at hl) ⟨none, 0, rfl, .inl rfl⟩
    have HC := hide hc
    have HK := hide hk
    have HB := hide hB1
    have H0 := hide h0
    clear hc hk hB1 h0
    go_wp2_with (go_at_call 37; refine HC.out.mono ?_; rintro e w2 ⟨⟨v', rfl, hv⟩, hB2⟩)
    go_ret2
    exact ⟨⟨k, HK.out, .inr ⟨H0.out, _, rfl, hv⟩⟩, HB.out.trans (hB2.mono HB.out.size)⟩
namespace Vx
/-- What orderOf says. -/
def X.Ordered2 (NZ : List (List Int)) (w : World) (e : Ending) (w' : World) : Prop :=
  ((64 < NZ.length ∧ e = .returned (.tuple #[.slice none 0 0, .iface 68 (.int .i64 2)])) ∨
   (NZ.length ≤ 64 ∧ (∃ a x, a < NZ.length ∧ x ∈ Gr.row NZ a ∧ ¬ (0 ≤ x ∧ x < NZ.length)) ∧ e = .returned (.tuple #[.slice none 0 0, .iface 68 (.int .i64 1)])) ∨
   (NZ.length ≤ 64 ∧ (∀ a, a < NZ.length → ∀ x ∈ Gr.row NZ a, 0 ≤ x ∧ x < NZ.length) ∧ ∃ (N U : Gr.Net), Gr.Net2 NZ NZ.length N U ∧ ∃ k, Gr.Ends N NZ.length k ∧
     ((Gr.left N NZ.length k = 0 ∧ ∃ v, e = .returned (.tuple #[v, .nilIface]) ∧ w'.ownsRow w.heap.size 3 1 v (Gr.ofN (Gr.flat N NZ.length k)).length (Gr.cells (Gr.ofN (Gr.flat N NZ.length k)))) ∨
      (Gr.left N NZ.length k ≠ 0 ∧ ∃ v, e = .returned (.tuple #[v, .iface 68 (.int .i64 8)]) ∧ Gr.Ints w' v [])))) ∧ Below w.heap.size w w'
set_option maxRecDepth 100000 in
set_option maxHeartbeats 2000000 in
theorem orderOf_own (NZ : List (List Int)) (v : Value) (w : World) (hL : Gr.Lists w v NZ) (ht : Gr.tot NZ ≤ 900) : Calls Try.prog 42 #[v] w (X.Ordered2 NZ w) := by
  have hnew := new_any NZ v w hL (Nat.le_trans ht (by decide))
  have hrl : ∀ i, i < NZ.length → (Gr.row NZ i).length ≤ 900 := by
    intro i hi
    have h1 := Gr.tot_take (L := NZ) (k := i) (List.getElem?_eq_getElem hi)
    have h2 := Gr.tot_le NZ (i + 1)
    have h3 : Gr.row NZ i = NZ[i] := by unfold Gr.row; rw [List.getD_eq_getElem?_getD, List.getElem?_eq_getElem hi]; rfl
    rw [h3]; omega
  have HN := hide hnew
  have HRL := hide hrl
  obtain ⟨av, cv, rfl, _⟩ := id hL
  clear hnew hrl hL
  go_enter Try.func42, Try.ntmps42
  go_wp2_with fail
  refine HN.out.mono ?_
  rintro o w1 ⟨⟨h1, rfl⟩ | ⟨h1, h2, rfl⟩ | ⟨h1, h2, b, N, U, hN, hG, rfl⟩, hb1⟩
  · clear HN HRL
    go_wp2_with fail
    go_ret2
    exact ⟨.inl ⟨h1, rfl⟩, hb1⟩
  · have H2 := hide h2
    clear HN HRL h2
    go_wp2_with fail
    go_ret2
    exact ⟨.inr (.inl ⟨h1, H2.out, rfl⟩), hb1⟩
  · have hod := order_own N NZ.length b _ w1 (by omega) hG hN.bn (fun i hi => by have h3 := hN.ln i hi; have h4 := HRL.out i hi; omega)
    have HOD := hide hod
    have H2 := hide h2
    have HN2 := hide hN
    have HB1 := hide hb1
    clear HN HRL hod h2 hG hN hb1
    go_wp2_with fail
    refine HOD.out.mono ?_
    rintro o w2 ⟨⟨k, hE, ⟨hl, u, rfl, hI⟩ | ⟨hl, u, rfl, hI⟩⟩, hb2⟩
    · have HL := hide hl
      have HE := hide hE
      clear HOD hl hE
      go_wp2_with fail
      go_ret2
      exact ⟨.inr (.inr ⟨h1, H2.out, N, U, HN2.out, k, HE.out, .inl ⟨HL.out, u, rfl, Gr.owns_base hI HB1.out.size⟩⟩), HB1.out.trans (hb2.mono HB1.out.size)⟩
    · have HL := hide hl
      have HE := hide hE
      clear HOD hl hE
      go_wp2_with fail
      go_ret2
      exact ⟨.inr (.inr ⟨h1, H2.out, N, U, HN2.out, k, HE.out, .inr ⟨HL.out, u, rfl, hI⟩⟩), HB1.out.trans (hb2.mono HB1.out.size)⟩
/-- What orderOf says, of plain numbers. -/
def X.Ord2 (L : List (List Nat)) (w w' : World) (o : Ending) : Prop :=
  (X.Fine L ∧ ∃ a c, o = .returned (.tuple #[.slice a (X.ord L).length c, .nilIface]) ∧ w'.ownsRow w.heap.size 3 1 (.slice a (X.ord L).length c) (X.ord L).length (Gr.cells (Gr.ofN (X.ord L)))) ∨ (¬ X.Fine L ∧ ∃ a n c, o = .returned (.tuple #[.slice a n c, .iface 68 (.int .i64 8)]))
theorem orderOf_nat2 (L : List (List Nat)) (v : Value) (w : World) (hL : Gr.Lists w v (L.map Gr.ofN)) (h8 : L.length ≤ 8) (hg : ∀ r ∈ L, X.Good L.length r) : Calls Try.prog 42 #[v] w fun o w' => X.Ord2 L w w' o ∧ Below w.heap.size w w' := by
  have ht : Gr.tot (L.map Gr.ofN) ≤ 900 := by
    have h1 := X.tot_ofN L 8 (fun r hr => Nat.le_trans (hg r hr).len h8)
    omega
  refine (orderOf_own (L.map Gr.ofN) v w hL ht).mono ?_
  rintro o w' ⟨h, hb⟩
  refine ⟨?_, hb⟩
  have hrow : ∀ i, i < L.length → ∀ j ∈ X.net L i, j < L.length := by
    intro i hi j hj
    unfold X.net at hj
    rw [List.getD_eq_getElem?_getD, List.getElem?_eq_getElem hi] at hj
    exact (hg _ (List.getElem_mem hi)).2 j hj
  rw [List.length_map] at h
  rcases h with ⟨h1, _⟩ | ⟨_, ⟨a, x, ha, hx, hn⟩, _⟩ | ⟨_, _, N, U, hN, k, hE, h⟩
  · omega
  · exfalso
    rw [X.row_ofN] at hx
    apply hn
    obtain ⟨j, hj, rfl⟩ := List.mem_map.1 hx
    have := hrow a ha j hj
    constructor
    · exact Int.natCast_nonneg j
    · exact Int.ofNat_lt.2 this
  · have hmem : ∀ i, i < L.length → ∀ j, j ∈ N i ↔ j ∈ X.net L i := by
      intro i hi j
      rw [hN.mn i hi j, X.row_ofN, X.mem_ofN]; rfl
    have hfl : Gr.left N L.length k = 0 ↔ X.Fine L := by
      rw [Gr.ends_all N L.length k hN.bn hE]
      unfold X.Fine
      constructor
      · intro h i hi; rw [← X.D_congr hN.bn hmem _ i hi]; exact h i hi
      · intro h i hi; rw [X.D_congr hN.bn hmem _ i hi]; exact h i hi
    rcases h with ⟨h1, u, rfl, hI⟩ | ⟨h1, u, rfl, hI⟩
    · have e : Gr.flat N L.length k = X.ord L := by
        have hk := Gr.ends_le N L.length k hE
        obtain ⟨m, hm⟩ := Nat.le.dest hk
        have h2 := X.flat_long N L.length k h1 m
        rw [hm] at h2
        rw [← h2]; exact X.flat_congr hN.bn hmem _
      rw [e] at hI
      rw [Gr.ofN_length] at hI
      obtain ⟨a, c, e2⟩ := owns_shape hI
      subst e2
      exact .inl ⟨hfl.1 h1, a, c, rfl, hI⟩
    · obtain ⟨a, c, e2, _⟩ := id hI
      subst e2
      exact .inr ⟨fun h => h1 (hfl.2 h), a, _, c, rfl⟩
end Vx
end Go.Proofs.Ytienhelohfhhfaa
