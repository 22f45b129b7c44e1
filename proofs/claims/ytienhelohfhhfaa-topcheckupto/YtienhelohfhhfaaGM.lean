/- graph.New. -/
import Derived.Test.YtienhelohfhhfaaGL
namespace Go.Proofs.Ytienhelohfhhfaa
open Go.RowKit
attribute [local go_sem ↓] Go.wp_at_zero Go.wp_at_succ
open Gr (Ints Lists Bools hide cells On ofN lists onb Graf)
theorem big_new (w W : World) (n : Nat) (bn bu : Nat) (hb : (bn = w.heap.size ∧ bu = w.heap.size + 1) ∨ (bn = w.heap.size + 1 ∧ bu = w.heap.size))
    (hW : W = (((w.alloc (.cells (List.replicate n (.slice none 0 0)).toArray 37)).alloc (.cells (List.replicate n (.slice none 0 0)).toArray 37)).alloc (.cells #[.slice (some ⟨bn, 0, none⟩) n n, .slice (some ⟨bu, 0, none⟩) n n] 84)).drew) :
    Gr.Big W w.heap.size (w.heap.size + 3) (w.heap.size + 1 + 1) bn bu n (List.replicate n (.slice none 0 0)) (List.replicate n (.slice none 0 0)) (List.replicate n []) (List.replicate n []) ∧ Below w.heap.size w W := by
  have h0 : W.heap[w.heap.size]? = some (.cells (List.replicate n (.slice none 0 0)).toArray 37 (0, 0)) := by
    rw [hW]
    show (((w.alloc _).alloc _).alloc _).heap[w.heap.size]? = _
    rw [heap_alloc_old _ _ (by simp; omega), heap_alloc_old _ _ (by simp), heap_alloc_new]
  have h1 : W.heap[w.heap.size + 1]? = some (.cells (List.replicate n (.slice none 0 0)).toArray 37 (0, 0)) := by
    rw [hW]
    show (((w.alloc _).alloc _).alloc _).heap[w.heap.size + 1]? = _
    rw [heap_alloc_old _ _ (by simp), show w.heap.size + 1 = (w.alloc (.cells (List.replicate n (.slice none 0 0)).toArray 37)).heap.size by simp, heap_alloc_new]
  have h2 : W.heap[w.heap.size + 1 + 1]? = some (.cells #[.slice (some ⟨bn, 0, none⟩) n n, .slice (some ⟨bu, 0, none⟩) n n] 84 (0, 0)) := by
    rw [hW]
    show (((w.alloc _).alloc _).alloc _).heap[w.heap.size + 1 + 1]? = _
    rw [show w.heap.size + 1 + 1 = ((w.alloc (.cells (List.replicate n (.slice none 0 0)).toArray 37)).alloc (.cells (List.replicate n (.slice none 0 0)).toArray 37)).heap.size by simp, heap_alloc_new]
  have hs : W.heap.size = w.heap.size + 3 := by rw [hW]; show (((w.alloc _).alloc _).alloc _).heap.size = _; simp
  have hB : Below w.heap.size w W := by
    rw [hW]
    exact ((((Below.refl _ _).alloc (Nat.le_refl _) _).alloc (by simp) _).alloc (by simp; omega) _).drew
  refine ⟨⟨?_, ?_, ?_, ?_, ?_, by simp, by simp, by simp, by simp, ⟨by omega, by omega, by omega⟩, ⟨by omega, by omega, by omega, by omega⟩, ⟨by omega, by omega, by omega⟩⟩, hB⟩
  · exact Gr.row_cell (V := [.slice (some ⟨bn, 0, none⟩) n n, .slice (some ⟨bu, 0, none⟩) n n]) h2 rfl
  · exact Gr.row_cell (V := [.slice (some ⟨bn, 0, none⟩) n n, .slice (some ⟨bu, 0, none⟩) n n]) h2 rfl
  · rcases hb with ⟨rfl, _⟩ | ⟨rfl, _⟩
    · exact h0
    · exact h1
  · rcases hb with ⟨_, rfl⟩ | ⟨_, rfl⟩
    · exact h1
    · exact h0
  · rw [List.replicate_append_replicate, List.replicate_append_replicate]
    exact Gr.Fam.nils W (w.heap.size + 3) 3 (n + n)
/-- A graph that is made can be read. -/
theorem Gr.Big.graf {w : World} {B0 base b bn bu n : Nat} {VN VU : List Value} {LN LU : List (List Int)} (h : Gr.Big w B0 base b bn bu n VN VU LN LU) : Graf w b LN LU := by
  refine ⟨_, _, h.hb0, h.hb1, ⟨some ⟨bn, 0, none⟩, n, by rw [h.kn], .inr ⟨bn, 0, rfl, ?_⟩⟩, ⟨some ⟨bu, 0, none⟩, n, by rw [h.ku], .inr ⟨bu, 0, rfl, ?_⟩⟩⟩
  · intro i l hl
    have hi : i < n := by rw [← h.kn]; exact (List.getElem?_eq_some_iff.1 hl).1
    obtain ⟨v, hv⟩ := getElem_some (l := VN) (k := i) (by rw [h.ln]; exact hi)
    refine ⟨v, by rw [Nat.zero_add]; exact Gr.row_cell h.hn hv, Ints.of_owns (h.fam.own i v l ?_ ?_)⟩
    · rw [List.getElem?_append_left (by rw [h.ln]; exact hi)]; exact hv
    · rw [List.getElem?_append_left (by rw [h.kn]; exact hi)]; exact hl
  · intro i l hl
    have hi : i < n := by rw [← h.ku]; exact (List.getElem?_eq_some_iff.1 hl).1
    obtain ⟨v, hv⟩ := getElem_some (l := VU) (k := i) (by rw [h.lu]; exact hi)
    refine ⟨v, by rw [Nat.zero_add]; exact Gr.row_cell h.hu hv, Ints.of_owns (h.fam.own (n + i) v l ?_ ?_)⟩
    · rw [List.getElem?_append_right (by rw [h.ln]; omega), h.ln, Nat.add_sub_cancel_left]; exact hv
    · rw [List.getElem?_append_right (by rw [h.kn]; omega), h.kn, Nat.add_sub_cancel_left]; exact hl
/-- What New says. -/
def Gr.Made (NZ : List (List Int)) (w : World) (e : Ending) (w' : World) : Prop :=
  ((64 < NZ.length ∧ e = .returned (.tuple #[.pointer none, .iface 68 (.int .i64 2)])) ∨
   (NZ.length ≤ 64 ∧ (∃ a x, a < NZ.length ∧ x ∈ Gr.row NZ a ∧ ¬ (0 ≤ x ∧ x < NZ.length)) ∧ e = .returned (.tuple #[.pointer none, .iface 68 (.int .i64 1)])) ∨
   (NZ.length ≤ 64 ∧ (∀ a, a < NZ.length → ∀ x ∈ Gr.row NZ a, 0 ≤ x ∧ x < NZ.length) ∧ ∃ (b : Nat) (N U : Gr.Net), Gr.Net2 NZ NZ.length N U ∧ Graf w' b (lists N NZ.length) (lists U NZ.length) ∧ e = .returned (.tuple #[.pointer (some ⟨b, 0, none⟩), .nilIface]))) ∧ Below w.heap.size w w'
set_option maxRecDepth 100000 in
set_option maxHeartbeats 2000000 in
theorem new_any (NZ : List (List Int)) (v : Value) (w : World) (hL : Lists w v NZ) (ht : Gr.tot NZ ≤ 1000) :
    Calls Try.prog 16 #[v] w (Gr.Made NZ w) := by
  obtain ⟨av, cv, rfl, _⟩ := id hL
  by_cases h64 : 64 < NZ.length
  · clear hL
    go_enter Try.func16, Try.ntmps16
    go_wp2_with fail
    go_ret2
    exact ⟨.inl ⟨h64, rfl⟩, Below.refl _ _⟩
  · have hmk := make_lists NZ.length (by omega)
    have HL := hide hL
    clear hL
    go_enter Try.func16, Try.ntmps16
    go_wp2_with fail
    go_cut [4] (fun vg wx => vg = .pointer (some ⟨w.heap.size + 1 + 1, 0, none⟩) ∧ ∃ bn bu, Gr.Big wx w.heap.size (w.heap.size + 3) (w.heap.size + 1 + 1) bn bu NZ.length (List.replicate NZ.length (.slice none 0 0)) (List.replicate NZ.length (.slice none 0 0)) (List.replicate NZ.length []) (List.replicate NZ.length []) ∧ Below w.heap.size w wx)
    case first =>
      go_region
      · go_wp2_with fail
        go_meet
        obtain ⟨q1, q2⟩ := big_new w _ NZ.length w.heap.size (w.heap.size + 1) (.inl ⟨rfl, rfl⟩) rfl
        exact ⟨rfl, _, _, q1, q2⟩
      · go_wp2_with fail
        go_meet
        obtain ⟨q1, q2⟩ := big_new w _ NZ.length (w.heap.size + 1) w.heap.size (.inr ⟨rfl, rfl⟩) rfl
        exact ⟨rfl, _, _, q1, q2⟩
    case rest =>
      obtain ⟨rfl, bn, bu, hbig, hbel⟩ := hcut
      clear hmk
      have HBIG := hide hbig
      have HBEL := hide hbel
      clear hbig hbel
      have hbb : ∃ b, b = w.heap.size + 1 + 1 := ⟨_, rfl⟩
      obtain ⟨b, hb⟩ := hbb
      rw [← hb] at HBIG ⊢
      clear hb
      go_wp2_with fail
      go_loopw [23, 5, 6, 8] (fun vi _ _ _ wx => ∃ (i : Nat) (VN VU : List Value) (LN LU : List (List Int)), i ≤ NZ.length ∧ vi = .int .i64 i ∧ Gr.Big wx w.heap.size (w.heap.size + 3) b bn bu NZ.length VN VU LN LU ∧ Gr.Ins NZ NZ.length i 0 LN LU ∧ Below w.heap.size w wx) (fun vi _ _ _ _ => NZ.length - (intOf vi).toNat)
      case atStart => exact ⟨0, _, _, _, _, Nat.zero_le _, rfl, HBIG.out, Gr.Ins.start NZ NZ.length, HBEL.out⟩
      case round =>
        obtain ⟨i, VN, VU, LN, LU, hi, rfl, hbig, hins, hB⟩ := hrel
        clear HBIG HBEL
        by_cases hlt : i < NZ.length
        · obtain ⟨l, hl⟩ := getElem_some hlt
          have hrow := Gr.row_some hl
          obtain ⟨b2, o2, c2, au, cu, e1, c1, h1⟩ := Gr.Lists.get (HL.out.kept hB (Nat.le_refl _)) hl
          simp only [Value.slice.injEq] at e1
          obtain ⟨rfl, _, rfl⟩ := e1
          have t1 := Gr.tot_take hl
          have t2 := Gr.tot_le NZ (i + 1)
          have hll : l.length ≤ 1000 := by omega
          have h1k : Ints w (.slice au l.length cu) l := by
            obtain ⟨b3, o3, c3, au3, cu3, e3, c4, h4⟩ := Gr.Lists.get HL.out hl
            simp only [Value.slice.injEq, Option.some.injEq, Addr.mk.injEq] at e3
            obtain ⟨⟨rfl, rfl, _⟩, _, rfl⟩ := e3
            have := Gr.cell_kept hB (Nat.le_refl _) c4
            rw [c1] at this
            cases this
            exact h4
          have HH := hide h1k
          have HBG := hide hbig
          have HIN := hide hins
          have HB := hide hB
          have HROW := hide hrow
          have T := hide (And.intro t1 t2)
          clear h1 h1k hbig hins hB hrow t1 t2 hl
          go_wp2_with fail
          go_loopw [30, 8] (fun vk _ wx => ∃ (k : Nat) (VN VU : List Value) (LN LU : List (List Int)), k ≤ l.length ∧ vk = .int .i64 k ∧ Gr.Big wx w.heap.size (w.heap.size + 3) b bn bu NZ.length VN VU LN LU ∧ Gr.Ins NZ NZ.length i k LN LU ∧ Below w.heap.size w wx) (fun vk _ _ => l.length - (intOf vk).toNat)
          case atStart => exact ⟨0, _, _, _, _, Nat.zero_le _, rfl, HBG.out, HIN.out, HB.out⟩
          case round =>
            obtain ⟨k, VN2, VU2, LN2, LU2, hk, rfl, hbig, hins, hB⟩ := hrel
            clear HBG HIN HB
            by_cases hkl : k < l.length
            · obtain ⟨y, hy⟩ := getElem_some hkl
              obtain ⟨b4, o4, rfl, cy⟩ : ∃ b4 o4, au = some ⟨b4, o4, none⟩ ∧ wr.cell? ⟨b4, o4 + k, none⟩ = some (.int .i64 y) := by
                obtain ⟨ao', cap', q5, q6⟩ := HH.out.kept hB (Nat.le_refl _)
                simp only [Value.slice.injEq] at q5
                obtain ⟨rfl, _, rfl⟩ := q5
                rcases q6 with q6 | ⟨b4, o4, rfl, q6⟩
                · rw [q6] at hy; simp at hy
                · exact ⟨b4, o4, rfl, q6 k y hy⟩
              have hmem := List.mem_of_getElem? hy
              by_cases hy0 : 0 ≤ y ∧ y < NZ.length
              · obtain ⟨z, rfl⟩ : ∃ z : Nat, y = (z : Int) := ⟨y.toNat, by omega⟩
                have hzn : z < NZ.length := by omega
                have hsu := hins.su z hzn
                have hsn := hins.sn'
                have hca := add_any wr w.heap.size (w.heap.size + 3) b bn bu NZ.length i z VN2 VU2 LN2 LU2 hbig hlt hzn (by show (Gr.row LN2 i).length ≤ 1000; omega) (by show (Gr.row LU2 z).length ≤ 1000; have := T.out; omega)
                have hput := hins.put hlt hzn (by rw [HROW.out]; exact hy)
                have HCA := hide hca
                have HPUT := hide hput
                have HB := hide hB
                clear hca hput hB hbig hins hsu hsn hmem hy
                go_wp2_with (go_at_call 35; refine HCA.out.mono ?_; rintro e w2 ⟨rfl, hb2, VN3, VU3, hbig3⟩)
                go_roundw
                case rel => exact ⟨k + 1, VN3, VU3, _, _, by omega, by go_num, hbig3, HPUT.out, HB.out.trans hb2⟩
                case measure => simp [intOf]; omega
              · have HB := hide hB
                have HM := hide hmem
                clear hbig hins hB hmem
                have hcase : y < 0 ∨ (¬ y < 0 ∧ (NZ.length : Int) ≤ y) := by omega
                rcases hcase with h1 | ⟨h1, h2⟩
                · go_wp2_with fail
                  go_ret2
                  exact ⟨.inr (.inl ⟨by omega, ⟨i, y, hlt, by rw [HROW.out]; exact HM.out, by omega⟩, rfl⟩), HB.out⟩
                · go_wp2_with fail
                  go_ret2
                  exact ⟨.inr (.inl ⟨by omega, ⟨i, y, hlt, by rw [HROW.out]; exact HM.out, by omega⟩, rfl⟩), HB.out⟩
            · have hkk : k = l.length := by omega
              have hnx := hins.next hlt (by rw [HROW.out]; omega) (by rw [HROW.out]; omega) (by omega)
              have HNX := hide hnx
              have HB := hide hB
              have HBG := hide hbig
              clear hnx hB hbig hins
              go_wp2_with fail
              go_roundw
              case rel => exact ⟨i + 1, _, _, _, _, by omega, by go_num, HBG.out, HNX.out, HB.out⟩
              case measure => simp [intOf]; omega
        · have hii : i = NZ.length := by omega
          subst hii
          obtain ⟨q1, q2, q3, q4⟩ := hins.end
          have hgf := hbig.graf
          rw [q1, q2] at hgf
          have HGF := hide hgf
          have HQ3 := hide q3
          have HQ4 := hide q4
          have HB := hide hB
          clear hgf q1 q2 q3 q4 hB hbig hins
          go_wp2_with fail
          go_ret2
          exact ⟨.inr (.inr ⟨by omega, HQ4.out, b, _, _, HQ3.out, HGF.out, rfl⟩), HB.out⟩
end Go.Proofs.Ytienhelohfhhfaa
