/- errors by number; LightNeeds; cyclic. -/
import Derived.Test.YtienhelohfhhfaaGM
namespace Go.Proofs.Ytienhelohfhhfaa
open Go.RowKit
attribute [local go_sem ↓] Go.wp_at_zero Go.wp_at_succ
open Gr (Ints Lists Bools hide cells On ofN lists onb Graf Got Rch)
theorem ta_errno (n : Int) (w : World) : (Instr.typeAssert (.iface 68 (.int .i64 n)) 25 68 true).run Try.prog w = .ok (.tuple #[.int .i64 n, .bool true]) w := by kernel_rfl
set_option maxRecDepth 100000 in
theorem number_err (n : Int) (w : World) : Calls Try.prog 26 #[.iface 68 (.int .i64 n)] w fun e w' => e = .returned (.int .i64 n) ∧ w' = w := by
  have hta := ta_errno n
  go_enter Try.func26, Try.ntmps26
  go_wp2_with fail
  go_ret
  exact ⟨rfl, rfl⟩
set_option maxRecDepth 100000 in
set_option maxHeartbeats 400000 in
theorem same_err (n f : Int) (w : World) :
    Calls Try.prog 11 #[.iface 68 (.int .i64 n), .int .i64 f] w fun e w' => e = .returned (.bool (decide (0 < f) && n == f)) ∧ w' = w := by
  have hta := ta_errno n
  by_cases h : 0 < f
  · go_enter Try.func11, Try.ntmps11
    go_wp2
    all_goals go_ret
    all_goals simp_all
  · go_enter Try.func11, Try.ntmps11
    go_wp2
    all_goals go_ret
    all_goals simp_all
    all_goals (intro _; omega)
set_option maxRecDepth 100000 in
theorem same_nil (f : Int) (w : World) : Calls Try.prog 11 #[.nilIface, .int .i64 f] w fun e w' => e = .returned (.bool (f == 0)) ∧ w' = w := by
  go_enter Try.func11, Try.ntmps11
  go_wp2_with fail
  go_ret
  exact ⟨rfl, rfl⟩
/-- What LightNeeds says. -/
def Gr.Light (NZ : List (List Int)) (e : Ending) : Prop := ∃ b, e = .returned (.bool b) ∧ (b = true → NZ.length ≤ 80 ∧ Gr.tot NZ < 500 ∧ ∀ l ∈ NZ, l.length ≤ 100)
set_option maxRecDepth 100000 in
set_option maxHeartbeats 400000 in
theorem light_any (NZ : List (List Int)) (v : Value) (w : World) (hL : Lists w v NZ) :
    Calls Try.prog 15 #[v] w fun e w' => Gr.Light NZ e ∧ w' = w := by
  obtain ⟨av, cv, rfl, _⟩ := id hL
  have HL := hide hL
  clear hL
  by_cases h80 : 80 < NZ.length
  · go_enter Try.func15, Try.ntmps15
    go_wp2_with fail
    go_ret
    exact ⟨⟨_, rfl, fun h => absurd h (by decide)⟩, rfl⟩
  · go_enter Try.func15, Try.ntmps15
    go_wp2_with fail
    go_loop [3, 4] (fun vn vi => ∃ i : Nat, i ≤ NZ.length ∧ vi = .int .i64 i ∧ vn = .int .i64 (Gr.tot (NZ.take i)) ∧ Gr.tot (NZ.take i) ≤ 100 * i ∧ ∀ l ∈ NZ.take i, l.length ≤ 100) (fun _ vi => NZ.length - (intOf vi).toNat)
    case atStart => exact ⟨0, Nat.zero_le _, rfl, rfl, by simp [Gr.tot], fun l hl => by simp at hl⟩
    case round =>
      obtain ⟨i, hi, rfl, rfl, hti, hall⟩ := hrel
      by_cases hlt : i < NZ.length
      · obtain ⟨l, hl⟩ := getElem_some hlt
        obtain ⟨b2, o2, c2, au, cu, e1, c1, h1⟩ := Gr.Lists.get HL.out hl
        simp only [Value.slice.injEq] at e1
        obtain ⟨rfl, _, rfl⟩ := e1
        have t1 := Gr.tot_take hl
        have T1 := hide t1
        have HLL := hide hl
        have HALL := hide hall
        clear t1 h1 hl hall
        by_cases h100 : 100 < l.length
        · go_wp2_with fail
          go_ret
          exact ⟨⟨_, rfl, fun h => absurd h (by decide)⟩, rfl⟩
        · go_wp2_with fail
          go_round
          case rel =>
            refine ⟨i + 1, by omega, by go_num, by rw [T1.out]; go_num, by rw [T1.out]; omega, ?_⟩
            rw [take_next HLL.out]
            intro m hm
            rcases List.mem_append.1 hm with h | h
            · exact HALL.out m h
            · rw [List.mem_singleton] at h; rw [h]; omega
          case measure => simp [intOf]; omega
      · have hii : i = NZ.length := by omega
        subst hii
        rw [List.take_length] at hti hall ⊢
        have HALL := hide hall
        clear hall
        go_wp2_with fail
        go_ret
        exact ⟨⟨_, rfl, fun h => ⟨by omega, by have := of_decide_eq_true h; omega, HALL.out⟩⟩, rfl⟩
theorem Gr.mem_row {NZ : List (List Int)} {n : Nat} {N U : Gr.Net} (h : Gr.Net2 NZ n N U) (hok : ∀ a, a < n → ∀ x ∈ Gr.row NZ a, 0 ≤ x ∧ x < n) {i : Nat} (hi : i < n) (j : Nat) : j ∈ (Gr.row NZ i).map Int.toNat ↔ j ∈ N i := by
  rw [h.mn i hi j, List.mem_map]
  constructor
  · rintro ⟨x, hx, rfl⟩
    have := hok i hi x hx
    rw [show ((x.toNat : Nat) : Int) = x by omega]; exact hx
  · intro hj; exact ⟨(j : Int), hj, by simp⟩
set_option maxRecDepth 100000 in
set_option maxHeartbeats 1000000 in
theorem cyclic_any (NZ : List (List Int)) (n b : Nat) (N U : Gr.Net) (LU : List (List Int)) (v : Value) (w : World) (hn : n = NZ.length) (hn1 : n ≤ 100) (hL : Lists w v NZ) (hG : Graf w b (lists N n) LU) (h2 : Gr.Net2 NZ n N U)
    (hok : ∀ a, a < n → ∀ x ∈ Gr.row NZ a, 0 ≤ x ∧ x < n) (hlen : ∀ a, a < n → (Gr.row NZ a).length ≤ 100) (hcyc : ∃ c, c < n ∧ ∃ j ∈ N c, Rch N j c) :
    Calls Try.prog 27 #[.pointer (some ⟨b, 0, none⟩), v] w fun e w' => e = .returned (.bool true) ∧ Below w.heap.size w w' := by
  obtain ⟨av, cv, rfl, _⟩ := id hL
  rw [← hn] at hL ⊢
  have HL := hide hL
  have HG := hide hG
  have H2 := hide h2
  have HOK := hide hok
  have HCYC := hide hcyc
  have HLEN := hide hlen
  clear hL hG h2 hok hcyc hlen
  go_enter Try.func27, Try.ntmps27
  go_wp2_with fail
  go_loopw [5, 6, 7, 8] (fun vi _ _ _ wx => ∃ i : Nat, i ≤ n ∧ vi = .int .i64 i ∧ (∀ a, a < i → ∀ j ∈ N a, ¬ Rch N j a) ∧ Below w.heap.size w wx) (fun vi _ _ _ _ => n - (intOf vi).toNat)
  case atStart => exact ⟨0, Nat.zero_le _, rfl, fun a ha => absurd ha (by omega), Below.refl _ _⟩
  case round =>
    obtain ⟨i, hi, rfl, hno, hB⟩ := hrel
    by_cases hlt : i < n
    · obtain ⟨l, hl⟩ := getElem_some (l := NZ) (k := i) (by omega)
      have hrow := Gr.row_some hl
      obtain ⟨b2, o2, c2, au, cu, e1, c1, h1⟩ := Gr.Lists.get (HL.out.kept hB (Nat.le_refl _)) hl
      simp only [Value.slice.injEq] at e1
      obtain ⟨rfl, _, rfl⟩ := e1
      have hll : l.length ≤ 100 := by rw [← hrow]; exact HLEN.out i hlt
      have hun := under_any N n b LU (.slice au l.length cu) l wr (by omega) (by omega) (HG.out.kept hB (Nat.le_refl _)) h1 H2.out.bn (fun a ha => by have h3 := H2.out.ln a ha; have h4 := HLEN.out a ha; omega)
      have hokl : ∀ x ∈ l, 0 ≤ x ∧ x < n := by rw [← hrow]; exact HOK.out i hlt
      have hmr : ∀ j, j ∈ l.map Int.toNat ↔ j ∈ N i := by rw [← hrow]; exact fun j => Gr.mem_row H2.out HOK.out hlt j
      have HUN := hide hun
      have HMR := hide hmr
      have HNO := hide hno
      have HB := hide hB
      have HOKL := hide hokl
      clear hun hmr hno hB h1 hl hrow hokl
      go_wp2_with (go_at_call 23; refine HUN.out.mono ?_; rintro e w1 ⟨hcase, hB1⟩; rcases hcase with ⟨⟨x, hx, hbad⟩, _⟩ | ⟨_, S, vv, hgot, rfl, hv⟩; (exact absurd (HOKL.out x hx) hbad); have HB1 := hide (HB.out.trans (hB1.mono HB.out.size)); obtain ⟨avv, cvv, rfl, hvc⟩ := hv; rw [Gr.ofN_length]; have HGOT := hide hgot; have HVC := hide hvc; clear hgot hvc hB1)
      have hnl : (Gr.nums S).length ≤ n := by
        have := List.length_filter_le (fun i => S[i]? == some true) (List.range S.length)
        rw [List.length_range] at this
        have h3 := HGOT.out.len
        unfold Gr.nums
        omega
      go_loop [8] (fun vk => ∃ k : Nat, k ≤ (Gr.nums S).length ∧ vk = .int .i64 k ∧ i ∉ (Gr.nums S).take k) (fun vk => (Gr.nums S).length - (intOf vk).toNat)
      case atStart => exact ⟨0, Nat.zero_le _, rfl, by simp⟩
      case round =>
        obtain ⟨k, hk, rfl, hni⟩ := hrel
        by_cases hkl : k < (Gr.nums S).length
        · obtain ⟨y, hy⟩ := getElem_some hkl
          obtain ⟨b4, o4, rfl, cy⟩ : ∃ b4 o4, avv = some ⟨b4, o4, none⟩ ∧ w1.cell? ⟨b4, o4 + k, none⟩ = some (.int .i64 y) := by
            rcases HVC.out with q6 | ⟨b4, o4, rfl, q6⟩
            · have : (ofN (Gr.nums S)).length = 0 := by rw [q6]; rfl
              rw [Gr.ofN_length] at this; omega
            · exact ⟨b4, o4, rfl, q6 k y (Gr.ofN_get hy)⟩
          have HY := hide hy
          have HNI := hide hni
          clear hy hni
          by_cases hyi : y = i
          · subst hyi
            go_wp2_with fail
            go_ret
            exact ⟨rfl, HB1.out⟩
          · have hyi2 : ¬ (y : Int) = (i : Int) := by omega
            go_wp2_with fail
            go_round
            case rel => exact ⟨k + 1, by omega, by go_num, by rw [take_next HY.out]; simp [HNI.out]; omega⟩
            case measure => simp [intOf]; omega
        · rw [List.take_of_length_le (by omega)] at hni
          have hnot : ∀ j ∈ N i, ¬ Rch N j i := by
            intro j hj hr
            exact hni (Gr.mem_nums.2 ((HGOT.out.iff i).2 ⟨j, (HMR.out j).2 hj, hr⟩))
          have HNOT := hide hnot
          clear hnot hni
          go_wp2_with fail
          go_roundw
          case rel =>
            refine ⟨i + 1, by omega, by go_num, ?_, HB1.out⟩
            intro a ha
            by_cases e : a = i
            · rw [e]; exact HNOT.out
            · exact HNO.out a (by omega)
          case measure => simp [intOf]; omega
    · exfalso
      obtain ⟨c, hc, hj⟩ := HCYC.out
      exact hno c (by omega) hj.choose hj.choose_spec.1 hj.choose_spec.2
end Go.Proofs.Ytienhelohfhhfaa
