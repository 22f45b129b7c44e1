/- For CloudSays: the reference's Do. -/
import Derived.Test.YtlmkpjdaoinmoaaKE
namespace Go.Proofs.Ytlmkpjdaoinmoaa
open Go.RowKit
attribute [local go_sem ↓] Go.wp_at_zero Go.wp_at_succ
set_option maxRecDepth 100000 in
set_option maxHeartbeats 2000000 in
theorem refDo_old1 (w : World) (P : Nat → Prop) (rd rc : Nat) (tv kv fv : Value) (S : Rm) (tok kind : ByteArray) (id : Int) (m : Nat) (v : Val) (a : Tg) (h : Rc w P rd rc tv kv fv S) (hM : V.MemX P (m + 1) w v a.cells) (hbk : V.bulk (m + 1) v ≤ 2000000) (hk : kind.size ≤ maxLen) (hA : attrE (m + 1) v = 0) (hN : V.name (V.bl kind) = true) (hb : (0 ≤ S.steps ∧ S.steps ≤ 900000) ∧ (0 ≤ S.calls ∧ S.calls ≤ 900000) ∧ (-1 ≤ S.fuse ∧ S.fuse ≤ 9223372036854775807) ∧ S.things.length ≤ 900 ∧ S.toks.length ≤ 900 ∧ S.fails.length ≤ 900) (hd : S.down = false) (h0 : S.fuse ≠ 0) (hbs : S.calls ∉ S.fails) (d : ByteArray × Int × Int) (hd1 : S.toks.find? (fun d => d.1.toList == tok.toList) = some d) :
    Calls Try.prog 13 #[.pointer (some ⟨rc, 0, none⟩), .int .i64 1, .string tok, .string kind, .int .i64 id, .agg #[.int .i64 a.k, .int .i64 a.n, .string a.s, .slice a.la a.ln a.lc, .slice a.fa a.fn a.fc]] w fun o w' => o = .returned (.tuple #[.int .i64 (if d.2.1 = 1 then d.2.2 else 0), .int .i64 (if d.2.1 = 1 then 0 else 15)]) ∧ Rc w' P rd rc tv kv fv { S with fuse := fuse1 S.fuse, down := false, steps := S.steps + 1, calls := S.calls + 1 } ∧ Fr w w' P := by
  obtain ⟨w2, hw2⟩ : ∃ w2, w2 = w.alloc (.cells #[.int .i64 a.k, .int .i64 a.n, .string a.s, .slice a.la a.ln a.lc, .slice a.fa a.fn a.fc] 40) := ⟨_, rfl⟩
  have hf2 : Fr w w2 (fun _ => False) := by rw [hw2]; exact (Fr.refl _ _).alloc _
  have hb2 : w2.heap[w.heap.size]? = some (.cells #[.int .i64 a.k, .int .i64 a.n, .string a.s, .slice a.la a.ln a.lc, .slice a.fa a.fn a.fc] 40 (0, 0)) := by rw [hw2]; exact heap_alloc_new _ _
  have h2 := h.fr hf2 (fun _ _ e => e)
  have hmx2 := hM.fr (hf2.weak (ex1 := P) (fun _ _ e => e.elim))
  unfold Tg.cells at hmx2
  have HAT := hide (attrsFault_any m w2 v _ _ _ _ _ hmx2.mem hbk)
  have HB2 := hide hb2
  have HH2 := hide h2
  have HF2 := hide hf2
  have HK := hide hk
  clear h hM hf2 h2 hmx2 hk
  have a0 := cell_of_block hb2 0 _ rfl
  have a1 := cell_of_block hb2 1 _ rfl
  have a2 := cell_of_block hb2 2 _ rfl
  have a3 := cell_of_block hb2 3 _ rfl
  have a4 := cell_of_block hb2 4 _ rfl
  clear hb2
  rw [hA] at HAT
  clear hA
  obtain ⟨r0, hr0⟩ : ∃ r0 : Int, r0 = (if d.2.1 = 1 then d.2.2 else 0) := ⟨_, rfl⟩
  obtain ⟨f0, hf0⟩ : ∃ f0 : Int, f0 = (if d.2.1 = 1 then 0 else 15) := ⟨_, rfl⟩
  rw [← hr0, ← hf0]
  have HR0 := hide hr0
  have HF0 := hide hf0
  clear hr0 hf0
  have HBD := hide hb
  clear hb
  have HBS := hide hbs
  clear hbs
  have HD1 := hide hd1
  clear hd1
  have HD := hide hd
  clear hd
  have H0 := hide h0
  clear h0
  go_enter Try.func13, Try.ntmps13
  go_upto_region 1 with fail
  rw [← hw2]
  clear hw2
  go_wp2_with fail
  refine HAT.out.mono ?_
  rintro o w3 ⟨rfl, hb3⟩
  have hf3 := fr_of_below hb3
  have HH3 := hide (HH2.out.fr hf3 (fun _ _ e => e))
  have HF3 := hide (HF2.out.trans hf3 (fun _ _ e => e))
  have HB3 := hide ((hf3.block _ (Array.getElem?_eq_some_iff.1 HB2.out).1 (fun e => e)).trans HB2.out)
  clear hb3 hf3 HAT HH2 HF2 HB2 a0 a1 a2 a3 a4
  go_wp2_with fail
  refine (nameMay_any kind w3 HK.out).mono ?_
  rintro o w4 ⟨rfl, hw4⟩
  rw [hw4]
  clear hw4 w4
  rw [hN]
  clear hN
  have y0 := cell_of_block HH3.out.c 0 _ rfl
  obtain ⟨hbS, hbC, hbF, hbT, hbK, hbX⟩ := HBD.out
  have hdd := HH3.out.d
  rw [HD.out] at hdd
  have HSP := hide (refStep_go w3 rd _ _ hdd H0.out (by omega) hbF)
  clear hdd hbS hbF
  go_wp2_with fail
  refine HSP.out.mono ?_
  rintro o w5 ⟨rfl, hb5, hf5⟩
  have hh5 := HH3.out.stepd hb5 hf5
  have hf05 := (HF3.out.weak (ex1 := P) (fun _ _ e => e.elim)).trans hf5 (fun _ _ e => by rw [e]; exact HH3.out.pd)
  have hbx5 : ¬ w.heap.size = rd := fun e => by
    have h1 := HB3.out
    rw [e, HH3.out.d] at h1
    cases h1
  have hk5 := (hf5.block _ (Array.getElem?_eq_some_iff.1 HB3.out).1 hbx5).trans HB3.out
  have hbxc : ¬ w.heap.size = rc := fun e => by
    have h1 := HB3.out
    rw [e, HH3.out.c] at h1
    cases h1
  have y0 := cell_of_block hh5.c 0 _ rfl
  have y5 := cell_of_block hh5.c 5 _ rfl
  have r5 := free_of_block hh5.c 5
  have hw5 := wrap_eq (S.calls + 1) (by omega)
  obtain ⟨w6, hw6⟩ : ∃ w6, w6 = w5.setCell ⟨rc, 5, none⟩ (.int .i64 (S.calls + 1)) := ⟨_, rfl⟩
  have hh6 := hh5.counted (S.calls + 1)
  rw [← hw6] at hh6
  have hfs6 : Fr w5 w6 (fun c => c = rc) := by rw [hw6]; exact (Fr.refl w5 (fun c => c = rc)).set _ _ (fun _ => rfl)
  have HK6 := hide ((hfs6.block _ (Array.getElem?_eq_some_iff.1 hk5).1 hbxc).trans hk5)
  have HF6 := hide (hf05.trans hfs6 (fun _ _ e => by rw [e]; exact HH3.out.pc))
  have HH6 := hide hh6
  have HS6 := hide HF6.out.size
  have HFR := hide hh6.f
  have HTK := hide hh6.k
  clear hb5 hf5 hh5 hf05 hk5 HSP hh6 hfs6 HH3 HF3 HB3 hbx5 hbxc
  go_upto_region 13 with fail
  rw [← hw6]
  clear hw6 y0 y5 r5 hw5
  have y1 := cell_of_block HH6.out.c 1 _ rfl
  have y2 := cell_of_block HH6.out.c 2 _ rfl
  have y3 := cell_of_block HH6.out.c 3 _ rfl
  have y4 := cell_of_block HH6.out.c 4 _ rfl
  have y6 := cell_of_block HH6.out.c 6 _ rfl
  obtain ⟨fa, fc, rfl⟩ := owns_shape HH6.out.f
  obtain ⟨ka, kc, rfl⟩ := owns_shape HH6.out.k
  obtain ⟨ta, tc, rfl⟩ := owns_shape HH6.out.t
  simp only at y1 y2 y3 y4 y6 HFR HTK HF6 HH6
  go_wp2_with fail
  go_loopw [18] (fun vi wr => wr = w6 ∧ ∃ k : Nat, k ≤ S.fails.length ∧ vi = .int .i64 k ∧ ∀ (j : Nat) (x : Int), j < k → S.fails[j]? = some x → x ≠ S.calls) (fun vi _ => S.fails.length - (intOf vi).toNat)
  case atStart => exact ⟨rfl, 0, Nat.zero_le _, rfl, fun j x hj => absurd hj (by omega)⟩
  case round =>
    obtain ⟨hwr, k, hk, rfl, hok⟩ := hrel
    rw [hwr]
    clear hwr
    have HOK := hide hok
    clear hok
    by_cases hlt : k < S.fails.length
    · obtain ⟨x, hx⟩ : ∃ x, S.fails[k]? = some x := ⟨_, List.getElem?_eq_getElem hlt⟩
      obtain ⟨b, cap, e1, z0⟩ := int_at HFR.out k x hx
      simp only [Value.slice.injEq] at e1
      obtain ⟨rfl, _, rfl⟩ := e1
      have HX := hide hx
      clear hx
      by_cases hxc : x = S.calls
      · exact absurd (by rw [← hxc]; exact List.mem_of_getElem? HX.out) HBS.out
      · go_wp2_with fail
        go_roundw
        case rel =>
          refine ⟨by first | rfl | trivial, k + 1, by omega, by go_num, fun j y hj hy => ?_⟩
          rcases Nat.lt_or_ge j k with h | h
          · exact HOK.out j y h hy
          · have e : j = k := by omega
            rw [e, HX.out] at hy
            have : x = y := by simpa using hy
            rw [← this]; exact hxc
        case measure => simp [intOf]; omega
    · go_wp2_with fail
      go_loopw [19] (fun vi wr => wr = w6 ∧ ∃ k : Nat, k ≤ S.toks.length ∧ vi = .int .i64 k ∧ ∀ (j : Nat) (x : ByteArray × Int × Int), j < k → S.toks[j]? = some x → x.1.toList ≠ tok.toList) (fun vi _ => S.toks.length - (intOf vi).toNat)
      case atStart => exact ⟨rfl, 0, Nat.zero_le _, rfl, fun j x hj => absurd hj (by omega)⟩
      case round =>
        clear HOK
        obtain ⟨hwr, k2, hk2, rfl, hok⟩ := hrel
        rw [hwr]
        clear hwr
        have HOK := hide hok
        clear hok
        by_cases hlt2 : k2 < S.toks.length
        · obtain ⟨x, hx⟩ : ∃ x, S.toks[k2]? = some x := ⟨_, List.getElem?_eq_getElem hlt2⟩
          obtain ⟨b, cap, e1, z0, z1, z2⟩ := tok_at HTK.out k2 x hx
          simp only [Value.slice.injEq] at e1
          obtain ⟨rfl, _, rfl⟩ := e1
          have HX := hide hx
          clear hx
          by_cases hxt : x.1.toList = tok.toList
          · have hxd : x = d := by
              have h1 := HD1.out
              rw [find_first HOK.out HX.out hxt] at h1
              simpa using h1
            have hxb : (x.1.toList != tok.toList) = false := by simp [hxt]
            by_cases hop : x.2.1 = 1
            · have e1 : r0 = x.2.2 := by rw [HR0.out, ← hxd, if_pos hop]
              have e2 : f0 = 0 := by rw [HF0.out, ← hxd, if_pos hop]
              have HE1 := hide e1
              have HE2 := hide e2
              clear e1 e2 hxd
              go_wp2_with fail
              go_ret2
              exact ⟨by rw [HE1.out, HE2.out]; rfl, HH6.out, HF6.out⟩
            · have e1 : r0 = 0 := by rw [HR0.out, ← hxd, if_neg hop]
              have e2 : f0 = 15 := by rw [HF0.out, ← hxd, if_neg hop]
              have HE1 := hide e1
              have HE2 := hide e2
              clear e1 e2 hxd
              go_wp2_with fail
              go_ret2
              exact ⟨by rw [HE1.out, HE2.out]; rfl, HH6.out, HF6.out⟩
          · have hxn : (x.1.toList == tok.toList) = false := by simp [hxt]
            go_wp2_with fail
            go_roundw
            case rel =>
              refine ⟨by first | rfl | trivial, k2 + 1, by omega, by go_num, fun j y hj hy => ?_⟩
              rcases Nat.lt_or_ge j k2 with h | h
              · exact HOK.out j y h hy
              · have e : j = k2 := by omega
                rw [e, HX.out] at hy
                have : x = y := by simpa using hy
                rw [← this]; exact hxt
            case measure => simp [intOf]; omega
        · exact absurd HD1.out (by rw [find_none (fun x hx => by
            obtain ⟨j, hj⟩ := List.getElem?_of_mem hx
            exact HOK.out j x (by have := (List.getElem?_eq_some_iff.1 hj).1; omega) hj)]; simp)
set_option maxRecDepth 100000 in
set_option maxHeartbeats 2000000 in
theorem refDo_old2 (w : World) (P : Nat → Prop) (rd rc : Nat) (tv kv fv : Value) (S : Rm) (tok kind : ByteArray) (id : Int) (m : Nat) (v : Val) (a : Tg) (h : Rc w P rd rc tv kv fv S) (hM : V.MemX P (m + 1) w v a.cells) (hbk : V.bulk (m + 1) v ≤ 2000000) (hk : kind.size ≤ maxLen) (hA : attrE (m + 1) v = 0) (hb : (0 ≤ S.steps ∧ S.steps ≤ 900000) ∧ (0 ≤ S.calls ∧ S.calls ≤ 900000) ∧ (-1 ≤ S.fuse ∧ S.fuse ≤ 9223372036854775807) ∧ S.things.length ≤ 900 ∧ S.toks.length ≤ 900 ∧ S.fails.length ≤ 900) (hd : S.down = false) (h0 : S.fuse ≠ 0) (hbs : S.calls ∉ S.fails) (d : ByteArray × Int × Int) (hd1 : S.toks.find? (fun d => d.1.toList == tok.toList) = some d) :
    Calls Try.prog 13 #[.pointer (some ⟨rc, 0, none⟩), .int .i64 2, .string tok, .string kind, .int .i64 id, .agg #[.int .i64 a.k, .int .i64 a.n, .string a.s, .slice a.la a.ln a.lc, .slice a.fa a.fn a.fc]] w fun o w' => o = .returned (.tuple #[.int .i64 (if d.2.1 = 2 then d.2.2 else 0), .int .i64 (if d.2.1 = 2 then 0 else 15)]) ∧ Rc w' P rd rc tv kv fv { S with fuse := fuse1 S.fuse, down := false, steps := S.steps + 1, calls := S.calls + 1 } ∧ Fr w w' P := by
  obtain ⟨w2, hw2⟩ : ∃ w2, w2 = w.alloc (.cells #[.int .i64 a.k, .int .i64 a.n, .string a.s, .slice a.la a.ln a.lc, .slice a.fa a.fn a.fc] 40) := ⟨_, rfl⟩
  have hf2 : Fr w w2 (fun _ => False) := by rw [hw2]; exact (Fr.refl _ _).alloc _
  have hb2 : w2.heap[w.heap.size]? = some (.cells #[.int .i64 a.k, .int .i64 a.n, .string a.s, .slice a.la a.ln a.lc, .slice a.fa a.fn a.fc] 40 (0, 0)) := by rw [hw2]; exact heap_alloc_new _ _
  have h2 := h.fr hf2 (fun _ _ e => e)
  have hmx2 := hM.fr (hf2.weak (ex1 := P) (fun _ _ e => e.elim))
  unfold Tg.cells at hmx2
  have HAT := hide (attrsFault_any m w2 v _ _ _ _ _ hmx2.mem hbk)
  have HB2 := hide hb2
  have HH2 := hide h2
  have HF2 := hide hf2
  have HK := hide hk
  clear h hM hf2 h2 hmx2 hk
  have a0 := cell_of_block hb2 0 _ rfl
  have a1 := cell_of_block hb2 1 _ rfl
  have a2 := cell_of_block hb2 2 _ rfl
  have a3 := cell_of_block hb2 3 _ rfl
  have a4 := cell_of_block hb2 4 _ rfl
  clear hb2
  rw [hA] at HAT
  clear hA
  obtain ⟨r0, hr0⟩ : ∃ r0 : Int, r0 = (if d.2.1 = 2 then d.2.2 else 0) := ⟨_, rfl⟩
  obtain ⟨f0, hf0⟩ : ∃ f0 : Int, f0 = (if d.2.1 = 2 then 0 else 15) := ⟨_, rfl⟩
  rw [← hr0, ← hf0]
  have HR0 := hide hr0
  have HF0 := hide hf0
  clear hr0 hf0
  have HBD := hide hb
  clear hb
  have HBS := hide hbs
  clear hbs
  have HD1 := hide hd1
  clear hd1
  have HD := hide hd
  clear hd
  have H0 := hide h0
  clear h0
  go_enter Try.func13, Try.ntmps13
  go_upto_region 1 with fail
  rw [← hw2]
  clear hw2
  go_wp2_with fail
  refine HAT.out.mono ?_
  rintro o w3 ⟨rfl, hb3⟩
  have hf3 := fr_of_below hb3
  have HH3 := hide (HH2.out.fr hf3 (fun _ _ e => e))
  have HF3 := hide (HF2.out.trans hf3 (fun _ _ e => e))
  have HB3 := hide ((hf3.block _ (Array.getElem?_eq_some_iff.1 HB2.out).1 (fun e => e)).trans HB2.out)
  clear hb3 hf3 HAT HH2 HF2 HB2 a0 a1 a2 a3 a4
  go_wp2_with fail
  refine (nameMay_any kind w3 HK.out).mono ?_
  rintro o w4 ⟨rfl, hw4⟩
  rw [hw4]
  clear hw4 w4
  generalize V.name (V.bl kind) = nmb
  have y0 := cell_of_block HH3.out.c 0 _ rfl
  obtain ⟨hbS, hbC, hbF, hbT, hbK, hbX⟩ := HBD.out
  have hdd := HH3.out.d
  rw [HD.out] at hdd
  have HSP := hide (refStep_go w3 rd _ _ hdd H0.out (by omega) hbF)
  clear hdd hbS hbF
  go_wp2_with fail
  refine HSP.out.mono ?_
  rintro o w5 ⟨rfl, hb5, hf5⟩
  have hh5 := HH3.out.stepd hb5 hf5
  have hf05 := (HF3.out.weak (ex1 := P) (fun _ _ e => e.elim)).trans hf5 (fun _ _ e => by rw [e]; exact HH3.out.pd)
  have hbx5 : ¬ w.heap.size = rd := fun e => by
    have h1 := HB3.out
    rw [e, HH3.out.d] at h1
    cases h1
  have hk5 := (hf5.block _ (Array.getElem?_eq_some_iff.1 HB3.out).1 hbx5).trans HB3.out
  have hbxc : ¬ w.heap.size = rc := fun e => by
    have h1 := HB3.out
    rw [e, HH3.out.c] at h1
    cases h1
  have y0 := cell_of_block hh5.c 0 _ rfl
  have y5 := cell_of_block hh5.c 5 _ rfl
  have r5 := free_of_block hh5.c 5
  have hw5 := wrap_eq (S.calls + 1) (by omega)
  obtain ⟨w6, hw6⟩ : ∃ w6, w6 = w5.setCell ⟨rc, 5, none⟩ (.int .i64 (S.calls + 1)) := ⟨_, rfl⟩
  have hh6 := hh5.counted (S.calls + 1)
  rw [← hw6] at hh6
  have hfs6 : Fr w5 w6 (fun c => c = rc) := by rw [hw6]; exact (Fr.refl w5 (fun c => c = rc)).set _ _ (fun _ => rfl)
  have HK6 := hide ((hfs6.block _ (Array.getElem?_eq_some_iff.1 hk5).1 hbxc).trans hk5)
  have HF6 := hide (hf05.trans hfs6 (fun _ _ e => by rw [e]; exact HH3.out.pc))
  have HH6 := hide hh6
  have HS6 := hide HF6.out.size
  have HFR := hide hh6.f
  have HTK := hide hh6.k
  clear hb5 hf5 hh5 hf05 hk5 HSP hh6 hfs6 HH3 HF3 HB3 hbx5 hbxc
  go_upto_region 13 with fail
  rw [← hw6]
  clear hw6 y0 y5 r5 hw5
  have y1 := cell_of_block HH6.out.c 1 _ rfl
  have y2 := cell_of_block HH6.out.c 2 _ rfl
  have y3 := cell_of_block HH6.out.c 3 _ rfl
  have y4 := cell_of_block HH6.out.c 4 _ rfl
  have y6 := cell_of_block HH6.out.c 6 _ rfl
  obtain ⟨fa, fc, rfl⟩ := owns_shape HH6.out.f
  obtain ⟨ka, kc, rfl⟩ := owns_shape HH6.out.k
  obtain ⟨ta, tc, rfl⟩ := owns_shape HH6.out.t
  simp only at y1 y2 y3 y4 y6 HFR HTK HF6 HH6
  go_wp2_with fail
  go_loopw [18] (fun vi wr => wr = w6 ∧ ∃ k : Nat, k ≤ S.fails.length ∧ vi = .int .i64 k ∧ ∀ (j : Nat) (x : Int), j < k → S.fails[j]? = some x → x ≠ S.calls) (fun vi _ => S.fails.length - (intOf vi).toNat)
  case atStart => exact ⟨rfl, 0, Nat.zero_le _, rfl, fun j x hj => absurd hj (by omega)⟩
  case round =>
    obtain ⟨hwr, k, hk, rfl, hok⟩ := hrel
    rw [hwr]
    clear hwr
    have HOK := hide hok
    clear hok
    by_cases hlt : k < S.fails.length
    · obtain ⟨x, hx⟩ : ∃ x, S.fails[k]? = some x := ⟨_, List.getElem?_eq_getElem hlt⟩
      obtain ⟨b, cap, e1, z0⟩ := int_at HFR.out k x hx
      simp only [Value.slice.injEq] at e1
      obtain ⟨rfl, _, rfl⟩ := e1
      have HX := hide hx
      clear hx
      by_cases hxc : x = S.calls
      · exact absurd (by rw [← hxc]; exact List.mem_of_getElem? HX.out) HBS.out
      · go_wp2_with fail
        go_roundw
        case rel =>
          refine ⟨by first | rfl | trivial, k + 1, by omega, by go_num, fun j y hj hy => ?_⟩
          rcases Nat.lt_or_ge j k with h | h
          · exact HOK.out j y h hy
          · have e : j = k := by omega
            rw [e, HX.out] at hy
            have : x = y := by simpa using hy
            rw [← this]; exact hxc
        case measure => simp [intOf]; omega
    · go_wp2_with fail
      go_loopw [19] (fun vi wr => wr = w6 ∧ ∃ k : Nat, k ≤ S.toks.length ∧ vi = .int .i64 k ∧ ∀ (j : Nat) (x : ByteArray × Int × Int), j < k → S.toks[j]? = some x → x.1.toList ≠ tok.toList) (fun vi _ => S.toks.length - (intOf vi).toNat)
      case atStart => exact ⟨rfl, 0, Nat.zero_le _, rfl, fun j x hj => absurd hj (by omega)⟩
      case round =>
        clear HOK
        obtain ⟨hwr, k2, hk2, rfl, hok⟩ := hrel
        rw [hwr]
        clear hwr
        have HOK := hide hok
        clear hok
        by_cases hlt2 : k2 < S.toks.length
        · obtain ⟨x, hx⟩ : ∃ x, S.toks[k2]? = some x := ⟨_, List.getElem?_eq_getElem hlt2⟩
          obtain ⟨b, cap, e1, z0, z1, z2⟩ := tok_at HTK.out k2 x hx
          simp only [Value.slice.injEq] at e1
          obtain ⟨rfl, _, rfl⟩ := e1
          have HX := hide hx
          clear hx
          by_cases hxt : x.1.toList = tok.toList
          · have hxd : x = d := by
              have h1 := HD1.out
              rw [find_first HOK.out HX.out hxt] at h1
              simpa using h1
            have hxb : (x.1.toList != tok.toList) = false := by simp [hxt]
            by_cases hop : x.2.1 = 2
            · have e1 : r0 = x.2.2 := by rw [HR0.out, ← hxd, if_pos hop]
              have e2 : f0 = 0 := by rw [HF0.out, ← hxd, if_pos hop]
              have HE1 := hide e1
              have HE2 := hide e2
              clear e1 e2 hxd
              go_wp2_with fail
              go_ret2
              exact ⟨by rw [HE1.out, HE2.out]; rfl, HH6.out, HF6.out⟩
            · have e1 : r0 = 0 := by rw [HR0.out, ← hxd, if_neg hop]
              have e2 : f0 = 15 := by rw [HF0.out, ← hxd, if_neg hop]
              have HE1 := hide e1
              have HE2 := hide e2
              clear e1 e2 hxd
              go_wp2_with fail
              go_ret2
              exact ⟨by rw [HE1.out, HE2.out]; rfl, HH6.out, HF6.out⟩
          · have hxn : (x.1.toList == tok.toList) = false := by simp [hxt]
            go_wp2_with fail
            go_roundw
            case rel =>
              refine ⟨by first | rfl | trivial, k2 + 1, by omega, by go_num, fun j y hj hy => ?_⟩
              rcases Nat.lt_or_ge j k2 with h | h
              · exact HOK.out j y h hy
              · have e : j = k2 := by omega
                rw [e, HX.out] at hy
                have : x = y := by simpa using hy
                rw [← this]; exact hxt
            case measure => simp [intOf]; omega
        · exact absurd HD1.out (by rw [find_none (fun x hx => by
            obtain ⟨j, hj⟩ := List.getElem?_of_mem hx
            exact HOK.out j x (by have := (List.getElem?_eq_some_iff.1 hj).1; omega) hj)]; simp)
set_option maxRecDepth 100000 in
set_option maxHeartbeats 2000000 in
theorem refDo_old3 (w : World) (P : Nat → Prop) (rd rc : Nat) (tv kv fv : Value) (S : Rm) (tok kind : ByteArray) (id : Int) (a : Tg) (h : Rc w P rd rc tv kv fv S) (hk : kind.size ≤ maxLen) (hb : (0 ≤ S.steps ∧ S.steps ≤ 900000) ∧ (0 ≤ S.calls ∧ S.calls ≤ 900000) ∧ (-1 ≤ S.fuse ∧ S.fuse ≤ 9223372036854775807) ∧ S.things.length ≤ 900 ∧ S.toks.length ≤ 900 ∧ S.fails.length ≤ 900) (hd : S.down = false) (h0 : S.fuse ≠ 0) (hbs : S.calls ∉ S.fails) (d : ByteArray × Int × Int) (hd1 : S.toks.find? (fun d => d.1.toList == tok.toList) = some d) :
    Calls Try.prog 13 #[.pointer (some ⟨rc, 0, none⟩), .int .i64 3, .string tok, .string kind, .int .i64 id, .agg #[.int .i64 a.k, .int .i64 a.n, .string a.s, .slice a.la a.ln a.lc, .slice a.fa a.fn a.fc]] w fun o w' => o = .returned (.tuple #[.int .i64 (if d.2.1 = 3 then d.2.2 else 0), .int .i64 (if d.2.1 = 3 then 0 else 15)]) ∧ Rc w' P rd rc tv kv fv { S with fuse := fuse1 S.fuse, down := false, steps := S.steps + 1, calls := S.calls + 1 } ∧ Fr w w' P := by
  obtain ⟨w2, hw2⟩ : ∃ w2, w2 = w.alloc (.cells #[.int .i64 a.k, .int .i64 a.n, .string a.s, .slice a.la a.ln a.lc, .slice a.fa a.fn a.fc] 40) := ⟨_, rfl⟩
  have hf2 : Fr w w2 (fun _ => False) := by rw [hw2]; exact (Fr.refl _ _).alloc _
  have hb2 : w2.heap[w.heap.size]? = some (.cells #[.int .i64 a.k, .int .i64 a.n, .string a.s, .slice a.la a.ln a.lc, .slice a.fa a.fn a.fc] 40 (0, 0)) := by rw [hw2]; exact heap_alloc_new _ _
  have h2 := h.fr hf2 (fun _ _ e => e)
  have HB2 := hide hb2
  have HH2 := hide h2
  have HF2 := hide hf2
  have HK := hide hk
  clear h hf2 h2 hk
  clear hb2
  obtain ⟨r0, hr0⟩ : ∃ r0 : Int, r0 = (if d.2.1 = 3 then d.2.2 else 0) := ⟨_, rfl⟩
  obtain ⟨f0, hf0⟩ : ∃ f0 : Int, f0 = (if d.2.1 = 3 then 0 else 15) := ⟨_, rfl⟩
  rw [← hr0, ← hf0]
  have HR0 := hide hr0
  have HF0 := hide hf0
  clear hr0 hf0
  have HBD := hide hb
  clear hb
  have HBS := hide hbs
  clear hbs
  have HD1 := hide hd1
  clear hd1
  have HD := hide hd
  clear hd
  have H0 := hide h0
  clear h0
  go_enter Try.func13, Try.ntmps13
  go_upto_region 1 with fail
  rw [← hw2]
  clear hw2
  go_wp2_with fail
  obtain ⟨w3, hw3⟩ : ∃ w3, w3 = w2 := ⟨_, rfl⟩
  rw [← hw3] at HH2 HF2 HB2 ⊢
  clear hw3
  have HH3 := hide HH2.out
  have HF3 := hide HF2.out
  have HB3 := hide HB2.out
  clear HH2 HF2 HB2
  refine (nameMay_any kind w3 HK.out).mono ?_
  rintro o w4 ⟨rfl, hw4⟩
  rw [hw4]
  clear hw4 w4
  generalize V.name (V.bl kind) = nmb
  have y0 := cell_of_block HH3.out.c 0 _ rfl
  obtain ⟨hbS, hbC, hbF, hbT, hbK, hbX⟩ := HBD.out
  have hdd := HH3.out.d
  rw [HD.out] at hdd
  have HSP := hide (refStep_go w3 rd _ _ hdd H0.out (by omega) hbF)
  clear hdd hbS hbF
  go_wp2_with fail
  refine HSP.out.mono ?_
  rintro o w5 ⟨rfl, hb5, hf5⟩
  have hh5 := HH3.out.stepd hb5 hf5
  have hf05 := (HF3.out.weak (ex1 := P) (fun _ _ e => e.elim)).trans hf5 (fun _ _ e => by rw [e]; exact HH3.out.pd)
  have hbx5 : ¬ w.heap.size = rd := fun e => by
    have h1 := HB3.out
    rw [e, HH3.out.d] at h1
    cases h1
  have hk5 := (hf5.block _ (Array.getElem?_eq_some_iff.1 HB3.out).1 hbx5).trans HB3.out
  have hbxc : ¬ w.heap.size = rc := fun e => by
    have h1 := HB3.out
    rw [e, HH3.out.c] at h1
    cases h1
  have y0 := cell_of_block hh5.c 0 _ rfl
  have y5 := cell_of_block hh5.c 5 _ rfl
  have r5 := free_of_block hh5.c 5
  have hw5 := wrap_eq (S.calls + 1) (by omega)
  obtain ⟨w6, hw6⟩ : ∃ w6, w6 = w5.setCell ⟨rc, 5, none⟩ (.int .i64 (S.calls + 1)) := ⟨_, rfl⟩
  have hh6 := hh5.counted (S.calls + 1)
  rw [← hw6] at hh6
  have hfs6 : Fr w5 w6 (fun c => c = rc) := by rw [hw6]; exact (Fr.refl w5 (fun c => c = rc)).set _ _ (fun _ => rfl)
  have HK6 := hide ((hfs6.block _ (Array.getElem?_eq_some_iff.1 hk5).1 hbxc).trans hk5)
  have HF6 := hide (hf05.trans hfs6 (fun _ _ e => by rw [e]; exact HH3.out.pc))
  have HH6 := hide hh6
  have HS6 := hide HF6.out.size
  have HFR := hide hh6.f
  have HTK := hide hh6.k
  clear hb5 hf5 hh5 hf05 hk5 HSP hh6 hfs6 HH3 HF3 HB3 hbx5 hbxc
  go_upto_region 13 with fail
  rw [← hw6]
  clear hw6 y0 y5 r5 hw5
  have y1 := cell_of_block HH6.out.c 1 _ rfl
  have y2 := cell_of_block HH6.out.c 2 _ rfl
  have y3 := cell_of_block HH6.out.c 3 _ rfl
  have y4 := cell_of_block HH6.out.c 4 _ rfl
  have y6 := cell_of_block HH6.out.c 6 _ rfl
  obtain ⟨fa, fc, rfl⟩ := owns_shape HH6.out.f
  obtain ⟨ka, kc, rfl⟩ := owns_shape HH6.out.k
  obtain ⟨ta, tc, rfl⟩ := owns_shape HH6.out.t
  simp only at y1 y2 y3 y4 y6 HFR HTK HF6 HH6
  go_wp2_with fail
  go_loopw [18] (fun vi wr => wr = w6 ∧ ∃ k : Nat, k ≤ S.fails.length ∧ vi = .int .i64 k ∧ ∀ (j : Nat) (x : Int), j < k → S.fails[j]? = some x → x ≠ S.calls) (fun vi _ => S.fails.length - (intOf vi).toNat)
  case atStart => exact ⟨rfl, 0, Nat.zero_le _, rfl, fun j x hj => absurd hj (by omega)⟩
  case round =>
    obtain ⟨hwr, k, hk, rfl, hok⟩ := hrel
    rw [hwr]
    clear hwr
    have HOK := hide hok
    clear hok
    by_cases hlt : k < S.fails.length
    · obtain ⟨x, hx⟩ : ∃ x, S.fails[k]? = some x := ⟨_, List.getElem?_eq_getElem hlt⟩
      obtain ⟨b, cap, e1, z0⟩ := int_at HFR.out k x hx
      simp only [Value.slice.injEq] at e1
      obtain ⟨rfl, _, rfl⟩ := e1
      have HX := hide hx
      clear hx
      by_cases hxc : x = S.calls
      · exact absurd (by rw [← hxc]; exact List.mem_of_getElem? HX.out) HBS.out
      · go_wp2_with fail
        go_roundw
        case rel =>
          refine ⟨by first | rfl | trivial, k + 1, by omega, by go_num, fun j y hj hy => ?_⟩
          rcases Nat.lt_or_ge j k with h | h
          · exact HOK.out j y h hy
          · have e : j = k := by omega
            rw [e, HX.out] at hy
            have : x = y := by simpa using hy
            rw [← this]; exact hxc
        case measure => simp [intOf]; omega
    · go_wp2_with fail
      go_loopw [19] (fun vi wr => wr = w6 ∧ ∃ k : Nat, k ≤ S.toks.length ∧ vi = .int .i64 k ∧ ∀ (j : Nat) (x : ByteArray × Int × Int), j < k → S.toks[j]? = some x → x.1.toList ≠ tok.toList) (fun vi _ => S.toks.length - (intOf vi).toNat)
      case atStart => exact ⟨rfl, 0, Nat.zero_le _, rfl, fun j x hj => absurd hj (by omega)⟩
      case round =>
        clear HOK
        obtain ⟨hwr, k2, hk2, rfl, hok⟩ := hrel
        rw [hwr]
        clear hwr
        have HOK := hide hok
        clear hok
        by_cases hlt2 : k2 < S.toks.length
        · obtain ⟨x, hx⟩ : ∃ x, S.toks[k2]? = some x := ⟨_, List.getElem?_eq_getElem hlt2⟩
          obtain ⟨b, cap, e1, z0, z1, z2⟩ := tok_at HTK.out k2 x hx
          simp only [Value.slice.injEq] at e1
          obtain ⟨rfl, _, rfl⟩ := e1
          have HX := hide hx
          clear hx
          by_cases hxt : x.1.toList = tok.toList
          · have hxd : x = d := by
              have h1 := HD1.out
              rw [find_first HOK.out HX.out hxt] at h1
              simpa using h1
            have hxb : (x.1.toList != tok.toList) = false := by simp [hxt]
            by_cases hop : x.2.1 = 3
            · have e1 : r0 = x.2.2 := by rw [HR0.out, ← hxd, if_pos hop]
              have e2 : f0 = 0 := by rw [HF0.out, ← hxd, if_pos hop]
              have HE1 := hide e1
              have HE2 := hide e2
              clear e1 e2 hxd
              go_wp2_with fail
              go_ret2
              exact ⟨by rw [HE1.out, HE2.out]; rfl, HH6.out, HF6.out⟩
            · have e1 : r0 = 0 := by rw [HR0.out, ← hxd, if_neg hop]
              have e2 : f0 = 15 := by rw [HF0.out, ← hxd, if_neg hop]
              have HE1 := hide e1
              have HE2 := hide e2
              clear e1 e2 hxd
              go_wp2_with fail
              go_ret2
              exact ⟨by rw [HE1.out, HE2.out]; rfl, HH6.out, HF6.out⟩
          · have hxn : (x.1.toList == tok.toList) = false := by simp [hxt]
            go_wp2_with fail
            go_roundw
            case rel =>
              refine ⟨by first | rfl | trivial, k2 + 1, by omega, by go_num, fun j y hj hy => ?_⟩
              rcases Nat.lt_or_ge j k2 with h | h
              · exact HOK.out j y h hy
              · have e : j = k2 := by omega
                rw [e, HX.out] at hy
                have : x = y := by simpa using hy
                rw [← this]; exact hxt
            case measure => simp [intOf]; omega
        · exact absurd HD1.out (by rw [find_none (fun x hx => by
            obtain ⟨j, hj⟩ := List.getElem?_of_mem hx
            exact HOK.out j x (by have := (List.getElem?_eq_some_iff.1 hj).1; omega) hj)]; simp)
set_option maxRecDepth 100000 in
set_option maxHeartbeats 2000000 in
theorem refDo_full (w : World) (P : Nat → Prop) (rd rc : Nat) (tv kv fv : Value) (S : Rm) (tok kind : ByteArray) (id : Int) (m : Nat) (v : Val) (a : Tg) (h : Rc w P rd rc tv kv fv S) (hM : V.MemX P (m + 1) w v a.cells) (hbk : V.bulk (m + 1) v ≤ 2000000) (hk : kind.size ≤ maxLen) (hA : attrE (m + 1) v = 0) (hN : V.name (V.bl kind) = true) (hb : (0 ≤ S.steps ∧ S.steps ≤ 900000) ∧ (0 ≤ S.calls ∧ S.calls ≤ 900000) ∧ (-1 ≤ S.fuse ∧ S.fuse ≤ 9223372036854775807) ∧ S.things.length ≤ 900 ∧ S.toks.length ≤ 900 ∧ S.fails.length ≤ 900) (hd : S.down = false) (h0 : S.fuse ≠ 0) (hbs : S.calls ∉ S.fails) (hno : ∀ d ∈ S.toks, d.1.toList ≠ tok.toList) (hfu : S.quota ≤ S.things.length) :
    Calls Try.prog 13 #[.pointer (some ⟨rc, 0, none⟩), .int .i64 1, .string tok, .string kind, .int .i64 id, .agg #[.int .i64 a.k, .int .i64 a.n, .string a.s, .slice a.la a.ln a.lc, .slice a.fa a.fn a.fc]] w fun o w' => o = .returned (.tuple #[.int .i64 0, .int .i64 13]) ∧ Rc w' P rd rc tv kv fv { S with fuse := fuse1 S.fuse, down := false, steps := S.steps + 1, calls := S.calls + 1 } ∧ Fr w w' P := by
  obtain ⟨w2, hw2⟩ : ∃ w2, w2 = w.alloc (.cells #[.int .i64 a.k, .int .i64 a.n, .string a.s, .slice a.la a.ln a.lc, .slice a.fa a.fn a.fc] 40) := ⟨_, rfl⟩
  have hf2 : Fr w w2 (fun _ => False) := by rw [hw2]; exact (Fr.refl _ _).alloc _
  have hb2 : w2.heap[w.heap.size]? = some (.cells #[.int .i64 a.k, .int .i64 a.n, .string a.s, .slice a.la a.ln a.lc, .slice a.fa a.fn a.fc] 40 (0, 0)) := by rw [hw2]; exact heap_alloc_new _ _
  have h2 := h.fr hf2 (fun _ _ e => e)
  have hmx2 := hM.fr (hf2.weak (ex1 := P) (fun _ _ e => e.elim))
  unfold Tg.cells at hmx2
  have HAT := hide (attrsFault_any m w2 v _ _ _ _ _ hmx2.mem hbk)
  have HB2 := hide hb2
  have HH2 := hide h2
  have HF2 := hide hf2
  have HK := hide hk
  clear h hM hf2 h2 hmx2 hk
  have a0 := cell_of_block hb2 0 _ rfl
  have a1 := cell_of_block hb2 1 _ rfl
  have a2 := cell_of_block hb2 2 _ rfl
  have a3 := cell_of_block hb2 3 _ rfl
  have a4 := cell_of_block hb2 4 _ rfl
  clear hb2
  rw [hA] at HAT
  clear hA
  have HBD := hide hb
  clear hb
  have HBS := hide hbs
  clear hbs
  have HNO := hide hno
  clear hno
  have HD := hide hd
  clear hd
  have H0 := hide h0
  clear h0
  go_enter Try.func13, Try.ntmps13
  go_upto_region 1 with fail
  rw [← hw2]
  clear hw2
  go_wp2_with fail
  refine HAT.out.mono ?_
  rintro o w3 ⟨rfl, hb3⟩
  have hf3 := fr_of_below hb3
  have HH3 := hide (HH2.out.fr hf3 (fun _ _ e => e))
  have HF3 := hide (HF2.out.trans hf3 (fun _ _ e => e))
  have HB3 := hide ((hf3.block _ (Array.getElem?_eq_some_iff.1 HB2.out).1 (fun e => e)).trans HB2.out)
  clear hb3 hf3 HAT HH2 HF2 HB2 a0 a1 a2 a3 a4
  go_wp2_with fail
  refine (nameMay_any kind w3 HK.out).mono ?_
  rintro o w4 ⟨rfl, hw4⟩
  rw [hw4]
  clear hw4 w4
  rw [hN]
  clear hN
  have y0 := cell_of_block HH3.out.c 0 _ rfl
  obtain ⟨hbS, hbC, hbF, hbT, hbK, hbX⟩ := HBD.out
  have hdd := HH3.out.d
  rw [HD.out] at hdd
  have HSP := hide (refStep_go w3 rd _ _ hdd H0.out (by omega) hbF)
  clear hdd hbS hbF
  go_wp2_with fail
  refine HSP.out.mono ?_
  rintro o w5 ⟨rfl, hb5, hf5⟩
  have hh5 := HH3.out.stepd hb5 hf5
  have hf05 := (HF3.out.weak (ex1 := P) (fun _ _ e => e.elim)).trans hf5 (fun _ _ e => by rw [e]; exact HH3.out.pd)
  have hbx5 : ¬ w.heap.size = rd := fun e => by
    have h1 := HB3.out
    rw [e, HH3.out.d] at h1
    cases h1
  have hk5 := (hf5.block _ (Array.getElem?_eq_some_iff.1 HB3.out).1 hbx5).trans HB3.out
  have hbxc : ¬ w.heap.size = rc := fun e => by
    have h1 := HB3.out
    rw [e, HH3.out.c] at h1
    cases h1
  have y0 := cell_of_block hh5.c 0 _ rfl
  have y5 := cell_of_block hh5.c 5 _ rfl
  have r5 := free_of_block hh5.c 5
  have hw5 := wrap_eq (S.calls + 1) (by omega)
  obtain ⟨w6, hw6⟩ : ∃ w6, w6 = w5.setCell ⟨rc, 5, none⟩ (.int .i64 (S.calls + 1)) := ⟨_, rfl⟩
  have hh6 := hh5.counted (S.calls + 1)
  rw [← hw6] at hh6
  have hfs6 : Fr w5 w6 (fun c => c = rc) := by rw [hw6]; exact (Fr.refl w5 (fun c => c = rc)).set _ _ (fun _ => rfl)
  have HK6 := hide ((hfs6.block _ (Array.getElem?_eq_some_iff.1 hk5).1 hbxc).trans hk5)
  have HF6 := hide (hf05.trans hfs6 (fun _ _ e => by rw [e]; exact HH3.out.pc))
  have HH6 := hide hh6
  have HS6 := hide HF6.out.size
  have HFR := hide hh6.f
  have HTK := hide hh6.k
  clear hb5 hf5 hh5 hf05 hk5 HSP hh6 hfs6 HH3 HF3 HB3 hbx5 hbxc
  go_upto_region 13 with fail
  rw [← hw6]
  clear hw6 y0 y5 r5 hw5
  have y1 := cell_of_block HH6.out.c 1 _ rfl
  have y2 := cell_of_block HH6.out.c 2 _ rfl
  have y3 := cell_of_block HH6.out.c 3 _ rfl
  have y4 := cell_of_block HH6.out.c 4 _ rfl
  have y6 := cell_of_block HH6.out.c 6 _ rfl
  obtain ⟨fa, fc, rfl⟩ := owns_shape HH6.out.f
  obtain ⟨ka, kc, rfl⟩ := owns_shape HH6.out.k
  obtain ⟨ta, tc, rfl⟩ := owns_shape HH6.out.t
  simp only at y1 y2 y3 y4 y6 HFR HTK HF6 HH6
  go_wp2_with fail
  go_loopw [18] (fun vi wr => wr = w6 ∧ ∃ k : Nat, k ≤ S.fails.length ∧ vi = .int .i64 k ∧ ∀ (j : Nat) (x : Int), j < k → S.fails[j]? = some x → x ≠ S.calls) (fun vi _ => S.fails.length - (intOf vi).toNat)
  case atStart => exact ⟨rfl, 0, Nat.zero_le _, rfl, fun j x hj => absurd hj (by omega)⟩
  case round =>
    obtain ⟨hwr, k, hk, rfl, hok⟩ := hrel
    rw [hwr]
    clear hwr
    have HOK := hide hok
    clear hok
    by_cases hlt : k < S.fails.length
    · obtain ⟨x, hx⟩ : ∃ x, S.fails[k]? = some x := ⟨_, List.getElem?_eq_getElem hlt⟩
      obtain ⟨b, cap, e1, z0⟩ := int_at HFR.out k x hx
      simp only [Value.slice.injEq] at e1
      obtain ⟨rfl, _, rfl⟩ := e1
      have HX := hide hx
      clear hx
      by_cases hxc : x = S.calls
      · exact absurd (by rw [← hxc]; exact List.mem_of_getElem? HX.out) HBS.out
      · go_wp2_with fail
        go_roundw
        case rel =>
          refine ⟨by first | rfl | trivial, k + 1, by omega, by go_num, fun j y hj hy => ?_⟩
          rcases Nat.lt_or_ge j k with h | h
          · exact HOK.out j y h hy
          · have e : j = k := by omega
            rw [e, HX.out] at hy
            have : x = y := by simpa using hy
            rw [← this]; exact hxc
        case measure => simp [intOf]; omega
    · go_wp2_with fail
      go_loopw [19] (fun vi wr => wr = w6 ∧ ∃ k : Nat, k ≤ S.toks.length ∧ vi = .int .i64 k ∧ ∀ (j : Nat) (x : ByteArray × Int × Int), j < k → S.toks[j]? = some x → x.1.toList ≠ tok.toList) (fun vi _ => S.toks.length - (intOf vi).toNat)
      case atStart => exact ⟨rfl, 0, Nat.zero_le _, rfl, fun j x hj => absurd hj (by omega)⟩
      case round =>
        clear HOK
        obtain ⟨hwr, k2, hk2, rfl, hok⟩ := hrel
        rw [hwr]
        clear hwr
        have HOK := hide hok
        clear hok
        by_cases hlt2 : k2 < S.toks.length
        · obtain ⟨x, hx⟩ : ∃ x, S.toks[k2]? = some x := ⟨_, List.getElem?_eq_getElem hlt2⟩
          obtain ⟨b, cap, e1, z0, z1, z2⟩ := tok_at HTK.out k2 x hx
          simp only [Value.slice.injEq] at e1
          obtain ⟨rfl, _, rfl⟩ := e1
          have HX := hide hx
          clear hx
          by_cases hxt : x.1.toList = tok.toList
          · exact absurd hxt (HNO.out x (List.mem_of_getElem? HX.out))
          · have hxn : (x.1.toList == tok.toList) = false := by simp [hxt]
            go_wp2_with fail
            go_roundw
            case rel =>
              refine ⟨by first | rfl | trivial, k2 + 1, by omega, by go_num, fun j y hj hy => ?_⟩
              rcases Nat.lt_or_ge j k2 with h | h
              · exact HOK.out j y h hy
              · have e : j = k2 := by omega
                rw [e, HX.out] at hy
                have : x = y := by simpa using hy
                rw [← this]; exact hxt
            case measure => simp [intOf]; omega
        · have HPL := hide (place_any w6 P rd rc _ _ _ _ id HH6.out (by simp only; omega))
          simp only at HPL
          go_wp2_with fail
          refine HPL.out.mono ?_
          rintro o w7 ⟨hsay, hw7⟩
          obtain ⟨pz, rfl⟩ : ∃ pz : Int, o = .returned (.int .i64 pz) := by
            rcases hsay with ⟨k, x, h1, _⟩ | ⟨h1, _⟩
            · exact ⟨_, h1⟩
            · exact ⟨_, h1⟩
          clear hsay
          rw [hw7]
          clear hw7 HPL
          have hfi : S.quota ≤ (S.things.length : Int) := by omega
          go_wp2_with fail
          go_quiet (fail)
          go_wp2_with fail
          go_ret2
          have hq6 : Fr w6 (w6.drewN nq) (fun _ => False) := fr_of_below (below_drewN (Below.refl _ _) _)
          exact ⟨rfl, HH6.out.fr hq6 (fun _ _ e => e), HF6.out.trans hq6 (fun _ _ e => e.elim)⟩
set_option maxRecDepth 100000 in
set_option maxHeartbeats 2000000 in
theorem refDo_none2 (w : World) (P : Nat → Prop) (rd rc : Nat) (tv kv fv : Value) (S : Rm) (tok kind : ByteArray) (id : Int) (m : Nat) (v : Val) (a : Tg) (h : Rc w P rd rc tv kv fv S) (hM : V.MemX P (m + 1) w v a.cells) (hbk : V.bulk (m + 1) v ≤ 2000000) (hk : kind.size ≤ maxLen) (hA : attrE (m + 1) v = 0) (hb : (0 ≤ S.steps ∧ S.steps ≤ 900000) ∧ (0 ≤ S.calls ∧ S.calls ≤ 900000) ∧ (-1 ≤ S.fuse ∧ S.fuse ≤ 9223372036854775807) ∧ S.things.length ≤ 900 ∧ S.toks.length ≤ 900 ∧ S.fails.length ≤ 900) (hd : S.down = false) (h0 : S.fuse ≠ 0) (hbs : S.calls ∉ S.fails) (hno : ∀ d ∈ S.toks, d.1.toList ≠ tok.toList) (hin : ∀ x ∈ S.things, x.1.id ≠ id) :
    Calls Try.prog 13 #[.pointer (some ⟨rc, 0, none⟩), .int .i64 2, .string tok, .string kind, .int .i64 id, .agg #[.int .i64 a.k, .int .i64 a.n, .string a.s, .slice a.la a.ln a.lc, .slice a.fa a.fn a.fc]] w fun o w' => o = .returned (.tuple #[.int .i64 0, .int .i64 7]) ∧ Rc w' P rd rc tv kv fv { S with fuse := fuse1 S.fuse, down := false, steps := S.steps + 1, calls := S.calls + 1 } ∧ Fr w w' P := by
  obtain ⟨w2, hw2⟩ : ∃ w2, w2 = w.alloc (.cells #[.int .i64 a.k, .int .i64 a.n, .string a.s, .slice a.la a.ln a.lc, .slice a.fa a.fn a.fc] 40) := ⟨_, rfl⟩
  have hf2 : Fr w w2 (fun _ => False) := by rw [hw2]; exact (Fr.refl _ _).alloc _
  have hb2 : w2.heap[w.heap.size]? = some (.cells #[.int .i64 a.k, .int .i64 a.n, .string a.s, .slice a.la a.ln a.lc, .slice a.fa a.fn a.fc] 40 (0, 0)) := by rw [hw2]; exact heap_alloc_new _ _
  have h2 := h.fr hf2 (fun _ _ e => e)
  have hmx2 := hM.fr (hf2.weak (ex1 := P) (fun _ _ e => e.elim))
  unfold Tg.cells at hmx2
  have HAT := hide (attrsFault_any m w2 v _ _ _ _ _ hmx2.mem hbk)
  have HB2 := hide hb2
  have HH2 := hide h2
  have HF2 := hide hf2
  have HK := hide hk
  clear h hM hf2 h2 hmx2 hk
  have a0 := cell_of_block hb2 0 _ rfl
  have a1 := cell_of_block hb2 1 _ rfl
  have a2 := cell_of_block hb2 2 _ rfl
  have a3 := cell_of_block hb2 3 _ rfl
  have a4 := cell_of_block hb2 4 _ rfl
  clear hb2
  rw [hA] at HAT
  clear hA
  have HBD := hide hb
  clear hb
  have HBS := hide hbs
  clear hbs
  have HNO := hide hno
  clear hno
  have HIN := hide hin
  clear hin
  have HD := hide hd
  clear hd
  have H0 := hide h0
  clear h0
  go_enter Try.func13, Try.ntmps13
  go_upto_region 1 with fail
  rw [← hw2]
  clear hw2
  go_wp2_with fail
  refine HAT.out.mono ?_
  rintro o w3 ⟨rfl, hb3⟩
  have hf3 := fr_of_below hb3
  have HH3 := hide (HH2.out.fr hf3 (fun _ _ e => e))
  have HF3 := hide (HF2.out.trans hf3 (fun _ _ e => e))
  have HB3 := hide ((hf3.block _ (Array.getElem?_eq_some_iff.1 HB2.out).1 (fun e => e)).trans HB2.out)
  clear hb3 hf3 HAT HH2 HF2 HB2 a0 a1 a2 a3 a4
  go_wp2_with fail
  refine (nameMay_any kind w3 HK.out).mono ?_
  rintro o w4 ⟨rfl, hw4⟩
  rw [hw4]
  clear hw4 w4
  generalize V.name (V.bl kind) = nmb
  have y0 := cell_of_block HH3.out.c 0 _ rfl
  obtain ⟨hbS, hbC, hbF, hbT, hbK, hbX⟩ := HBD.out
  have hdd := HH3.out.d
  rw [HD.out] at hdd
  have HSP := hide (refStep_go w3 rd _ _ hdd H0.out (by omega) hbF)
  clear hdd hbS hbF
  go_wp2_with fail
  refine HSP.out.mono ?_
  rintro o w5 ⟨rfl, hb5, hf5⟩
  have hh5 := HH3.out.stepd hb5 hf5
  have hf05 := (HF3.out.weak (ex1 := P) (fun _ _ e => e.elim)).trans hf5 (fun _ _ e => by rw [e]; exact HH3.out.pd)
  have hbx5 : ¬ w.heap.size = rd := fun e => by
    have h1 := HB3.out
    rw [e, HH3.out.d] at h1
    cases h1
  have hk5 := (hf5.block _ (Array.getElem?_eq_some_iff.1 HB3.out).1 hbx5).trans HB3.out
  have hbxc : ¬ w.heap.size = rc := fun e => by
    have h1 := HB3.out
    rw [e, HH3.out.c] at h1
    cases h1
  have y0 := cell_of_block hh5.c 0 _ rfl
  have y5 := cell_of_block hh5.c 5 _ rfl
  have r5 := free_of_block hh5.c 5
  have hw5 := wrap_eq (S.calls + 1) (by omega)
  obtain ⟨w6, hw6⟩ : ∃ w6, w6 = w5.setCell ⟨rc, 5, none⟩ (.int .i64 (S.calls + 1)) := ⟨_, rfl⟩
  have hh6 := hh5.counted (S.calls + 1)
  rw [← hw6] at hh6
  have hfs6 : Fr w5 w6 (fun c => c = rc) := by rw [hw6]; exact (Fr.refl w5 (fun c => c = rc)).set _ _ (fun _ => rfl)
  have HK6 := hide ((hfs6.block _ (Array.getElem?_eq_some_iff.1 hk5).1 hbxc).trans hk5)
  have HF6 := hide (hf05.trans hfs6 (fun _ _ e => by rw [e]; exact HH3.out.pc))
  have HH6 := hide hh6
  have HS6 := hide HF6.out.size
  have HFR := hide hh6.f
  have HTK := hide hh6.k
  clear hb5 hf5 hh5 hf05 hk5 HSP hh6 hfs6 HH3 HF3 HB3 hbx5 hbxc
  go_upto_region 13 with fail
  rw [← hw6]
  clear hw6 y0 y5 r5 hw5
  have y1 := cell_of_block HH6.out.c 1 _ rfl
  have y2 := cell_of_block HH6.out.c 2 _ rfl
  have y3 := cell_of_block HH6.out.c 3 _ rfl
  have y4 := cell_of_block HH6.out.c 4 _ rfl
  have y6 := cell_of_block HH6.out.c 6 _ rfl
  obtain ⟨fa, fc, rfl⟩ := owns_shape HH6.out.f
  obtain ⟨ka, kc, rfl⟩ := owns_shape HH6.out.k
  obtain ⟨ta, tc, rfl⟩ := owns_shape HH6.out.t
  simp only at y1 y2 y3 y4 y6 HFR HTK HF6 HH6
  go_wp2_with fail
  go_loopw [18] (fun vi wr => wr = w6 ∧ ∃ k : Nat, k ≤ S.fails.length ∧ vi = .int .i64 k ∧ ∀ (j : Nat) (x : Int), j < k → S.fails[j]? = some x → x ≠ S.calls) (fun vi _ => S.fails.length - (intOf vi).toNat)
  case atStart => exact ⟨rfl, 0, Nat.zero_le _, rfl, fun j x hj => absurd hj (by omega)⟩
  case round =>
    obtain ⟨hwr, k, hk, rfl, hok⟩ := hrel
    rw [hwr]
    clear hwr
    have HOK := hide hok
    clear hok
    by_cases hlt : k < S.fails.length
    · obtain ⟨x, hx⟩ : ∃ x, S.fails[k]? = some x := ⟨_, List.getElem?_eq_getElem hlt⟩
      obtain ⟨b, cap, e1, z0⟩ := int_at HFR.out k x hx
      simp only [Value.slice.injEq] at e1
      obtain ⟨rfl, _, rfl⟩ := e1
      have HX := hide hx
      clear hx
      by_cases hxc : x = S.calls
      · exact absurd (by rw [← hxc]; exact List.mem_of_getElem? HX.out) HBS.out
      · go_wp2_with fail
        go_roundw
        case rel =>
          refine ⟨by first | rfl | trivial, k + 1, by omega, by go_num, fun j y hj hy => ?_⟩
          rcases Nat.lt_or_ge j k with h | h
          · exact HOK.out j y h hy
          · have e : j = k := by omega
            rw [e, HX.out] at hy
            have : x = y := by simpa using hy
            rw [← this]; exact hxc
        case measure => simp [intOf]; omega
    · go_wp2_with fail
      go_loopw [19] (fun vi wr => wr = w6 ∧ ∃ k : Nat, k ≤ S.toks.length ∧ vi = .int .i64 k ∧ ∀ (j : Nat) (x : ByteArray × Int × Int), j < k → S.toks[j]? = some x → x.1.toList ≠ tok.toList) (fun vi _ => S.toks.length - (intOf vi).toNat)
      case atStart => exact ⟨rfl, 0, Nat.zero_le _, rfl, fun j x hj => absurd hj (by omega)⟩
      case round =>
        clear HOK
        obtain ⟨hwr, k2, hk2, rfl, hok⟩ := hrel
        rw [hwr]
        clear hwr
        have HOK := hide hok
        clear hok
        by_cases hlt2 : k2 < S.toks.length
        · obtain ⟨x, hx⟩ : ∃ x, S.toks[k2]? = some x := ⟨_, List.getElem?_eq_getElem hlt2⟩
          obtain ⟨b, cap, e1, z0, z1, z2⟩ := tok_at HTK.out k2 x hx
          simp only [Value.slice.injEq] at e1
          obtain ⟨rfl, _, rfl⟩ := e1
          have HX := hide hx
          clear hx
          by_cases hxt : x.1.toList = tok.toList
          · exact absurd hxt (HNO.out x (List.mem_of_getElem? HX.out))
          · have hxn : (x.1.toList == tok.toList) = false := by simp [hxt]
            go_wp2_with fail
            go_roundw
            case rel =>
              refine ⟨by first | rfl | trivial, k2 + 1, by omega, by go_num, fun j y hj hy => ?_⟩
              rcases Nat.lt_or_ge j k2 with h | h
              · exact HOK.out j y h hy
              · have e : j = k2 := by omega
                rw [e, HX.out] at hy
                have : x = y := by simpa using hy
                rw [← this]; exact hxt
            case measure => simp [intOf]; omega
        · have HPL := hide (place_any w6 P rd rc _ _ _ _ id HH6.out (by simp only; omega))
          simp only at HPL
          go_wp2_with fail
          refine HPL.out.mono ?_
          rintro o w7 ⟨hsay, hw7⟩
          rcases hsay with ⟨k, x, h1, hx, hid⟩ | ⟨rfl, _⟩
          · exact absurd hid (HIN.out x (List.mem_of_getElem? hx))
          · rw [hw7]
            clear hw7 HPL
            go_wp2_with fail
            go_ret2
            exact ⟨rfl, HH6.out, HF6.out⟩
set_option maxRecDepth 100000 in
set_option maxHeartbeats 2000000 in
theorem refDo_none3 (w : World) (P : Nat → Prop) (rd rc : Nat) (tv kv fv : Value) (S : Rm) (tok kind : ByteArray) (id : Int) (a : Tg) (h : Rc w P rd rc tv kv fv S) (hk : kind.size ≤ maxLen) (hb : (0 ≤ S.steps ∧ S.steps ≤ 900000) ∧ (0 ≤ S.calls ∧ S.calls ≤ 900000) ∧ (-1 ≤ S.fuse ∧ S.fuse ≤ 9223372036854775807) ∧ S.things.length ≤ 900 ∧ S.toks.length ≤ 900 ∧ S.fails.length ≤ 900) (hd : S.down = false) (h0 : S.fuse ≠ 0) (hbs : S.calls ∉ S.fails) (hno : ∀ d ∈ S.toks, d.1.toList ≠ tok.toList) (hin : ∀ x ∈ S.things, x.1.id ≠ id) :
    Calls Try.prog 13 #[.pointer (some ⟨rc, 0, none⟩), .int .i64 3, .string tok, .string kind, .int .i64 id, .agg #[.int .i64 a.k, .int .i64 a.n, .string a.s, .slice a.la a.ln a.lc, .slice a.fa a.fn a.fc]] w fun o w' => o = .returned (.tuple #[.int .i64 0, .int .i64 7]) ∧ Rc w' P rd rc tv kv fv { S with fuse := fuse1 S.fuse, down := false, steps := S.steps + 1, calls := S.calls + 1 } ∧ Fr w w' P := by
  obtain ⟨w2, hw2⟩ : ∃ w2, w2 = w.alloc (.cells #[.int .i64 a.k, .int .i64 a.n, .string a.s, .slice a.la a.ln a.lc, .slice a.fa a.fn a.fc] 40) := ⟨_, rfl⟩
  have hf2 : Fr w w2 (fun _ => False) := by rw [hw2]; exact (Fr.refl _ _).alloc _
  have hb2 : w2.heap[w.heap.size]? = some (.cells #[.int .i64 a.k, .int .i64 a.n, .string a.s, .slice a.la a.ln a.lc, .slice a.fa a.fn a.fc] 40 (0, 0)) := by rw [hw2]; exact heap_alloc_new _ _
  have h2 := h.fr hf2 (fun _ _ e => e)
  have HB2 := hide hb2
  have HH2 := hide h2
  have HF2 := hide hf2
  have HK := hide hk
  clear h hf2 h2 hk
  clear hb2
  have HBD := hide hb
  clear hb
  have HBS := hide hbs
  clear hbs
  have HNO := hide hno
  clear hno
  have HIN := hide hin
  clear hin
  have HD := hide hd
  clear hd
  have H0 := hide h0
  clear h0
  go_enter Try.func13, Try.ntmps13
  go_upto_region 1 with fail
  rw [← hw2]
  clear hw2
  go_wp2_with fail
  obtain ⟨w3, hw3⟩ : ∃ w3, w3 = w2 := ⟨_, rfl⟩
  rw [← hw3] at HH2 HF2 HB2 ⊢
  clear hw3
  have HH3 := hide HH2.out
  have HF3 := hide HF2.out
  have HB3 := hide HB2.out
  clear HH2 HF2 HB2
  refine (nameMay_any kind w3 HK.out).mono ?_
  rintro o w4 ⟨rfl, hw4⟩
  rw [hw4]
  clear hw4 w4
  generalize V.name (V.bl kind) = nmb
  have y0 := cell_of_block HH3.out.c 0 _ rfl
  obtain ⟨hbS, hbC, hbF, hbT, hbK, hbX⟩ := HBD.out
  have hdd := HH3.out.d
  rw [HD.out] at hdd
  have HSP := hide (refStep_go w3 rd _ _ hdd H0.out (by omega) hbF)
  clear hdd hbS hbF
  go_wp2_with fail
  refine HSP.out.mono ?_
  rintro o w5 ⟨rfl, hb5, hf5⟩
  have hh5 := HH3.out.stepd hb5 hf5
  have hf05 := (HF3.out.weak (ex1 := P) (fun _ _ e => e.elim)).trans hf5 (fun _ _ e => by rw [e]; exact HH3.out.pd)
  have hbx5 : ¬ w.heap.size = rd := fun e => by
    have h1 := HB3.out
    rw [e, HH3.out.d] at h1
    cases h1
  have hk5 := (hf5.block _ (Array.getElem?_eq_some_iff.1 HB3.out).1 hbx5).trans HB3.out
  have hbxc : ¬ w.heap.size = rc := fun e => by
    have h1 := HB3.out
    rw [e, HH3.out.c] at h1
    cases h1
  have y0 := cell_of_block hh5.c 0 _ rfl
  have y5 := cell_of_block hh5.c 5 _ rfl
  have r5 := free_of_block hh5.c 5
  have hw5 := wrap_eq (S.calls + 1) (by omega)
  obtain ⟨w6, hw6⟩ : ∃ w6, w6 = w5.setCell ⟨rc, 5, none⟩ (.int .i64 (S.calls + 1)) := ⟨_, rfl⟩
  have hh6 := hh5.counted (S.calls + 1)
  rw [← hw6] at hh6
  have hfs6 : Fr w5 w6 (fun c => c = rc) := by rw [hw6]; exact (Fr.refl w5 (fun c => c = rc)).set _ _ (fun _ => rfl)
  have HK6 := hide ((hfs6.block _ (Array.getElem?_eq_some_iff.1 hk5).1 hbxc).trans hk5)
  have HF6 := hide (hf05.trans hfs6 (fun _ _ e => by rw [e]; exact HH3.out.pc))
  have HH6 := hide hh6
  have HS6 := hide HF6.out.size
  have HFR := hide hh6.f
  have HTK := hide hh6.k
  clear hb5 hf5 hh5 hf05 hk5 HSP hh6 hfs6 HH3 HF3 HB3 hbx5 hbxc
  go_upto_region 13 with fail
  rw [← hw6]
  clear hw6 y0 y5 r5 hw5
  have y1 := cell_of_block HH6.out.c 1 _ rfl
  have y2 := cell_of_block HH6.out.c 2 _ rfl
  have y3 := cell_of_block HH6.out.c 3 _ rfl
  have y4 := cell_of_block HH6.out.c 4 _ rfl
  have y6 := cell_of_block HH6.out.c 6 _ rfl
  obtain ⟨fa, fc, rfl⟩ := owns_shape HH6.out.f
  obtain ⟨ka, kc, rfl⟩ := owns_shape HH6.out.k
  obtain ⟨ta, tc, rfl⟩ := owns_shape HH6.out.t
  simp only at y1 y2 y3 y4 y6 HFR HTK HF6 HH6
  go_wp2_with fail
  go_loopw [18] (fun vi wr => wr = w6 ∧ ∃ k : Nat, k ≤ S.fails.length ∧ vi = .int .i64 k ∧ ∀ (j : Nat) (x : Int), j < k → S.fails[j]? = some x → x ≠ S.calls) (fun vi _ => S.fails.length - (intOf vi).toNat)
  case atStart => exact ⟨rfl, 0, Nat.zero_le _, rfl, fun j x hj => absurd hj (by omega)⟩
  case round =>
    obtain ⟨hwr, k, hk, rfl, hok⟩ := hrel
    rw [hwr]
    clear hwr
    have HOK := hide hok
    clear hok
    by_cases hlt : k < S.fails.length
    · obtain ⟨x, hx⟩ : ∃ x, S.fails[k]? = some x := ⟨_, List.getElem?_eq_getElem hlt⟩
      obtain ⟨b, cap, e1, z0⟩ := int_at HFR.out k x hx
      simp only [Value.slice.injEq] at e1
      obtain ⟨rfl, _, rfl⟩ := e1
      have HX := hide hx
      clear hx
      by_cases hxc : x = S.calls
      · exact absurd (by rw [← hxc]; exact List.mem_of_getElem? HX.out) HBS.out
      · go_wp2_with fail
        go_roundw
        case rel =>
          refine ⟨by first | rfl | trivial, k + 1, by omega, by go_num, fun j y hj hy => ?_⟩
          rcases Nat.lt_or_ge j k with h | h
          · exact HOK.out j y h hy
          · have e : j = k := by omega
            rw [e, HX.out] at hy
            have : x = y := by simpa using hy
            rw [← this]; exact hxc
        case measure => simp [intOf]; omega
    · go_wp2_with fail
      go_loopw [19] (fun vi wr => wr = w6 ∧ ∃ k : Nat, k ≤ S.toks.length ∧ vi = .int .i64 k ∧ ∀ (j : Nat) (x : ByteArray × Int × Int), j < k → S.toks[j]? = some x → x.1.toList ≠ tok.toList) (fun vi _ => S.toks.length - (intOf vi).toNat)
      case atStart => exact ⟨rfl, 0, Nat.zero_le _, rfl, fun j x hj => absurd hj (by omega)⟩
      case round =>
        clear HOK
        obtain ⟨hwr, k2, hk2, rfl, hok⟩ := hrel
        rw [hwr]
        clear hwr
        have HOK := hide hok
        clear hok
        by_cases hlt2 : k2 < S.toks.length
        · obtain ⟨x, hx⟩ : ∃ x, S.toks[k2]? = some x := ⟨_, List.getElem?_eq_getElem hlt2⟩
          obtain ⟨b, cap, e1, z0, z1, z2⟩ := tok_at HTK.out k2 x hx
          simp only [Value.slice.injEq] at e1
          obtain ⟨rfl, _, rfl⟩ := e1
          have HX := hide hx
          clear hx
          by_cases hxt : x.1.toList = tok.toList
          · exact absurd hxt (HNO.out x (List.mem_of_getElem? HX.out))
          · have hxn : (x.1.toList == tok.toList) = false := by simp [hxt]
            go_wp2_with fail
            go_roundw
            case rel =>
              refine ⟨by first | rfl | trivial, k2 + 1, by omega, by go_num, fun j y hj hy => ?_⟩
              rcases Nat.lt_or_ge j k2 with h | h
              · exact HOK.out j y h hy
              · have e : j = k2 := by omega
                rw [e, HX.out] at hy
                have : x = y := by simpa using hy
                rw [← this]; exact hxt
            case measure => simp [intOf]; omega
        · have HPL := hide (place_any w6 P rd rc _ _ _ _ id HH6.out (by simp only; omega))
          simp only at HPL
          go_wp2_with fail
          refine HPL.out.mono ?_
          rintro o w7 ⟨hsay, hw7⟩
          rcases hsay with ⟨k, x, h1, hx, hid⟩ | ⟨rfl, _⟩
          · exact absurd hid (HIN.out x (List.mem_of_getElem? hx))
          · rw [hw7]
            clear hw7 HPL
            go_wp2_with fail
            go_ret2
            exact ⟨rfl, HH6.out, HF6.out⟩
end Go.Proofs.Ytlmkpjdaoinmoaa
