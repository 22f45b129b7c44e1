/- For CloudSays: the reference's Do. -/
import Derived.Test.YtlmkpjdaoinmoaaKE
namespace Go.Proofs.Ytlmkpjdaoinmoaa
open Go.RowKit
attribute [local go_sem ↓] Go.wp_at_zero Go.wp_at_succ
set_option maxRecDepth 100000 in
set_option maxHeartbeats 2000000 in
theorem refDo_new (w : World) (P : Nat → Prop) (rd rc : Nat) (tv kv fv : Value) (S : Rm) (tok kind : ByteArray) (id : Int) (m : Nat) (v : Val) (a : Tg) (h : Rc w P rd rc tv kv fv S) (hM : V.MemX P (m + 1) w v a.cells) (hbk : V.bulk (m + 1) v ≤ 2000000) (hk : kind.size ≤ maxLen) (hA : attrE (m + 1) v = 0) (hN : V.name (V.bl kind) = true) (hb : (0 ≤ S.steps ∧ S.steps ≤ 900000) ∧ (0 ≤ S.calls ∧ S.calls ≤ 900000) ∧ (-1 ≤ S.fuse ∧ S.fuse ≤ 9223372036854775807) ∧ S.things.length ≤ 900 ∧ S.toks.length ≤ 900 ∧ S.fails.length ≤ 900) (hd : S.down = false) (h0 : S.fuse ≠ 0) (hbs : S.calls ∉ S.fails) (hno : ∀ d ∈ S.toks, d.1.toList ≠ tok.toList) (hfu : ¬ S.quota ≤ S.things.length) (hnx : 0 ≤ S.next ∧ S.next ≤ 900000) :
    Calls Try.prog 13 #[.pointer (some ⟨rc, 0, none⟩), .int .i64 1, .string tok, .string kind, .int .i64 id, .agg #[.int .i64 a.k, .int .i64 a.n, .string a.s, .slice a.la a.ln a.lc, .slice a.fa a.fn a.fc]] w fun o w' => o = .returned (.tuple #[.int .i64 S.next, .int .i64 0]) ∧ DidNew w w' P rd rc fv { S with fuse := fuse1 S.fuse, down := false, steps := S.steps + 1, calls := S.calls + 1, next := S.next + 1, things := S.things ++ [({ a with id := S.next, kind := kind }, v)], toks := S.toks ++ [(tok, 1, S.next)] } := by
  obtain ⟨w2, hw2⟩ : ∃ w2, w2 = w.alloc (.cells #[.int .i64 a.k, .int .i64 a.n, .string a.s, .slice a.la a.ln a.lc, .slice a.fa a.fn a.fc] 40) := ⟨_, rfl⟩
  have hf2 : Fr w w2 (fun _ => False) := by rw [hw2]; exact (Fr.refl _ _).alloc _
  have hb2 : w2.heap[w.heap.size]? = some (.cells #[.int .i64 a.k, .int .i64 a.n, .string a.s, .slice a.la a.ln a.lc, .slice a.fa a.fn a.fc] 40 (0, 0)) := by rw [hw2]; exact heap_alloc_new _ _
  have h2 := h.fr hf2 (fun _ _ e => e)
  have hmx2 := hM.fr (hf2.weak (ex1 := P) (fun _ _ e => e.elim))
  unfold Tg.cells at hmx2
  have HAT := hide (attrsFault_any m w2 v _ _ _ _ _ hmx2.mem hbk)
  have HB2 := hide hb2
  have HH2 := hide h2
  have HF2 := hide hf2
  have HK := hide hk
  clear h hM hf2 h2 hmx2 hk
  have a0 := cell_of_block hb2 0 _ rfl
  have a1 := cell_of_block hb2 1 _ rfl
  have a2 := cell_of_block hb2 2 _ rfl
  have a3 := cell_of_block hb2 3 _ rfl
  have a4 := cell_of_block hb2 4 _ rfl
  clear hb2
  rw [hA] at HAT
  clear hA
  have HBD := hide hb
  clear hb
  have HBS := hide hbs
  clear hbs
  have HNO := hide hno
  clear hno
  have HD := hide hd
  clear hd
  have H0 := hide h0
  clear h0
  go_enter Try.func13, Try.ntmps13
  go_upto_region 1 with fail
  rw [← hw2]
  clear hw2
  go_wp2_with fail
  refine HAT.out.mono ?_
  rintro o w3 ⟨rfl, hb3⟩
  have hf3 := fr_of_below hb3
  have HH3 := hide (HH2.out.fr hf3 (fun _ _ e => e))
  have HF3 := hide (HF2.out.trans hf3 (fun _ _ e => e))
  have HB3 := hide ((hf3.block _ (Array.getElem?_eq_some_iff.1 HB2.out).1 (fun e => e)).trans HB2.out)
  clear hb3 hf3 HAT HH2 HF2 HB2 a0 a1 a2 a3 a4
  go_wp2_with fail
  refine (nameMay_any kind w3 HK.out).mono ?_
  rintro o w4 ⟨rfl, hw4⟩
  rw [hw4]
  clear hw4 w4
  rw [hN]
  clear hN
  have y0 := cell_of_block HH3.out.c 0 _ rfl
  obtain ⟨hbS, hbC, hbF, hbT, hbK, hbX⟩ := HBD.out
  have hdd := HH3.out.d
  rw [HD.out] at hdd
  have HSP := hide (refStep_go w3 rd _ _ hdd H0.out (by omega) hbF)
  clear hdd hbS hbF
  go_wp2_with fail
  refine HSP.out.mono ?_
  rintro o w5 ⟨rfl, hb5, hf5⟩
  have hh5 := HH3.out.stepd hb5 hf5
  have hf05 := (HF3.out.weak (ex1 := P) (fun _ _ e => e.elim)).trans hf5 (fun _ _ e => by rw [e]; exact HH3.out.pd)
  have hbx5 : ¬ w.heap.size = rd := fun e => by
    have h1 := HB3.out
    rw [e, HH3.out.d] at h1
    cases h1
  have hk5 := (hf5.block _ (Array.getElem?_eq_some_iff.1 HB3.out).1 hbx5).trans HB3.out
  have hbxc : ¬ w.heap.size = rc := fun e => by
    have h1 := HB3.out
    rw [e, HH3.out.c] at h1
    cases h1
  have y0 := cell_of_block hh5.c 0 _ rfl
  have y5 := cell_of_block hh5.c 5 _ rfl
  have r5 := free_of_block hh5.c 5
  have hw5 := wrap_eq (S.calls + 1) (by omega)
  obtain ⟨w6, hw6⟩ : ∃ w6, w6 = w5.setCell ⟨rc, 5, none⟩ (.int .i64 (S.calls + 1)) := ⟨_, rfl⟩
  have hh6 := hh5.counted (S.calls + 1)
  rw [← hw6] at hh6
  have hfs6 : Fr w5 w6 (fun c => c = rc) := by rw [hw6]; exact (Fr.refl w5 (fun c => c = rc)).set _ _ (fun _ => rfl)
  have HK6 := hide ((hfs6.block _ (Array.getElem?_eq_some_iff.1 hk5).1 hbxc).trans hk5)
  have HF6 := hide (hf05.trans hfs6 (fun _ _ e => by rw [e]; exact HH3.out.pc))
  have HH6 := hide hh6
  have HS6 := hide HF6.out.size
  have HFR := hide hh6.f
  have HTK := hide hh6.k
  clear hb5 hf5 hh5 hf05 hk5 HSP hh6 hfs6 HH3 HF3 HB3 hbx5 hbxc
  go_upto_region 13 with fail
  rw [← hw6]
  clear hw6 y0 y5 r5 hw5
  have y1 := cell_of_block HH6.out.c 1 _ rfl
  have y2 := cell_of_block HH6.out.c 2 _ rfl
  have y3 := cell_of_block HH6.out.c 3 _ rfl
  have y4 := cell_of_block HH6.out.c 4 _ rfl
  have y6 := cell_of_block HH6.out.c 6 _ rfl
  obtain ⟨fa, fc, rfl⟩ := owns_shape HH6.out.f
  obtain ⟨ka, kc, rfl⟩ := owns_shape HH6.out.k
  obtain ⟨ta, tc, rfl⟩ := owns_shape HH6.out.t
  simp only at y1 y2 y3 y4 y6 HFR HTK HF6 HH6
  go_wp2_with fail
  go_loopw [18] (fun vi wr => wr = w6 ∧ ∃ k : Nat, k ≤ S.fails.length ∧ vi = .int .i64 k ∧ ∀ (j : Nat) (x : Int), j < k → S.fails[j]? = some x → x ≠ S.calls) (fun vi _ => S.fails.length - (intOf vi).toNat)
  case atStart => exact ⟨rfl, 0, Nat.zero_le _, rfl, fun j x hj => absurd hj (by omega)⟩
  case round =>
    obtain ⟨hwr, k, hk, rfl, hok⟩ := hrel
    rw [hwr]
    clear hwr
    have HOK := hide hok
    clear hok
    by_cases hlt : k < S.fails.length
    · obtain ⟨x, hx⟩ : ∃ x, S.fails[k]? = some x := ⟨_, List.getElem?_eq_getElem hlt⟩
      obtain ⟨b, cap, e1, z0⟩ := int_at HFR.out k x hx
      simp only [Value.slice.injEq] at e1
      obtain ⟨rfl, _, rfl⟩ := e1
      have HX := hide hx
      clear hx
      by_cases hxc : x = S.calls
      · exact absurd (by rw [← hxc]; exact List.mem_of_getElem? HX.out) HBS.out
      · go_wp2_with fail
        go_roundw
        case rel =>
          refine ⟨by first | rfl | trivial, k + 1, by omega, by go_num, fun j y hj hy => ?_⟩
          rcases Nat.lt_or_ge j k with h | h
          · exact HOK.out j y h hy
          · have e : j = k := by omega
            rw [e, HX.out] at hy
            have : x = y := by simpa using hy
            rw [← this]; exact hxc
        case measure => simp [intOf]; omega
    · go_wp2_with fail
      go_loopw [19] (fun vi wr => wr = w6 ∧ ∃ k : Nat, k ≤ S.toks.length ∧ vi = .int .i64 k ∧ ∀ (j : Nat) (x : ByteArray × Int × Int), j < k → S.toks[j]? = some x → x.1.toList ≠ tok.toList) (fun vi _ => S.toks.length - (intOf vi).toNat)
      case atStart => exact ⟨rfl, 0, Nat.zero_le _, rfl, fun j x hj => absurd hj (by omega)⟩
      case round =>
        clear HOK
        obtain ⟨hwr, k2, hk2, rfl, hok⟩ := hrel
        rw [hwr]
        clear hwr
        have HOK := hide hok
        clear hok
        by_cases hlt2 : k2 < S.toks.length
        · obtain ⟨x, hx⟩ : ∃ x, S.toks[k2]? = some x := ⟨_, List.getElem?_eq_getElem hlt2⟩
          obtain ⟨b, cap, e1, z0, z1, z2⟩ := tok_at HTK.out k2 x hx
          simp only [Value.slice.injEq] at e1
          obtain ⟨rfl, _, rfl⟩ := e1
          have HX := hide hx
          clear hx
          by_cases hxt : x.1.toList = tok.toList
          · exact absurd hxt (HNO.out x (List.mem_of_getElem? HX.out))
          · have hxn : (x.1.toList == tok.toList) = false := by simp [hxt]
            go_wp2_with fail
            go_roundw
            case rel =>
              refine ⟨by first | rfl | trivial, k2 + 1, by omega, by go_num, fun j y hj hy => ?_⟩
              rcases Nat.lt_or_ge j k2 with h | h
              · exact HOK.out j y h hy
              · have e : j = k2 := by omega
                rw [e, HX.out] at hy
                have : x = y := by simpa using hy
                rw [← this]; exact hxt
            case measure => simp [intOf]; omega
        · have HPL := hide (place_any w6 P rd rc _ _ _ _ id HH6.out (by simp only; omega))
          simp only at HPL
          go_wp2_with fail
          refine HPL.out.mono ?_
          rintro o w7 ⟨hsay, hw7⟩
          obtain ⟨pz, rfl⟩ : ∃ pz : Int, o = .returned (.int .i64 pz) := by
            rcases hsay with ⟨k, x, h1, _⟩ | ⟨h1, _⟩
            · exact ⟨_, h1⟩
            · exact ⟨_, h1⟩
          clear hsay
          rw [hw7]
          clear hw7 HPL
          have hfi : ¬ S.quota ≤ (S.things.length : Int) := by omega
          have hfd : decide (S.quota ≤ (S.things.length : Int)) = false := decide_eq_false hfi
          clear hfu
          go_wp2_with fail
          go_quiet (fail)
          have hq6 : Fr w6 (w6.drewN nq) (fun _ => False) := fr_of_below (below_drewN (Below.refl _ _) _)
          have hR7 := HH6.out.fr hq6 (fun _ _ e => e)
          have hF7 := HF6.out.trans hq6 (fun _ _ e => e.elim)
          have hK7 := (hq6.block _ (Array.getElem?_eq_some_iff.1 HK6.out).1 (fun e => e)).trans HK6.out
          clear y1 y2 y3 y4 y6 HFR HTK HH6 HF6 HK6 hq6
          generalize w6.drewN nq = w7 at *
          have y3 := cell_of_block hR7.c 3 _ rfl
          have r3 := free_of_block hR7.c 3
          have hw3 := wrap_eq (S.next + 1) (by omega)
          obtain ⟨w8, hw8⟩ : ∃ w8, w8 = w7.setCell ⟨rc, 3, none⟩ (.int .i64 (S.next + 1)) := ⟨_, rfl⟩
          have hR8 := hR7.nexts (S.next + 1)
          rw [← hw8] at hR8
          have hfs8 : Fr w7 w8 (fun c => c = rc) := by rw [hw8]; exact (Fr.refl w7 (fun c => c = rc)).set _ _ (fun _ => rfl)
          have hF8 := hF7.trans hfs8 (fun _ _ e => by rw [e]; exact hR7.pc)
          have hnb : ¬ w.heap.size = rc := fun e => by
            have h1 := hK7
            rw [e, hR7.c] at h1
            cases h1
          have hK8 := (hfs8.block _ (Array.getElem?_eq_some_iff.1 hK7).1 hnb).trans hK7
          simp only at hR8 y3 hw3
          clear hR7 hF7 hfs8
          go_upto_region 32 with fail
          rw [← hw8]
          clear hw8 y3 r3 hw3 hK7
          have y1 := cell_of_block hR8.c 1 _ rfl
          have a0 := cell_of_block hK8 0 _ rfl
          have a1 := cell_of_block hK8 1 _ rfl
          have a2 := cell_of_block hK8 2 _ rfl
          have a3 := cell_of_block hK8 3 _ rfl
          have a4 := cell_of_block hK8 4 _ rfl
          have HR8 := hide hR8
          have HF8 := hide hF8
          have KG7 : Hid (∀ ob wA, (w8.alloc ob).drew.grownBy wA (Value.slice ta S.things.length tc).ownBlock → wA.cell? ⟨rc, 1, none⟩ = some (.slice ta S.things.length tc) ∧ wA.frozen? ⟨rc, 1, none⟩ = false) := fun ob wA hg => by
            have h1 : Fr w8 wA (fun c => (Value.slice ta S.things.length tc).ownBlock = some c) := ((((Fr.refl w8 (fun _ => False)).alloc ob).drew).weak (fun _ _ e => e.elim)).grown hg (fun c hc _ => hc)
            have hb := (h1.block rc (Array.getElem?_eq_some_iff.1 HR8.out.c).1 (fun e => owns_type HR8.out.t HR8.out.c (by decide) e)).trans HR8.out.c
            exact ⟨cell_of_block hb 1 _ rfl, free_of_block hb 1⟩
          have y1a : ∀ ob, (w8.alloc ob).cell? ⟨rc, 1, none⟩ = some (.slice ta S.things.length tc) := fun ob => kept_cell ((Below.refl _ _).alloc (Nat.le_refl _) ob) y1
          obtain ⟨i0, hi0, hz0, hz1, hz3⟩ := info_parts info51
          have h7pos : 0 < 7 := by decide
          have HT8 := hide hR8.t
          simp only at HT8
          clear hR8 hF8 hK8
          go_wp2_with fail
          go_region_law
            (first
              | (refine step_append_lies _ ?_ (.tmp 141) (.tmp 146) 60 ?_ 0 51 i0 (.agg #[.int .i64 0, .string ⟨#[]⟩, .int .i64 0, .int .i64 0, .string ⟨#[]⟩, .slice none 0 0, .slice none 0 0]) 7 104 uThings hi0 hz0 hz1 hz3 rfl h7pos (.slice ta S.things.length tc) S.things.length (S.things.flatMap (fun x => c7 x.1)) ?_ ?_ ⟨w8.heap.size, 0, none⟩ 1 1 [.int .i64 S.next, .string kind, .int .i64 a.k, .int .i64 a.n, .string a.s, .slice a.la a.ln a.lc, .slice a.fa a.fn a.fc] ?_ rfl ?_ ?_ Nat.one_pos ?_ ?_ ?_ _ rfl ?_; rfl; rfl; rfl; exact (HT8.out.alloc _).drew; rfl; exact news_alloc_drew w8 #[.int .i64 S.next, .string kind, .int .i64 a.k, .int .i64 a.n, .string a.s, .slice a.la a.ln a.lc, .slice a.fa a.fn a.fc] 51 _ rfl; simp [Value.oneCell']; (unfold maxLen; omega); omega; exact Nat.zero_le _; intro gA capA wA hownA hgrowA hatA hltA; obtain ⟨r2, s2⟩ := KG7.out _ wA hgrowA))
          all_goals
            have hoA : wA.ownsRow 0 51 7 (.slice (some ⟨gA, 0, none⟩) (S.things.length + 1) capA) (S.things ++ [(({ a with id := S.next, kind := kind }, v) : Tv)]).length ((S.things ++ [(({ a with id := S.next, kind := kind }, v) : Tv)]).flatMap (fun x => c7 x.1)) := by
              rw [List.flatMap_append, List.length_append]
              simpa [c7, Tg.cells] using hownA
            obtain ⟨PA, hnA, hRA, hFA⟩ := HR8.out.pushT ({ a with id := S.next, kind := kind }, v) hgrowA hoA (by simpa using hatA) hltA
            obtain ⟨w9, hw9⟩ : ∃ w9, w9 = wA.setCell ⟨rc, 1, none⟩ (.slice (some ⟨gA, 0, none⟩) (S.things.length + 1) capA) := ⟨_, rfl⟩
            rw [← hw9] at hnA hRA hFA
            have HNA := hide hnA
            have HRA := hide hRA
            have HFA := hide (HF8.out.trans hFA (fun _ _ e => e))
            clear hownA hgrowA hatA hltA hoA hnA hRA hFA KG7 y1 y1a a0 a1 a2 a3 a4 HT8 r2 s2
            rw [← hw9]
            clear hw9
            have q2 := cell_of_block HRA.out.c 2 _ rfl
            have qf := free_of_block HRA.out.c 2
            obtain ⟨j0, hj0, hj1, hj2, hj3⟩ := info_parts info94
            have hnw : ∀ j u, (c3 (tok, 1, S.next))[j]? = some u → (w9.alloc (.cells #[.string tok, .int .i64 1, .int .i64 S.next] 94)).cell? ((⟨w9.heap.size, 0, none⟩ : Addr).add j) = some u := news_alloc w9 #[.string tok, .int .i64 1, .int .i64 S.next] 94 _ rfl
            have HOK9 := hide HRA.out.k
            simp only at q2 HOK9
            have KG : Hid (∀ ob wA, (w9.alloc ob).grownBy wA (Value.slice ka S.toks.length kc).ownBlock → wA.cell? ⟨rc, 2, none⟩ = some (.slice ka S.toks.length kc) ∧ wA.frozen? ⟨rc, 2, none⟩ = false) := fun ob wA hg => by
              have h1 : Fr w9 wA (fun c => (Value.slice ka S.toks.length kc).ownBlock = some c) := (((Fr.refl w9 (fun _ => False)).alloc ob).weak (fun _ _ e => e.elim)).grown hg (fun c hc _ => hc)
              have hb := (h1.block rc (Array.getElem?_eq_some_iff.1 HRA.out.c).1 (fun e => owns_type HRA.out.k HRA.out.c (by decide) e)).trans HRA.out.c
              exact ⟨cell_of_block hb 2 _ rfl, free_of_block hb 2⟩
            go_wp2_with (at_builtin; go_must (refine wpList_append_lies _ rfl (.tmp 173) (.tmp 178) 61 rfl 0 94 j0 (.agg #[.string ⟨#[]⟩, .int .i64 0, .int .i64 0]) 3 32 uDone hj0 hj1 hj2 hj3 rfl (by decide) (.slice ka S.toks.length kc) S.toks.length (S.toks.flatMap c3) rfl (HOK9.out.alloc _) ⟨w9.heap.size, 0, none⟩ 1 1 (c3 (tok, 1, S.next)) rfl rfl hnw (by simp [c3, Value.oneCell']) (by decide) (by unfold maxLen; omega) (by omega) (Nat.zero_le _) _ rfl ?_); intro gB capB wB hownB hgrowB hatB hltB; obtain ⟨q3, q4⟩ := KG.out _ wB hgrowB)
            have hoB : wB.ownsRow 0 94 3 (.slice (some ⟨gB, 0, none⟩) (S.toks.length + 1) capB) (S.toks ++ [(tok, 1, S.next)]).length ((S.toks ++ [(tok, 1, S.next)]).flatMap c3) := by
              rw [List.flatMap_append, List.length_append]
              simpa using hownB
            obtain ⟨PB, hnB, hRB, hFB⟩ := HRA.out.pushK (tok, 1, S.next) hgrowB hoB hatB hltB
            have HNB := hide hnB
            have HRB := hide hRB
            have HFB := hide hFB
            clear hownB hgrowB hatB hltB hoB hnB hRB hFB hnw
            go_wp2_with fail
            go_ret2
            exact ⟨rfl, PB, _, _, ⟨fun c hc => HNB.out.1 c (HNA.out.1 c hc), fun c hc => by
              have h1 := HFA.out.size
              have h2 := HFB.out.size
              have h3 := HF8.out.size
              rcases HNB.out.2 c hc with h | h
              · rcases HNA.out.2 c h with h | h
                · exact .inl h
                · exact .inr (by omega)
              · exact .inr (by omega)⟩, HRB.out, HFA.out.trans HFB.out (fun c hlt e => by
              rcases HNA.out.2 c e with h | h
              · exact h
              · have h3 := HF8.out.size
                omega)⟩
set_option maxRecDepth 100000 in
set_option maxHeartbeats 2000000 in
theorem refDo_upd (w : World) (P : Nat → Prop) (rd rc : Nat) (tv kv fv : Value) (S : Rm) (tok kind : ByteArray) (id : Int) (m : Nat) (v : Val) (a : Tg) (h : Rc w P rd rc tv kv fv S) (hM : V.MemX P (m + 1) w v a.cells) (hbk : V.bulk (m + 1) v ≤ 2000000) (hk : kind.size ≤ maxLen) (hA : attrE (m + 1) v = 0) (hb : (0 ≤ S.steps ∧ S.steps ≤ 900000) ∧ (0 ≤ S.calls ∧ S.calls ≤ 900000) ∧ (-1 ≤ S.fuse ∧ S.fuse ≤ 9223372036854775807) ∧ S.things.length ≤ 900 ∧ S.toks.length ≤ 900 ∧ S.fails.length ≤ 900) (hd : S.down = false) (h0 : S.fuse ≠ 0) (hbs : S.calls ∉ S.fails) (hno : ∀ d ∈ S.toks, d.1.toList ≠ tok.toList) (hin : ∃ x ∈ S.things, x.1.id = id) :
    Calls Try.prog 13 #[.pointer (some ⟨rc, 0, none⟩), .int .i64 2, .string tok, .string kind, .int .i64 id, .agg #[.int .i64 a.k, .int .i64 a.n, .string a.s, .slice a.la a.ln a.lc, .slice a.fa a.fn a.fc]] w fun o w' => o = .returned (.tuple #[.int .i64 id, .int .i64 0]) ∧ DidUpd w w' P rd rc fv S tok id a v := by
  obtain ⟨w2, hw2⟩ : ∃ w2, w2 = w.alloc (.cells #[.int .i64 a.k, .int .i64 a.n, .string a.s, .slice a.la a.ln a.lc, .slice a.fa a.fn a.fc] 40) := ⟨_, rfl⟩
  have hf2 : Fr w w2 (fun _ => False) := by rw [hw2]; exact (Fr.refl _ _).alloc _
  have hb2 : w2.heap[w.heap.size]? = some (.cells #[.int .i64 a.k, .int .i64 a.n, .string a.s, .slice a.la a.ln a.lc, .slice a.fa a.fn a.fc] 40 (0, 0)) := by rw [hw2]; exact heap_alloc_new _ _
  have h2 := h.fr hf2 (fun _ _ e => e)
  have hmx2 := hM.fr (hf2.weak (ex1 := P) (fun _ _ e => e.elim))
  unfold Tg.cells at hmx2
  have HAT := hide (attrsFault_any m w2 v _ _ _ _ _ hmx2.mem hbk)
  have HB2 := hide hb2
  have HH2 := hide h2
  have HF2 := hide hf2
  have HK := hide hk
  clear h hM hf2 h2 hmx2 hk
  have a0 := cell_of_block hb2 0 _ rfl
  have a1 := cell_of_block hb2 1 _ rfl
  have a2 := cell_of_block hb2 2 _ rfl
  have a3 := cell_of_block hb2 3 _ rfl
  have a4 := cell_of_block hb2 4 _ rfl
  clear hb2
  rw [hA] at HAT
  clear hA
  have HBD := hide hb
  clear hb
  have HBS := hide hbs
  clear hbs
  have HNO := hide hno
  clear hno
  have HIN := hide hin
  clear hin
  have HD := hide hd
  clear hd
  have H0 := hide h0
  clear h0
  go_enter Try.func13, Try.ntmps13
  go_upto_region 1 with fail
  rw [← hw2]
  clear hw2
  go_wp2_with fail
  refine HAT.out.mono ?_
  rintro o w3 ⟨rfl, hb3⟩
  have hf3 := fr_of_below hb3
  have HH3 := hide (HH2.out.fr hf3 (fun _ _ e => e))
  have HF3 := hide (HF2.out.trans hf3 (fun _ _ e => e))
  have HB3 := hide ((hf3.block _ (Array.getElem?_eq_some_iff.1 HB2.out).1 (fun e => e)).trans HB2.out)
  clear hb3 hf3 HAT HH2 HF2 HB2 a0 a1 a2 a3 a4
  go_wp2_with fail
  refine (nameMay_any kind w3 HK.out).mono ?_
  rintro o w4 ⟨rfl, hw4⟩
  rw [hw4]
  clear hw4 w4
  generalize V.name (V.bl kind) = nmb
  have y0 := cell_of_block HH3.out.c 0 _ rfl
  obtain ⟨hbS, hbC, hbF, hbT, hbK, hbX⟩ := HBD.out
  have hdd := HH3.out.d
  rw [HD.out] at hdd
  have HSP := hide (refStep_go w3 rd _ _ hdd H0.out (by omega) hbF)
  clear hdd hbS hbF
  go_wp2_with fail
  refine HSP.out.mono ?_
  rintro o w5 ⟨rfl, hb5, hf5⟩
  have hh5 := HH3.out.stepd hb5 hf5
  have hf05 := (HF3.out.weak (ex1 := P) (fun _ _ e => e.elim)).trans hf5 (fun _ _ e => by rw [e]; exact HH3.out.pd)
  have hbx5 : ¬ w.heap.size = rd := fun e => by
    have h1 := HB3.out
    rw [e, HH3.out.d] at h1
    cases h1
  have hk5 := (hf5.block _ (Array.getElem?_eq_some_iff.1 HB3.out).1 hbx5).trans HB3.out
  have hbxc : ¬ w.heap.size = rc := fun e => by
    have h1 := HB3.out
    rw [e, HH3.out.c] at h1
    cases h1
  have y0 := cell_of_block hh5.c 0 _ rfl
  have y5 := cell_of_block hh5.c 5 _ rfl
  have r5 := free_of_block hh5.c 5
  have hw5 := wrap_eq (S.calls + 1) (by omega)
  obtain ⟨w6, hw6⟩ : ∃ w6, w6 = w5.setCell ⟨rc, 5, none⟩ (.int .i64 (S.calls + 1)) := ⟨_, rfl⟩
  have hh6 := hh5.counted (S.calls + 1)
  rw [← hw6] at hh6
  have hfs6 : Fr w5 w6 (fun c => c = rc) := by rw [hw6]; exact (Fr.refl w5 (fun c => c = rc)).set _ _ (fun _ => rfl)
  have HK6 := hide ((hfs6.block _ (Array.getElem?_eq_some_iff.1 hk5).1 hbxc).trans hk5)
  have HF6 := hide (hf05.trans hfs6 (fun _ _ e => by rw [e]; exact HH3.out.pc))
  have HH6 := hide hh6
  have HS6 := hide HF6.out.size
  have HFR := hide hh6.f
  have HTK := hide hh6.k
  clear hb5 hf5 hh5 hf05 hk5 HSP hh6 hfs6 HH3 HF3 HB3 hbx5 hbxc
  go_upto_region 13 with fail
  rw [← hw6]
  clear hw6 y0 y5 r5 hw5
  have y1 := cell_of_block HH6.out.c 1 _ rfl
  have y2 := cell_of_block HH6.out.c 2 _ rfl
  have y3 := cell_of_block HH6.out.c 3 _ rfl
  have y4 := cell_of_block HH6.out.c 4 _ rfl
  have y6 := cell_of_block HH6.out.c 6 _ rfl
  obtain ⟨fa, fc, rfl⟩ := owns_shape HH6.out.f
  obtain ⟨ka, kc, rfl⟩ := owns_shape HH6.out.k
  obtain ⟨ta, tc, rfl⟩ := owns_shape HH6.out.t
  simp only at y1 y2 y3 y4 y6 HFR HTK HF6 HH6
  go_wp2_with fail
  go_loopw [18] (fun vi wr => wr = w6 ∧ ∃ k : Nat, k ≤ S.fails.length ∧ vi = .int .i64 k ∧ ∀ (j : Nat) (x : Int), j < k → S.fails[j]? = some x → x ≠ S.calls) (fun vi _ => S.fails.length - (intOf vi).toNat)
  case atStart => exact ⟨rfl, 0, Nat.zero_le _, rfl, fun j x hj => absurd hj (by omega)⟩
  case round =>
    obtain ⟨hwr, k, hk, rfl, hok⟩ := hrel
    rw [hwr]
    clear hwr
    have HOK := hide hok
    clear hok
    by_cases hlt : k < S.fails.length
    · obtain ⟨x, hx⟩ : ∃ x, S.fails[k]? = some x := ⟨_, List.getElem?_eq_getElem hlt⟩
      obtain ⟨b, cap, e1, z0⟩ := int_at HFR.out k x hx
      simp only [Value.slice.injEq] at e1
      obtain ⟨rfl, _, rfl⟩ := e1
      have HX := hide hx
      clear hx
      by_cases hxc : x = S.calls
      · exact absurd (by rw [← hxc]; exact List.mem_of_getElem? HX.out) HBS.out
      · go_wp2_with fail
        go_roundw
        case rel =>
          refine ⟨by first | rfl | trivial, k + 1, by omega, by go_num, fun j y hj hy => ?_⟩
          rcases Nat.lt_or_ge j k with h | h
          · exact HOK.out j y h hy
          · have e : j = k := by omega
            rw [e, HX.out] at hy
            have : x = y := by simpa using hy
            rw [← this]; exact hxc
        case measure => simp [intOf]; omega
    · go_wp2_with fail
      go_loopw [19] (fun vi wr => wr = w6 ∧ ∃ k : Nat, k ≤ S.toks.length ∧ vi = .int .i64 k ∧ ∀ (j : Nat) (x : ByteArray × Int × Int), j < k → S.toks[j]? = some x → x.1.toList ≠ tok.toList) (fun vi _ => S.toks.length - (intOf vi).toNat)
      case atStart => exact ⟨rfl, 0, Nat.zero_le _, rfl, fun j x hj => absurd hj (by omega)⟩
      case round =>
        clear HOK
        obtain ⟨hwr, k2, hk2, rfl, hok⟩ := hrel
        rw [hwr]
        clear hwr
        have HOK := hide hok
        clear hok
        by_cases hlt2 : k2 < S.toks.length
        · obtain ⟨x, hx⟩ : ∃ x, S.toks[k2]? = some x := ⟨_, List.getElem?_eq_getElem hlt2⟩
          obtain ⟨b, cap, e1, z0, z1, z2⟩ := tok_at HTK.out k2 x hx
          simp only [Value.slice.injEq] at e1
          obtain ⟨rfl, _, rfl⟩ := e1
          have HX := hide hx
          clear hx
          by_cases hxt : x.1.toList = tok.toList
          · exact absurd hxt (HNO.out x (List.mem_of_getElem? HX.out))
          · have hxn : (x.1.toList == tok.toList) = false := by simp [hxt]
            go_wp2_with fail
            go_roundw
            case rel =>
              refine ⟨by first | rfl | trivial, k2 + 1, by omega, by go_num, fun j y hj hy => ?_⟩
              rcases Nat.lt_or_ge j k2 with h | h
              · exact HOK.out j y h hy
              · have e : j = k2 := by omega
                rw [e, HX.out] at hy
                have : x = y := by simpa using hy
                rw [← this]; exact hxt
            case measure => simp [intOf]; omega
        · have HPL := hide (place_any w6 P rd rc _ _ _ _ id HH6.out (by simp only; omega))
          simp only at HPL
          go_wp2_with fail
          refine HPL.out.mono ?_
          rintro o w7 ⟨hsay, hw7⟩
          rcases hsay with ⟨k3, x, rfl, hx, hid⟩ | ⟨_, hnn⟩
          · rw [hw7]
            clear hw7 HPL
            have hk0 : ¬ (k3 : Int) < 0 := by omega
            have hlt3 : k3 < S.things.length := (List.getElem?_eq_some_iff.1 hx).1
            obtain ⟨b3, cap3, e3, hc, hfz⟩ := own_at HH6.out.t k3 x hx
            simp only [Value.slice.injEq] at e3
            obtain ⟨rfl, _, rfl⟩ := e3
            obtain ⟨w8, hw8, ho8, hf8⟩ := own_put HH6.out.t k3 x a v hx
            have hR8 := (Rc.put (S := { S with fuse := fuse1 S.fuse, down := false, steps := S.steps + 1, calls := S.calls + 1 }) HH6.out (by rw [List.length_set]) ho8 hf8).fr (Fr.refl w8 (fun _ => False)).drew (fun _ _ e => e)
            have hF8 : Fr w w8.drew P := (HF6.out.trans hf8 (fun c _ e => by rw [e]; exact HH6.out.pt b3 rfl)).drew
            have a0 := cell_of_block HK6.out 0 _ rfl
            have a1 := cell_of_block HK6.out 1 _ rfl
            have a2 := cell_of_block HK6.out 2 _ rfl
            have a3 := cell_of_block HK6.out 3 _ rfl
            have a4 := cell_of_block HK6.out 4 _ rfl
            have z2 := hc 2 (by omega)
            have z3 : w6.cell? ⟨b3, k3 * 7 + 2 + 1, none⟩ = (c7 x.1)[3]? := hc 3 (by omega)
            have z4 : w6.cell? ⟨b3, k3 * 7 + 2 + 2, none⟩ = (c7 x.1)[4]? := hc 4 (by omega)
            have z5 : w6.cell? ⟨b3, k3 * 7 + 2 + 3, none⟩ = (c7 x.1)[5]? := hc 5 (by omega)
            have z6 : w6.cell? ⟨b3, k3 * 7 + 2 + 4, none⟩ = (c7 x.1)[6]? := hc 6 (by omega)
            rw [show (c7 x.1)[2]? = some (.int .i64 x.1.k) from rfl] at z2
            rw [show (c7 x.1)[3]? = some (.int .i64 x.1.n) from rfl] at z3
            rw [show (c7 x.1)[4]? = some (.string x.1.s) from rfl] at z4
            rw [show (c7 x.1)[5]? = some (.slice x.1.la x.1.ln x.1.lc) from rfl] at z5
            rw [show (c7 x.1)[6]? = some (.slice x.1.fa x.1.fn x.1.fc) from rfl] at z6
            have f2 := hfz (k3 * 7 + 2)
            have f3 := hfz (k3 * 7 + 2 + 1)
            have f4 := hfz (k3 * 7 + 2 + 2)
            have f5 := hfz (k3 * 7 + 2 + 3)
            have f6 := hfz (k3 * 7 + 2 + 4)
            have HX3 := hide hx
            have HID := hide hid
            have HW8 := hide hw8
            simp only at hR8
            clear hc hfz ho8 hf8 hx hid hw8
            go_wp2_with fail
            go_region
            rw [← HW8.out]
            clear HW8 a0 a1 a2 a3 a4 z2 z3 z4 z5 z6 f2 f3 f4 f5 f6 y1 y2 y3 y4 y6 HFR HTK HH6 HF6 HK6
            generalize w8.drew = w9 at *
            have HRA := hide hR8
            have HFA := hide hF8
            clear hR8 hF8
            have q2 := cell_of_block HRA.out.c 2 _ rfl
            have qf := free_of_block HRA.out.c 2
            obtain ⟨j0, hj0, hj1, hj2, hj3⟩ := info_parts info94
            have hnw : ∀ j u, (c3 (tok, 2, id))[j]? = some u → (w9.alloc (.cells #[.string tok, .int .i64 2, .int .i64 id] 94)).cell? ((⟨w9.heap.size, 0, none⟩ : Addr).add j) = some u := news_alloc w9 #[.string tok, .int .i64 2, .int .i64 id] 94 _ rfl
            have HOK9 := hide HRA.out.k
            simp only at q2 HOK9
            have KG : Hid (∀ ob wA, (w9.alloc ob).grownBy wA (Value.slice ka S.toks.length kc).ownBlock → wA.cell? ⟨rc, 2, none⟩ = some (.slice ka S.toks.length kc) ∧ wA.frozen? ⟨rc, 2, none⟩ = false) := fun ob wA hg => by
              have h1 : Fr w9 wA (fun c => (Value.slice ka S.toks.length kc).ownBlock = some c) := (((Fr.refl w9 (fun _ => False)).alloc ob).weak (fun _ _ e => e.elim)).grown hg (fun c hc _ => hc)
              have hb := (h1.block rc (Array.getElem?_eq_some_iff.1 HRA.out.c).1 (fun e => owns_type HRA.out.k HRA.out.c (by decide) e)).trans HRA.out.c
              exact ⟨cell_of_block hb 2 _ rfl, free_of_block hb 2⟩
            go_wp2_with (at_builtin; go_must (refine wpList_append_lies _ rfl (.tmp 173) (.tmp 178) 61 rfl 0 94 j0 (.agg #[.string ⟨#[]⟩, .int .i64 0, .int .i64 0]) 3 32 uDone hj0 hj1 hj2 hj3 rfl (by decide) (.slice ka S.toks.length kc) S.toks.length (S.toks.flatMap c3) rfl (HOK9.out.alloc _) ⟨w9.heap.size, 0, none⟩ 1 1 (c3 (tok, 2, id)) rfl rfl hnw (by simp [c3, Value.oneCell']) (by decide) (by unfold maxLen; omega) (by omega) (Nat.zero_le _) _ rfl ?_); intro gB capB wB hownB hgrowB hatB hltB; obtain ⟨q3, q4⟩ := KG.out _ wB hgrowB)
            have hoB : wB.ownsRow 0 94 3 (.slice (some ⟨gB, 0, none⟩) (S.toks.length + 1) capB) (S.toks ++ [(tok, 2, id)]).length ((S.toks ++ [(tok, 2, id)]).flatMap c3) := by
              rw [List.flatMap_append, List.length_append]
              simpa using hownB
            obtain ⟨PB, hnB, hRB, hFB⟩ := HRA.out.pushK (tok, 2, id) hgrowB hoB hatB hltB
            have HNB := hide hnB
            have HRB := hide hRB
            have HFB := hide hFB
            clear hownB hgrowB hatB hltB hoB hnB hRB hFB hnw
            go_wp2_with fail
            go_ret2
            exact ⟨rfl, k3, x, HX3.out, HID.out, PB, _, _, ⟨HNB.out.1, fun c hc => by
              have h1 := HFA.out.size
              rcases HNB.out.2 c hc with h | h
              · exact .inl h
              · exact .inr (by omega)⟩, HRB.out, HFA.out.trans HFB.out (fun _ _ e => e)⟩
          · obtain ⟨x, hx, hid⟩ := HIN.out
            exact absurd hid (hnn x hx)
set_option maxRecDepth 100000 in
set_option maxHeartbeats 2000000 in
theorem refDo_del (w : World) (P : Nat → Prop) (rd rc : Nat) (tv kv fv : Value) (S : Rm) (tok kind : ByteArray) (id : Int) (a : Tg) (h : Rc w P rd rc tv kv fv S) (hk : kind.size ≤ maxLen) (hb : (0 ≤ S.steps ∧ S.steps ≤ 900000) ∧ (0 ≤ S.calls ∧ S.calls ≤ 900000) ∧ (-1 ≤ S.fuse ∧ S.fuse ≤ 9223372036854775807) ∧ S.things.length ≤ 900 ∧ S.toks.length ≤ 900 ∧ S.fails.length ≤ 900) (hd : S.down = false) (h0 : S.fuse ≠ 0) (hbs : S.calls ∉ S.fails) (hno : ∀ d ∈ S.toks, d.1.toList ≠ tok.toList) (hin : ∃ x ∈ S.things, x.1.id = id) :
    Calls Try.prog 13 #[.pointer (some ⟨rc, 0, none⟩), .int .i64 3, .string tok, .string kind, .int .i64 id, .agg #[.int .i64 a.k, .int .i64 a.n, .string a.s, .slice a.la a.ln a.lc, .slice a.fa a.fn a.fc]] w fun o w' => o = .returned (.tuple #[.int .i64 id, .int .i64 0]) ∧ DidNew w w' P rd rc fv { S with fuse := fuse1 S.fuse, down := false, steps := S.steps + 1, calls := S.calls + 1, things := lessT S.things id, toks := S.toks ++ [(tok, 3, id)] } := by
  obtain ⟨w2, hw2⟩ : ∃ w2, w2 = w.alloc (.cells #[.int .i64 a.k, .int .i64 a.n, .string a.s, .slice a.la a.ln a.lc, .slice a.fa a.fn a.fc] 40) := ⟨_, rfl⟩
  have hf2 : Fr w w2 (fun _ => False) := by rw [hw2]; exact (Fr.refl _ _).alloc _
  have hb2 : w2.heap[w.heap.size]? = some (.cells #[.int .i64 a.k, .int .i64 a.n, .string a.s, .slice a.la a.ln a.lc, .slice a.fa a.fn a.fc] 40 (0, 0)) := by rw [hw2]; exact heap_alloc_new _ _
  have h2 := h.fr hf2 (fun _ _ e => e)
  have HB2 := hide hb2
  have HH2 := hide h2
  have HF2 := hide hf2
  have HK := hide hk
  clear h hf2 h2 hk
  clear hb2
  have HBD := hide hb
  clear hb
  have HBS := hide hbs
  clear hbs
  have HNO := hide hno
  clear hno
  have HIN := hide hin
  clear hin
  have HD := hide hd
  clear hd
  have H0 := hide h0
  clear h0
  go_enter Try.func13, Try.ntmps13
  go_upto_region 1 with fail
  rw [← hw2]
  clear hw2
  go_wp2_with fail
  obtain ⟨w3, hw3⟩ : ∃ w3, w3 = w2 := ⟨_, rfl⟩
  rw [← hw3] at HH2 HF2 HB2 ⊢
  clear hw3
  have HH3 := hide HH2.out
  have HF3 := hide HF2.out
  have HB3 := hide HB2.out
  clear HH2 HF2 HB2
  refine (nameMay_any kind w3 HK.out).mono ?_
  rintro o w4 ⟨rfl, hw4⟩
  rw [hw4]
  clear hw4 w4
  generalize V.name (V.bl kind) = nmb
  have y0 := cell_of_block HH3.out.c 0 _ rfl
  obtain ⟨hbS, hbC, hbF, hbT, hbK, hbX⟩ := HBD.out
  have hdd := HH3.out.d
  rw [HD.out] at hdd
  have HSP := hide (refStep_go w3 rd _ _ hdd H0.out (by omega) hbF)
  clear hdd hbS hbF
  go_wp2_with fail
  refine HSP.out.mono ?_
  rintro o w5 ⟨rfl, hb5, hf5⟩
  have hh5 := HH3.out.stepd hb5 hf5
  have hf05 := (HF3.out.weak (ex1 := P) (fun _ _ e => e.elim)).trans hf5 (fun _ _ e => by rw [e]; exact HH3.out.pd)
  have hbx5 : ¬ w.heap.size = rd := fun e => by
    have h1 := HB3.out
    rw [e, HH3.out.d] at h1
    cases h1
  have hk5 := (hf5.block _ (Array.getElem?_eq_some_iff.1 HB3.out).1 hbx5).trans HB3.out
  have hbxc : ¬ w.heap.size = rc := fun e => by
    have h1 := HB3.out
    rw [e, HH3.out.c] at h1
    cases h1
  have y0 := cell_of_block hh5.c 0 _ rfl
  have y5 := cell_of_block hh5.c 5 _ rfl
  have r5 := free_of_block hh5.c 5
  have hw5 := wrap_eq (S.calls + 1) (by omega)
  obtain ⟨w6, hw6⟩ : ∃ w6, w6 = w5.setCell ⟨rc, 5, none⟩ (.int .i64 (S.calls + 1)) := ⟨_, rfl⟩
  have hh6 := hh5.counted (S.calls + 1)
  rw [← hw6] at hh6
  have hfs6 : Fr w5 w6 (fun c => c = rc) := by rw [hw6]; exact (Fr.refl w5 (fun c => c = rc)).set _ _ (fun _ => rfl)
  have HK6 := hide ((hfs6.block _ (Array.getElem?_eq_some_iff.1 hk5).1 hbxc).trans hk5)
  have HF6 := hide (hf05.trans hfs6 (fun _ _ e => by rw [e]; exact HH3.out.pc))
  have HH6 := hide hh6
  have HS6 := hide HF6.out.size
  have HFR := hide hh6.f
  have HTK := hide hh6.k
  clear hb5 hf5 hh5 hf05 hk5 HSP hh6 hfs6 HH3 HF3 HB3 hbx5 hbxc
  go_upto_region 13 with fail
  rw [← hw6]
  clear hw6 y0 y5 r5 hw5
  have y1 := cell_of_block HH6.out.c 1 _ rfl
  have y2 := cell_of_block HH6.out.c 2 _ rfl
  have y3 := cell_of_block HH6.out.c 3 _ rfl
  have y4 := cell_of_block HH6.out.c 4 _ rfl
  have y6 := cell_of_block HH6.out.c 6 _ rfl
  obtain ⟨fa, fc, rfl⟩ := owns_shape HH6.out.f
  obtain ⟨ka, kc, rfl⟩ := owns_shape HH6.out.k
  obtain ⟨ta, tc, rfl⟩ := owns_shape HH6.out.t
  simp only at y1 y2 y3 y4 y6 HFR HTK HF6 HH6
  go_wp2_with fail
  go_loopw [18] (fun vi wr => wr = w6 ∧ ∃ k : Nat, k ≤ S.fails.length ∧ vi = .int .i64 k ∧ ∀ (j : Nat) (x : Int), j < k → S.fails[j]? = some x → x ≠ S.calls) (fun vi _ => S.fails.length - (intOf vi).toNat)
  case atStart => exact ⟨rfl, 0, Nat.zero_le _, rfl, fun j x hj => absurd hj (by omega)⟩
  case round =>
    obtain ⟨hwr, k, hk, rfl, hok⟩ := hrel
    rw [hwr]
    clear hwr
    have HOK := hide hok
    clear hok
    by_cases hlt : k < S.fails.length
    · obtain ⟨x, hx⟩ : ∃ x, S.fails[k]? = some x := ⟨_, List.getElem?_eq_getElem hlt⟩
      obtain ⟨b, cap, e1, z0⟩ := int_at HFR.out k x hx
      simp only [Value.slice.injEq] at e1
      obtain ⟨rfl, _, rfl⟩ := e1
      have HX := hide hx
      clear hx
      by_cases hxc : x = S.calls
      · exact absurd (by rw [← hxc]; exact List.mem_of_getElem? HX.out) HBS.out
      · go_wp2_with fail
        go_roundw
        case rel =>
          refine ⟨by first | rfl | trivial, k + 1, by omega, by go_num, fun j y hj hy => ?_⟩
          rcases Nat.lt_or_ge j k with h | h
          · exact HOK.out j y h hy
          · have e : j = k := by omega
            rw [e, HX.out] at hy
            have : x = y := by simpa using hy
            rw [← this]; exact hxc
        case measure => simp [intOf]; omega
    · go_wp2_with fail
      go_loopw [19] (fun vi wr => wr = w6 ∧ ∃ k : Nat, k ≤ S.toks.length ∧ vi = .int .i64 k ∧ ∀ (j : Nat) (x : ByteArray × Int × Int), j < k → S.toks[j]? = some x → x.1.toList ≠ tok.toList) (fun vi _ => S.toks.length - (intOf vi).toNat)
      case atStart => exact ⟨rfl, 0, Nat.zero_le _, rfl, fun j x hj => absurd hj (by omega)⟩
      case round =>
        clear HOK
        obtain ⟨hwr, k2, hk2, rfl, hok⟩ := hrel
        rw [hwr]
        clear hwr
        have HOK := hide hok
        clear hok
        by_cases hlt2 : k2 < S.toks.length
        · obtain ⟨x, hx⟩ : ∃ x, S.toks[k2]? = some x := ⟨_, List.getElem?_eq_getElem hlt2⟩
          obtain ⟨b, cap, e1, z0, z1, z2⟩ := tok_at HTK.out k2 x hx
          simp only [Value.slice.injEq] at e1
          obtain ⟨rfl, _, rfl⟩ := e1
          have HX := hide hx
          clear hx
          by_cases hxt : x.1.toList = tok.toList
          · exact absurd hxt (HNO.out x (List.mem_of_getElem? HX.out))
          · have hxn : (x.1.toList == tok.toList) = false := by simp [hxt]
            go_wp2_with fail
            go_roundw
            case rel =>
              refine ⟨by first | rfl | trivial, k2 + 1, by omega, by go_num, fun j y hj hy => ?_⟩
              rcases Nat.lt_or_ge j k2 with h | h
              · exact HOK.out j y h hy
              · have e : j = k2 := by omega
                rw [e, HX.out] at hy
                have : x = y := by simpa using hy
                rw [← this]; exact hxt
            case measure => simp [intOf]; omega
        · have HPL := hide (place_any w6 P rd rc _ _ _ _ id HH6.out (by simp only; omega))
          simp only at HPL
          go_wp2_with fail
          refine HPL.out.mono ?_
          rintro o w7 ⟨hsay, hw7⟩
          rcases hsay with ⟨k3, x, rfl, hx, hid⟩ | ⟨_, hnn⟩
          · rw [hw7]
            clear hw7 HPL
            have hk0 : ¬ (k3 : Int) < 0 := by omega
            have HLO := hide (refLose_any w6 P rd rc _ _ _ _ id HH6.out (by simp only; omega))
            simp only at HLO
            clear hx hid
            go_wp2_with fail
            refine HLO.out.mono ?_
            rintro o w9 ⟨rfl, P2, tv2, hn9, hR9, hf9⟩
            have HRA := hide hR9
            have HNA := hide hn9
            have HFA := hide (HF6.out.trans hf9 (fun _ _ e => by rw [e]; exact HH6.out.pc))
            clear hR9 hn9 hf9 HLO y1 y2 y3 y4 y6 HFR HTK HH6 HF6 HK6
            have q2 := cell_of_block HRA.out.c 2 _ rfl
            have qf := free_of_block HRA.out.c 2
            obtain ⟨j0, hj0, hj1, hj2, hj3⟩ := info_parts info94
            have hnw : ∀ j u, (c3 (tok, 3, id))[j]? = some u → (w9.alloc (.cells #[.string tok, .int .i64 3, .int .i64 id] 94)).cell? ((⟨w9.heap.size, 0, none⟩ : Addr).add j) = some u := news_alloc w9 #[.string tok, .int .i64 3, .int .i64 id] 94 _ rfl
            have HOK9 := hide HRA.out.k
            simp only at q2 HOK9
            have KG : Hid (∀ ob wA, (w9.alloc ob).grownBy wA (Value.slice ka S.toks.length kc).ownBlock → wA.cell? ⟨rc, 2, none⟩ = some (.slice ka S.toks.length kc) ∧ wA.frozen? ⟨rc, 2, none⟩ = false) := fun ob wA hg => by
              have h1 : Fr w9 wA (fun c => (Value.slice ka S.toks.length kc).ownBlock = some c) := (((Fr.refl w9 (fun _ => False)).alloc ob).weak (fun _ _ e => e.elim)).grown hg (fun c hc _ => hc)
              have hb := (h1.block rc (Array.getElem?_eq_some_iff.1 HRA.out.c).1 (fun e => owns_type HRA.out.k HRA.out.c (by decide) e)).trans HRA.out.c
              exact ⟨cell_of_block hb 2 _ rfl, free_of_block hb 2⟩
            go_wp2_with (at_builtin; go_must (refine wpList_append_lies _ rfl (.tmp 173) (.tmp 178) 61 rfl 0 94 j0 (.agg #[.string ⟨#[]⟩, .int .i64 0, .int .i64 0]) 3 32 uDone hj0 hj1 hj2 hj3 rfl (by decide) (.slice ka S.toks.length kc) S.toks.length (S.toks.flatMap c3) rfl (HOK9.out.alloc _) ⟨w9.heap.size, 0, none⟩ 1 1 (c3 (tok, 3, id)) rfl rfl hnw (by simp [c3, Value.oneCell']) (by decide) (by unfold maxLen; omega) (by omega) (Nat.zero_le _) _ rfl ?_); intro gB capB wB hownB hgrowB hatB hltB; obtain ⟨q3, q4⟩ := KG.out _ wB hgrowB)
            have hoB : wB.ownsRow 0 94 3 (.slice (some ⟨gB, 0, none⟩) (S.toks.length + 1) capB) (S.toks ++ [(tok, 3, id)]).length ((S.toks ++ [(tok, 3, id)]).flatMap c3) := by
              rw [List.flatMap_append, List.length_append]
              simpa using hownB
            obtain ⟨PB, hnB, hRB, hFB⟩ := HRA.out.pushK (tok, 3, id) hgrowB hoB hatB hltB
            have HNB := hide hnB
            have HRB := hide hRB
            have HFB := hide hFB
            clear hownB hgrowB hatB hltB hoB hnB hRB hFB hnw
            go_wp2_with fail
            go_ret2
            exact ⟨rfl, PB, _, _, ⟨fun c hc => HNB.out.1 c (HNA.out.1 c hc), fun c hc => by
              have h1 := HFA.out.size
              have h2 := HFB.out.size
              have h3 := HS6.out
              rcases HNB.out.2 c hc with h | h
              · rcases HNA.out.2 c h with h | h
                · exact .inl h
                · exact .inr (by omega)
              · exact .inr (by omega)⟩, HRB.out, HFA.out.trans HFB.out (fun c hlt e => by
              rcases HNA.out.2 c e with h | h
              · exact h
              · have h3 := HS6.out
                omega)⟩
          · obtain ⟨x, hx, hid⟩ := HIN.out
            exact absurd hid (hnn x hx)
end Go.Proofs.Ytlmkpjdaoinmoaa
