/- For TopToken: number, the start, the law's walk. -/
import Derived.Test.YtlmkpjdaoinmoaaCT
import Derived.Deep.CutBlock
namespace Go.Proofs.Ytlmkpjdaoinmoaa
open Go.RowKit
attribute [local go_sem ↓] Go.wp_at_zero Go.wp_at_succ
theorem Disk.clip {w : World} {B : Nat → Prop} {g : Nat} {D : Dk} (h : Disk w B g D) : Disk w (fun x => B x ∧ x < w.heap.size) g D := by
  obtain ⟨bk, bf, cv, h1, h2, h3, h4, h5, h6, h7, h8, h9⟩ := h
  exact ⟨bk, bf, cv, h1, h2, h3, h4, h5, ⟨h6, (Array.getElem?_eq_some_iff.1 h1).1⟩, ⟨h7, h2.lt⟩, ⟨h8, h3.lt⟩, fun c hc => ⟨h9 c hc, (h4.lt c hc).2⟩⟩
theorem ta_errno (n : Int) (w : World) : (Instr.typeAssert (.iface 80 (.int .i64 n)) 29 80 true).run Try.prog w = .ok (.tuple #[.int .i64 n, .bool true]) w := by kernel_rfl
set_option maxRecDepth 100000 in
theorem number_any (e : Nat) (w : World) : Calls Try.prog 30 #[V.errOf e] w fun o w' => o = .returned (.int .i64 e) ∧ w' = w := by
  by_cases he : e = 0
  · rw [he, show V.errOf 0 = .nilIface from rfl]
    go_enter Try.func30, Try.ntmps30
    go_wp2_with fail
    go_ret
    exact ⟨rfl, rfl⟩
  · rw [show V.errOf e = .iface 80 (.int .i64 e) by unfold V.errOf; rw [if_neg he]]
    have hta := ta_errno e w
    go_enter Try.func30, Try.ntmps30
    go_wp2_with fail
    go_ret
    exact ⟨rfl, rfl⟩
/-- The record without fields. -/
def recV : Val := ⟨5, 0, ⟨#[]⟩, [], []⟩
theorem recV_mem (ex : Nat → Prop) (m : Nat) (w : World) : V.MemX ex (m + 1) w recV [.int .i64 5, .int .i64 0, .string ⟨#[]⟩, .slice none 0 0, .slice none 0 0] := fun _ _ _ => ⟨_, _, rfl, ⟨none, 0, rfl, .inl rfl⟩, ⟨none, 0, rfl, .inl rfl⟩⟩
theorem recV_attr (m : Nat) : attrE (m + 1) recV = 0 := by
  unfold attrE
  rw [if_pos (show recV.kind = 5 from rfl)]
  unfold V.fault
  rw [show V.parts (m + 1) recV = 1 from rfl, show V.deep (m + 1) recV = 1 from rfl, show V.shaped (m + 1) recV = true from by rw [V.shaped]; simp [recV, V.spare, V.fits, V.rise]]
  rfl
theorem recV_bulk (m : Nat) : V.bulk (m + 1) recV ≤ 2000000 := by
  rw [show V.bulk (m + 1) recV = 1 from rfl]; omega
def tFirst : ByteArray := ⟨#[102, 105, 114, 115, 116]⟩
def tVm : ByteArray := ⟨#[118, 109]⟩
/-- The first thing. -/
theorem first_made (m : Nat) (w : World) (B : Nat → Prop) (g gc bt bd bf : Nat) (hc : Cl w B g gc bt bd bf Dk.new 20 0 0 [] [] []) (hB : ∀ x, B x → x < w.heap.size) :
    Calls Try.prog 12 #[.pointer (some ⟨gc, 0, none⟩), .string tFirst, .string tVm, .agg #[.int .i64 5, .int .i64 0, .string ⟨#[]⟩, .slice none 0 0, .slice none 0 0]] w fun o w' => o = .returned (.tuple #[.int .i64 1, .nilIface]) ∧ (∃ Q Di, Sta m w' B g gc bt bd bf Q Di 1 1) ∧ Fr w w' (Cl.own B gc bt bd bf) := by
  refine (createNew w B g gc bt bd bf Dk.new 20 0 0 [] [] [] tFirst tVm m recV _ _ _ _ _ hc (recV_mem _ m w) (recV_bulk m) (by decide) (recV_attr m) (by decide) (by decide) (by decide) (nofail rfl rfl) (by decide) rfl rfl (by decide) (by decide) hB).mono ?_
  rintro o w' ⟨rfl, Th1, ⟨t, t1, t2, t3, rfl⟩, hcl, hf⟩
  have hf2 : Fr w w' (Cl.own B gc bt bd bf) := hf.weak (fun _ _ e => e.elim (fun e => .inl (e ▸ hc.disk.has_g)) (fun e => .inr (e.imp (fun e => e) (fun e => e.imp (fun e => e) .inl))))
  refine ⟨rfl, ⟨[(t, recV)], S.put [] tFirst (dval (1, 0 + 1)), ⟨⟨Dk.new.step, 0 + 1, ?_, rfl, rfl, by decide, by decide⟩, fun x hx => Nat.lt_of_lt_of_le (hB x hx) hf2.size, fun x hx => ?_, by simp, fun x hx => ?_, by decide, by simp, ?_⟩⟩, hf2⟩
  rotate_left
  · have e : x = (t, recV) := by simpa using hx
    rw [e]
    exact ⟨t3, recV_bulk m, by show 0 ≤ t.id ∧ t.id ≤ 1000000; omega⟩
  · have e : x = (t, recV) := by simpa using hx
    rw [e]
    show t.id ≤ 1
    omega
  · exact deeds_put (fun _ _ h => by cases h) tFirst (1, 0 + 1)
  · have e : T.put [] (0 + 1) t.val = [(t, recV)].map Tv.ent := by
      show [((0 : Int) + 1, t.val)] = [(t.id, t.val)]
      rw [t1]
    rw [e] at hcl
    exact hcl
theorem lists_same : ∃ sl : List Td → List Td → Bool, ∀ a b, sl a b = true ↔ a = b := ⟨fun a b => @decide (a = b) (Classical.propDecidable _), fun a b => by simp⟩
theorem sta_all (hsort : SortC) {m : Nat} {w : World} {B : Nat → Prop} {g gc bt bd bf : Nat} {Q : List Tv} {Di : List (ByteArray × Value)} {given : Int} {n : Nat} (hn : n ≤ 900) (h : Sta m w B g gc bt bd bf Q Di given n) :
    Calls Try.prog 29 #[.pointer (some ⟨gc, 0, none⟩)] w fun o w' => ∃ a c, o = .returned (.slice a Q.length c) ∧ TRowX (Cl.own B gc bt bd bf) m w' (.slice a Q.length c) (Td.sort (Q.map Tv.md)) ∧ Fr w w' (fun _ => False) := by
  obtain ⟨D, calls, hc, _⟩ := h.cl
  have hln := h.ln
  refine (all_any hsort m w B g gc bt bd bf D 20 given calls Q Di [] hc h.hB h.ok (by omega) h.nd).mono ?_
  rintro o w' ⟨u, rfl, hr, hf⟩
  obtain ⟨a, c, e⟩ := V.Row.shape hr.row
  rw [Td.sort_len, List.length_map] at e
  rw [e] at hr ⊢
  exact ⟨a, c, rfl, hr, hf⟩
set_option maxRecDepth 100000 in
set_option maxHeartbeats 8000000 in
theorem topToken_any (hsort : SortC) (m : Nat) (w : World) (v : Value) (X : List Ac) (h : A.Acts (m + 1) w v X) :
    Calls Try.prog 4 #[v] w fun e w' => e = .returned (.bool true) ∧ Below w.heap.size w w' := by
  obtain ⟨ao, cap, rfl⟩ := h.shape
  have HA := hide h
  have HSO := hide hsort
  clear h hsort
  go_enter Try.func4, Try.ntmps4
  go_wp2_with fail
  refine (new_any w).mono ?_
  rintro o w1 ⟨g, rfl, hD1, hf1⟩
  obtain ⟨B, hBe⟩ : ∃ B : Nat → Prop, B = fun x => w.heap.size ≤ x ∧ x < w1.heap.size := ⟨_, rfl⟩
  have hd1 : Disk w1 B g Dk.new := by rw [hBe]; exact hD1.clip
  have hB1 : ∀ x, B x → x < w1.heap.size := fun x hx => by rw [hBe] at hx; exact hx.2
  have HBL : Hid (∀ x, B x → w.heap.size ≤ x) := fun x hx => by rw [hBe] at hx; exact hx.1
  have HCN := hide (cnew_any w1 B g Dk.new 20 hd1 hB1 (by decide))
  have HF1 := hide hf1
  have HB1 := hide hB1
  clear hD1 hd1 hf1 hBe hB1
  go_wp2_with fail
  refine HCN.out.mono ?_
  rintro o w2 ⟨gc, bt, bd, bf, rfl, hcl2, hlo, hf2⟩
  have hB2 : ∀ x, B x → x < w2.heap.size := fun x hx => Nat.lt_of_lt_of_le (HB1.out x hx) hf2.size
  have HOWN : Hid (∀ x, Cl.own B gc bt bd bf x → w.heap.size ≤ x) := fun x hx => by
    have hz := HF1.out.size
    rcases hx with hx | rfl | rfl | rfl | rfl
    · exact HBL.out x hx
    · omega
    · omega
    · omega
    · omega
  have HFM := hide (first_made m w2 B g gc bt bd bf hcl2 hB2)
  unfold tFirst tVm at HFM
  have HF2 := hide (HF1.out.trans hf2 (fun _ _ e => e))
  clear hcl2 hlo hf2 hB2 HCN HF1 HB1 HBL
  go_wp2_with fail
  refine HFM.out.mono ?_
  rintro o w3 ⟨rfl, ⟨Q3, Di3, hS3⟩, hf3⟩
  have hb3 : Below w.heap.size w w3 := (HF2.out.trans hf3 (fun c hc e => by have := HOWN.out c e; omega)).below (Nat.le_refl _) (fun _ e => e.elim)
  have HLA := hide (lightActs_any 60 9000 (m + 1) w3 _ X (HA.out.kept hb3))
  have HS3 := hide hS3
  have HB3 := hide hb3
  clear hf3 hS3 hb3 HFM HF2
  go_wp2_with fail
  refine HLA.out.mono ?_
  rintro o w4 ⟨⟨bb, rfl, hbb⟩, hb4⟩
  have HB4 := hide (HB3.out.trans (hb4.mono HB3.out.size))
  have HS4 := hide (HS3.out.fr (fr_of_below hb4))
  clear hb4 HLA HS3 HB3
  cases bb with
  | false =>
    go_wp2_with fail
    go_ret
    exact ⟨rfl, HB4.out⟩
  | true =>
    have hX60 := hbb rfl
    clear hbb
    go_wp2_with fail
    go_loopw [8, 9] (fun vl vi wx => ∃ (i : Nat) (Q : List Tv) (Di : List (ByteArray × Value)) (given : Int), i ≤ X.length ∧ vi = .int .i64 i ∧ vl = .int .i64 given ∧ Sta m wx B g gc bt bd bf Q Di given (1 + 2 * i) ∧ Below w.heap.size w wx) (fun _ vi _ => X.length - (intOf vi).toNat)
    case atStart => exact ⟨0, Q3, Di3, 1, Nat.zero_le _, rfl, rfl, HS4.out, HB4.out⟩
    case round =>
      clear HS4 HB4
      obtain ⟨wx, hwx⟩ : ∃ z, z = wr := ⟨_, rfl⟩
      subst hwx
      obtain ⟨i, Q, Di, given, hi, rfl, rfl, hst, hbx⟩ := hrel
      by_cases hlt : i < X.length
      · obtain ⟨b1, off1, cap1, x, c5, c6, c7, c8, c9, an, cn, e1, hx, g1, g2, g3, g4, g4b, g5, g6, y0, y1, y2, y3, y4, y5, y6, y7, y8, y9, y10⟩ := HA.out.at i hlt
        replace y0 := kept_cell hbx y0
        replace y1 := kept_cell hbx y1
        replace y2 := kept_cell hbx y2
        replace y3 := kept_cell hbx y3
        replace y4 := kept_cell hbx y4
        replace y5 := kept_cell hbx y5
        replace y6 := kept_cell hbx y6
        replace y7 := kept_cell hbx y7
        replace y8 := kept_cell hbx y8
        replace y9 := kept_cell hbx y9
        replace y10 := kept_cell hbx y10
        simp only [Value.slice.injEq] at e1
        obtain ⟨rfl, _, rfl⟩ := e1
        obtain ⟨al, cl, af, cf, rfl, rfl, rfl, rfl, rfl⟩ := g4.form
        have HMX : Hid (∀ W, Below w.heap.size w W → V.MemX (Cl.own B gc bt bd bf) (m + 1) W x.v [.int .i64 x.v.kind, .int .i64 x.v.n, .string x.v.s, .slice al x.v.l.length cl, .slice af x.v.f.length cf]) := fun W hb => V.MemX.old g4 hb HOWN.out
        have HBK := hide g4b
        have HTS := hide g3
        obtain ⟨w8, hw8⟩ : ∃ w8, w8 = wx.alloc (.cells #[.string x.kind, .string x.s, .string x.t, .int .i64 x.a, .int .i64 x.b, .int .i64 x.v.kind, .int .i64 x.v.n, .string x.v.s, .slice al x.v.l.length cl, .slice af x.v.f.length cf, .slice an x.nn cn] 43) := ⟨_, rfl⟩
        have hf8 : Fr wx w8 (fun _ => False) := by rw [hw8]; exact (Fr.refl _ _).alloc _
        have hb8 : w8.heap[wx.heap.size]? = some (.cells #[.string x.kind, .string x.s, .string x.t, .int .i64 x.a, .int .i64 x.b, .int .i64 x.v.kind, .int .i64 x.v.n, .string x.v.s, .slice al x.v.l.length cl, .slice af x.v.f.length cf, .slice an x.nn cn] 43 (0, 0)) := by rw [hw8]; exact heap_alloc_new _ _
        have HOB : Hid (¬ Cl.own B gc bt bd bf wx.heap.size) := fun e => absurd (hst.own_lt _ e) (Nat.lt_irrefl _)
        have HAL := hide (sta_all HSO.out (by omega) (hst.fr hf8))
        have HS8 := hide (hst.fr hf8)
        have HB8 := hide (hbx.trans (hf8.below hbx.size (fun _ e => e.elim)))
        have HK8 := hide hb8
        clear hst hbx hx g1 g2 g3 g4 g4b g5 g6 hf8 hb8
        go_wp2_with fail
        rw [← hw8]
        clear hw8 y0 y1 y2 y3 y4 y5 y6 y7 y8 y9 y10
        refine HAL.out.mono ?_
        rintro o w9 ⟨a9, c9, rfl, _, hf9⟩
        have HS9 := hide (HS8.out.fr hf9)
        have HB9 := hide (HB8.out.trans (hf9.below HB8.out.size (fun _ e => e.elim)))
        have hk9 := (hf9.block _ (Array.getElem?_eq_some_iff.1 HK8.out).1 (fun e => e)).trans HK8.out
        have HK9 := hide hk9
        have z0 := cell_of_block hk9 0 _ rfl
        generalize wx.heap.size = ba at *
        clear hf9 hk9 HAL HS8 HB8 HK8
        go_upto_block 2 with fail
        go_cut [8, 12, 13, 14, 15, 16, 17, 18] from 50 to 188 (fun vl vx ve vy vf _ _ _ wy => ∃ wz, wz = wy ∧ ∃ (r : Int) (e : Nat) (Q1 : List Tv) (Di1 : List (ByteArray × Value)) (given1 : Int), vx = .int .i64 r ∧ ve = V.errOf e ∧ vy = .int .i64 r ∧ vf = V.errOf e ∧ vl = .int .i64 given1 ∧ Sta m wz B g gc bt bd bf Q1 Di1 given1 (1 + 2 * i + 2) ∧ Below w.heap.size w wz)
        case first =>
          cases hcr : (x.kind.toList == [99, 114, 101, 97, 116, 101]) with
          | true =>
            as_aux_lemma =>
              have HC := hide (create_first m B g gc bt bd bf Q Di given (1 + 2 * i) x.s x.t x.v _ _ _ _ _ (by omega) HBK.out HTS.out w9 HS9.out (HMX.out w9 HB9.out))
              have z1 := cell_of_block HK9.out 1 _ rfl
              have z2 := cell_of_block HK9.out 2 _ rfl
              have z5 := cell_of_block HK9.out 5 _ rfl
              have z6 := cell_of_block HK9.out 6 _ rfl
              have z7 := cell_of_block HK9.out 7 _ rfl
              have z8 := cell_of_block HK9.out 8 _ rfl
              have z9 := cell_of_block HK9.out 9 _ rfl
              go_wp2_with fail
              refine HC.out.mono ?_
              rintro o w10 ⟨r, e, Q1, Di1, given1, rfl, hS10, hf10, hcase, hnx⟩
              have hk10 := (hf10.block _ (Array.getElem?_eq_some_iff.1 HK9.out).1 HOB.out).trans HK9.out
              have hb10 := HB9.out.trans (hf10.below HB9.out.size HOWN.out)
              have HAL := hide (sta_all HSO.out (by omega) hS10)
              have HS10 := hide hS10
              have HK10 := hide hk10
              have HB10 := hide hb10
              have HNX := hide hnx
              have HCASE := hide hcase
              clear hS10 hf10 hcase hnx hk10 hb10 HC z0 z1 z2 z5 z6 z7 z8 z9 HS9 HK9 HB9
              obtain ⟨ev, hev⟩ : ∃ ev, ev = V.errOf e := ⟨_, rfl⟩
              rw [← hev]
              have HEV := hide hev
              clear hev
              go_wp2_with fail
              refine HAL.out.mono ?_
              rintro o w11 ⟨a11, c11, rfl, hr11, hf11⟩
              have HS11 := hide (HS10.out.fr hf11)
              have hk11 := (hf11.block _ (Array.getElem?_eq_some_iff.1 HK10.out).1 (fun e => e)).trans HK10.out
              have HB11 := hide (HB10.out.trans (hf11.below HB10.out.size (fun _ e => e.elim)))
              have HN11 := hide (HNX.out w11 HS11.out (HMX.out w11 HB11.out))
              rw [← HEV.out] at HN11
              have HR11 := hide hr11
              have z1 := cell_of_block hk11 1 _ rfl
              have z2 := cell_of_block hk11 2 _ rfl
              have z5 := cell_of_block hk11 5 _ rfl
              have z6 := cell_of_block hk11 6 _ rfl
              have z7 := cell_of_block hk11 7 _ rfl
              have z8 := cell_of_block hk11 8 _ rfl
              have z9 := cell_of_block hk11 9 _ rfl
              clear hf11 hk11 hr11 HAL HNX HS10 HB10 HK10
              go_wp2_with fail
              refine HN11.out.mono ?_
              rintro o w12 ⟨rfl, hS12, hf12⟩
              have HAL2 := hide (sta_all HSO.out (by omega) hS12)
              have HS12 := hide hS12
              have HB12 := hide (HB11.out.trans (hf12.below HB11.out.size HOWN.out))
              have HR12 := hide (HR11.out.fr hf12)
              clear hS12 hf12 HN11 HS11 HB11 HR11 z1 z2 z5 z6 z7 z8 z9
              by_cases he : e = 0
              · have hev0 : ev = .nilIface := by rw [HEV.out, he]; rfl
                subst hev0
                go_wp2_with fail
                refine HAL2.out.mono ?_
                rintro o w13 ⟨a13, c13, rfl, hr13, hf13⟩
                obtain ⟨sl, hsl⟩ := lists_same
                have hsy : sl (Td.sort (Q1.map Tv.md)) (Td.sort (Q1.map Tv.md)) = true := (hsl _ _).2 rfl
                have hq1 := HS12.out.ln
                have hst := sameThings_any sl hsl m w13 _ _ _ _ (HR12.out.fr (hf13.weak (fun _ _ e => e.elim))).row hr13.row (by rw [Td.sort_len, List.length_map]; omega)
                rw [hsy] at hst
                have HST := hide hst
                have HS13 := hide (HS12.out.fr hf13)
                have HB13 := hide (HB12.out.trans (hf13.below HB12.out.size (fun _ e => e.elim)))
                clear hf13 hr13 hst hsy hsl HAL2 HS12 HB12 HR12 hq1
                go_wp2_with fail
                refine HST.out.mono ?_
                rintro o w14 ⟨rfl, hb14⟩
                have HS12 := hide (HS13.out.fr (fr_of_below hb14))
                have HB12 := hide (HB13.out.trans (hb14.mono HB13.out.size))
                clear hb14 HST HS13 HB13
                rcases HCASE.out with ⟨hq, hg⟩ | ⟨_, hq, hr, hg⟩
                · have hqn : ¬ (Q.length : Int) < Q1.length := by omega
                  rw [hg] at HS12
                  clear hg hq HCASE
                  go_wp2_with fail
                  go_meet
                  exact ⟨_, rfl, r, e, Q1, Di1, given, rfl, HEV.out, rfl, HEV.out, rfl, HS12.out, HB12.out⟩
                · have hqn : (Q.length : Int) < Q1.length := by omega
                  have hrn : ¬ r ≤ given := by omega
                  rw [hg] at HS12
                  clear hg hq HCASE hr
                  go_wp2_with fail
                  go_meet
                  exact ⟨_, rfl, r, e, Q1, Di1, r, rfl, HEV.out, rfl, HEV.out, rfl, HS12.out, HB12.out⟩
              · have hev1 : ev = .iface 80 (.int .i64 e) := by rw [HEV.out]; unfold V.errOf; rw [if_neg he]
                subst hev1
                have hg : given1 = given := by
                  rcases HCASE.out with ⟨_, hg⟩ | ⟨h0, _⟩
                  · exact hg
                  · exact absurd h0 he
                rw [hg] at HS12
                clear hg HCASE HAL2 HR12
                go_wp2_with fail
                go_meet
                exact ⟨_, rfl, r, e, Q1, Di1, given, rfl, HEV.out, rfl, HEV.out, rfl, HS12.out, HB12.out⟩
          | false =>
            cases hup : (x.kind.toList == [117, 112, 100, 97, 116, 101]) with
            | true =>
              as_aux_lemma =>
                have HC := hide (update_first m B g gc bt bd bf Q Di given (1 + 2 * i) x.s x.a x.v _ _ _ _ _ (by omega) HBK.out w9 HS9.out (HMX.out w9 HB9.out))
                have z1 := cell_of_block HK9.out 1 _ rfl
                have z3 := cell_of_block HK9.out 3 _ rfl
                have z5 := cell_of_block HK9.out 5 _ rfl
                have z6 := cell_of_block HK9.out 6 _ rfl
                have z7 := cell_of_block HK9.out 7 _ rfl
                have z8 := cell_of_block HK9.out 8 _ rfl
                have z9 := cell_of_block HK9.out 9 _ rfl
                go_wp2_with fail
                refine HC.out.mono ?_
                rintro o w10 ⟨e, Q1, Di1, rfl, hS10, hf10, hnx⟩
                have hk10 := (hf10.block _ (Array.getElem?_eq_some_iff.1 HK9.out).1 HOB.out).trans HK9.out
                have hb10 := HB9.out.trans (hf10.below HB9.out.size HOWN.out)
                have HAL := hide (sta_all HSO.out (by omega) hS10)
                have HS10 := hide hS10
                have HK10 := hide hk10
                have HB10 := hide hb10
                have HNX := hide hnx
                clear hS10 hf10 hnx hk10 hb10 HC z0 z1 z3 z5 z6 z7 z8 z9 HS9 HK9 HB9
                obtain ⟨ev, hev⟩ : ∃ ev, ev = V.errOf e := ⟨_, rfl⟩
                rw [← hev]
                have HEV := hide hev
                clear hev
                go_wp2_with fail
                refine HAL.out.mono ?_
                rintro o w11 ⟨a11, c11, rfl, hr11, hf11⟩
                have HS11 := hide (HS10.out.fr hf11)
                have hk11 := (hf11.block _ (Array.getElem?_eq_some_iff.1 HK10.out).1 (fun e => e)).trans HK10.out
                have HB11 := hide (HB10.out.trans (hf11.below HB10.out.size (fun _ e => e.elim)))
                have HN11 := hide (HNX.out w11 HS11.out (HMX.out w11 HB11.out))
                rw [← HEV.out] at HN11
                have HR11 := hide hr11
                have z1 := cell_of_block hk11 1 _ rfl
                have z3 := cell_of_block hk11 3 _ rfl
                have z5 := cell_of_block hk11 5 _ rfl
                have z6 := cell_of_block hk11 6 _ rfl
                have z7 := cell_of_block hk11 7 _ rfl
                have z8 := cell_of_block hk11 8 _ rfl
                have z9 := cell_of_block hk11 9 _ rfl
                clear hf11 hk11 hr11 HAL HNX HS10 HB10 HK10
                go_wp2_with fail
                refine HN11.out.mono ?_
                rintro o w12 ⟨rfl, hS12, hf12⟩
                have HAL2 := hide (sta_all HSO.out (by omega) hS12)
                have HS12 := hide hS12
                have HB12 := hide (HB11.out.trans (hf12.below HB11.out.size HOWN.out))
                have HR12 := hide (HR11.out.fr hf12)
                clear hS12 hf12 HN11 HS11 HB11 HR11 z1 z3 z5 z6 z7 z8 z9
                by_cases he : e = 0
                · have hev0 : ev = .nilIface := by rw [HEV.out, he]; rfl
                  subst hev0
                  go_wp2_with fail
                  refine HAL2.out.mono ?_
                  rintro o w13 ⟨a13, c13, rfl, hr13, hf13⟩
                  obtain ⟨sl, hsl⟩ := lists_same
                  have hsy : sl (Td.sort (Q1.map Tv.md)) (Td.sort (Q1.map Tv.md)) = true := (hsl _ _).2 rfl
                  have hq1 := HS12.out.ln
                  have hst := sameThings_any sl hsl m w13 _ _ _ _ (HR12.out.fr (hf13.weak (fun _ _ e => e.elim))).row hr13.row (by rw [Td.sort_len, List.length_map]; omega)
                  rw [hsy] at hst
                  have HST := hide hst
                  have HS13 := hide (HS12.out.fr hf13)
                  have HB13 := hide (HB12.out.trans (hf13.below HB12.out.size (fun _ e => e.elim)))
                  clear hf13 hr13 hst hsy hsl HAL2 HS12 HB12 HR12 hq1
                  go_wp2_with fail
                  refine HST.out.mono ?_
                  rintro o w14 ⟨rfl, hb14⟩
                  have HS12 := hide (HS13.out.fr (fr_of_below hb14))
                  have HB12 := hide (HB13.out.trans (hb14.mono HB13.out.size))
                  clear hb14 HST HS13 HB13
                  go_wp2_with fail
                  go_meet
                  exact ⟨_, rfl, 0, e, Q1, Di1, given, rfl, HEV.out, rfl, HEV.out, rfl, HS12.out, HB12.out⟩
                · have hev1 : ev = .iface 80 (.int .i64 e) := by rw [HEV.out]; unfold V.errOf; rw [if_neg he]
                  subst hev1
                  clear HAL2 HR12
                  go_wp2_with fail
                  go_meet
                  exact ⟨_, rfl, 0, e, Q1, Di1, given, rfl, HEV.out, rfl, HEV.out, rfl, HS12.out, HB12.out⟩
            | false =>
              cases hde : (x.kind.toList == [100, 101, 108, 101, 116, 101]) with
              | true =>
                as_aux_lemma =>
                  have HC := hide (delete_first m B g gc bt bd bf Q Di given (1 + 2 * i) x.s x.a (by omega) w9 HS9.out)
                  have z1 := cell_of_block HK9.out 1 _ rfl
                  have z3 := cell_of_block HK9.out 3 _ rfl
                  go_wp2_with fail
                  refine HC.out.mono ?_
                  rintro o w10 ⟨e, Q1, Di1, rfl, hS10, hf10, hnx⟩
                  have hk10 := (hf10.block _ (Array.getElem?_eq_some_iff.1 HK9.out).1 HOB.out).trans HK9.out
                  have hb10 := HB9.out.trans (hf10.below HB9.out.size HOWN.out)
                  have HAL := hide (sta_all HSO.out (by omega) hS10)
                  have HS10 := hide hS10
                  have HK10 := hide hk10
                  have HB10 := hide hb10
                  have HNX := hide hnx
                  clear hS10 hf10 hnx hk10 hb10 HC z0 z1 z3 HS9 HK9 HB9
                  obtain ⟨ev, hev⟩ : ∃ ev, ev = V.errOf e := ⟨_, rfl⟩
                  rw [← hev]
                  have HEV := hide hev
                  clear hev
                  go_wp2_with fail
                  refine HAL.out.mono ?_
                  rintro o w11 ⟨a11, c11, rfl, hr11, hf11⟩
                  have HS11 := hide (HS10.out.fr hf11)
                  have hk11 := (hf11.block _ (Array.getElem?_eq_some_iff.1 HK10.out).1 (fun e => e)).trans HK10.out
                  have HB11 := hide (HB10.out.trans (hf11.below HB10.out.size (fun _ e => e.elim)))
                  have HN11 := hide (HNX.out w11 HS11.out)
                  rw [← HEV.out] at HN11
                  have HR11 := hide hr11
                  have z1 := cell_of_block hk11 1 _ rfl
                  have z3 := cell_of_block hk11 3 _ rfl
                  clear hf11 hk11 hr11 HAL HNX HS10 HB10 HK10
                  go_wp2_with fail
                  refine HN11.out.mono ?_
                  rintro o w12 ⟨rfl, hS12, hf12⟩
                  have HAL2 := hide (sta_all HSO.out (by omega) hS12)
                  have HS12 := hide hS12
                  have HB12 := hide (HB11.out.trans (hf12.below HB11.out.size HOWN.out))
                  have HR12 := hide (HR11.out.fr hf12)
                  clear hS12 hf12 HN11 HS11 HB11 HR11 z1 z3
                  by_cases he : e = 0
                  · have hev0 : ev = .nilIface := by rw [HEV.out, he]; rfl
                    subst hev0
                    go_wp2_with fail
                    refine HAL2.out.mono ?_
                    rintro o w13 ⟨a13, c13, rfl, hr13, hf13⟩
                    obtain ⟨sl, hsl⟩ := lists_same
                    have hsy : sl (Td.sort (Q1.map Tv.md)) (Td.sort (Q1.map Tv.md)) = true := (hsl _ _).2 rfl
                    have hq1 := HS12.out.ln
                    have hst := sameThings_any sl hsl m w13 _ _ _ _ (HR12.out.fr (hf13.weak (fun _ _ e => e.elim))).row hr13.row (by rw [Td.sort_len, List.length_map]; omega)
                    rw [hsy] at hst
                    have HST := hide hst
                    have HS13 := hide (HS12.out.fr hf13)
                    have HB13 := hide (HB12.out.trans (hf13.below HB12.out.size (fun _ e => e.elim)))
                    clear hf13 hr13 hst hsy hsl HAL2 HS12 HB12 HR12 hq1
                    go_wp2_with fail
                    refine HST.out.mono ?_
                    rintro o w14 ⟨rfl, hb14⟩
                    have HS12 := hide (HS13.out.fr (fr_of_below hb14))
                    have HB12 := hide (HB13.out.trans (hb14.mono HB13.out.size))
                    clear hb14 HST HS13 HB13
                    go_wp2_with fail
                    go_meet
                    exact ⟨_, rfl, 0, e, Q1, Di1, given, rfl, HEV.out, rfl, HEV.out, rfl, HS12.out, HB12.out⟩
                  · have hev1 : ev = .iface 80 (.int .i64 e) := by rw [HEV.out]; unfold V.errOf; rw [if_neg he]
                    subst hev1
                    clear HAL2 HR12
                    go_wp2_with fail
                    go_meet
                    exact ⟨_, rfl, 0, e, Q1, Di1, given, rfl, HEV.out, rfl, HEV.out, rfl, HS12.out, HB12.out⟩
              | false =>
                as_aux_lemma =>
                  go_wp2_with fail
                  exact ⟨⟨i + 1, Q, Di, given, by omega, by simp, rfl, HS9.out.more (by omega), HB9.out⟩, by simp [intOf]; omega⟩
        case rest =>
          obtain ⟨wz, hwz, r, e, Q1, Di1, given1, rfl, rfl, rfl, rfl, rfl, hSz, hbz⟩ := hcut
          subst hwz
          have HSZ := hide hSz
          have HBZ := hide hbz
          clear hSz hbz z0 HS9 HB9 HK9
          have HNM := hide (fun W => number_any e W)
          by_cases he : e = 0
          · rw [show V.errOf e = .nilIface by rw [he]; rfl] at HNM ⊢
            rw [he] at HNM
            go_wp2_with (go_at_call 30; (with_reducible refine Calls.mono (HNM.out _) ?_); rintro o w15 ⟨rfl, hw15⟩; rw [hw15]; clear hw15 w15)
            exact ⟨⟨i + 1, Q1, Di1, given1, by omega, by simp, rfl, HSZ.out.more (by omega), HBZ.out⟩, by simp [intOf]; omega⟩
          · rw [show V.errOf e = .iface 80 (.int .i64 e) by unfold V.errOf; rw [if_neg he]] at HNM ⊢
            go_wp2_with (go_at_call 30; (with_reducible refine Calls.mono (HNM.out _) ?_); rintro o w15 ⟨rfl, hw15⟩; rw [hw15]; clear hw15 w15)
            exact ⟨⟨i + 1, Q1, Di1, given1, by omega, by simp, rfl, HSZ.out.more (by omega), HBZ.out⟩, by simp [intOf]; omega⟩
      · go_wp2_with fail
        go_ret
        exact ⟨rfl, hbx⟩
end Go.Proofs.Ytlmkpjdaoinmoaa
