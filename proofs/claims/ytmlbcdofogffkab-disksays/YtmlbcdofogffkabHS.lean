/- DiskSays' own walk. -/
import Derived.Test.YtmlbcdofogffkabHRc
import Derived.Deep.CutBlock
namespace Go.Proofs.Ytmlbcdofogffkab
open Go.RowKit
attribute [local go_sem ↓] Go.wp_at_zero Go.wp_at_succ
theorem A.Mem.shape2 {m : Nat} {w : World} {c0 c1 c2 c3 c4 : Value} (h : A.Mem m w [c0, c1, c2, c3, c4]) : ∃ (k n : Int) (s : ByteArray) (al : Option Addr) (nl cl : Nat) (af : Option Addr) (nf cf : Nat), c0 = .int .i64 k ∧ c1 = .int .i64 n ∧ c2 = .string s ∧ c3 = .slice al nl cl ∧ c4 = .slice af nf cf := by
  cases m with
  | zero => exact h.elim
  | succ m =>
    obtain ⟨k, n, s, lv, fv, nl, nf, h1, _, _, _, h5, h6⟩ := h
    simp only [List.cons.injEq, and_true] at h1
    obtain ⟨rfl, rfl, rfl, rfl, rfl⟩ := h1
    obtain ⟨al, cl, rfl⟩ := h5.shape
    obtain ⟨af, cf, rfl⟩ := h6.shape
    exact ⟨k, n, s, al, nl, cl, af, nf, cf, rfl, rfl, rfl, rfl, rfl⟩
theorem Mems.drew {w wx : World} {g r ga : Nat} {ob : Obj} {D : Dk} {X : R.Rk} (h : Mems w wx g r ga ob D X) : Mems w wx.drew g r ga ob D X := h.keep (Fr.refl wx _).drew
theorem two_made {w w2 w3 : World} {g : Nat} (hf2 : Fr w w2 (fun _ => False)) (hD : Disk w3 (fun c => w2.heap.size ≤ c) g Dk.new) (hf3 : Fr w2 w3 (fun _ => False)) : Two w (w3.alloc (R.blk (.slice none 0 0) (.slice none 0 0) (.slice none 0 0) (-1) false 0)) g w3.heap.size Dk.new R.Rk.new := by
  have hfa : Fr w3 (w3.alloc (R.blk (.slice none 0 0) (.slice none 0 0) (.slice none 0 0) (-1) false 0)) (fun _ => False) := (Fr.refl w3 _).alloc _
  have h2 := hf2.size
  have h3 := hf3.size
  have ha : (w3.alloc (R.blk (.slice none 0 0) (.slice none 0 0) (.slice none 0 0) (-1) false 0)).heap.size = w3.heap.size + 1 := by simp
  refine ⟨fun x => w2.heap.size ≤ x ∧ x < w3.heap.size, fun x => x = w3.heap.size, hD.shrink.fr hfa (fun _ _ e => e), ?_, fun x hx => ⟨by omega, by omega⟩, fun x hx => ⟨by omega, by omega⟩, fun x hx hy => by omega, (hf2.trans hf3 (fun _ _ e => e)).trans hfa (fun _ _ e => e)⟩
  exact ⟨.slice none 0 0, .slice none 0 0, .slice none 0 0, heap_alloc_new _ _, World.ownsRow_nil .., World.ownsRow_nil .., World.ownsRow_nil .., rfl, fun c hc => (by cases hc), fun c hc => (by cases hc), fun c hc => (by cases hc)⟩
set_option linter.unusedSimpArgs false in
set_option maxRecDepth 100000 in
set_option maxHeartbeats 20000000 in
theorem diskSays_any (m1 : Nat) (v1 : Value) (L : List Ac) (w : World) (hl : A.Acts m1 w v1 L) :
    Calls Try.prog 4 #[v1] w fun o w' => o = .returned (.bool true) ∧ Below w.heap.size w w' := by
  obtain ⟨al, cl, rfl⟩ := hl.shape
  have HL := hide hl
  have HSP := hide (spins_any w)
  clear hl
  go_enter Try.func4, Try.ntmps4
  go_wp2_with fail
  refine HSP.out.mono ?_
  rintro o w1 ⟨rfl, hf1⟩
  have HF1 := hide hf1
  have HLA := hide (lightActs_any 100 20000 m1 w1 _ L (HL.out.kept (below_fr' hf1)))
  clear hf1 HSP
  go_wp2_with fail
  refine HLA.out.mono ?_
  rintro o w2 ⟨⟨b1, rfl, hb1⟩, hB2⟩
  have HF2 : Hid (Fr w w2 (fun _ => False)) := HF1.out.trans (fr_below hB2) (fun _ _ e => e)
  clear hB2 HLA HF1
  cases b1 with
  | false =>
    clear hb1
    go_wp2_with fail
    go_ret
    exact ⟨rfl, below_fr' HF2.out⟩
  | true =>
    have h100 : L.length ≤ 100 := by have := hb1 rfl; omega
    have HNEW := hide (new_any w2)
    clear hb1
    go_wp2_with fail
    refine HNEW.out.mono ?_
    rintro o w3 ⟨g, rfl, hD3, hf3⟩
    have HTW := hide (two_made HF2.out hD3 hf3)
    have HRN := hide (refNew_any w3)
    clear hD3 hf3 HNEW
    go_wp2_with fail
    refine HRN.out.mono ?_
    rintro o w4 ⟨rfl, hw4⟩
    rw [← hw4] at HTW
    generalize w3.heap.size = r at *
    clear hw4 HRN HF2
    go_wp2_with fail
    go_loopw [6] (fun vi wx => ∃ (i : Nat) (D : Dk) (X : R.Rk), vi = .int .i64 i ∧ i ≤ L.length ∧ Two w wx g r D X ∧ Pair D X i i) (fun vi _ => L.length - (intOf vi).toNat)
    case atStart => exact ⟨0, _, _, rfl, Nat.zero_le _, HTW.out, Pair.new⟩
    case round =>
      clear HTW
      obtain ⟨wx, hwx⟩ : ∃ z, z = wr := ⟨_, rfl⟩
      subst hwx
      obtain ⟨i, D, X, rfl, hi, hT, hP⟩ := hrel
      by_cases hlt : i < L.length
      · obtain ⟨b1, off1, cap1, x, c5, c6, c7, c8, c9, an, cn, e1, hx, g1, g2, g3, g4, g5, g6, y0, y1, y2, y3, y4, y5, y6, y7, y8, y9, y10⟩ := (HL.out.kept (below_fr' hT.fr)).at i hlt
        simp only [Value.slice.injEq] at e1
        obtain ⟨rfl, _, rfl⟩ := e1
        obtain ⟨k5, k6, s7, a8, n8, p8, a9, n9, p9, rfl, rfl, rfl, rfl, rfl⟩ := g4.shape2
        have HT := hide hT
        have HP := hide hP
        clear g4 g5 g6 hx hT hP g1
        go_upto_block 2 with fail
        have HM0 := hide (HT.out.act #[.string x.kind, .string x.s, .string x.t, .int .i64 x.a, .int .i64 x.b, .int .i64 k5, .int .i64 k6, .string s7, .slice a8 n8 p8, .slice a9 n9 p9, .slice an x.nn cn] 58)
        clear y0 y1 y2 y3 y4 y5 y6 y7 y8 y9 y10 HT
        generalize wx.alloc (.cells #[.string x.kind, .string x.s, .string x.t, .int .i64 x.a, .int .i64 x.b, .int .i64 k5, .int .i64 k6, .string s7, .slice a8 n8 p8, .slice a9 n9 p9, .slice an x.nn cn] 58) = wa at *
        generalize wx.heap.size = ga at *
        go_cut [8, 9, 10, 11, 12] from 36 to 168 (fun v8 _ _ _ _ wy => v8 = .bool true ∧ ∃ wz, wz = wy ∧ ∃ D2 X2, Mems w wz g r ga (.cells #[.string x.kind, .string x.s, .string x.t, .int .i64 x.a, .int .i64 x.b, .int .i64 k5, .int .i64 k6, .string s7, .slice a8 n8 p8, .slice a9 n9 p9, .slice an x.nn cn] 58 (0, 0)) D2 X2 ∧ Pair D2 X2 ((i : Int) + 1) (i + 1))
        case first =>
          have HM := HM0
          have p0 := cell_of_block HM.out.ob 0 _ rfl
          have p1 := cell_of_block HM.out.ob 1 _ rfl
          have p2 := cell_of_block HM.out.ob 2 _ rfl
          have p3 := cell_of_block HM.out.ob 3 _ rfl
          have p4 := cell_of_block HM.out.ob 4 _ rfl
          clear HM0
          cases hk0 : (x.kind.toList == [119, 114, 105, 116, 101]) with
          | true =>
            as_aux_lemma =>
              obtain ⟨hP2, hK2⟩ := HP.out.writes x.s x.t
              have HP2 := hide hP2
              have HSM : Hid (∀ W, Calls Try.prog 22 #[errV (D.endK (D.fit x.s x.t.size)), .int .i64 (X.putK 1 x.s x.t)] W fun e w' => e = .returned (.bool true) ∧ w' = W) := fun W => by rw [hK2]; exact same_errV _ W
              have HW := hide (HM.out.drew.write HP.out (by omega) (by omega) x.s x.t g2)
              have HR := fun (D0 : Dk) (W : World) (h : Mems w W g r ga (.cells #[.string x.kind, .string x.s, .string x.t, .int .i64 x.a, .int .i64 x.b, .int .i64 k5, .int .i64 k6, .string s7, .slice a8 n8 p8, .slice a9 n9 p9, .slice an x.nn cn] 58 (0, 0)) D0 X) => h.put1 HP.out (by omega) (by omega) x.s x.t g2
              have HR := hide HR
              clear hP2 hK2
              generalize errV (D.endK (D.fit x.s x.t.size)) = E at *
              generalize X.putK 1 x.s x.t = K at *
              go_wp2_with fail
              go_region_held3 (fun W' => W'.cell? ⟨ga, 1, none⟩ = some (.string x.s) ∧ W'.cell? ⟨ga, 2, none⟩ = some (.string x.t)) (first | exact ⟨p1, p2⟩ | exact ⟨q1, q2⟩ | exact ⟨e1, e2⟩ | go_keep)
                (first
                  | (go_at_call 23; (with_reducible refine Calls.mono HW.out ?_); rintro o w5 ⟨rfl, hM5⟩; have q1 := cell_of_block hM5.ob 1 _ rfl; have q2 := cell_of_block hM5.ob 2 _ rfl)
                  | (go_at_call 24; (with_reducible refine Calls.mono (HR.out _ _ hM5) ?_); rintro o w6 ⟨rfl, hM6⟩; have e1 := cell_of_block hM6.ob 1 _ rfl; have e2 := cell_of_block hM6.ob 2 _ rfl)
                  | (go_at_call 22; (with_reducible refine Calls.mono (HSM.out _) ?_); rintro o w7 ⟨rfl, rfl⟩))
              have HM6 := hide hM6
              clear hM5 hM6 q1 q2 e1 e2 HW HR HSM
              go_wp2_with fail
              go_meet
              exact ⟨rfl, _, rfl, _, _, HM6.out, HP2.out⟩
          | false =>
            cases hk1 : (x.kind.toList == [97, 112, 112, 101, 110, 100]) with
            | true =>
              as_aux_lemma =>
                obtain ⟨hP2, hK2⟩ := HP.out.appends x.s x.t
                have HP2 := hide hP2
                have HSM : Hid (∀ W, Calls Try.prog 22 #[errV (D.endK (D.more x.s x.t)), .int .i64 (X.putK 2 x.s x.t)] W fun e w' => e = .returned (.bool true) ∧ w' = W) := fun W => by rw [hK2]; exact same_errV _ W
                have HW := hide (HM.out.drew.append HP.out (by omega) (by omega) x.s x.t g2)
                have HR := fun (D0 : Dk) (W : World) (h : Mems w W g r ga (.cells #[.string x.kind, .string x.s, .string x.t, .int .i64 x.a, .int .i64 x.b, .int .i64 k5, .int .i64 k6, .string s7, .slice a8 n8 p8, .slice a9 n9 p9, .slice an x.nn cn] 58 (0, 0)) D0 X) => h.put2 HP.out (by omega) (by omega) x.s x.t g2
                have HR := hide HR
                clear hP2 hK2
                generalize errV (D.endK (D.more x.s x.t)) = E at *
                generalize X.putK 2 x.s x.t = K at *
                go_wp2_with fail
                go_region_held3 (fun W' => W'.cell? ⟨ga, 1, none⟩ = some (.string x.s) ∧ W'.cell? ⟨ga, 2, none⟩ = some (.string x.t)) (first | exact ⟨p1, p2⟩ | exact ⟨q1, q2⟩ | exact ⟨e1, e2⟩ | go_keep)
                  (first
                    | (go_at_call 25; (with_reducible refine Calls.mono HW.out ?_); rintro o w5 ⟨rfl, hM5⟩; have q1 := cell_of_block hM5.ob 1 _ rfl; have q2 := cell_of_block hM5.ob 2 _ rfl)
                    | (go_at_call 24; (with_reducible refine Calls.mono (HR.out _ _ hM5) ?_); rintro o w6 ⟨rfl, hM6⟩; have e1 := cell_of_block hM6.ob 1 _ rfl; have e2 := cell_of_block hM6.ob 2 _ rfl)
                    | (go_at_call 22; (with_reducible refine Calls.mono (HSM.out _) ?_); rintro o w7 ⟨rfl, rfl⟩))
                have HM6 := hide hM6
                clear hM5 hM6 q1 q2 e1 e2 HW HR HSM
                go_wp2_with fail
                go_meet
                exact ⟨rfl, _, rfl, _, _, HM6.out, HP2.out⟩
            | false =>
              cases hk2 : (x.kind.toList == [109, 97, 107, 101]) with
              | true =>
                as_aux_lemma =>
                  obtain ⟨hP2, hK2⟩ := HP.out.makes x.s x.t
                  have HP2 := hide hP2
                  have HSM : Hid (∀ W, Calls Try.prog 22 #[errV (D.endK (D.makes x.s x.t)), .int .i64 (X.putK 3 x.s x.t)] W fun e w' => e = .returned (.bool true) ∧ w' = W) := fun W => by rw [hK2]; exact same_errV _ W
                  have HW := hide (HM.out.drew.make HP.out (by omega) (by omega) x.s x.t g2)
                  have HR := fun (D0 : Dk) (W : World) (h : Mems w W g r ga (.cells #[.string x.kind, .string x.s, .string x.t, .int .i64 x.a, .int .i64 x.b, .int .i64 k5, .int .i64 k6, .string s7, .slice a8 n8 p8, .slice a9 n9 p9, .slice an x.nn cn] 58 (0, 0)) D0 X) => h.put3 HP.out (by omega) (by omega) x.s x.t g2
                  have HR := hide HR
                  clear hP2 hK2
                  generalize errV (D.endK (D.makes x.s x.t)) = E at *
                  generalize X.putK 3 x.s x.t = K at *
                  go_wp2_with fail
                  go_region_held3 (fun W' => W'.cell? ⟨ga, 1, none⟩ = some (.string x.s) ∧ W'.cell? ⟨ga, 2, none⟩ = some (.string x.t)) (first | exact ⟨p1, p2⟩ | exact ⟨q1, q2⟩ | exact ⟨e1, e2⟩ | go_keep)
                    (first
                      | (go_at_call 26; (with_reducible refine Calls.mono HW.out ?_); rintro o w5 ⟨rfl, hM5⟩; have q1 := cell_of_block hM5.ob 1 _ rfl; have q2 := cell_of_block hM5.ob 2 _ rfl)
                      | (go_at_call 24; (with_reducible refine Calls.mono (HR.out _ _ hM5) ?_); rintro o w6 ⟨rfl, hM6⟩; have e1 := cell_of_block hM6.ob 1 _ rfl; have e2 := cell_of_block hM6.ob 2 _ rfl)
                      | (go_at_call 22; (with_reducible refine Calls.mono (HSM.out _) ?_); rintro o w7 ⟨rfl, rfl⟩))
                  have HM6 := hide hM6
                  clear hM5 hM6 q1 q2 e1 e2 HW HR HSM
                  go_wp2_with fail
                  go_meet
                  exact ⟨rfl, _, rfl, _, _, HM6.out, HP2.out⟩
              | false =>
                cases hk3 : (x.kind.toList == [109, 111, 118, 101]) with
                | true =>
                  as_aux_lemma =>
                    obtain ⟨hP2, hK2⟩ := HP.out.moves x.s x.t
                    have HP2 := hide hP2
                    have HSM : Hid (∀ W, Calls Try.prog 22 #[errV (D.endK (D.may4 x.s x.t)), .int .i64 (X.movK x.s x.t)] W fun e w' => e = .returned (.bool true) ∧ w' = W) := fun W => by rw [hK2]; exact same_errV _ W
                    have HW := hide (HM.out.drew.move HP.out (by omega) (by omega) x.s x.t g2 g3)
                    have HR := fun (D0 : Dk) (W : World) (h : Mems w W g r ga (.cells #[.string x.kind, .string x.s, .string x.t, .int .i64 x.a, .int .i64 x.b, .int .i64 k5, .int .i64 k6, .string s7, .slice a8 n8 p8, .slice a9 n9 p9, .slice an x.nn cn] 58 (0, 0)) D0 X) => h.moveR HP.out (by omega) (by omega) x.s x.t g2 g3
                    have HR := hide HR
                    clear hP2 hK2
                    generalize errV (D.endK (D.may4 x.s x.t)) = E at *
                    generalize X.movK x.s x.t = K at *
                    go_wp2_with fail
                    go_region_held3 (fun W' => W'.cell? ⟨ga, 1, none⟩ = some (.string x.s) ∧ W'.cell? ⟨ga, 2, none⟩ = some (.string x.t)) (first | exact ⟨p1, p2⟩ | exact ⟨q1, q2⟩ | exact ⟨e1, e2⟩ | go_keep)
                      (first
                        | (go_at_call 27; (with_reducible refine Calls.mono HW.out ?_); rintro o w5 ⟨rfl, hM5⟩; have q1 := cell_of_block hM5.ob 1 _ rfl; have q2 := cell_of_block hM5.ob 2 _ rfl)
                        | (go_at_call 28; (with_reducible refine Calls.mono (HR.out _ _ hM5) ?_); rintro o w6 ⟨rfl, hM6⟩; have e1 := cell_of_block hM6.ob 1 _ rfl; have e2 := cell_of_block hM6.ob 2 _ rfl)
                        | (go_at_call 22; (with_reducible refine Calls.mono (HSM.out _) ?_); rintro o w7 ⟨rfl, rfl⟩))
                    have HM6 := hide hM6
                    clear hM5 hM6 q1 q2 e1 e2 HW HR HSM
                    go_wp2_with fail
                    go_meet
                    exact ⟨rfl, _, rfl, _, _, HM6.out, HP2.out⟩
                | false =>
                  cases hk4 : (x.kind.toList == [114, 101, 109, 111, 118, 101]) with
                  | true =>
                    as_aux_lemma =>
                      obtain ⟨hP2, hK2⟩ := HP.out.removes x.s
                      have HP2 := hide hP2
                      have HSM : Hid (∀ W, Calls Try.prog 22 #[errV (D.endK (D.gone x.s)), .int .i64 (X.remK x.s)] W fun e w' => e = .returned (.bool true) ∧ w' = W) := fun W => by rw [hK2]; exact same_errV _ W
                      have HW := hide (HM.out.drew.remove HP.out (by omega) (by omega) x.s)
                      have HR := fun (D0 : Dk) (W : World) (h : Mems w W g r ga (.cells #[.string x.kind, .string x.s, .string x.t, .int .i64 x.a, .int .i64 x.b, .int .i64 k5, .int .i64 k6, .string s7, .slice a8 n8 p8, .slice a9 n9 p9, .slice an x.nn cn] 58 (0, 0)) D0 X) => h.removeR HP.out (by omega) (by omega) x.s
                      have HR := hide HR
                      clear hP2 hK2
                      generalize errV (D.endK (D.gone x.s)) = E at *
                      generalize X.remK x.s = K at *
                      go_wp2_with fail
                      go_region_held3 (fun W' => W'.cell? ⟨ga, 1, none⟩ = some (.string x.s)) (first | exact p1 | exact q1 | exact e1 | go_keep)
                        (first
                          | (go_at_call 29; (with_reducible refine Calls.mono HW.out ?_); rintro o w5 ⟨rfl, hM5⟩; have q1 := cell_of_block hM5.ob 1 _ rfl)
                          | (go_at_call 30; (with_reducible refine Calls.mono (HR.out _ _ hM5) ?_); rintro o w6 ⟨rfl, hM6⟩; have e1 := cell_of_block hM6.ob 1 _ rfl)
                          | (go_at_call 22; (with_reducible refine Calls.mono (HSM.out _) ?_); rintro o w7 ⟨rfl, rfl⟩))
                      have HM6 := hide hM6
                      clear hM5 hM6 q1 e1 HW HR HSM
                      go_wp2_with fail
                      go_meet
                      exact ⟨rfl, _, rfl, _, _, HM6.out, HP2.out⟩
                  | false =>
                    cases hk5 : (x.kind.toList == [114, 101, 97, 100]) with
                    | true =>
                      as_aux_lemma =>
                        have HW := hide (HM.out.read x.s)
                        have HR : Hid (∀ (W : World), Mems w W g r ga (.cells #[.string x.kind, .string x.s, .string x.t, .int .i64 x.a, .int .i64 x.b, .int .i64 k5, .int .i64 k6, .string s7, .slice a8 n8 p8, .slice a9 n9 p9, .slice an x.nn cn] 58 (0, 0)) D X → Calls Try.prog 32 #[.pointer (some ⟨r, 0, none⟩), .string x.s] W fun o w2 => o = .returned (.tuple #[.string (D.read x.s).1, .int .i64 (D.read x.s).2]) ∧ w2 = W) := by
                          intro W h
                          have := h.readR HP.out x.s
                          rw [(HP.out.read x.s).1, (HP.out.read x.s).2] at this
                          exact this
                        have HSM : Hid (∀ W, Calls Try.prog 22 #[errV (D.read x.s).2, .int .i64 (D.read x.s).2] W fun e w' => e = .returned (.bool true) ∧ w' = W) := fun W => same_errV _ W
                        generalize (D.read x.s).1 = dx at *
                        generalize (D.read x.s).2 = kx at *
                        generalize errV kx = E at *
                        go_wp2_with fail
                        refine HW.out.mono ?_
                        rintro o w5 ⟨rfl, hM5⟩
                        have HR5 := hide (HR.out _ hM5)
                        have HM5 := hide hM5
                        have q1 := cell_of_block hM5.ob 1 _ rfl
                        clear hM5 HW HR
                        go_wp2_with fail
                        refine HR5.out.mono ?_
                        rintro o w6 ⟨rfl, hw6⟩
                        subst hw6
                        go_wp2_with fail
                        refine (HSM.out _).mono ?_
                        rintro o w7 ⟨rfl, hw7⟩
                        subst hw7
                        go_wp2_with fail
                        go_meet
                        exact ⟨rfl, _, rfl, _, _, HM5.out, HP.out.up (by omega) (Nat.le_succ i)⟩
                    | false =>
                      cases hk6 : (x.kind.toList == [115, 121, 110, 99]) with
                      | true =>
                        as_aux_lemma =>
                          obtain ⟨hP2, hK2⟩ := HP.out.syncs
                          have HP2 := hide hP2
                          have HSM : Hid (∀ W, Calls Try.prog 22 #[errV (D.endK 0), .int .i64 X.code] W fun e w' => e = .returned (.bool true) ∧ w' = W) := fun W => by rw [hK2]; exact same_errV _ W
                          have HW := hide (HM.out.sync HP.out (by omega) (by omega))
                          have HR := fun (D0 : Dk) (W : World) (h : Mems w W g r ga (.cells #[.string x.kind, .string x.s, .string x.t, .int .i64 x.a, .int .i64 x.b, .int .i64 k5, .int .i64 k6, .string s7, .slice a8 n8 p8, .slice a9 n9 p9, .slice an x.nn cn] 58 (0, 0)) D0 X) => h.syncR HP.out (by omega)
                          have HR := hide HR
                          clear hP2 hK2
                          generalize errV (D.endK 0) = E at *
                          generalize X.code = K at *
                          go_wp2_with fail
                          refine HW.out.mono ?_
                          rintro o w5 ⟨rfl, hM5⟩
                          have HR5 := hide (HR.out _ _ hM5)
                          clear hM5 HW HR
                          go_wp2_with fail
                          refine HR5.out.mono ?_
                          rintro o w6 ⟨rfl, hM6⟩
                          have HM6 := hide hM6
                          clear hM6 HR5
                          go_wp2_with fail
                          refine (HSM.out w6).mono ?_
                          rintro o w7 ⟨rfl, hw7⟩
                          subst hw7
                          go_wp2_with fail
                          go_meet
                          exact ⟨rfl, _, rfl, _, _, HM6.out, HP2.out⟩
                      | false =>
                        cases hk7 : (x.kind.toList == [115, 116, 101, 112]) with
                        | true =>
                          as_aux_lemma =>
                            obtain ⟨hP2, hK2⟩ := HP.out.steps'
                            have HP2 := hide hP2
                            have HSM : Hid (∀ W, Calls Try.prog 22 #[errV (D.endK 0), .int .i64 X.code] W fun e w' => e = .returned (.bool true) ∧ w' = W) := fun W => by rw [hK2]; exact same_errV _ W
                            have HW := hide (HM.out.step HP.out (by omega))
                            have HR := fun (D0 : Dk) (W : World) (h : Mems w W g r ga (.cells #[.string x.kind, .string x.s, .string x.t, .int .i64 x.a, .int .i64 x.b, .int .i64 k5, .int .i64 k6, .string s7, .slice a8 n8 p8, .slice a9 n9 p9, .slice an x.nn cn] 58 (0, 0)) D0 X) => h.stepR HP.out (by omega)
                            have HR := hide HR
                            clear hP2 hK2
                            generalize errV (D.endK 0) = E at *
                            generalize X.code = K at *
                            go_wp2_with fail
                            refine HW.out.mono ?_
                            rintro o w5 ⟨rfl, hM5⟩
                            have HR5 := hide (HR.out _ _ hM5)
                            clear hM5 HW HR
                            go_wp2_with fail
                            refine HR5.out.mono ?_
                            rintro o w6 ⟨rfl, hM6⟩
                            have HM6 := hide hM6
                            clear hM6 HR5
                            go_wp2_with fail
                            refine (HSM.out w6).mono ?_
                            rintro o w7 ⟨rfl, hw7⟩
                            subst hw7
                            go_wp2_with fail
                            go_meet
                            exact ⟨rfl, _, rfl, _, _, HM6.out, HP2.out⟩
                        | false =>
                          cases hk8 : (x.kind.toList == [97, 114, 109]) with
                          | true =>
                            as_aux_lemma =>
                              have HW := hide (HM.out.arm x.a)
                              have HP2 := hide ((HP.out.arm x.a x.ra).up (b2 := (i : Int) + 1) (m2 := i + 1) (by omega) (Nat.le_succ i))
                              go_wp2_with fail
                              refine HW.out.mono ?_
                              rintro o w5 ⟨rfl, hM5⟩
                              obtain ⟨⟨v3, q3⟩, f3, hM6⟩ := hM5.fuseR (max x.a (-1))
                              have q4 := cell_of_block hM5.ob 3 _ rfl
                              have HM6 := hide hM6
                              clear hM5 hM6 HW
                              go_wp2_with fail
                              go_meet
                              exact ⟨rfl, _, rfl, _, _, HM6.out, HP2.out⟩
                          | false =>
                            as_aux_lemma =>
                              have HW := hide (HM.out.restart HP.out (by omega) x.a x.b x.ra x.rb)
                              go_wp2_with fail
                              refine HW.out.mono ?_
                              rintro o w5 ⟨rfl, F2, hF2, hM5⟩
                              have HP2 := hide ((HP.out.restart x.a x.b hF2).up (b2 := (i : Int) + 1) (m2 := i + 1) (by omega) (Nat.zero_le _))
                              have HR5 := hide (hM5.restartR HP.out (by omega) x.a x.b x.ra x.rb)
                              have q3 := cell_of_block hM5.ob 3 _ rfl
                              have q4 := cell_of_block hM5.ob 4 _ rfl
                              clear hM5 HW hF2
                              go_wp2_with fail
                              refine HR5.out.mono ?_
                              rintro o w6 ⟨rfl, hM6⟩
                              have HM6 := hide hM6
                              clear hM6 HR5
                              go_wp2_with fail
                              go_meet
                              exact ⟨rfl, _, rfl, _, _, HM6.out, HP2.out⟩
        case rest =>
          obtain ⟨rfl, wz, hwz, D2, X2, hM, hP2⟩ := hcut
          subst hwz
          have HMZ := hide hM
          have HPZ := hide hP2
          have HTZ : Hid (Two w wz.drew g r D2 X2) := hM.drew.two
          have HNM := hide (name_any x.s wz.drew g2)
          have HFM := hide (fileMay_any x.s wz.drew g2)
          have HDN := hide hM.drew.down
          have HSS := hide hM.drew.steps
          have HAD := hide (asDisk_any HTZ.out hP2)
          have d1 := cell_of_block hM.ob 1 _ rfl
          obtain ⟨d4, d5⟩ := hM.cells
          rw [hP2.down] at d4
          rw [hP2.steps] at d5
          have HKP : Hid (∀ W, Fr wz.drew W (fun _ => False) → W.cell? ⟨ga, 1, none⟩ = some (.string x.s) ∧ W.cell? ⟨r, 4, none⟩ = some (.bool D2.down) ∧ W.cell? ⟨r, 5, none⟩ = some (.int .i64 D2.steps)) := fun W hf => by
            have hb := hf.below (Nat.le_refl _) (fun _ e => e.elim)
            exact ⟨kept_cell (w := wz.drew) hb d1, kept_cell (w := wz.drew) hb d4, kept_cell (w := wz.drew) hb d5⟩
          clear hM hP2 HTZ
          by_cases h9 : i % 9 = 0
          · as_aux_lemma =>
              have h9b : ((i : Int).tmod 9 == 0) = true := by rw [beq_iff_eq, Int.tmod_eq_emod_of_nonneg (by omega)]; omega
              go_wp2_with fail
              go_region_held3 (fun W' => W'.cell? ⟨ga, 1, none⟩ = some (.string x.s) ∧ W'.cell? ⟨r, 4, none⟩ = some (.bool D2.down) ∧ W'.cell? ⟨r, 5, none⟩ = some (.int .i64 D2.steps)) (first | exact ⟨d1, d4, d5⟩ | exact HKP.out _ hf9 | go_keep)
                (first
                  | (go_at_call 40; (with_reducible refine Calls.mono HNM.out ?_); rintro o w7 ⟨rfl, rfl⟩)
                  | (go_at_call 41; (with_reducible refine Calls.mono HFM.out ?_); rintro o w7 ⟨rfl, rfl⟩)
                  | (go_at_call 42; (with_reducible refine Calls.mono HDN.out ?_); rintro o w7 ⟨rfl, rfl⟩)
                  | (go_at_call 43; (with_reducible refine Calls.mono HSS.out ?_); rintro o w7 ⟨rfl, rfl⟩)
                  | (go_at_call 44; (with_reducible refine Calls.mono HAD.out ?_); rintro o w9 ⟨rfl, hf9⟩))
              have HT9 : Hid (Two w w9 g r D2 X2) := HMZ.out.drew.two.keep hf9
              clear hf9
              go_wp2_with fail
              go_roundw
              case rel => exact ⟨i + 1, D2, X2, by go_num, by omega, HT9.out, HPZ.out⟩
              case measure => simp [intOf]; omega
          · as_aux_lemma =>
              have h9b : ((i : Int).tmod 9 == 0) = false := by rw [beq_eq_false_iff_ne, Int.tmod_eq_emod_of_nonneg (by omega)]; omega
              have HMN : Hid (∀ n, Mems w (wz.drewN n) g r ga (.cells #[.string x.kind, .string x.s, .string x.t, .int .i64 x.a, .int .i64 x.b, .int .i64 k5, .int .i64 k6, .string s7, .slice a8 n8 p8, .slice a9 n9 p9, .slice an x.nn cn] 58 (0, 0)) D2 X2) := fun n => HMZ.out.keep ⟨rfl, rfl, rfl, Nat.le_refl _, fun _ _ _ => rfl⟩
              go_wp2_with fail
              go_quiet (first
                  | (go_at_call 40; exact Calls.quiet_of_same (name_any x.s _ g2))
                  | (go_at_call 41; exact Calls.quiet_of_same (fileMay_any x.s _ g2))
                  | (go_at_call 42; exact Calls.quiet_of_same (HMN.out _).down)
                  | (go_at_call 43; exact Calls.quiet_of_same (HMN.out _).steps))
              have HT9 : Hid (Two w (wz.drewN nq) g r D2 X2) := (HMN.out nq).two
              go_wp2_with fail
              go_roundw
              case rel => exact ⟨i + 1, D2, X2, by go_num, by omega, HT9.out, HPZ.out⟩
              case measure => simp [intOf]; omega
      · have HAD := hide (asDisk_any hT hP)
        have HF := hide hT.fr
        clear hT hP
        go_wp2_with fail
        refine HAD.out.mono ?_
        rintro o w6 ⟨rfl, hf6⟩
        have HF6 : Hid (Fr w w6 (fun _ => False)) := HF.out.trans hf6 (fun _ _ e => e)
        clear hf6 HAD
        go_wp2_with fail
        go_ret
        exact ⟨rfl, below_fr' HF6.out⟩
end Go.Proofs.Ytmlbcdofogffkab
