/- For WalogSays: the reference's Unframed. -/
import Derived.Test.YtmlbcdofogffkabED
namespace Go.Proofs.Ytmlbcdofogffkab
open Go.RowKit
attribute [local go_sem ↓] Go.wp_at_zero Go.wp_at_succ
theorem cnt_facts (x y c : Nat) (hx : x < 256) (hy : y < 256) (hc : c = x + 256 * y) : wrap64 (x : Int) = x ∧ wrap64 (y : Int) = y ∧ wrap64 (256 * (y : Int)) = 256 * y ∧ (x : Int) + 256 * y = c ∧ wrap64 (c : Int) = c ∧ c ≤ 65535 := by
  subst hc
  unfold wrap64
  refine ⟨?_, ?_, ?_, ?_, ?_, ?_⟩ <;> omega
theorem idx_str (d : ByteArray) (o : Nat) (h : o < d.size) (W : World) : (Instr.index 9 (.string d) (.int .i64 (o : Int))).run Try.prog W = .ok (.int .u8 (d[o].toNat : Int)) W := by
  simp [Instr.index, run_underlying M.u9, asIntOf, h]
theorem fr_drewN (w : World) : ∀ n, Fr w (w.drewN n) (fun _ => False) := fun n => fr_below (below_drewN (Below.refl _ _) n)
theorem fr_drewN2 (w : World) (m n : Nat) : Fr w ((w.drewN m).drewN n) (fun _ => False) := (fr_drewN w m).trans (fr_drewN _ n) (fun _ _ e => e)
theorem wrap_far (o c : Nat) (h : o ≤ 1000000 ∧ c ≤ 1000000) : wrap64 ((o : Int) + 6 + c) = o + 6 + c := by unfold wrap64; omega
theorem lt_far (o c n : Nat) (h : n < o + 6 + c) : (n : Int) < o + 6 + c := by omega
theorem far_lt (o c n : Nat) (h : (n : Int) < o + 6 + c) : n < o + 6 + c := by omega
theorem far_nat (o c : Nat) : ((o : Int) + 6 + c).toNat = o + 6 + c := by omega
theorem near_nat (o : Nat) : ((o : Int) + 6).toNat = o + 6 := by omega
theorem ex_le (d : ByteArray) (o c : Nat) (h : c ≤ 65535) : (d.extract (o + 6) (o + 6 + c)).size ≤ 100000 := by rw [ByteArray.size_extract]; omega
theorem rl_le {r o : Nat} (h : r ≤ o) (k : o ≤ 1000000) : r + 1 ≤ maxLen := by unfold maxLen; omega
theorem iwrap_far (o c : Nat) (h : o ≤ 1000000 ∧ c ≤ 1000000) : IntKind.i64.wrap ((o : Int) + 6 + c) = o + 6 + c := by rw [IntKind.wrap_i64]; omega
theorem iwrap_near (o : Nat) (h : o ≤ 1000000) : IntKind.i64.wrap ((o : Int) + 6) = o + 6 := by rw [IntKind.wrap_i64]; omega
theorem un_next {d : ByteArray} {w wA : World} {R : List ByteArray} {k2 o c gA capA : Nat} (ho : N.size R = o) (hall : N.all d = R ++ [d.extract (o + 6) (o + 6 + c)] ++ N.parse k2 d (o + (6 + (d.extract (o + 6) (o + 6 + c)).size))) (hs : o + 6 + c ≤ d.size) (hk : d.size - o < k2 + 1) (hRl : R.length ≤ o)
    (hown : wA.ownsRow w.heap.size 9 1 (.slice (some ⟨gA, 0, none⟩) (R.length + 1) capA) (R.length + 1) (strs R ++ [.string (d.extract (o + 6) (o + 6 + c))])) (hf : Fr w wA (fun _ => False)) :
    (∃ (R1 : List ByteArray) (k o1 : Nat), Value.int .i64 ((o : Int) + 6 + c) = .int .i64 o1 ∧ N.size R1 = o1 ∧ wA.ownsRow w.heap.size 9 1 (.slice (some ⟨gA, 0, none⟩) (R.length + 1) capA) R1.length (strs R1) ∧ Fr w wA (fun _ => False) ∧ o1 ≤ d.size ∧ N.all d = R1 ++ N.parse k d o1 ∧ d.size - o1 < k ∧ R1.length ≤ o1) ∧
    d.size - (intOf (Value.int .i64 ((o : Int) + 6 + c))).toNat < d.size - (intOf (Value.int .i64 (o : Int))).toNat := by
  have hz : (d.extract (o + 6) (o + 6 + c)).size = c := by rw [ByteArray.size_extract]; omega
  rw [hz] at hall
  refine ⟨⟨R ++ [d.extract (o + 6) (o + 6 + c)], k2, o + (6 + c), by congr 1; omega, by rw [N.size_append, hz, ho], ?_, hf, by omega, hall, by omega, by simp; omega⟩, ?_⟩
  · have e1 : (R ++ [d.extract (o + 6) (o + 6 + c)]).length = R.length + 1 := by simp
    have e2 : strs (R ++ [d.extract (o + 6) (o + 6 + c)]) = strs R ++ [.string (d.extract (o + 6) (o + 6 + c))] := by unfold strs; rw [List.map_append]; rfl
    rw [e1, e2]; exact hown
  · simp only [intOf]; omega
theorem far_facts (o c n : Nat) (h : o + 6 + c ≤ n) : (o : Int) + 6 + c ≤ n ∧ (o : Int) + 6 ≤ o + 6 + c ∧ (0 : Int) ≤ o + 6 ∧ (o : Int) ≤ o + 6 + c := by omega
theorem wrap_near (o : Nat) (k : Int) (h : o ≤ 1000000 ∧ 0 ≤ k ∧ k ≤ 1000000) : wrap64 ((o : Int) + k) = o + k := by unfold wrap64; omega
set_option maxRecDepth 100000 in
set_option maxHeartbeats 1000000 in
theorem refUnframed_any (d : ByteArray) (w : World) (hd : d.size ≤ 10000) :
    Calls Try.prog 47 #[.string d] w fun e w' => ∃ v, e = .returned (.tuple #[v, .int .i64 (N.size (N.all d))]) ∧ w'.ownsRow w.heap.size 9 1 v (N.all d).length (strs (N.all d)) ∧ Fr w w' (fun _ => False) ∧ N.size (N.all d) ≤ d.size := by
  have HU27 := hide u27
  have HI9 := hide info9
  go_enter Try.func47, Try.ntmps47
  go_wp2_with fail
  go_loopw [4, 5, 6] (fun vl va _ wx => ∃ (R : List ByteArray) (k o : Nat), va = .int .i64 o ∧ N.size R = o ∧ wx.ownsRow w.heap.size 9 1 vl R.length (strs R) ∧ Fr w wx (fun _ => False) ∧ o ≤ d.size ∧ N.all d = R ++ N.parse k d o ∧ d.size - o < k ∧ R.length ≤ o) (fun _ va _ _ => d.size - (intOf va).toNat)
  case atStart => exact ⟨[], d.size + 1, 0, rfl, rfl, World.ownsRow_nil .., Fr.refl _ _, Nat.zero_le _, rfl, Nat.lt_succ_self _, Nat.le_refl _⟩
  case round =>
    obtain ⟨R, k, o, rfl, ho, how, hf, hsz, hall, hk, hRl⟩ := hrel
    obtain ⟨k2, rfl⟩ : ∃ k2, k = k2 + 1 := ⟨k - 1, by omega⟩
    obtain ⟨av, cp, rfl⟩ := owns_shape how
    rw [N.parse] at hall
    have HO := hide ho
    clear ho
    have HEND : Hid (N.first (d.extract o d.size) = none → N.all d = R) := by
      intro e
      rw [e] at hall
      simpa using hall
    have HOW := hide how
    have HF := hide hf
    have HFIN : Hid (N.first (d.extract o d.size) = none → ∃ v, Ending.returned (.tuple #[.slice av R.length cp, .int .i64 o]) = .returned (.tuple #[v, .int .i64 (N.size (N.all d))]) ∧ wr.ownsRow w.heap.size 9 1 v (N.all d).length (strs (N.all d)) ∧ Fr w wr (fun _ => False) ∧ N.size (N.all d) ≤ d.size) := by
      intro e
      rw [HEND.out e, HO.out]
      exact ⟨_, rfl, how, hf, hsz⟩
    have HDREW : Hid (∀ e m n, (∃ v, e = Ending.returned (.tuple #[v, .int .i64 (N.size (N.all d))]) ∧ wr.ownsRow w.heap.size 9 1 v (N.all d).length (strs (N.all d)) ∧ Fr w wr (fun _ => False) ∧ N.size (N.all d) ≤ d.size) → ∃ v, e = Ending.returned (.tuple #[v, .int .i64 (N.size (N.all d))]) ∧ ((wr.drewN m).drewN n).ownsRow w.heap.size 9 1 v (N.all d).length (strs (N.all d)) ∧ Fr w ((wr.drewN m).drewN n) (fun _ => False) ∧ N.size (N.all d) ≤ d.size) := by
      rintro e m n ⟨v, a, b, c, f⟩
      exact ⟨v, a, owns_fr b (fr_drewN2 wr m n) (fun _ _ e => e), c.trans (fr_drewN2 wr m n) (fun _ _ e => e), f⟩
    have HK := hide hk
    have HRL := hide hRl
    by_cases h6 : o + 6 ≤ d.size
    · have HST : Hid (∀ x, N.first (d.extract o d.size) = some x → N.all d = R ++ [x] ++ N.parse k2 d (o + (6 + x.size))) := by
        intro x e
        rw [e] at hall
        rw [hall]
        simp
      have i0 : o < d.size := by omega
      have i1 : o + 1 < d.size := by omega
      obtain ⟨c, hc⟩ : ∃ c, c = N.count (d.extract o d.size) := ⟨_, rfl⟩
      have HFA := hide (N.first_at d o c h6 hc)
      obtain ⟨x, hx⟩ : ∃ x, x = d[o].toNat := ⟨_, rfl⟩
      obtain ⟨y, hy⟩ : ∃ y, y = d[o + 1].toNat := ⟨_, rfl⟩
      have hcq : c = x + 256 * y := by rw [hx, hy]; exact hc.trans (N.count_at d o i0 i1)
      have ho6 : o ≤ 1000000 := by omega
      have hcc : c ≤ 1000000 := by have := (hx ▸ d[o].toNat_lt : x < 256); have := (hy ▸ d[o + 1].toNat_lt : y < 256); omega
      obtain ⟨w0, w1, w2, hcn, w3, hc6⟩ := cnt_facts x y c (hx ▸ d[o].toNat_lt) (hy ▸ d[o + 1].toNat_lt) hcq
      have w4 : wrap64 ((o : Int) + 1) = o + 1 := wrap_near o 1 ⟨ho6, by decide, by decide⟩
      have hI0 : ∀ W, (Instr.index 9 (.string d) (.int .i64 (o : Int))).run Try.prog W = .ok (.int .u8 (x : Int)) W := by
        intro W; rw [hx]; exact idx_str d o i0 W
      have hI1 : ∀ W, (Instr.index 9 (.string d) (.int .i64 ((o : Int) + 1))).run Try.prog W = .ok (.int .u8 (y : Int)) W := by
        intro W; rw [hy]; exact idx_str d (o + 1) i1 W
      clear hc hcq hall how hf HEND hx hy hk hRl
      by_cases h400 : 400 < c
      · have g4 : (400 : Int) < c := Int.ofNat_lt.2 h400
        have HA := hide (HFIN.out (by rw [HFA.out, if_pos (.inl h400)]))
        clear HFA HFIN HST h400
        clear HO HOW HF
        go_wp2_with fail
        go_quiet (fail)
        all_goals
          go_wp2_with fail
          go_quiet (fail)
          all_goals
            go_wp2_with fail
            go_ret2
            exact HDREW.out _ _ _ HA.out
      · have g4 : decide ((400 : Int) < c) = false := decide_eq_false (fun e => h400 (Int.ofNat_lt.1 e))
        have w5 : wrap64 ((o : Int) + 6 + c) = o + 6 + c := wrap_far o c ⟨ho6, hcc⟩
        by_cases hlt : d.size < o + 6 + c
        · have g5 : (d.size : Int) < o + 6 + c := lt_far o c d.size hlt
          have HA := hide (HFIN.out (by rw [HFA.out, if_pos (.inr hlt)]))
          clear HFA HFIN HST h400 HO HOW HF hlt
          have W5 := hide w5
          clear w5
          go_wp2_with fail
          go_quiet (fail)
          all_goals
            clear w0 w1 w2 w3 w4 hcn hI0 hI1
            have w5 := W5.out
            go_wp2_with fail
            go_quiet (fail)
            all_goals
              go_wp2_with fail
              go_ret2
              exact HDREW.out _ _ _ HA.out
        · have g5 : decide ((d.size : Int) < o + 6 + c) = false := decide_eq_false (fun e => hlt (far_lt o c d.size e))
          have g6 : ((o : Int) + 6 + c).toNat = o + 6 + c := far_nat o c
          have g7 : ((o : Int) + 6).toNat = o + 6 := near_nat o
          have hH := fun W => refFramed_any (d.extract (o + 6) (o + 6 + c)) W (ex_le d o c hc6)
          have HH := hide hH
          clear hH
          have hFA := HFA.out
          rw [if_neg (fun h => h.elim h400 hlt)] at hFA
          obtain ⟨A, hA⟩ : ∃ A, A = N.head (d.extract (o + 6) (o + 6 + c)) ++ d.extract (o + 6) (o + 6 + c) := ⟨_, rfl⟩
          rw [← hA] at hFA HH
          clear hA HFA h400
          have hd0 : ∀ m, Fr wr (wr.drewN m) (fun _ => False) := fun m => fr_drewN wr m
          have HD0 := hide hd0
          clear hd0
          by_cases he : A = d.extract o (o + 6 + c)
          · have hl : (A.toList == (d.extract o (o + 6 + c)).toList) = true := by rw [he]; simp
            rw [if_pos he] at hFA
            have HST2 := hide (HST.out _ hFA)
            clear hFA he HST HFIN HDREW
            have HRB : Hid (R.length + 1 ≤ maxLen) := rl_le HRL.out ho6
            have W5 := hide w5
            have G5 := hide g5
            have G6 := hide g6
            have G7 := hide g7
            have HL := hide hl
            clear w5 g5 g6 g7 hl
            go_wp2_with fail
            go_quiet (fail)
            all_goals
              clear w0 w1 w2 w3 w4 hcn hI0 hI1
              have w5 := W5.out
              have g5 := G5.out
              have w6 : wrap64 ((o : Int) + 6) = o + 6 := wrap_near o 6 ⟨ho6, by decide, by decide⟩
              have v5 : IntKind.i64.wrap ((o : Int) + 6 + c) = o + 6 + c := iwrap_far o c ⟨ho6, hcc⟩
              have v6 : IntKind.i64.wrap ((o : Int) + 6) = o + 6 := iwrap_near o ho6
              obtain ⟨s1, s2, s3, s4⟩ := far_facts o c d.size (Nat.le_of_not_lt hlt)
              have g4n : ¬ (400 : Int) < c := of_decide_eq_false g4
              have g5n : ¬ (d.size : Int) < o + 6 + c := of_decide_eq_false g5
              have g6 := G6.out
              have g7 := G7.out
              have hl := HL.out
              have hfW : Fr w (wr.drewN nq) (fun _ => False) := HF.out.trans (HD0.out nq) (fun _ _ e => e)
              have HOWW := hide (owns_fr HOW.out (HD0.out nq) (fun _ _ e => e))
              have hszW := hfW.size
              generalize wr.drewN nq = W at *
              go_wp2_with fail
              have HTR : Hid (∀ w1 w2, Fr W w1 (fun _ => False) → Fr w1 w2 (fun _ => False) → Fr W w2 (fun _ => False)) := fun _ _ h k => h.trans k (fun _ _ h => h)
              have hd1 : Fr W W.drew (fun _ => False) := (Fr.refl _ _).drew
              go_region_held3 (fun W' => Fr W W' (fun _ => False)) (first | exact hd1 | exact t1 | go_keep)
                (first | (go_at_call 48; (with_reducible refine Calls.mono (HH.out _) ?_); rintro o1 w2 ⟨rfl, hf2⟩; (have t1 := HTR.out _ _ hd1 hf2)))
              all_goals
                have hsz1 := t1.size
                have HT := hide t1
                clear t1 hf2
                have HOW2 := hide (owns_fr HOWW.out HT.out (fun _ _ e => e))
                have hRl := HRL.out
                obtain ⟨i5, hi5, hz5, hz6, hz7⟩ := info_parts HI9.out
                go_wp2_with (at_builtin; go_must (refine wpList_append_lies _ rfl (.tmp 53) (.tmp 62) 27 rfl w.heap.size 9 i5 (.string ⟨#[]⟩) 1 16 HU27.out hi5 hz5 hz6 hz7 rfl (by decide) (.slice av R.length cp) R.length (strs R) rfl (HOW2.out.alloc _) ⟨w2.heap.size, 0, none⟩ 1 1 [.string (d.extract (o + 6) (o + 6 + c))] rfl rfl (news_alloc _ #[.string (d.extract (o + 6) (o + 6 + c))] _ _ rfl) (by simp [Value.oneCell']) (by decide) (by unfold maxLen; omega) (by omega) (by simp; omega) _ rfl ?_); intro gA capA wA hownA hgrow hat hltA)
                have HFA2 := hide (((hfW.trans HT.out (fun _ _ e => e)).alloc (.cells #[.string (d.extract (o + 6) (o + 6 + c))] 9)).grown hgrow (fun x e hx => absurd (HOW2.out.lt x e).1 (Nat.not_le_of_lt hx)))
                exact un_next HO.out HST2.out (Nat.le_of_not_lt hlt) HK.out HRL.out hownA HFA2.out
          · have hl : (A.toList == (d.extract o (o + 6 + c)).toList) = false := by
              rw [beq_eq_false_iff_ne]
              intro h
              apply he
              rw [ByteArray.toList_eq, ByteArray.toList_eq] at h
              exact ByteArray.ext (Array.toList_inj.1 h)
            rw [if_neg he] at hFA
            have HA := hide (HFIN.out hFA)
            clear hFA he HST HFIN HDREW
            have W5 := hide w5
            have G5 := hide g5
            have G6 := hide g6
            have G7 := hide g7
            have HL := hide hl
            clear w5 g5 g6 g7 hl
            go_wp2_with fail
            go_quiet (fail)
            all_goals
              clear w0 w1 w2 w3 w4 hcn hI0 hI1
              have w5 := W5.out
              have g5 := G5.out
              have w6 : wrap64 ((o : Int) + 6) = o + 6 := wrap_near o 6 ⟨ho6, by decide, by decide⟩
              have v5 : IntKind.i64.wrap ((o : Int) + 6 + c) = o + 6 + c := iwrap_far o c ⟨ho6, hcc⟩
              have v6 : IntKind.i64.wrap ((o : Int) + 6) = o + 6 := iwrap_near o ho6
              obtain ⟨s1, s2, s3, s4⟩ := far_facts o c d.size (Nat.le_of_not_lt hlt)
              have g4n : ¬ (400 : Int) < c := of_decide_eq_false g4
              have g5n : ¬ (d.size : Int) < o + 6 + c := of_decide_eq_false g5
              have g6 := G6.out
              have g7 := G7.out
              have hl := HL.out
              have hfW : Fr w (wr.drewN nq) (fun _ => False) := HF.out.trans (HD0.out nq) (fun _ _ e => e)
              have HOWW := hide (owns_fr HOW.out (HD0.out nq) (fun _ _ e => e))
              have hszW := hfW.size
              have hdq := HD0.out nq
              generalize hWq : wr.drewN nq = W at *
              clear hWq
              go_wp2_with fail
              have HTR : Hid (∀ w1 w2, Fr W w1 (fun _ => False) → Fr w1 w2 (fun _ => False) → Fr W w2 (fun _ => False)) := fun _ _ h k => h.trans k (fun _ _ h => h)
              have hd1 : Fr W W.drew (fun _ => False) := (Fr.refl _ _).drew
              go_region_held3 (fun W' => Fr W W' (fun _ => False)) (first | exact hd1 | exact t1 | go_keep)
                (first | (go_at_call 48; (with_reducible refine Calls.mono (HH.out _) ?_); rintro o1 w2 ⟨rfl, hf2⟩; (have t1 := HTR.out _ _ hd1 hf2)))
              all_goals
                have HT := hide t1
                clear t1 hf2
                go_wp2_with fail
                go_ret2
                obtain ⟨v, a1, a2, a3, a4⟩ := HA.out
                exact ⟨v, a1, owns_fr (owns_fr a2 hdq (fun _ _ e => e)) HT.out (fun _ _ e => e), hfW.trans HT.out (fun _ _ e => e), a4⟩
    · have HA := hide (HFIN.out (N.first_short d _ (by omega)))
      clear hall how hf HEND hk hRl
      have hlt : (d.size : Int) < o + 6 := by omega
      have hle : o ≤ 10000 := by omega
      clear h6 hsz
      go_wp2_with fail
      go_ret2
      exact HA.out
end Go.Proofs.Ytmlbcdofogffkab
