/- value.Check, and the document's own shaped and Fault. -/
import Derived.Test.YtlmkpjdaoinmoaaVG
namespace Go.Proofs.Ytlmkpjdaoinmoaa
open Go.RowKit
namespace V
/-- The number of what is wrong with a value (0: nothing). -/
def fault (m : Nat) (v : Val) : Nat := if 60 < parts m v ∨ 6 < deep m v then 2 else if shaped m v then 0 else 3
/-- An error by its number. -/
def errOf (n : Nat) : Value := if n = 0 then .nilIface else .iface 80 (.int .i64 n)
theorem rise_nil : rise [] = true := rfl
theorem shaped_ref (m : Nat) (v : Val) : shaped (m + 1) v = (v.l.all (shaped m) && (v.f.all (fun x => shaped m x.2) && rise v.f) && (spare v.kind v.n v.s v.l.length v.f.length && fits v.kind v.n v.s true)) := by
  rw [shaped]
  cases hr : rise v.f
  · have hne : v.f.length ≠ 0 := by
      intro h0
      rw [List.length_eq_zero_iff.1 h0, rise_nil] at hr
      exact absurd hr (by decide)
    have : (spare v.kind v.n v.s v.l.length v.f.length && fits v.kind v.n v.s false) = false := by
      unfold spare fits
      rw [← Bool.not_eq_true]
      simp only [Bool.and_eq_true, decide_eq_true_eq, Bool.false_eq_true, and_false, or_false]
      rintro ⟨⟨_, _, _, h4⟩, h5⟩
      omega
    rw [this]; simp
  · simp only [Bool.and_true]
    rw [Bool.and_comm]
end V
theorem ret_val {a b : Value} (h : a = b) : Ending.returned a = .returned b := by rw [h]
set_option maxRecDepth 100000 in
set_option maxHeartbeats 1600000 in
theorem check_any (m : Nat) (w : World) (v : Val) (c0 c1 c2 c3 c4 : Value) (h : V.Mem m w v [c0, c1, c2, c3, c4]) (hbk : V.bulk m v ≤ 2000000) :
    Calls Try.prog 54 #[.agg #[c0, c1, c2, c3, c4]] w fun e w' => e = .returned (V.errOf (V.fault m v)) ∧ Below w.heap.size w w' := by
  have hbL : Below w.heap.size w (w.alloc (.cells #[c0, c1, c2, c3, c4] 40)) := (Below.refl _ _).alloc (Nat.le_refl _) _
  have hblk0 : (w.alloc (.cells #[c0, c1, c2, c3, c4] 40)).heap[w.heap.size]? = some (.cells #[c0, c1, c2, c3, c4] 40 (0, 0)) := heap_alloc_new _ _
  have HM : Hid _ := h
  clear h
  have hleft := V.room_left m v 1 60 (by decide)
  go_enter Try.func54, Try.ntmps54
  go_wp2_with fail
  refine (roomLeft_any m _ v c0 c1 c2 c3 c4 1 60 (V.Mem.kept m HM.out hbL) hbk (by decide) (by decide) (by decide) (by decide)).mono ?_
  rintro e w1 ⟨rfl, hb1⟩
  have hlt1 : w.heap.size < (w.alloc (.cells #[c0, c1, c2, c3, c4] 40)).heap.size := (Array.getElem?_eq_some_iff.1 hblk0).1
  have hblk1 := (hb1.block w.heap.size hlt1).trans hblk0
  have hB1 := hbL.trans (hb1.mono hbL.size)
  clear hb1 hbL hblk0 hlt1
  generalize V.room m v 1 60 = rr at *
  by_cases hr : rr < 0
  · have E : Hid (V.fault m v = 2) := by
      show _ = _
      rw [V.fault, if_pos]
      by_cases hc : (V.deep m v : Int) + 1 ≤ 7 ∧ (V.parts m v : Int) ≤ 60
      · have := hleft.1 hc; omega
      · omega
    clear hleft
    go_wp2_with fail
    go_ret
    exact ⟨ret_val (by rw [E.out]; rfl), hB1⟩
  · have hF : V.fault m v = if V.shaped m v then 0 else 3 := by
      rw [V.fault, if_neg]
      by_cases hc : (V.deep m v : Int) + 1 ≤ 7 ∧ (V.parts m v : Int) ≤ 60
      · omega
      · have := hleft.2 hc; omega
    have HF : Hid _ := hF
    clear hF hleft
    have b0 := cell_of_block hblk1 0 _ rfl
    have b1 := cell_of_block hblk1 1 _ rfl
    have b2 := cell_of_block hblk1 2 _ rfl
    have b3 := cell_of_block hblk1 3 _ rfl
    have b4 := cell_of_block hblk1 4 _ rfl
    go_wp2_with fail
    refine (shaped_any m _ v c0 c1 c2 c3 c4 (V.Mem.kept m HM.out hB1) hbk).mono ?_
    rintro e w2 ⟨rfl, hb2⟩
    have hB2 := hB1.trans (hb2.mono hB1.size)
    generalize V.shaped m v = sh at *
    cases sh
    · go_wp2_with fail
      go_ret
      exact ⟨ret_val (by rw [HF.out]; rfl), hB2⟩
    · go_wp2_with fail
      go_ret
      exact ⟨ret_val (by rw [HF.out]; rfl), hB2⟩
set_option maxRecDepth 100000 in
set_option maxHeartbeats 1600000 in
theorem refShaped_any (m : Nat) : ∀ (w : World) (v : Val) (c0 c1 c2 c3 c4 : Value), V.Mem m w v [c0, c1, c2, c3, c4] → V.bulk m v ≤ 2000000 →
    Calls Try.prog 69 #[.agg #[c0, c1, c2, c3, c4]] w fun e w' => e = .returned (.bool (V.shaped m v)) ∧ Below w.heap.size w w' := by
  induction m with
  | zero => intro w v c0 c1 c2 c3 c4 h; exact h.elim
  | succ m ih =>
    intro w v c0 c1 c2 c3 c4 ⟨lv, fv, hcs, hl, hf⟩ hbk
    simp only [List.cons.injEq, and_true] at hcs
    obtain ⟨rfl, rfl, rfl, rfl, rfl⟩ := hcs
    have IH : Hid _ := ih
    clear ih
    obtain ⟨al, cl, rfl⟩ := hl.shape
    obtain ⟨af, cf, rfl⟩ := hf.shape
    obtain ⟨bs, bl, bf, bn⟩ := V.bulk_s m v _ hbk
    rw [V.bulk] at hbk
    have hbL : Below w.heap.size w (w.alloc (.cells #[.int .i64 v.kind, .int .i64 v.n, .string v.s, .slice al v.l.length cl, .slice af v.f.length cf] 40)) := (Below.refl _ _).alloc (Nat.le_refl _) _
    have HE : Hid _ := V.shaped_ref m v
    have BN : Hid _ := bn
    clear bn
    go_enter Try.func69, Try.ntmps69
    go_wp2_with fail
    go_loopw [3, 4] (fun vi _ wr => ∃ k : Nat, k ≤ v.l.length ∧ vi = .int .i64 k ∧ (∀ j x, j < k → v.l[j]? = some x → V.shaped m x = true) ∧
        wr.heap[w.heap.size]? = some (.cells #[.int .i64 v.kind, .int .i64 v.n, .string v.s, .slice al v.l.length cl, .slice af v.f.length cf] 40 (0, 0)) ∧ Below w.heap.size w wr)
      (fun vi _ _ => v.l.length - (intOf vi).toNat)
    case atStart => exact ⟨0, Nat.zero_le _, rfl, fun j _ hj => absurd hj (by omega), heap_alloc_new _ _, hbL⟩
    case round =>
      clear hbL
      obtain ⟨k, hk, rfl, hok, hblk, hB⟩ := hrel
      have HOK : Hid _ := hok
      clear hok
      have b3 := cell_of_block hblk 3 _ rfl
      have b4 := cell_of_block hblk 4 _ rfl
      by_cases hlt : k < v.l.length
      · obtain ⟨b, off, cap, x, d0, d1, d2, d3, d4, e1, hx, hm, y0, y1, y2, y3, y4⟩ := V.elemL (hl.kept hB (fun _ _ ⟨x, hx, hm⟩ => ⟨x, hx, V.Mem.kept m hm hB⟩)) k hlt
        simp only [Value.slice.injEq] at e1
        obtain ⟨rfl, _, rfl⟩ := e1
        have s1 := V.sumL_le (V.bulk m) v.l k x hx
        have hlt2 : w.heap.size < wr.heap.size := (Array.getElem?_eq_some_iff.1 hblk).1
        have hI := IH.out wr x d0 d1 d2 d3 d4 hm (by omega)
        have HI : Hid _ := hI
        have HX : Hid _ := hx
        clear hI hm hx s1
        go_wp2_with fail
        refine Calls.mono HI.out ?_
        rintro e w3 ⟨rfl, hb3⟩
        have hblk3 := (hb3.block w.heap.size hlt2).trans hblk
        have hB3 := hB.trans (hb3.mono hB.size)
        clear hb3 hB hblk y0 y1 y2 y3 y4 b3 b4 HI
        generalize hq : V.shaped m x = q
        have HQ : Hid _ := hq
        clear hq
        cases q
        · have E : Hid (V.shaped (m + 1) v = false) := by show _ = _; rw [HE.out, V.all_false _ _ k x HX.out HQ.out]; rfl
          go_wp2_with fail
          go_ret
          exact ⟨ret_bool E.out.symm, hB3⟩
        · go_wp2_with fail
          go_roundw
          case rel => exact ⟨k + 1, by omega, by go_num, V.so_far HOK.out HX.out HQ.out, hblk3, hB3⟩
          case measure => simp [intOf]; omega
      · have HE2 : Hid (V.shaped (m + 1) v = ((v.f.all (fun x => V.shaped m x.2) && V.rise v.f) && (V.spare v.kind v.n v.s v.l.length v.f.length && V.fits v.kind v.n v.s true))) := by
          show _ = _
          rw [HE.out, V.all_true (V.shaped m) v.l (fun j x hj => HOK.out j x (by have := V.lt_of_get hj; omega) hj), Bool.true_and]
        clear HE HOK
        go_wp2_with fail
        go_loopw [5, 6, 7] (fun vi _ _ wr => ∃ k : Nat, k ≤ v.f.length ∧ vi = .int .i64 k ∧ (∀ j x, j < k → v.f[j]? = some x → (fun x : ByteArray × Val => V.shaped m x.2) x = true) ∧ (∀ j, j < k → V.okAt v.f j = true) ∧
            wr.heap[w.heap.size]? = some (.cells #[.int .i64 v.kind, .int .i64 v.n, .string v.s, .slice al v.l.length cl, .slice af v.f.length cf] 40 (0, 0)) ∧ Below w.heap.size w wr)
          (fun vi _ _ _ => v.f.length - (intOf vi).toNat)
        case atStart => exact ⟨0, Nat.zero_le _, rfl, fun j _ hj => absurd hj (by omega), fun j hj => absurd hj (by omega), hblk, hB⟩
        case round =>
          clear hblk hB b3 b4
          obtain ⟨k, hk, rfl, hok, hok2, hblk, hB⟩ := hrel
          have HOK : Hid _ := hok
          have HO2 : Hid _ := hok2
          clear hok hok2
          have b4 := cell_of_block hblk 4 _ rfl
          by_cases hlf : k < v.f.length
          · obtain ⟨b, off, cap, x, d0, d1, d2, d3, d4, e1, hx, hm, yn, y0, y1, y2, y3, y4⟩ := V.elemF (hf.kept hB (fun _ _ ⟨x, c', hx, hc, hm⟩ => ⟨x, c', hx, hc, V.Mem.kept m hm hB⟩)) k hlf
            simp only [Value.slice.injEq] at e1
            obtain ⟨rfl, _, rfl⟩ := e1
            have s1 := V.sumF_le (fun x => x.1.size + V.bulk m x.2) v.f k x hx
            have hlt2 : w.heap.size < wr.heap.size := (Array.getElem?_eq_some_iff.1 hblk).1
            have hI := IH.out wr x.2 d0 d1 d2 d3 d4 hm (by omega)
            have HI : Hid _ := hI
            have HX : Hid _ := hx
            clear hI hm hx s1
            go_wp2_with fail
            refine Calls.mono HI.out ?_
            rintro e w3 ⟨rfl, hb3⟩
            have hblk3 := (hb3.block w.heap.size hlt2).trans hblk
            have hB3 := hB.trans (hb3.mono hB.size)
            have zn : w3.cell? ⟨b, off + k * 6, none⟩ = some (.string x.1) := (hb3.cell (p := ⟨b, off + k * 6, none⟩) (World.block_lt_of_cell? wr _ yn)).trans yn
            clear hb3 hB hblk yn y0 y1 y2 y3 y4 b4 HI
            have b4 := cell_of_block hblk3 4 _ rfl
            generalize hq : V.shaped m x.2 = q
            have HQ : Hid _ := hq
            clear hq
            have hxs := BN.out x (List.mem_of_getElem? HX.out)
            have hn1 : x.1.size ≤ maxLen := by unfold maxLen; omega
            go_wp2_with fail
            refine (nameMay_any x.1 _ hn1).mono ?_
            rintro e w4 ⟨rfl, hw4⟩
            rw [hw4]
            clear hw4
            cases q
            · have E : Hid (V.shaped (m + 1) v = false) := by show _ = _; rw [HE2.out, V.all_false (fun x : ByteArray × Val => V.shaped m x.2) _ k x HX.out HQ.out]; rfl
              generalize V.name (V.bl x.1) = nm
              go_wp2_with fail
              go_quiet (fail)
              go_wp2_with fail
              go_ret
              exact ⟨ret_bool E.out.symm, below_drewN hB3 _⟩
            generalize hnm : V.name (V.bl x.1) = nm
            cases nm
            · have E : Hid (V.shaped (m + 1) v = false) := by show _ = _; rw [HE2.out, V.rise_false v.f k hlf (by rw [V.okAt, HX.out]; simp [hnm]), Bool.and_false]; rfl
              go_wp2_with fail
              go_quiet (fail)
              go_wp2_with fail
              go_ret
              exact ⟨ret_bool E.out.symm, below_drewN hB3 _⟩
            by_cases hk0 : k = 0
            · have hokk : V.okAt v.f k = true := by have := HX.out; subst hk0; rw [V.okAt_zero v.f x this]; exact hnm
              have HO3 : Hid _ := hokk
              have HNM : Hid _ := hnm
              clear hokk hnm
              subst hk0
              simp only [Nat.zero_mul, Nat.add_zero] at zn
              go_wp2_with fail
              go_quiet (fail)
              go_wp2_with fail
              go_roundw
              case rel => exact ⟨1, by omega, by go_num, V.so_far HOK.out HX.out HQ.out, fun j hj => by rw [show j = 0 by omega]; exact HO3.out, hblk3, below_drewN hB3 _⟩
              case measure => simp [intOf]; omega
            · obtain ⟨k', rfl⟩ : ∃ k', k = k' + 1 := ⟨k - 1, by omega⟩
              obtain ⟨b', off', cap', y, _, _, _, _, _, e1, hy, _, zp, _⟩ := V.elemF (hf.kept hB3 (fun _ _ ⟨x, c', hx, hc, hm⟩ => ⟨x, c', hx, hc, V.Mem.kept m hm hB3⟩)) k' (by omega)
              simp only [Value.slice.injEq, Option.some.injEq, Addr.mk.injEq] at e1
              obtain ⟨⟨rfl, rfl, _⟩, _, rfl⟩ := e1
              have hoe := V.okAt_succ v.f k' x y HX.out hy
              have gk : decide (0 < ((k' + 1 : Nat) : Int)) = true := decide_eq_true (by omega)
              rw [hnm, Bool.true_and] at hoe
              have hfl := less_flip (V.bl x.1) (V.bl y.1)
              have HNM : Hid _ := hnm
              clear hk0 hy hnm
              cases hls : Op.bytesLess (V.bl y.1) (V.bl x.1)
              · have E : Hid (V.shaped (m + 1) v = false) := by show _ = _; rw [HE2.out, V.rise_false v.f (k' + 1) hlf (by rw [hoe, hls]), Bool.and_false]; rfl
                rw [hls, ← V.toList_bl, ← V.toList_bl] at hfl
                rw [← V.toList_bl, ← V.toList_bl] at hls
                clear hoe
                go_wp2_with fail
                go_quiet (fail)
                go_wp2_with fail
                go_ret
                exact ⟨ret_bool E.out.symm, below_drewN hB3 _⟩
              · rw [hls] at hoe
                have HO3 : Hid _ := hoe
                rw [hls, ← V.toList_bl, ← V.toList_bl] at hfl
                rw [← V.toList_bl, ← V.toList_bl] at hls
                clear hoe
                go_wp2_with fail
                go_quiet (fail)
                go_wp2_with fail
                go_roundw
                case rel => exact ⟨k' + 1 + 1, by omega, by go_num, V.so_far HOK.out HX.out HQ.out, fun j hj => by rcases Nat.lt_or_ge j (k' + 1) with h | h; exact HO2.out j h; rw [show j = k' + 1 by omega]; exact HO3.out, hblk3, below_drewN hB3 _⟩
                case measure => simp [intOf]; omega
          · have HE3 : Hid (V.shaped (m + 1) v = (V.spare v.kind v.n v.s v.l.length v.f.length && V.fits v.kind v.n v.s true)) := by
              show _ = _
              rw [HE2.out, V.all_true (fun x : ByteArray × Val => V.shaped m x.2) v.f (fun j x hj => HOK.out j x (by have := V.lt_of_get hj; omega) hj), V.rise_true v.f (fun j hj => HO2.out j (by omega))]; rfl
            clear HE2 HOK HO2 IH BN hl hf
            have b0 := cell_of_block hblk 0 _ rfl
            have b1 := cell_of_block hblk 1 _ rfl
            have b2 := cell_of_block hblk 2 _ rfl
            have b3 := cell_of_block hblk 3 _ rfl
            go_wp2_with fail
            all_goals go_ret
            all_goals refine ⟨ret_bool ?_, hB⟩
            all_goals rw [HE3.out]
            all_goals clear HE3 b0 b1 b2 b3 b4 hblk hB
            all_goals clear hk hlt hlf hbk bs bl bf
            all_goals unfold V.spare V.fits
            all_goals rw [Bool.eq_iff_iff]
            all_goals simp_all
            all_goals omega
set_option maxRecDepth 100000 in
set_option maxHeartbeats 1600000 in
theorem fault_any (m : Nat) (w : World) (v : Val) (c0 c1 c2 c3 c4 : Value) (h : V.Mem m w v [c0, c1, c2, c3, c4]) (hbk : V.bulk m v ≤ 2000000) :
    Calls Try.prog 58 #[.agg #[c0, c1, c2, c3, c4]] w fun e w' => e = .returned (.int .i64 (V.fault m v)) ∧ Below w.heap.size w w' := by
  have hbL : Below w.heap.size w (w.alloc (.cells #[c0, c1, c2, c3, c4] 40)) := (Below.refl _ _).alloc (Nat.le_refl _) _
  have hblk0 : (w.alloc (.cells #[c0, c1, c2, c3, c4] 40)).heap[w.heap.size]? = some (.cells #[c0, c1, c2, c3, c4] 40 (0, 0)) := heap_alloc_new _ _
  have HM : Hid _ := h
  clear h
  have hF : V.fault m v = if 60 < V.parts m v ∨ 6 < V.deep m v then 2 else if V.shaped m v then 0 else 3 := rfl
  have HF : Hid _ := hF
  clear hF
  go_enter Try.func58, Try.ntmps58
  go_wp2_with fail
  refine (parts_any m _ v c0 c1 c2 c3 c4 (V.Mem.kept m HM.out hbL) hbk).mono ?_
  rintro e w1 ⟨rfl, hb1⟩
  have hlt1 : w.heap.size < (w.alloc (.cells #[c0, c1, c2, c3, c4] 40)).heap.size := (Array.getElem?_eq_some_iff.1 hblk0).1
  have hblk1 := (hb1.block w.heap.size hlt1).trans hblk0
  have hB1 := hbL.trans (hb1.mono hbL.size)
  clear hb1 hbL hblk0 hlt1
  have p1 := V.parts_le m v
  have p2 := V.deep_le m v
  generalize V.parts m v = pp at *
  generalize V.deep m v = dd at *
  by_cases hp : 60 < pp
  · go_wp2_with fail
    go_ret
    exact ⟨ret_int (by rw [HF.out, if_pos (.inl hp)]; rfl), hB1⟩
  by_cases hd : 6 < dd
  · go_wp2_with fail
    go_ret
    exact ⟨ret_int (by rw [HF.out, if_pos (.inr hd)]; rfl), hB1⟩
  have b0 := cell_of_block hblk1 0 _ rfl
  have b1 := cell_of_block hblk1 1 _ rfl
  have b2 := cell_of_block hblk1 2 _ rfl
  have b3 := cell_of_block hblk1 3 _ rfl
  have b4 := cell_of_block hblk1 4 _ rfl
  have HG : Hid (V.fault m v = if V.shaped m v then 0 else 3) := by show _ = _; rw [HF.out, if_neg (by omega)]
  clear HF
  go_wp2_with fail
  refine (refShaped_any m _ v c0 c1 c2 c3 c4 (V.Mem.kept m HM.out hB1) hbk).mono ?_
  rintro e w2 ⟨rfl, hb2⟩
  have hB2 := hB1.trans (hb2.mono hB1.size)
  generalize V.shaped m v = sh at *
  cases sh
  · go_wp2_with fail
    go_ret
    exact ⟨ret_int (by rw [HG.out]; rfl), hB2⟩
  · go_wp2_with fail
    go_ret
    exact ⟨ret_int (by rw [HG.out]; rfl), hB2⟩
end Go.Proofs.Ytlmkpjdaoinmoaa
