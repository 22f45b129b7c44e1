/- What value.textOf and value.Text return. -/
import Derived.Test.YtpoebpknjjfddaaDoorVN
namespace Go.Proofs.YtpoebpknjjfddaaDoor
open Go.RowKit
/-- strings.Join of texts that the call itself has made. -/
theorem join_own (w : World) (B : Nat) (ao : Option Addr) (cap : Nat) (l : List (List UInt8)) (sep : ByteArray) (h : w.ownsRow B 9 1 (.slice ao l.length cap) l.length (V.strsV l)) (hlen : (Lib.join l (V.bl sep)).length ≤ 140737488355328) (hl : l.length ≤ 2000000) :
    Calls Tryd.prog 47 #[.slice ao l.length cap, .string sep] w fun e w' => e = .returned (.string (V.str (Lib.join l (V.bl sep)))) ∧ Below w.heap.size w w' := by
  rcases Nat.eq_zero_or_pos l.length with h0 | hpos
  · obtain rfl : l = [] := List.length_eq_zero_iff.1 h0
    refine (sh_strings_Join_none ao cap sep w).mono ?_
    rintro e w' ⟨rfl, rfl⟩
    exact ⟨rfl, Below.refl _ _⟩
  · rcases h.2 with ⟨hv, h0⟩ | ⟨g, cap', cur, hv, hr⟩
    · omega
    · simp only [Value.slice.injEq] at hv
      obtain ⟨rfl, _, rfl⟩ := hv
      have e1 : (l.map V.str).map (fun x => x.data.toList) = l := by rw [List.map_map]; conv => rhs; rw [← List.map_id l]
                                                                     apply List.map_congr_left; intro x _; simp [V.str]
      have hj := sh_strings_Join g 0 cap (l.map V.str) sep w (by
        intro j x hx
        rw [Nat.zero_add, h.cellAt j (by rw [← List.length_map (f := V.str)]; rw [Nat.mul_one]; exact (List.getElem?_eq_some_iff.1 hx).1)]
        unfold V.strsV
        rw [List.getElem?_map] at hx ⊢
        rw [Option.map_eq_some_iff] at hx
        obtain ⟨y, hy, rfl⟩ := hx
        rw [hy]; rfl) (h.lt g rfl).2 (by rw [List.length_map]; omega) (by rw [List.length_map]; exact hr.2.2.1) (by rw [e1]; exact hlen)
      rw [List.length_map, e1] at hj
      exact hj
theorem below_grow (w : World) (n : Nat) (os : Array Obj) : Below w.heap.size w (Go.Sort.grow (w.drewN n) os) := by
  refine ⟨rfl, rfl, rfl, by simp [Go.Sort.grow], fun k hk => ?_⟩
  show (w.heap ++ os)[k]? = _
  exact Array.getElem?_append_left hk
theorem fb_true : Lib.formatBool true = V.trueB := by decide
theorem fb_false : Lib.formatBool false = V.falseB := by decide
theorem join_bound (m : Nat) (v : Val) (h : V.shaped (m + 1) v = true) (hb : V.bulk (m + 1) v ≤ 2000000) : (V.text (m + 1) v).length ≤ 80000000 := by
  have := V.text_len (m + 1) v h; omega
set_option maxRecDepth 100000 in
set_option maxHeartbeats 1600000 in
theorem textOf_any (m : Nat) : ∀ (w : World) (v : Val) (c0 c1 c2 c3 c4 : Value), V.Mem m w v [c0, c1, c2, c3, c4] → V.shaped m v = true → V.bulk m v ≤ 2000000 → Lib.TabIs Tryd.prog w "internal/strconv.uint64pow10" .u64 Lib.pow10Tab →
      Calls Tryd.prog 31 #[.agg #[c0, c1, c2, c3, c4]] w fun e w' => e = .returned (.string (V.str (V.text m v))) ∧ Below w.heap.size w w' := by
  induction m with
  | zero => intro w v c0 c1 c2 c3 c4 h; exact h.elim
  | succ m ih =>
    intro w v c0 c1 c2 c3 c4 ⟨lv, fv, hcs, hl, hf⟩ hsh hbk htab
    simp only [List.cons.injEq, and_true] at hcs
    obtain ⟨rfl, rfl, rfl, rfl, rfl⟩ := hcs
    have IH : Hid _ := ih
    clear ih
    obtain ⟨al, cl, rfl⟩ := hl.shape
    obtain ⟨af, cf, rfl⟩ := hf.shape
    obtain ⟨bs, bl, bf, bn⟩ := V.bulk_s m v _ hbk
    have hbd := join_bound m v hsh hbk
    obtain ⟨_, hfit, hsl, hsf⟩ := V.shaped_parts m v hsh
    rw [V.bulk] at hbk
    have hbL : Below w.heap.size w (w.alloc (.cells #[.int .i64 v.kind, .int .i64 v.n, .string v.s, .slice al v.l.length cl, .slice af v.f.length cf] 34)) := (Below.refl _ _).alloc (Nat.le_refl _) _
    have HL : Hid _ := hl
    have HF : Hid _ := hf
    have HSL : Hid _ := hsl
    have HSF : Hid _ := hsf
    have HTAB : Hid _ := tab_below htab hbL
    clear hl hf hsl hsf bn htab
    by_cases k1 : v.kind = 1
    · have HE : Hid (V.text (m + 1) v = Lib.itoa v.n) := by show _ = _; rw [V.text, if_pos k1]
      rw [k1] at hfit
      have hn := V.fits_num _ _ _ hfit
      have g1 : (v.kind == 1) = true := beq_iff_eq.2 k1
      clear hfit hbd k1
      go_enter Tryd.func31, Tryd.ntmps31
      go_wp2_with fail
      refine (sh_strconv_Itoa v.n (by omega) (by omega) _ HTAB.out).mono ?_
      rintro e w2 ⟨rfl, n2, os2, hw2⟩
      have hb2 : Below w.heap.size w w2 := by rw [hw2]; exact hbL.trans ((below_grow _ n2 os2).mono hbL.size)
      clear hw2
      go_wp2_with fail
      go_ret
      exact ⟨ret_val (by rw [HE.out]; rfl), hb2⟩
    have g1 : (v.kind == 1) = false := beq_eq_false_iff_ne.2 k1
    by_cases k2 : v.kind = 2
    · have HE : Hid (V.text (m + 1) v = V.quote (V.bl v.s)) := by show _ = _; rw [V.text, if_neg k1, if_pos k2]
      have g2 : (v.kind == 2) = true := beq_iff_eq.2 k2
      clear k1 k2 hfit hbd
      go_enter Tryd.func31, Tryd.ntmps31
      go_wp2_with fail
      refine (quote_any v.s _ bs).mono ?_
      rintro e w2 ⟨rfl, hb2⟩
      go_wp2_with fail
      go_ret
      exact ⟨ret_val (by rw [HE.out]; rfl), hbL.trans (hb2.mono hbL.size)⟩
    have g2 : (v.kind == 2) = false := beq_eq_false_iff_ne.2 k2
    by_cases k3 : v.kind = 3
    · have HE : Hid (V.text (m + 1) v = if v.n = 1 then V.trueB else V.falseB) := by show _ = _; rw [V.text, if_neg k1, if_neg k2, if_pos k3]
      have g3 : (v.kind == 3) = true := beq_iff_eq.2 k3
      clear k1 k2 k3 hfit hbd
      go_enter Tryd.func31, Tryd.ntmps31
      go_wp2_with fail
      refine (sh_strconv_FormatBool _ _).mono ?_
      rintro e w2 ⟨rfl, rfl⟩
      go_wp2_with fail
      go_ret
      refine ⟨ret_val ?_, hbL⟩
      rw [HE.out]
      by_cases h1 : v.n = 1
      · rw [if_pos h1, beq_iff_eq.2 h1, fb_true]; rfl
      · rw [if_neg h1, beq_eq_false_iff_ne.2 h1, fb_false]; rfl
    have g3 : (v.kind == 3) = false := beq_eq_false_iff_ne.2 k3
    by_cases k4 : v.kind = 4
    · have hE : V.text (m + 1) v = 91 :: (Lib.join (v.l.map (V.text m)) [44, 32] ++ [93]) := by rw [V.text, if_neg k1, if_neg k2, if_neg k3, if_pos k4]
      have g4 : (v.kind == 4) = true := beq_iff_eq.2 k4
      rw [hE, List.length_cons, List.length_append] at hbd
      have HE : Hid _ := hE
      have hIT := itemTexts_of m IH (w.alloc (.cells #[.int .i64 v.kind, .int .i64 v.n, .string v.s, .slice al v.l.length cl, .slice af v.f.length cf] 34)) (.slice al v.l.length cl) v.l (V.Row.kept HL.out hbL (fun _ _ ⟨x, hx, hm⟩ => ⟨x, hx, V.Mem.kept m hm hbL⟩)) HSL.out (by omega) HTAB.out
      have HIT : Hid _ := hIT
      clear k1 k2 k3 k4 hfit hE hIT
      go_enter Tryd.func31, Tryd.ntmps31
      go_wp2_with fail
      refine Calls.mono HIT.out ?_
      rintro e w2 ⟨⟨ao, cap, rfl, hown⟩, hb2⟩
      have hB2 := hbL.trans (hb2.mono hbL.size)
      go_wp2_with fail
      have hj := join_own w2 _ ao cap (v.l.map (V.text m)) ⟨#[44, 32]⟩ (by rw [List.length_map]; exact hown) (by show (Lib.join _ [44, 32]).length ≤ _; omega) (by rw [List.length_map]; omega)
      rw [List.length_map] at hj
      refine Calls.mono hj ?_
      rintro e w3 ⟨rfl, hb3⟩
      have hB3 := hB2.trans (hb3.mono hB2.size)
      generalize hj2 : V.str (Lib.join (v.l.map (V.text m)) (V.bl ⟨#[44, 32]⟩)) = t
      have htz : t.size ≤ 80000000 := by rw [← hj2, str_size]; show (Lib.join _ [44, 32]).length ≤ _; omega
      have HJ : Hid _ := hj2
      clear hj hb2 hb3 hB2 hown hj2
      go_wp2_with fail
      go_ret
      refine ⟨ret_val (congrArg Value.string ?_), hB3⟩
      rw [HE.out, ← HJ.out]
      show V.str [91] ++ V.str _ ++ V.str [93] = _
      rw [V.str_append, V.str_append]; rfl
    have g4 : (v.kind == 4) = false := beq_eq_false_iff_ne.2 k4
    by_cases k5 : v.kind = 5
    · have hE : V.text (m + 1) v = 123 :: (Lib.join (v.f.map (fun x => V.bl x.1 ++ ([58, 32] ++ V.text m x.2))) [44, 32] ++ [125]) := by rw [V.text, if_neg k1, if_neg k2, if_neg k3, if_neg k4, if_pos k5]
      have g5 : (v.kind == 5) = true := beq_iff_eq.2 k5
      rw [hE, List.length_cons, List.length_append] at hbd
      have HE : Hid _ := hE
      have hIT := fieldTexts_of m IH (w.alloc (.cells #[.int .i64 v.kind, .int .i64 v.n, .string v.s, .slice al v.l.length cl, .slice af v.f.length cf] 34)) (.slice af v.f.length cf) v.f (V.Row.kept HF.out hbL (fun _ _ ⟨x, c', hx, hc, hm⟩ => ⟨x, c', hx, hc, V.Mem.kept m hm hbL⟩)) HSF.out (by omega) HTAB.out
      have HIT : Hid _ := hIT
      clear k1 k2 k3 k4 k5 hfit hE hIT
      go_enter Tryd.func31, Tryd.ntmps31
      go_wp2_with fail
      refine Calls.mono HIT.out ?_
      rintro e w2 ⟨⟨ao, cap, rfl, hown⟩, hb2⟩
      have hB2 := hbL.trans (hb2.mono hbL.size)
      go_wp2_with fail
      have hj := join_own w2 _ ao cap (v.f.map (fun x => V.bl x.1 ++ ([58, 32] ++ V.text m x.2))) ⟨#[44, 32]⟩ (by rw [List.length_map]; exact hown) (by show (Lib.join _ [44, 32]).length ≤ _; omega) (by rw [List.length_map]; omega)
      rw [List.length_map] at hj
      refine Calls.mono hj ?_
      rintro e w3 ⟨rfl, hb3⟩
      have hB3 := hB2.trans (hb3.mono hB2.size)
      generalize hj2 : V.str (Lib.join (v.f.map (fun x => V.bl x.1 ++ ([58, 32] ++ V.text m x.2))) (V.bl ⟨#[44, 32]⟩)) = t
      have htz : t.size ≤ 80000000 := by rw [← hj2, str_size]; show (Lib.join _ [44, 32]).length ≤ _; omega
      have HJ : Hid _ := hj2
      clear hj hb2 hb3 hB2 hown hj2
      go_wp2_with fail
      go_ret
      refine ⟨ret_val (congrArg Value.string ?_), hB3⟩
      rw [HE.out, ← HJ.out]
      show V.str [123] ++ V.str _ ++ V.str [125] = _
      rw [V.str_append, V.str_append]; rfl
    have g5 : (v.kind == 5) = false := beq_eq_false_iff_ne.2 k5
    have HE : Hid (V.text (m + 1) v = V.nullB) := by show _ = _; rw [V.text, if_neg k1, if_neg k2, if_neg k3, if_neg k4, if_neg k5]
    clear k1 k2 k3 k4 k5 hfit hbd
    go_enter Tryd.func31, Tryd.ntmps31
    go_wp2_with fail
    go_ret
    exact ⟨ret_val (by rw [HE.out]; rfl), hbL⟩
/-- What value.Text returns for a text. -/
def V.textOr (m : Nat) (v : Val) : ByteArray := if V.fault m v = 0 then V.str (V.text m v) else ⟨#[]⟩
theorem V.fault_ok (m : Nat) (v : Val) (h : V.fault m v = 0) : V.shaped m v = true := by
  unfold V.fault at h
  split at h
  · omega
  · split at h
    · assumption
    · omega
set_option maxRecDepth 100000 in
set_option maxHeartbeats 1600000 in
theorem text_any (m : Nat) (w : World) (v : Val) (c0 c1 c2 c3 c4 : Value) (h : V.Mem m w v [c0, c1, c2, c3, c4]) (hbk : V.bulk m v ≤ 2000000) (htab : Lib.TabIs Tryd.prog w "internal/strconv.uint64pow10" .u64 Lib.pow10Tab) :
    Calls Tryd.prog 11 #[.agg #[c0, c1, c2, c3, c4]] w fun e w' => e = .returned (.tuple #[.string (V.textOr m v), V.errOf (V.fault m v)]) ∧ Below w.heap.size w w' := by
  have hbL : Below w.heap.size w (w.alloc (.cells #[c0, c1, c2, c3, c4] 34)) := (Below.refl _ _).alloc (Nat.le_refl _) _
  have hblk0 : (w.alloc (.cells #[c0, c1, c2, c3, c4] 34)).heap[w.heap.size]? = some (.cells #[c0, c1, c2, c3, c4] 34 (0, 0)) := heap_alloc_new _ _
  have HM : Hid _ := h
  have HTAB : Hid _ := htab
  clear h htab
  go_enter Tryd.func11, Tryd.ntmps11
  go_wp2_with fail
  refine (check_any m _ v c0 c1 c2 c3 c4 (V.Mem.kept m HM.out hbL) hbk).mono ?_
  rintro e w1 ⟨rfl, hb1⟩
  have hlt1 : w.heap.size < (w.alloc (.cells #[c0, c1, c2, c3, c4] 34)).heap.size := (Array.getElem?_eq_some_iff.1 hblk0).1
  have hblk1 := (hb1.block w.heap.size hlt1).trans hblk0
  have hB1 := hbL.trans (hb1.mono hbL.size)
  clear hb1 hbL hblk0 hlt1
  have HF : Hid (V.fault m v = 0 → V.shaped m v = true) := V.fault_ok m v
  have HT : Hid (V.textOr m v = if V.fault m v = 0 then V.str (V.text m v) else ⟨#[]⟩) := rfl
  generalize hff : V.fault m v = f
  have HFF : Hid (V.fault m v = f) := hff
  clear hff
  by_cases h0 : f = 0
  · have HS := HF.out (HFF.out.trans h0)
    have HT2 : Hid (V.textOr m v = V.str (V.text m v)) := HT.out.trans (if_pos (HFF.out.trans h0))
    clear HF HT
    subst h0
    have b0 := cell_of_block hblk1 0 _ rfl
    have b1 := cell_of_block hblk1 1 _ rfl
    have b2 := cell_of_block hblk1 2 _ rfl
    have b3 := cell_of_block hblk1 3 _ rfl
    have b4 := cell_of_block hblk1 4 _ rfl
    rw [show V.errOf 0 = .nilIface from rfl]
    go_wp2_with fail
    refine (textOf_any m _ v c0 c1 c2 c3 c4 (V.Mem.kept m HM.out hB1) HS hbk (tab_below HTAB.out hB1)).mono ?_
    rintro e w2 ⟨rfl, hb2⟩
    have hB2 := hB1.trans (hb2.mono hB1.size)
    go_wp2_with fail
    go_ret2
    exact ⟨by rw [HT2.out, HFF.out]; rfl, hB2⟩
  · have hE : V.errOf f = .iface 23 (.int .i64 f) := by rw [V.errOf, if_neg h0]
    have HE : Hid (V.errOf f = .iface 23 (.int .i64 f)) := hE
    have HT2 : Hid (V.textOr m v = ⟨#[]⟩) := HT.out.trans (if_neg (fun h => h0 (HFF.out.symm.trans h)))
    clear HF HT
    rw [hE]
    clear hE
    go_wp2_with fail
    go_ret2
    exact ⟨by rw [HT2.out, HFF.out, HE.out]; rfl, hB1⟩
end Go.Proofs.YtpoebpknjjfddaaDoor
