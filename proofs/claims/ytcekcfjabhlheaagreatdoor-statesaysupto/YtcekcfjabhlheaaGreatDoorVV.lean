/- StateSays: VO V1 VV. -/
import Derived.Test.YtcekcfjabhlheaaGreatDoorVN
import Derived.Test.YtcekcfjabhlheaaGreatDoorVJ
import Derived.Deep.LoopGhost
import Derived.WalkSmall
set_option maxRecDepth 100000
set_option maxHeartbeats 1600000
namespace Go.Proofs.YtcekcfjabhlheaaGreatDoor.Vx
open Go.RowKit
theorem join_own (w : World) (B : Nat) (ao : Option Addr) (cap : Nat) (l : List (List UInt8)) (sep : ByteArray) (h : w.ownsRow B 9 1 (.slice ao l.length cap) l.length (V.strsV l)) (hlen : (Lib.join l (V.bl sep)).length <= 140737488355328) (hl : l.length <= 2000000) :
    Calls Tryz.prog 60 #[.slice ao l.length cap, .string sep] w fun e w' => e = .returned (.string (V.str (Lib.join l (V.bl sep)))) /\ Below w.heap.size w w' := by
  rcases Nat.eq_zero_or_pos l.length with h0 | hpos
  · obtain rfl : l = [] := List.length_eq_zero_iff.1 h0
    refine (sh_strings_Join_none ao cap sep w).mono ?_;rintro e w' ⟨rfl, rfl⟩;exact ⟨rfl, Below.refl _ _⟩
  · rcases h.2 with ⟨hv, h0⟩ | ⟨g, cap', cur, hv, hr⟩
    · omega
    · obtain ⟨rfl, _, rfl⟩ := Value.slice.inj hv
      have e1 : (l.map V.str).map (fun x => x.data.toList) = l := by rw [List.map_map]; conv => rhs; rw [<- List.map_id l]
                                                                     apply List.map_congr_left; intro x _; simp [V.str]
      have hj := sh_strings_Join g 0 cap (l.map V.str) sep w (by
        intro j x hx;rw [Nat.zero_add, h.cellAt j (by rw [<- List.length_map (f := V.str)]; rw [Nat.mul_one]; exact (List.getElem?_eq_some_iff.1 hx).1)];unfold V.strsV;rw [List.getElem?_map] at hx ⊢;rw [Option.map_eq_some_iff] at hx;obtain ⟨y, hy, rfl⟩ := hx;rw [hy]; rfl) (h.lt g rfl).2 (by rw [List.length_map]; omega) (by rw [List.length_map]; exact hr.2.2.1) (by rw [e1]; exact hlen)
      rw [List.length_map, e1] at hj;exact hj
theorem below_grow (w : World) (n : Nat) (os : Array Obj) : Below w.heap.size w (Go.Sort.grow (w.drewN n) os) := by
  refine ⟨rfl, rfl, rfl, by simp [Go.Sort.grow], fun k hk => ?_⟩;show (w.heap ++ os)[k]? = _;exact Array.getElem?_append_left hk
theorem fb_true : Lib.formatBool true = V.trueB := by decide
theorem fb_false : Lib.formatBool false = V.falseB := by decide
theorem join_bound (m : Nat) (v : Val) (h : V.shaped (m + 1) v = true) (hb : V.bulk (m + 1) v <= 2000000) : (V.text (m + 1) v).length <= 80000000 := by
  have := V.text_len (m + 1) v h; omega
theorem textOf_any (m : Nat) : ∀ (w : World) (v : Val) (c0 c1 c2 c3 c4 : Value), V.Mem m w v [c0, c1, c2, c3, c4] -> V.shaped m v = true -> V.bulk m v <= 2000000 -> Lib.TabIs Tryz.prog w "internal/strconv.uint64pow10" .u64 Lib.pow10Tab ->
      Calls Tryz.prog 99 #[.agg #[c0, c1, c2, c3, c4]] w fun e w' => e = .returned (.string (V.str (V.text m v))) /\ Below w.heap.size w w' := by
  induction m with
  | zero => intro w v c0 c1 c2 c3 c4 h; exact h.elim
  | succ m ih =>
    intro w v c0 c1 c2 c3 c4 ⟨lv, fv, hcs, hl, hf⟩ hsh hbk htab;obtain ⟨rfl, rfl, rfl, rfl, rfl⟩ := ij5 hcs;have IH : Hid _ := ih;clear ih;obtain ⟨al, cl, rfl⟩ := hl.shape;obtain ⟨af, cf, rfl⟩ := hf.shape;obtain ⟨bs, bl, bf, bn⟩ := V.bulk_s m v _ hbk;have hbd := join_bound m v hsh hbk;obtain ⟨_, hfit, hsl, hsf⟩ := V.shaped_parts m v hsh;rw [V.bulk] at hbk;have hbL : Below w.heap.size w (w.alloc (.cells #[.int .i64 v.kind, .int .i64 v.n, .string v.s, .slice al v.l.length cl, .slice af v.f.length cf] 61)) := ba;have HL : Hid _ := hl;have HF : Hid _ := hf;have HSL : Hid _ := hsl;have HSF : Hid _ := hsf;have HTAB : Hid _ := tab_below htab hbL;clear hl hf hsl hsf bn htab;by_cases k1 : v.kind = 1
    · have HE : Hid (V.text (m + 1) v = Lib.itoa v.n) := by show _ = _; rw [V.text, if_pos k1]
      rw [k1] at hfit;have hn := V.fits_num _ _ _ hfit;have g1 : (v.kind == 1) = true := beq_iff_eq.2 k1;clear hfit hbd k1;go_enter Tryz.func99, Tryz.ntmps99;go_wp2_with fail;refine (sh_strconv_Itoa v.n (by omega) (by omega) _ HTAB.out).mono ?_;rintro e w2 ⟨rfl, n2, os2, hw2⟩;have hb2 : Below w.heap.size w w2 := by rw [hw2]; exact hbL.trans ((below_grow _ n2 os2).mono hbL.size)
      clear hw2;go_wp2_with fail;go_ret;exact ⟨ret_val (by rw [HE.out]; rfl), hb2⟩
    have g1 : (v.kind == 1) = false := beq_eq_false_iff_ne.2 k1;by_cases k2 : v.kind = 2
    · have HE : Hid (V.text (m + 1) v = V.quote (V.bl v.s)) := by show _ = _; rw [V.text, if_neg k1, if_pos k2]
      have g2 : (v.kind == 2) = true := beq_iff_eq.2 k2;clear k1 k2 hfit hbd;go_enter Tryz.func99, Tryz.ntmps99;go_wp2_with fail;refine (quote_any v.s _ bs).mono ?_;rintro e w2 ⟨rfl, hb2⟩;go_wp2_with fail;go_ret;exact ⟨ret_val (by rw [HE.out]; rfl), hbL.trans (hb2.mono hbL.size)⟩
    have g2 : (v.kind == 2) = false := beq_eq_false_iff_ne.2 k2;by_cases k3 : v.kind = 3
    · have HE : Hid (V.text (m + 1) v = if v.n = 1 then V.trueB else V.falseB) := by show _ = _; rw [V.text, if_neg k1, if_neg k2, if_pos k3]
      have g3 : (v.kind == 3) = true := beq_iff_eq.2 k3;clear k1 k2 k3 hfit hbd;go_enter Tryz.func99, Tryz.ntmps99;go_wp2_with fail;refine (sh_strconv_FormatBool _ _).mono ?_;rintro e w2 ⟨rfl, rfl⟩;go_wp2_with fail;go_ret;refine ⟨ret_val ?_, hbL⟩;rw [HE.out];by_cases h1 : v.n = 1
      · rw [if_pos h1, beq_iff_eq.2 h1, fb_true]; rfl
      · rw [if_neg h1, beq_eq_false_iff_ne.2 h1, fb_false]; rfl
    have g3 : (v.kind == 3) = false := beq_eq_false_iff_ne.2 k3;by_cases k4 : v.kind = 4
    · have hE : V.text (m + 1) v = 91 :: (Lib.join (v.l.map (V.text m)) [44, 32] ++ [93]) := by rw [V.text, if_neg k1, if_neg k2, if_neg k3, if_pos k4]
      have g4 : (v.kind == 4) = true := beq_iff_eq.2 k4;rw [hE, List.length_cons, List.length_append] at hbd;have HE : Hid _ := hE;have hIT := itemTexts_of m IH (w.alloc (.cells #[.int .i64 v.kind, .int .i64 v.n, .string v.s, .slice al v.l.length cl, .slice af v.f.length cf] 61)) (.slice al v.l.length cl) v.l (V.Row.kept HL.out hbL (fun _ _ ⟨x, hx, hm⟩ => ⟨x, hx, V.Mem.kept m hm hbL⟩)) HSL.out (by omega) HTAB.out;have HIT : Hid _ := hIT;clear k1 k2 k3 k4 hfit hE hIT;go_enter Tryz.func99, Tryz.ntmps99;go_wp2_with fail;refine Calls.mono HIT.out ?_;rintro e w2 ⟨⟨ao, cap, rfl, hown⟩, hb2⟩;have hB2 := hbL.trans (hb2.mono hbL.size);go_wp2_with fail;have hj := join_own w2 _ ao cap (v.l.map (V.text m)) ⟨#[44, 32]⟩ (by rw [List.length_map]; exact hown) (by show (Lib.join _ [44, 32]).length <= _; omega) (by rw [List.length_map]; omega);rw [List.length_map] at hj;refine Calls.mono hj ?_;rintro e w3 ⟨rfl, hb3⟩;have hB3 := hB2.trans (hb3.mono hB2.size);generalize hj2 : V.str (Lib.join (v.l.map (V.text m)) (V.bl ⟨#[44, 32]⟩)) = t;have htz : t.size <= 80000000 := by rw [<- hj2, str_size]; show (Lib.join _ [44, 32]).length <= _; omega
      have HJ : Hid _ := hj2;clear hj hb2 hb3 hB2 hown hj2;go_wp2_with fail;go_ret;refine ⟨ret_val (congrArg Value.string ?_), hB3⟩;rw [HE.out, <- HJ.out];show V.str [91] ++ V.str _ ++ V.str [93] = _;rw [V.str_append, V.str_append]; rfl
    have g4 : (v.kind == 4) = false := beq_eq_false_iff_ne.2 k4;by_cases k5 : v.kind = 5
    · have hE : V.text (m + 1) v = 123 :: (Lib.join (v.f.map (fun x => V.bl x.1 ++ ([58, 32] ++ V.text m x.2))) [44, 32] ++ [125]) := by rw [V.text, if_neg k1, if_neg k2, if_neg k3, if_neg k4, if_pos k5]
      have g5 : (v.kind == 5) = true := beq_iff_eq.2 k5;rw [hE, List.length_cons, List.length_append] at hbd;have HE : Hid _ := hE;have hIT := fieldTexts_of m IH (w.alloc (.cells #[.int .i64 v.kind, .int .i64 v.n, .string v.s, .slice al v.l.length cl, .slice af v.f.length cf] 61)) (.slice af v.f.length cf) v.f (V.Row.kept HF.out hbL (fun _ _ ⟨x, c', hx, hc, hm⟩ => ⟨x, c', hx, hc, V.Mem.kept m hm hbL⟩)) HSF.out (by omega) HTAB.out;have HIT : Hid _ := hIT;clear k1 k2 k3 k4 k5 hfit hE hIT;go_enter Tryz.func99, Tryz.ntmps99;go_wp2_with fail;refine Calls.mono HIT.out ?_;rintro e w2 ⟨⟨ao, cap, rfl, hown⟩, hb2⟩;have hB2 := hbL.trans (hb2.mono hbL.size);go_wp2_with fail;have hj := join_own w2 _ ao cap (v.f.map (fun x => V.bl x.1 ++ ([58, 32] ++ V.text m x.2))) ⟨#[44, 32]⟩ (by rw [List.length_map]; exact hown) (by show (Lib.join _ [44, 32]).length <= _; omega) (by rw [List.length_map]; omega);rw [List.length_map] at hj;refine Calls.mono hj ?_;rintro e w3 ⟨rfl, hb3⟩;have hB3 := hB2.trans (hb3.mono hB2.size);generalize hj2 : V.str (Lib.join (v.f.map (fun x => V.bl x.1 ++ ([58, 32] ++ V.text m x.2))) (V.bl ⟨#[44, 32]⟩)) = t;have htz : t.size <= 80000000 := by rw [<- hj2, str_size]; show (Lib.join _ [44, 32]).length <= _; omega
      have HJ : Hid _ := hj2;clear hj hb2 hb3 hB2 hown hj2;go_wp2_with fail;go_ret;refine ⟨ret_val (congrArg Value.string ?_), hB3⟩;rw [HE.out, <- HJ.out];show V.str [123] ++ V.str _ ++ V.str [125] = _;rw [V.str_append, V.str_append]; rfl
    have g5 : (v.kind == 5) = false := beq_eq_false_iff_ne.2 k5;have HE : Hid (V.text (m + 1) v = V.nullB) := by show _ = _; rw [V.text, if_neg k1, if_neg k2, if_neg k3, if_neg k4, if_neg k5]
    clear k1 k2 k3 k4 k5 hfit hbd;go_enter Tryz.func99, Tryz.ntmps99;go_wp2_with fail;go_ret;exact ⟨ret_val (by rw [HE.out]; rfl), hbL⟩
def V.textOr (m : Nat) (v : Val) : ByteArray := if V.fault m v = 0 then V.str (V.text m v) else ⟨#[]⟩
theorem V.fault_ok (m : Nat) (v : Val) (h : V.fault m v = 0) : V.shaped m v = true := by
  unfold V.fault at h;split at h
  · omega
  · split at h
    · assumption
    · omega
theorem text_any (m : Nat) (w : World) (v : Val) (c0 c1 c2 c3 c4 : Value) (h : V.Mem m w v [c0, c1, c2, c3, c4]) (hbk : V.bulk m v <= 2000000) (htab : Lib.TabIs Tryz.prog w "internal/strconv.uint64pow10" .u64 Lib.pow10Tab) :
    Calls Tryz.prog 83 #[.agg #[c0, c1, c2, c3, c4]] w fun e w' => e = .returned (.tuple #[.string (V.textOr m v), V.errOf (V.fault m v)]) /\ Below w.heap.size w w' := by
  have hbL : Below w.heap.size w (w.alloc (.cells #[c0, c1, c2, c3, c4] 61)) := ba;have hblk0 := heap_alloc_new w (.cells #[c0, c1, c2, c3, c4] 61);have HM : Hid _ := h;have HTAB : Hid _ := htab;clear h htab;go_enter Tryz.func83, Tryz.ntmps83;go_wp2_with fail;refine (check_any m _ v c0 c1 c2 c3 c4 (V.Mem.kept m HM.out hbL) hbk).mono ?_;rintro e w1 ⟨rfl, hb1⟩;have hlt1 := blt hblk0;have hblk1 := (hb1.block w.heap.size hlt1).trans hblk0;have hB1 := hbL.trans (hb1.mono hbL.size);clear hb1 hbL hblk0 hlt1;have HF : Hid (V.fault m v = 0 -> V.shaped m v = true) := V.fault_ok m v;have HT : Hid (V.textOr m v = if V.fault m v = 0 then V.str (V.text m v) else ⟨#[]⟩) := rfl;generalize hff : V.fault m v = f;have HFF : Hid (V.fault m v = f) := hff;clear hff;by_cases h0 : f = 0
  · have HS := HF.out (HFF.out.trans h0)
    have HT2 : Hid (V.textOr m v = V.str (V.text m v)) := HT.out.trans (if_pos (HFF.out.trans h0));clear HF HT;subst h0;obtain ⟨b0, b1, b2, b3, b4⟩ := cl5 hblk1;rw [show V.errOf 0 = .nilIface from rfl];go_wp2_with fail;refine (textOf_any m _ v c0 c1 c2 c3 c4 (V.Mem.kept m HM.out hB1) HS hbk (tab_below HTAB.out hB1)).mono ?_;rintro e w2 ⟨rfl, hb2⟩;have hB2 := hB1.trans (hb2.mono hB1.size);go_wp2_with fail;go_ret2;exact ⟨by rw [HT2.out, HFF.out]; rfl, hB2⟩
  · have hE : V.errOf f = .iface 54 (.int .i64 f) := by rw [V.errOf, if_neg h0]
    have HE : Hid (V.errOf f = .iface 54 (.int .i64 f)) := hE;have HT2 : Hid (V.textOr m v = ⟨#[]⟩) := HT.out.trans (if_neg (fun h => h0 (HFF.out.symm.trans h)));clear HF HT;rw [hE];clear hE;go_wp2_with fail;go_ret2;exact ⟨by rw [HT2.out, HFF.out, HE.out]; rfl, hB1⟩
structure Sub (w w' : World) : Prop where
 cell : ∀ {a : Addr} {v : Value}, w.cell? a = some v -> w'.cell? a = some v
 size : w.heap.size <= w'.heap.size
theorem Sub.of_below {w w' : World} (h : Below w.heap.size w w') : Sub w w' := ⟨fun hc => kept_cell h hc, h.size⟩
theorem Sub.trans {w w1 w2 : World} (h : Sub w w1) (h2 : Sub w1 w2) : Sub w w2 := ⟨fun hc => h2.cell (h.cell hc), Nat.le_trans h.size h2.size⟩
theorem Sub.below {w w1 w2 : World} (h : Sub w w1) (h2 : Below w1.heap.size w1 w2) : Sub w w2 := h.trans (Sub.of_below h2)
theorem Sub.setCell {w w1 : World} (h : Sub w w1) {p : Addr} (hp : w.heap.size <= p.block) (u : Value) : Sub w (w1.setCell p u) := by
 refine ⟨fun {a} {v} hc => ?_, by simpa using h.size⟩;have hlt := World.block_lt_of_cell? w _ hc;have hne : a.block ≠ p.block := by omega
 have h1 := h.cell hc;have hb := Below.heap_setCell w1 p u a.block hne;unfold World.cell? at h1 ⊢;rw [hb];exact h1
theorem Sub.grown {w w1 w2 : World} (h : Sub w w1) {row : Option Nat} (hg : w1.grownBy w2 row) (hr : ∀ c, row = some c -> w.heap.size <= c) : Sub w w2 := by
 refine ⟨fun {a} {v} hc => ?_, Nat.le_trans h.size hg.size⟩;have hlt := World.block_lt_of_cell? w _ hc;have h1 := h.cell hc;have hlt1 := World.block_lt_of_cell? w1 _ h1;have hb := hg.block a.block hlt1 (fun e => by have := hr _ e.symm; omega);unfold World.cell? at h1 ⊢;rw [hb];exact h1
namespace V
theorem Row.sub {w w' : World} {v : Value} {n sz : Nat} {P Q : Nat -> List Value -> Prop} (h : Row w v n sz P) (hb : Sub w w') (hPQ : ∀ i c, P i c -> Q i c) : Row w' v n sz Q := by
 obtain ⟨ao, cap, rfl, h⟩ := h;refine ⟨ao, cap, rfl, ?_⟩;rcases h with h | ⟨b, off, rfl, h⟩
 ·exact .inl h
 ·refine .inr ⟨b, off, rfl, fun i hi => ?_⟩;obtain ⟨cs, h1, h2, h3⟩ := h i hi;refine ⟨cs, h1, fun j hj => ?_, hPQ i cs h3⟩;rw [<- h2 j hj];have hc : ∃ u, w.cell? ⟨b, off + i * sz + j, none⟩ = some u := by
   rw [h2 j hj]; exact ⟨_, List.getElem?_eq_getElem (by omega)⟩
  obtain ⟨u, hu⟩ := hc;rw [hu, hb.cell hu]
theorem Mem.sub : ∀ (m : Nat) {w w' : World} {v : Val} {cs : List Value}, Mem m w v cs -> Sub w w' -> Mem m w' v cs
 | 0, _, _, _, _, h, _ => h.elim
 | m + 1, _, _, _, _, ⟨lv, fv, h1, h2, h3⟩, hb =>
  ⟨lv, fv, h1, h2.sub hb (fun _ _ ⟨x, hx, hm⟩ => ⟨x, hx, Mem.sub m hm hb⟩), h3.sub hb (fun _ _ ⟨x, c', hx, hc, hm⟩ => ⟨x, c', hx, hc, Mem.sub m hm hb⟩)⟩
end V
namespace V
def Kind (w : World) (b : Nat) (t : TypeId) : Prop := ∃ cs, w.heap[b]? = some (.cells cs t (0, 0))
def Place (w : World) (b o : Nat) : Prop := (Kind w b 61 /\ o % 5 = 0) \/ (Kind w b 68 /\ o % 6 = 1)
def OldL (w0 : World) (m : Nat) (lv : Value) (l : List Val) : Prop := Row w0 lv l.length 5 (fun i c => ∃ x, l[i]? = some x /\ Mem m w0 x c)
def OldF (w0 : World) (m : Nat) (fv : Value) (l : List (ByteArray × Val)) : Prop := Row w0 fv l.length 6 (fun i c => ∃ x c', l[i]? = some x /\ c = .string x.1 :: c' /\ Mem m w0 x.2 c')
def NewL (N : Val -> Nat -> Nat -> Prop) (lv : Value) (l : List Val) : Prop := ∃ ao cap, lv = .slice ao l.length cap /\ (l.length = 0 \/ ∃ h, ao = some ⟨h, 0, none⟩ /\ ∀ i y, l[i]? = some y -> N y h (i * 5))
def NewF (w : World) (N : Val -> Nat -> Nat -> Prop) (fv : Value) (l : List (ByteArray × Val)) : Prop := ∃ ao cap, fv = .slice ao l.length cap /\ (l.length = 0 \/ ∃ h, ao = some ⟨h, 0, none⟩ /\ Kind w h 68 /\ ∀ (i : Nat) (y : ByteArray × Val), l[i]? = some y -> w.cell? ⟨h, i * 6, none⟩ = some (.string y.1) /\ N y.2 h (i * 6 + 1))
def Core (w0 w : World) (m : Nat) (N : Val -> Nat -> Nat -> Prop) (x : Val) (b o : Nat) : Prop :=
 w.cell? ⟨b, o, none⟩ = some (.int .i64 x.kind) /\ w.cell? ⟨b, o + 1, none⟩ = some (.int .i64 x.n) /\ w.cell? ⟨b, o + 2, none⟩ = some (.string x.s) /\
   (∃ lv, w.cell? ⟨b, o + 3, none⟩ = some lv /\ (OldL w0 m lv x.l \/ NewL N lv x.l)) /\ (∃ fv, w.cell? ⟨b, o + 4, none⟩ = some fv /\ (OldF w0 m fv x.f \/ NewF w N fv x.f))
def Nw (w0 : World) (Bs S : Nat) : Nat -> World -> Val -> Nat -> Nat -> Prop
 | 0, _, _, _, _ => False
 | m + 1, w, x, b, o => (Bs <= b /\ b ≠ S) /\ Place w b o /\ Core w0 w m (Nw w0 Bs S m w) x b o
theorem NewL.imp {N N' : Val -> Nat -> Nat -> Prop} {lv : Value} {l : List Val} (h : NewL N lv l) (hN : ∀ x b o, N x b o -> N' x b o) : NewL N' lv l := by
 obtain ⟨ao, cap, e, h⟩ := h;refine ⟨ao, cap, e, ?_⟩;rcases h with h | ⟨g, e2, h⟩
 ·exact .inl h
 ·exact .inr ⟨g, e2, fun i y hy => hN _ _ _ (h i y hy)⟩
theorem NewF.imp {w w' : World} {N N' : Val -> Nat -> Nat -> Prop} {lv : Value} {l : List (ByteArray × Val)} (h : NewF w N lv l) (hN : ∀ x b o, N x b o -> N' x b o) (hk : ∀ b, Kind w b 68 -> Kind w' b 68) (hc : ∀ (b i : Nat) (u : Value), Kind w b 68 -> w.cell? ⟨b, i * 6, none⟩ = some u -> w'.cell? ⟨b, i * 6, none⟩ = some u) : NewF w' N' lv l := by
 obtain ⟨ao, cap, e, h⟩ := h;refine ⟨ao, cap, e, ?_⟩;rcases h with h | ⟨g, e2, hkk, h⟩
 ·exact .inl h
 ·exact .inr ⟨g, e2, hk g hkk, fun i y hy => ⟨hc g i _ hkk (h i y hy).1, hN _ _ _ (h i y hy).2⟩⟩
theorem Nw.up (w0 : World) (Bs S : Nat) : ∀ (m : Nat) {w : World} {x : Val} {b o : Nat}, Nw w0 Bs S m w x b o -> Nw w0 Bs S (m + 1) w x b o
 | 0, _, _, _, _, h => h.elim
 | m + 1, w, x, b, o, ⟨hb, hp, h0, h1, h2, ⟨lv, hl, hL⟩, ⟨fv, hf, hF⟩⟩ => by
  refine ⟨hb, hp, h0, h1, h2, ⟨lv, hl, ?_⟩, ⟨fv, hf, ?_⟩⟩
  ·rcases hL with h | h
   ·exact .inl (Row.imp h (fun _ _ ⟨x, hx, hm⟩ => ⟨x, hx, Mem.up m hm⟩))
   ·exact .inr (h.imp (fun _ _ _ hn => Nw.up w0 Bs S m hn))
  ·rcases hF with h | h
   ·exact .inl (Row.imp h (fun _ _ ⟨x, c', hx, hc, hm⟩ => ⟨x, c', hx, hc, Mem.up m hm⟩))
   ·exact .inr (h.imp (fun _ _ _ hn => Nw.up w0 Bs S m hn) (fun _ h => h) (fun _ _ _ _ h => h))
theorem Nw.at (w0 : World) (Bs S : Nat) : ∀ (m : Nat) {w : World} {x : Val} {b o : Nat}, Nw w0 Bs S m w x b o -> Sub w0 w -> At m w x b o
 | 0, _, _, _, _, h, _ => h.elim
 | m + 1, w, x, b, o, ⟨hb, hp, h0, h1, h2, ⟨lv, hl, hL⟩, ⟨fv, hf, hF⟩⟩, hw => by
  refine ⟨_, _, _, lv, fv, ⟨lv, fv, rfl, ?_, ?_⟩, h0, h1, h2, hl, hf⟩
  ·rcases hL with h | ⟨ao, cap, rfl, h⟩
   ·exact Row.sub h hw (fun _ _ ⟨x, hx, hm⟩ => ⟨x, hx, Mem.sub m hm hw⟩)
   ·refine ⟨ao, cap, rfl, ?_⟩;rcases h with h | ⟨g, rfl, h⟩
    ·exact .inl h
    ·refine .inr ⟨g, 0, rfl, fun i hi => ?_⟩;obtain ⟨c0, c1, c2, c3, c4, hm, p0, p1, p2, p3, p4⟩ := Nw.at w0 Bs S m (h i _ (List.getElem?_eq_getElem hi)) hw;refine ⟨[c0, c1, c2, c3, c4], rfl, fun j hj => ?_, _, List.getElem?_eq_getElem hi, hm⟩;rw [Nat.zero_add]
     match j, hj with
     | 0, _ => exact p0
     | 1, _ => exact p1
     | 2, _ => exact p2
     | 3, _ => exact p3
     | 4, _ => exact p4
  ·rcases hF with h | ⟨ao, cap, rfl, h⟩
   ·exact Row.sub h hw (fun _ _ ⟨x, c', hx, hc, hm⟩ => ⟨x, c', hx, hc, Mem.sub m hm hw⟩)
   ·refine ⟨ao, cap, rfl, ?_⟩;rcases h with h | ⟨g, rfl, _, h⟩
    ·exact .inl h
    ·refine .inr ⟨g, 0, rfl, fun i hi => ?_⟩;have hh := h i _ (List.getElem?_eq_getElem hi);obtain ⟨c0, c1, c2, c3, c4, hm, p0, p1, p2, p3, p4⟩ := Nw.at w0 Bs S m hh.2 hw;refine ⟨[.string x.f[i].1, c0, c1, c2, c3, c4], rfl, fun j hj => ?_, _, _, List.getElem?_eq_getElem hi, rfl, hm⟩;rw [Nat.zero_add]
     match j, hj with
     | 0, _ => exact hh.1
     | 1, _ => exact p0
     | 2, _ => exact p1
     | 3, _ => exact p2
     | 4, _ => exact p3
     | 5, _ => exact p4
theorem Nw.turn (w0 : World) (Bs S : Nat) {w w' : World} (hk : ∀ b t, t = 61 \/ t = 68 -> Kind w b t -> Kind w' b t) (hn : ∀ (b i : Nat) (u : Value), Kind w b 68 -> w.cell? ⟨b, i * 6, none⟩ = some u -> w'.cell? ⟨b, i * 6, none⟩ = some u)
  (hc : ∀ (b o j : Nat) (u : Value), Place w b o -> j <= 2 -> w.cell? ⟨b, o + j, none⟩ = some u -> w'.cell? ⟨b, o + j, none⟩ = some u)
  (hL : ∀ (b o m : Nat) (lv : Value) (l : List Val), Place w b o -> w.cell? ⟨b, o + 3, none⟩ = some lv -> (OldL w0 m lv l \/ NewL (Nw w0 Bs S m w) lv l) -> ∃ lv', w'.cell? ⟨b, o + 3, none⟩ = some lv' /\ (OldL w0 m lv' l \/ NewL (Nw w0 Bs S m w) lv' l))
  (hF : ∀ (b o m : Nat) (lv : Value) (l : List (ByteArray × Val)), Place w b o -> w.cell? ⟨b, o + 4, none⟩ = some lv -> (OldF w0 m lv l \/ NewF w (Nw w0 Bs S m w) lv l) -> ∃ lv', w'.cell? ⟨b, o + 4, none⟩ = some lv' /\ (OldF w0 m lv' l \/ NewF w (Nw w0 Bs S m w) lv' l)) :
  ∀ (m : Nat) {x : Val} {b o : Nat}, Nw w0 Bs S m w x b o -> Nw w0 Bs S m w' x b o
 | 0, _, _, _, h => h.elim
 | m + 1, x, b, o, ⟨hb, hp, h0, h1, h2, ⟨lv, hl, hL1⟩, ⟨fv, hf, hF1⟩⟩ => by
  have ih := @Nw.turn w0 Bs S w w' hk hn hc hL hF m;refine ⟨hb, ?_, hc b o 0 _ hp (by omega) h0, hc b o 1 _ hp (by omega) h1, hc b o 2 _ hp (by omega) h2, ?_, ?_⟩
  ·rcases hp with ⟨h, e⟩ | ⟨h, e⟩
   ·exact .inl ⟨hk _ _ (.inl rfl) h, e⟩
   ·exact .inr ⟨hk _ _ (.inr rfl) h, e⟩
  ·obtain ⟨lv', h3, h4⟩ := hL b o m lv x.l hp hl hL1;refine ⟨lv', h3, h4.imp id (fun h => h.imp (fun _ _ _ q => ih q))⟩
  ·obtain ⟨lv', h3, h4⟩ := hF b o m fv x.f hp hf hF1;refine ⟨lv', h3, h4.imp id (fun h => h.imp (fun _ _ _ q => ih q) (fun b h => hk b 68 (.inr rfl) h) hn)⟩
theorem Nw.kept (w0 : World) (Bs S : Nat) {w w' : World} (hw : ∀ c, c < w.heap.size -> w'.heap[c]? = w.heap[c]?) (m : Nat) {x : Val} {b o : Nat} (h : Nw w0 Bs S m w x b o) : Nw w0 Bs S m w' x b o := by
 have hc : ∀ (c j : Nat) (u : Value), w.cell? ⟨c, j, none⟩ = some u -> w'.cell? ⟨c, j, none⟩ = some u := fun c j u h => by
  have hlt := World.block_lt_of_cell? w _ h;have e := hw c hlt;unfold World.cell? at h ⊢;simp only at h ⊢;rw [e]; exact h
 refine Nw.turn w0 Bs S (fun b t _ ⟨cs, h⟩ => ⟨cs, by rw [hw b (blt h)]; exact h⟩) (fun b i u _ h => hc _ _ _ h) (fun b o j u _ _ h => hc _ _ _ h) (fun b o m lv l _ h1 h2 => ⟨lv, hc _ _ _ h1, h2⟩) (fun b o m lv l _ h1 h2 => ⟨lv, hc _ _ _ h1, h2⟩) m h
theorem rep_formL {w0 : World} {m : Nat} {N : Val -> Nat -> Nat -> Prop} {lv : Value} {l : List Val} (h : OldL w0 m lv l \/ NewL N lv l) : ∃ ao cap, lv = .slice ao l.length cap := by
 rcases h with ⟨ao, cap, h, _⟩ | ⟨ao, cap, h, _⟩
 ·exact ⟨ao, cap, h⟩
 ·exact ⟨ao, cap, h⟩
theorem rep_formF {w0 w : World} {m : Nat} {N : Val -> Nat -> Nat -> Prop} {lv : Value} {l : List (ByteArray × Val)} (h : OldF w0 m lv l \/ NewF w N lv l) : ∃ ao cap, lv = .slice ao l.length cap := by
 rcases h with ⟨ao, cap, h, _⟩ | ⟨ao, cap, h, _⟩
 ·exact ⟨ao, cap, h⟩
 ·exact ⟨ao, cap, h⟩
theorem Core.move {w0 w : World} {m : Nat} {N : Val -> Nat -> Nat -> Prop} {x : Val} {b o b' o' : Nat} (h : Core w0 w m N x b o) (hc : ∀ j, j < 5 -> w.cell? ⟨b', o' + j, none⟩ = w.cell? ⟨b, o + j, none⟩) : Core w0 w m N x b' o' := by
 obtain ⟨h0, h1, h2, ⟨lv, hl, hL⟩, ⟨fv, hf, hF⟩⟩ := h;exact ⟨(hc 0 (by omega)).trans h0, (hc 1 (by omega)).trans h1, (hc 2 (by omega)).trans h2, ⟨lv, (hc 3 (by omega)).trans hl, hL⟩, ⟨fv, (hc 4 (by omega)).trans hf, hF⟩⟩
theorem Core.old {w0 w : World} {m : Nat} (N : Val -> Nat -> Nat -> Prop) {x : Val} {b o : Nat} {cs : List Value} (h : Mem (m + 1) w0 x cs) (hc : ∀ j, j < 5 -> w.cell? ⟨b, o + j, none⟩ = cs[j]?) : Core w0 w m N x b o := by
 obtain ⟨lv, fv, rfl, hl, hf⟩ := h;exact ⟨hc 0 (by omega), hc 1 (by omega), hc 2 (by omega), ⟨lv, hc 3 (by omega), .inl hl⟩, ⟨fv, hc 4 (by omega), .inl hf⟩⟩
theorem rep_coreL {w0 w : World} {Bs S : Nat} (hw : Sub w0 w) {m : Nat} {p off n cap : Nat} {l : List Val} (h : OldL w0 (m + 1) (.slice (some ⟨p, off, none⟩) n cap) l \/ NewL (Nw w0 Bs S (m + 1) w) (.slice (some ⟨p, off, none⟩) n cap) l) (i : Nat) (y : Val) (hy : l[i]? = some y) :
  Core w0 w m (Nw w0 Bs S m w) y p (off + i * 5) := by
 have hi := lt_of_get hy;rcases h with ⟨ao, cp, e, h⟩ | ⟨ao, cp, e, h⟩
 ·simp only [Value.slice.injEq] at e;obtain ⟨rfl, rfl, rfl⟩ := e;rcases h with h | ⟨b, o, e, h⟩
  ·omega
  ·simp only [Option.some.injEq, Addr.mk.injEq, and_true] at e;obtain ⟨rfl, rfl⟩ := e;obtain ⟨cs, hl, hc, z, hz, hm⟩ := h i hi;rw [hy] at hz; cases hz;refine Core.old _ hm (fun j hj => ?_);have : ∃ u, w0.cell? ⟨p, off + i * 5 + j, none⟩ = some u := by rw [hc j hj]; exact ⟨_, List.getElem?_eq_getElem (by omega)⟩
   obtain ⟨u, hu⟩ := this;rw [hw.cell hu, <- hc j hj, hu]
 ·simp only [Value.slice.injEq] at e;obtain ⟨rfl, rfl, rfl⟩ := e;rcases h with h | ⟨g, e, h⟩
  ·omega
  ·simp only [Option.some.injEq, Addr.mk.injEq, and_true] at e;obtain ⟨rfl, rfl⟩ := e;rw [Nat.zero_add];exact (h i y hy).2.2
theorem rep_coreF {w0 w : World} {Bs S : Nat} (hw : Sub w0 w) {m : Nat} {p off n cap : Nat} {l : List (ByteArray × Val)} (h : OldF w0 (m + 1) (.slice (some ⟨p, off, none⟩) n cap) l \/ NewF w (Nw w0 Bs S (m + 1) w) (.slice (some ⟨p, off, none⟩) n cap) l) (i : Nat) (y : ByteArray × Val) (hy : l[i]? = some y) :
  w.cell? ⟨p, off + i * 6, none⟩ = some (.string y.1) /\ Core w0 w m (Nw w0 Bs S m w) y.2 p (off + i * 6 + 1) := by
 have hi := lt_of_get hy;rcases h with ⟨ao, cp, e, h⟩ | ⟨ao, cp, e, h⟩
 ·simp only [Value.slice.injEq] at e;obtain ⟨rfl, rfl, rfl⟩ := e;rcases h with h | ⟨b, o, e, h⟩
  ·omega
  ·simp only [Option.some.injEq, Addr.mk.injEq, and_true] at e;obtain ⟨rfl, rfl⟩ := e;obtain ⟨cs, hl, hc, z, c', hz, hcc, hm⟩ := h i hi;rw [hy] at hz; cases hz;subst hcc;have hk : ∀ j, j < 6 -> w.cell? ⟨p, off + i * 6 + j, none⟩ = (Value.string y.1 :: c')[j]? := fun j hj => by
    have : ∃ u, w0.cell? ⟨p, off + i * 6 + j, none⟩ = some u := by rw [hc j hj]; exact ⟨_, List.getElem?_eq_getElem (by omega)⟩
    obtain ⟨u, hu⟩ := this;rw [hw.cell hu, <- hc j hj, hu]
   refine ⟨hk 0 (by omega), Core.old _ hm (fun j hj => ?_)⟩;have := hk (j + 1) (by omega);rw [show off + i * 6 + 1 + j = off + i * 6 + (j + 1) by omega, this]; rfl
 ·simp only [Value.slice.injEq] at e;obtain ⟨rfl, rfl, rfl⟩ := e;rcases h with h | ⟨g, e, _, h⟩
  ·omega
  ·simp only [Option.some.injEq, Addr.mk.injEq, and_true] at e;obtain ⟨rfl, rfl⟩ := e;rw [Nat.zero_add];exact ⟨(h i y hy).1, (h i y hy).2.2.2⟩
theorem copyL {w0 w : World} {Bs S : Nat} (hw : Sub w0 w) {p off n cap h cap' : Nat} (hh : Bs <= h /\ h ≠ S) (hk : Kind w h 61) (hc : ∀ j, j < n * 5 -> w.cell? ⟨h, j, none⟩ = w.cell? ⟨p, off + j, none⟩) (m : Nat) (l : List Val)
  (hr : OldL w0 m (.slice (some ⟨p, off, none⟩) n cap) l \/ NewL (Nw w0 Bs S m w) (.slice (some ⟨p, off, none⟩) n cap) l) : NewL (Nw w0 Bs S m w) (.slice (some ⟨h, 0, none⟩) n cap') l := by
 obtain ⟨ao, cp, e⟩ := rep_formL hr;simp only [Value.slice.injEq] at e;obtain ⟨rfl, rfl, rfl⟩ := e;refine ⟨_, _, rfl, ?_⟩;rcases Nat.eq_zero_or_pos l.length with h0 | hpos
 ·exact .inl h0
 ·refine .inr ⟨h, rfl, fun i y hy => ?_⟩;have hi := lt_of_get hy;cases m with
  | zero =>
   exfalso;rcases hr with ⟨ao, cp, e, hr⟩ | ⟨ao, cp, e, hr⟩
   ·rcases hr with hr | ⟨b, o, _, hr⟩
    ·omega
    ·obtain ⟨_, _, _, z, _, hm⟩ := hr i hi; exact hm
   ·rcases hr with hr | ⟨g, _, hr⟩
    ·omega
    ·exact hr i y hy
  | succ m =>
   refine ⟨hh, .inl ⟨hk, by omega⟩, (rep_coreL hw hr i y hy).move (fun j hj => ?_)⟩;rw [hc (i * 5 + j) (by omega), show off + i * 5 + j = off + (i * 5 + j) by omega]
theorem copyF {w0 w : World} {Bs S : Nat} (hw : Sub w0 w) {p off n cap h cap' : Nat} (hh : Bs <= h /\ h ≠ S) (hk : Kind w h 68) (hc : ∀ j, j < n * 6 -> w.cell? ⟨h, j, none⟩ = w.cell? ⟨p, off + j, none⟩) (m : Nat) (l : List (ByteArray × Val))
  (hr : OldF w0 m (.slice (some ⟨p, off, none⟩) n cap) l \/ NewF w (Nw w0 Bs S m w) (.slice (some ⟨p, off, none⟩) n cap) l) : NewF w (Nw w0 Bs S m w) (.slice (some ⟨h, 0, none⟩) n cap') l := by
 obtain ⟨ao, cp, e⟩ := rep_formF hr;simp only [Value.slice.injEq] at e;obtain ⟨rfl, rfl, rfl⟩ := e;refine ⟨_, _, rfl, ?_⟩;rcases Nat.eq_zero_or_pos l.length with h0 | hpos
 ·exact .inl h0
 ·refine .inr ⟨h, rfl, hk, fun i y hy => ?_⟩;have hi := lt_of_get hy;cases m with
  | zero =>
   exfalso;rcases hr with ⟨ao, cp, e, hr⟩ | ⟨ao, cp, e, hr⟩
   ·rcases hr with hr | ⟨b, o, _, hr⟩
    ·omega
    ·obtain ⟨_, _, _, z, _, _, _, hm⟩ := hr i hi; exact hm
   ·rcases hr with hr | ⟨g, _, _, hr⟩
    ·omega
    ·exact (hr i y hy).2
  | succ m =>
   have hcr := rep_coreF hw hr i y hy;refine ⟨?_, hh, .inr ⟨hk, by omega⟩, hcr.2.move (fun j hj => ?_)⟩
   ·rw [hc (i * 6) (by omega)]; exact hcr.1
   ·rw [show i * 6 + 1 + j = i * 6 + (1 + j) by omega, hc (i * 6 + (1 + j)) (by omega), show off + i * 6 + 1 + j = off + (i * 6 + (1 + j)) by omega]
theorem Kind.one {w : World} {b : Nat} (h1 : Kind w b 61) (h2 : Kind w b 68) : False := by
 obtain ⟨c1, h1⟩ := h1; obtain ⟨c2, h2⟩ := h2;rw [h1] at h2;simp at h2
theorem Kind.set {w : World} {b : Nat} {t : TypeId} (p : Addr) (v : Value) (h : Kind w b t) : Kind (w.setCell p v) b t := by
 obtain ⟨cs, h⟩ := h;by_cases hb : b = p.block
 ·subst hb;cases hs : p.spot with
  | none =>
   have := block_set (i := p.off) h v;rw [show (⟨p.block, p.off, none⟩ : Addr) = p by cases p; simp_all] at this;exact ⟨_, this⟩
  | some s =>
   refine ⟨cs, ?_⟩;unfold World.setCell;simp only [Array.getElem?_modify, h, if_true, Option.map_some, hs, Option.isSome_some]
 ·exact ⟨cs, by rw [heap_setCell_other w p b v hb]; exact h⟩
theorem place_apart {w : World} {b o b2 o2 j : Nat} (h1 : Place w b o) (h2 : Place w b2 o2) (hj : j < 5) (k : Nat) (hk : k < 5) (hne : j ≠ k) : (⟨b, o + k, none⟩ : Addr) ≠ ⟨b2, o2 + j, none⟩ := by
 intro h;simp only [Addr.mk.injEq, and_true] at h;obtain ⟨rfl, h⟩ := h;rcases h1 with ⟨k1, e1⟩ | ⟨k1, e1⟩ <;> rcases h2 with ⟨k2, e2⟩ | ⟨k2, e2⟩
 ·omega
 ·exact k1.one k2
 ·exact k2.one k1
 ·omega
theorem name_apart {w : World} {b o b2 i : Nat} (h1 : Place w b o) (h2 : Kind w b2 68) (k : Nat) (hk : k < 5) : (⟨b, o + k, none⟩ : Addr) ≠ ⟨b2, i * 6, none⟩ := by
 intro h;simp only [Addr.mk.injEq, and_true] at h;obtain ⟨rfl, h⟩ := h;rcases h1 with ⟨k1, e1⟩ | ⟨k1, e1⟩
 ·exact k1.one h2
 ·omega
theorem set_other {w : World} {a b : Addr} {v u : Value} (h : a ≠ b) (hu : w.cell? b = some u) : (w.setCell a v).cell? b = some u := by
 rw [World.cell?_setCell_other]
 ·exact hu
 ·exact h
theorem set_same {w : World} {a : Addr} {v u : Value} (h : w.cell? a = some u) : (w.setCell a v).cell? a = some v := by
 apply World.cell?_setCell_same;exact h
theorem Nw.setL {w0 w : World} {Bs S : Nat} {b o : Nat} {lv lv' : Value} (hp : Place w b o) (hcell : w.cell? ⟨b, o + 3, none⟩ = some lv) (hcopy : ∀ (m : Nat) (l : List Val), (OldL w0 m lv l \/ NewL (Nw w0 Bs S m w) lv l) -> (OldL w0 m lv' l \/ NewL (Nw w0 Bs S m w) lv' l))
  (m : Nat) {x : Val} {b2 o2 : Nat} (h : Nw w0 Bs S m w x b2 o2) : Nw w0 Bs S m (w.setCell ⟨b, o + 3, none⟩ lv') x b2 o2 := by
 refine Nw.turn w0 Bs S (fun _ _ _ h => h.set _ _) (fun b2 i u hk hu => ?_) (fun b2 o2 j u hp2 hj hu => ?_) (fun b2 o2 m lv2 l hp2 hu hr => ?_) (fun b2 o2 m lv2 l hp2 hu hr => ⟨lv2, ?_, hr⟩) m h
 ·exact set_other (name_apart hp hk 3 (by omega)) hu
 ·exact set_other (place_apart (j := j) hp hp2 (by omega) 3 (by omega) (by omega)) hu
 ·by_cases he : (⟨b, o + 3, none⟩ : Addr) = ⟨b2, o2 + 3, none⟩
  ·rw [<- he] at hu ⊢;rw [hcell] at hu; cases hu;exact ⟨lv', set_same hcell, hcopy m l hr⟩
  ·exact ⟨lv2, set_other he hu, hr⟩
 ·exact set_other (place_apart (j := 4) hp hp2 (by omega) 3 (by omega) (by omega)) hu
theorem Nw.setF {w0 w : World} {Bs S : Nat} {b o : Nat} {lv lv' : Value} (hp : Place w b o) (hcell : w.cell? ⟨b, o + 4, none⟩ = some lv) (hcopy : ∀ (m : Nat) (l : List (ByteArray × Val)), (OldF w0 m lv l \/ NewF w (Nw w0 Bs S m w) lv l) -> (OldF w0 m lv' l \/ NewF w (Nw w0 Bs S m w) lv' l))
  (m : Nat) {x : Val} {b2 o2 : Nat} (h : Nw w0 Bs S m w x b2 o2) : Nw w0 Bs S m (w.setCell ⟨b, o + 4, none⟩ lv') x b2 o2 := by
 refine Nw.turn w0 Bs S (fun _ _ _ h => h.set _ _) (fun b2 i u hk hu => ?_) (fun b2 o2 j u hp2 hj hu => ?_) (fun b2 o2 m lv2 l hp2 hu hr => ⟨lv2, ?_, hr⟩) (fun b2 o2 m lv2 l hp2 hu hr => ?_) m h
 ·exact set_other (name_apart hp hk 4 (by omega)) hu
 ·exact set_other (place_apart (j := j) hp hp2 (by omega) 4 (by omega) (by omega)) hu
 ·exact set_other (place_apart (j := 3) hp hp2 (by omega) 4 (by omega) (by omega)) hu
 ·by_cases he : (⟨b, o + 4, none⟩ : Addr) = ⟨b2, o2 + 4, none⟩
  ·rw [<- he] at hu ⊢;rw [hcell] at hu; cases hu;exact ⟨lv', set_same hcell, hcopy m l hr⟩
  ·exact ⟨lv2, set_other he hu, hr⟩
theorem Nw.apart (w0 : World) (Bs S : Nat) {w w' : World} (hw : ∀ c, Bs <= c /\ c ≠ S -> w'.heap[c]? = w.heap[c]?) : ∀ (m : Nat) {x : Val} {b o : Nat}, Nw w0 Bs S m w x b o -> Nw w0 Bs S m w' x b o
 | 0, _, _, _, h => h.elim
 | m + 1, x, b, o, ⟨hb, hp, h0, h1, h2, ⟨lv, hl, hL⟩, ⟨fv, hf, hF⟩⟩ => by
  have ih := @Nw.apart w0 Bs S w w' hw m;have hc : ∀ (c j : Nat) (u : Value), Bs <= c /\ c ≠ S -> w.cell? ⟨c, j, none⟩ = some u -> w'.cell? ⟨c, j, none⟩ = some u := fun c j u hn h => by
   have e := hw c hn;unfold World.cell? at h ⊢;simp only at h ⊢;rw [e]; exact h
  have hk : ∀ c t, Bs <= c /\ c ≠ S -> Kind w c t -> Kind w' c t := fun c t hn ⟨cs, h⟩ => ⟨cs, by rw [hw c hn]; exact h⟩
  refine ⟨hb, ?_, hc _ _ _ hb h0, hc _ _ _ hb h1, hc _ _ _ hb h2, ⟨lv, hc _ _ _ hb hl, hL.imp id (fun h => h.imp (fun _ _ _ q => ih q))⟩, ⟨fv, hc _ _ _ hb hf, ?_⟩⟩
  ·rcases hp with ⟨h, e⟩ | ⟨h, e⟩
   ·exact .inl ⟨hk _ _ hb h, e⟩
   ·exact .inr ⟨hk _ _ hb h, e⟩
  ·rcases hF with h | ⟨ao, cap, e, h⟩
   ·exact .inl h
   ·refine .inr ⟨ao, cap, e, ?_⟩;rcases Nat.eq_zero_or_pos x.f.length with h0 | hpos
    ·exact .inl h0
    rcases h with h | ⟨g, e2, hkk, h⟩
    ·exact .inl h
    ·have hg : Bs <= g /\ g ≠ S := by
      have := (h 0 _ (List.getElem?_eq_getElem hpos)).2;cases m with
      | zero => exact this.elim
      | succ m => exact this.1
     exact .inr ⟨g, e2, hk g 68 hg hkk, fun i y hy => ⟨hc _ _ _ hg (h i y hy).1, ih (h i y hy).2⟩⟩
end V
end Go.Proofs.YtcekcfjabhlheaaGreatDoor.Vx
