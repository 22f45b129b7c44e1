/- StateSays: TB. -/
import Derived.Test.YtcekcfjabhlheaaGreatDoorTG
import Derived.Test.YtcekcfjabhlheaaGreatDoorVV
set_option maxRecDepth 100000
set_option maxHeartbeats 3200000
namespace Go.Proofs.YtcekcfjabhlheaaGreatDoor.Vx
open Go.RowKit
theorem quoted_any (s : ByteArray) (w : World) (hs : s.size <= 2000000) :
    Calls Tryz.prog 70 #[.string s] w fun e w' => e = .returned (.string (V.str (V.quote (V.bl s)))) /\ Below w.heap.size w w' := by
  go_enter Tryz.func70, Tryz.ntmps70;go_wp2_with fail;go_loopw [3, 4, 5] (fun vo vi _ wr => ∃ k : Nat, k <= s.size /\ vi = .int .i64 k /\ (∃ o : ByteArray, vo = .string o /\ o = V.str (((V.bl s).take k).flatMap V.quoteB) /\ o.size <= 4 * k) /\ Below w.heap.size w wr)
    (fun _ vi _ _ => s.size - (intOf vi).toNat)
  case atStart => exact ⟨0, Nat.zero_le _, rfl, ⟨_, rfl, rfl, by decide⟩, Below.refl _ _⟩
  case round =>
    obtain ⟨k, hk, rfl, ⟨o, rfl, ho, hos⟩, hB⟩ := hrel;have HO : Hid _ := ho;clear ho;by_cases hlt : k < s.size
    · by_cases h1 : s[k].toNat = 34 \/ s[k].toNat = 92
      · have HQ : Hid (V.quoteB s[k] = [92, s[k]]) := by show _ = _; rw [V.quoteB, if_pos h1]
        have HT : Hid _ := V.take_flat s k hlt;rcases h1 with h1 | h1
        · obtain ⟨t, ht, htz, hc⟩ := conv_some wr [92, 34] #[.int .u8 92, .int .u8 34] 2 rfl rfl
          have HTT : Hid _ := ht;clear ht;have HS : Hid (s[k] = 34) := UInt8.toNat_inj.1 h1;go_wp2_with fail;go_roundw
          case rel => exact ⟨k + 1, by omega, by go_num, ⟨_, rfl, by rw [HT.out, HQ.out, HO.out, HS.out, HTT.out, V.str_append], by rw [ByteArray.size_append]; omega⟩, hB.alloc hB.size _⟩
          case measure => simp [intOf]; omega
        · obtain ⟨t, ht, htz, hc⟩ := conv_some wr [92, 92] #[.int .u8 92, .int .u8 92] 2 rfl rfl
          have HTT : Hid _ := ht;clear ht;have HS : Hid (s[k] = 92) := UInt8.toNat_inj.1 h1;go_wp2_with fail;go_roundw
          case rel => exact ⟨k + 1, by omega, by go_num, ⟨_, rfl, by rw [HT.out, HQ.out, HO.out, HS.out, HTT.out, V.str_append], by rw [ByteArray.size_append]; omega⟩, hB.alloc hB.size _⟩
          case measure => simp [intOf]; omega
      · by_cases h2 : 32 <= s[k].toNat /\ s[k].toNat <= 126
        · have HQ : Hid (V.quoteB s[k] = [s[k]]) := by show _ = _; rw [V.quoteB, if_neg h1, if_pos h2]
          have HT : Hid _ := V.take_flat s k hlt;obtain ⟨h2a, h2b⟩ := h2;have n34 : ((s[k].toNat : Int) == 34) = false := beq_eq_false_iff_ne.2 (by omega);have n92 : ((s[k].toNat : Int) == 92) = false := beq_eq_false_iff_ne.2 (by omega);obtain ⟨t, ht, htz, hc⟩ := conv_some wr [s[k]] #[.int .u8 s[k].toNat] 1 rfl rfl;have HTT : Hid _ := ht;clear ht;clear h1;go_wp2_with fail;go_roundw
          case rel => exact ⟨k + 1, by omega, by go_num, ⟨_, rfl, by rw [HT.out, HQ.out, HO.out, HTT.out, V.str_append], by rw [ByteArray.size_append]; omega⟩, hB.alloc hB.size _⟩
          case measure => simp [intOf]; omega
        · have HQ : Hid (V.quoteB s[k] = [92, 120, V.hexd (s[k].toNat / 16), V.hexd (s[k].toNat % 16)]) := by show _ = _; rw [V.quoteB, if_neg h1, if_neg h2]
          have HT : Hid _ := V.take_flat s k hlt;have n34 : ((s[k].toNat : Int) == 34) = false := beq_eq_false_iff_ne.2 (by omega);have n92 : ((s[k].toNat : Int) == 92) = false := beq_eq_false_iff_ne.2 (by omega);clear h1;rcases (show s[k].toNat < 32 \/ 126 < s[k].toNat by omega) with h3 | h3
          all_goals
            have hlt256 := s[k].toNat_lt;have hw : IntKind.u8.wrap ((s[k].toNat : Int) / 16) = (s[k].toNat : Int) / 16 := wrap_u8 _ (by omega) (by omega);have hm : (s[k].toNat : Int).tmod 16 = (s[k].toNat : Int) % 16 := Int.tmod_eq_emod_of_nonneg (by omega);have q1 : (0 : Int) <= IntKind.u8.wrap ((s[k].toNat : Int) / 16) := by omega
            have q2 : IntKind.u8.wrap ((s[k].toNat : Int) / 16) < 16 := by omega
            have q3 : (0 : Int) <= (s[k].toNat : Int).tmod 16 := by omega
            have q4 : (s[k].toNat : Int).tmod 16 < 16 := by omega
            clear hw hm;obtain ⟨t, ht, htz, hc⟩ := hex_conv s[k] (by show _ < 16; omega) (by show _ < 16; omega);have HTT : Hid _ := ht;clear ht;go_wp2_with fail;go_region_with fail
            all_goals
             go_wp2_with fail;go_roundw
             case rel => exact ⟨k + 1, by omega, by go_num, ⟨_, rfl, by rw [HT.out, HQ.out, HO.out, HTT.out, V.str_append], by rw [ByteArray.size_append]; omega⟩, below_drewN (hB.alloc hB.size _) 1⟩
             case measure => simp [intOf]; omega
    · have hkk : k = s.size := by omega
      subst hkk;have HE : Hid (V.str (V.quote (V.bl s)) = V.str [34] ++ o ++ V.str [34]) := by
        show _ = _;rw [HO.out, List.take_of_length_le (by rw [V.length_bl]; omega), V.str_append, V.str_append]; rfl
      go_wp2_with fail;go_ret;exact ⟨ret_val (congrArg Value.string HE.out.symm), hB⟩
namespace V
theorem join_snoc (xs : List (List UInt8)) (x sep : List UInt8) : Lib.join (xs ++ [x]) sep = if xs = [] then x else Lib.join xs sep ++ (sep ++ x) := by
  cases xs with
  | nil => rw [if_pos rfl, List.nil_append, Lib.join_one]
  | cons a r =>
    rw [if_neg (by simp), List.cons_append, Lib.join_cons, Lib.join_cons];unfold Lib.joinTail;simp
theorem sum_take {α : Type} (g : α -> Nat) (l : List α) (k : Nat) : ((l.take k).map g).sum <= (l.map g).sum := by
  have : (l.map g).sum = ((l.take k).map g).sum + ((l.drop k).map g).sum := by rw [<- List.sum_append, <- List.map_append, List.take_append_drop]
  omega
def fieldText (m : Nat) (x : ByteArray × Val) : List UInt8 := bl x.1 ++ ([58, 32] ++ text m x.2)
theorem acc_lenL (m : Nat) (l : List Val) (k : Nat) (h : ∀ x ∈ l, shaped m x = true) : (Lib.join ((l.take k).map (text m)) [44, 32]).length <= 40 * sumL (bulk m) l + 2 * l.length := by
  have h1 := join_len [44, 32] ((l.take k).map (text m));rw [List.map_map] at h1;have h2 := sum_le (l.take k) ((fun x => [44, 32].length + x.length) ∘ text m) (bulk m) 2 (fun x hx => by have := text_len m x (h x (List.mem_of_mem_take hx)); simp; omega);have h3 := sum_take (bulk m) l k;have h4 : (l.take k).length <= l.length := List.length_take_le' k l;unfold sumL;omega
theorem acc_lenF (m : Nat) (l : List (ByteArray × Val)) (k : Nat) (h : ∀ x ∈ l, shaped m x.2 = true) : (Lib.join ((l.take k).map (fieldText m)) [44, 32]).length <= 40 * sumF (fun x => x.1.size + bulk m x.2) l + 4 * l.length := by
  have h1 := join_len [44, 32] ((l.take k).map (fieldText m));rw [List.map_map] at h1;have h2 := sum_le (l.take k) ((fun x => [44, 32].length + x.length) ∘ fieldText m) (fun x => x.1.size + bulk m x.2) 4 (fun x hx => by
    have := text_len m x.2 (h x (List.mem_of_mem_take hx));simp only [fieldText, Function.comp, List.length_append, List.length_cons, List.length_nil, length_bl]; omega)
  have h3 := sum_take (fun x : ByteArray × Val => x.1.size + bulk m x.2) l k;have h4 : (l.take k).length <= l.length := List.length_take_le' k l;unfold sumF;omega
theorem join_take {α : Type} (f : α -> List UInt8) (l : List α) (k : Nat) (x : α) (hx : l[k]? = some x) (sep : List UInt8) : Lib.join ((l.take (k + 1)).map f) sep = if k = 0 then f x else Lib.join ((l.take k).map f) sep ++ (sep ++ f x) := by
  have hk : k < l.length := (List.getElem?_eq_some_iff.1 hx).1;rw [List.take_add_one, hx, Option.toList_some, List.map_append, List.map_cons, List.map_nil, join_snoc];by_cases h0 : k = 0
  · rw [if_pos h0, if_pos (by rw [h0]; rfl)]
  · rw [if_neg h0, if_neg]
    intro hc;have := congrArg List.length hc;rw [List.length_map, List.length_take, List.length_nil] at this;omega
end V
theorem fin0 (a b c : ByteArray) : V.str [] ++ a ++ b ++ c = a ++ (b ++ c) := by
  rw [show V.str [] = ByteArray.empty from rfl, ByteArray.empty_append, ByteArray.append_assoc]
theorem fin1 (a b c d e : ByteArray) : a ++ b ++ c ++ d ++ e = a ++ (b ++ (c ++ (d ++ e))) := by
  rw [ByteArray.append_assoc, ByteArray.append_assoc, ByteArray.append_assoc]
theorem refText_any (m : Nat) : ∀ (w : World) (v : Val) (c0 c1 c2 c3 c4 : Value), V.Mem m w v [c0, c1, c2, c3, c4] -> V.shaped m v = true -> V.bulk m v <= 2000000 ->
      Calls Tryz.prog 40 #[.agg #[c0, c1, c2, c3, c4]] w fun e w' => e = .returned (.string (V.str (V.text m v))) /\ Below w.heap.size w w' := by
  induction m with
  | zero => intro w v c0 c1 c2 c3 c4 h; exact h.elim
  | succ m ih =>
    intro w v c0 c1 c2 c3 c4 ⟨lv, fv, hcs, hl, hf⟩ hsh hbk;obtain ⟨rfl, rfl, rfl, rfl, rfl⟩ := ij5 hcs;have IH : Hid _ := ih;clear ih;obtain ⟨al, cl, rfl⟩ := hl.shape;obtain ⟨af, cf, rfl⟩ := hf.shape;obtain ⟨bs, bl, bf, bn⟩ := V.bulk_s m v _ hbk;obtain ⟨_, hfit, hsl, hsf⟩ := V.shaped_parts m v hsh;rw [V.bulk] at hbk;have hbL : Below w.heap.size w (w.alloc (.cells #[.int .i64 v.kind, .int .i64 v.n, .string v.s, .slice al v.l.length cl, .slice af v.f.length cf] 61)) := ba;have HL : Hid _ := hl;have HF : Hid _ := hf;have HSL : Hid _ := hsl;have HSF : Hid _ := hsf;have BN : Hid _ := bn;clear hl hf hsl hsf bn;by_cases k1 : v.kind = 1
    · have HE : Hid (V.text (m + 1) v = Lib.itoa v.n) := by show _ = _; rw [V.text, if_pos k1]
      rw [k1] at hfit;have hn := V.fits_num _ _ _ hfit;have g1 : (v.kind == 1) = true := beq_iff_eq.2 k1;clear hfit k1;go_enter Tryz.func40, Tryz.ntmps40;go_wp2_with fail;refine (decimal_any v.n _ (by omega) (by omega)).mono ?_;rintro e w2 ⟨⟨s2, rfl, hs2, _⟩, hb2⟩;have HS2 : Hid _ := hs2;clear hs2;go_wp2_with fail;go_ret;exact ⟨ret_val (by rw [HE.out, <- HS2.out]; rfl), hbL.trans (hb2.mono hbL.size)⟩
    have g1 : (v.kind == 1) = false := beq_eq_false_iff_ne.2 k1;by_cases k2 : v.kind = 2
    · have HE : Hid (V.text (m + 1) v = V.quote (V.bl v.s)) := by show _ = _; rw [V.text, if_neg k1, if_pos k2]
      have g2 : (v.kind == 2) = true := beq_iff_eq.2 k2;clear k1 k2 hfit;go_enter Tryz.func40, Tryz.ntmps40;go_wp2_with fail;refine (quoted_any v.s _ bs).mono ?_;rintro e w2 ⟨rfl, hb2⟩;go_wp2_with fail;go_ret;exact ⟨ret_val (by rw [HE.out]; rfl), hbL.trans (hb2.mono hbL.size)⟩
    have g2 : (v.kind == 2) = false := beq_eq_false_iff_ne.2 k2;by_cases k3 : v.kind = 3
    · have hE : V.text (m + 1) v = if v.n = 1 then V.trueB else V.falseB := by rw [V.text, if_neg k1, if_neg k2, if_pos k3]
      have g3 : (v.kind == 3) = true := beq_iff_eq.2 k3;by_cases h1 : v.n = 1
      · rw [if_pos h1] at hE
        have HE : Hid _ := hE;have gn : (v.n == 1) = true := beq_iff_eq.2 h1;clear k1 k2 k3 hfit h1 hE;go_enter Tryz.func40, Tryz.ntmps40;go_wp2_with fail;go_ret;exact ⟨ret_val (by rw [HE.out]; rfl), hbL⟩
      · rw [if_neg h1] at hE
        have HE : Hid _ := hE;have gn : (v.n == 1) = false := beq_eq_false_iff_ne.2 h1;clear k1 k2 k3 hfit h1 hE;go_enter Tryz.func40, Tryz.ntmps40;go_wp2_with fail;go_ret;exact ⟨ret_val (by rw [HE.out]; rfl), hbL⟩
    have g3 : (v.kind == 3) = false := beq_eq_false_iff_ne.2 k3;by_cases k4 : v.kind = 4
    · have HE : Hid (V.text (m + 1) v = 91 :: (Lib.join (v.l.map (V.text m)) [44, 32] ++ [93])) := by show _ = _; rw [V.text, if_neg k1, if_neg k2, if_neg k3, if_pos k4]
      have g4 : (v.kind == 4) = true := beq_iff_eq.2 k4;clear k1 k2 k3 k4 hfit;go_enter Tryz.func40, Tryz.ntmps40;go_wp2_with fail;go_loopw [3, 4] (fun vo vi wr => ∃ k : Nat, k <= v.l.length /\ vi = .int .i64 k /\ (∃ o : ByteArray, vo = .string o /\ o = V.str (Lib.join ((v.l.take k).map (V.text m)) [44, 32])) /\ wr.heap[w.heap.size]? = some (.cells #[.int .i64 v.kind, .int .i64 v.n, .string v.s, .slice al v.l.length cl, .slice af v.f.length cf] 61 (0, 0)) /\ Below w.heap.size w wr)
        (fun _ vi _ => v.l.length - (intOf vi).toNat)
      case atStart => exact ⟨0, Nat.zero_le _, rfl, ⟨_, rfl, rfl⟩, heap_alloc_new _ _, hbL⟩
      case round =>
        clear hbL;obtain ⟨k, hk, rfl, ⟨o, rfl, ho⟩, hblk, hB⟩ := hrel;have hoz : o.size <= 80000000 := by rw [ho, str_size]; have := V.acc_lenL m v.l k HSL.out; omega
        have HO : Hid _ := ho;clear ho;have b3 := cell_of_block hblk 3 _ rfl;by_cases hlt : k < v.l.length
        · obtain ⟨b, off, cap, x, d0, d1, d2, d3, d4, e1, hx, hm, y0, y1, y2, y3, y4⟩ := V.elemL (V.Row.kept HL.out hB (fun _ _ ⟨x, hx, hm⟩ => ⟨x, hx, V.Mem.kept m hm hB⟩)) k hlt
          obtain ⟨rfl, _, rfl⟩ := Value.slice.inj e1;have s1 := V.sumL_le (V.bulk m) v.l k x hx;have hxs := HSL.out x (List.mem_of_getElem? hx);have s2 := V.text_len m x hxs;have hlt2 := blt hblk;have hI := IH.out wr x d0 d1 d2 d3 d4 hm hxs (by omega);have HI : Hid _ := hI;have HX : Hid _ := hx;have hjt := V.join_take (V.text m) v.l k x hx [44, 32];clear hI hm hx hxs;by_cases hk0 : k = 0
          · rw [if_pos hk0] at hjt
            have HJ : Hid _ := hjt;have hoe : o = ⟨#[]⟩ := by rw [HO.out, hk0]; rfl
            have HOE : Hid _ := hoe;clear hjt hoe;subst hk0;simp only [Nat.zero_mul, Nat.add_zero] at y0 y1 y2 y3 y4;go_wp2_with fail;refine Calls.mono HI.out ?_;rintro e w3 ⟨rfl, hb3⟩;have hblk3 := (hb3.block w.heap.size hlt2).trans hblk;have hB3 := hB.trans (hb3.mono hB.size);generalize ht : V.str (V.text m x) = t;have htz : t.size <= 80000000 := by rw [<- ht, str_size]; omega
            have HT : Hid _ := ht;clear ht hb3 hB hblk y0 y1 y2 y3 y4 b3 HI;go_wp2_with fail;go_roundw
            case rel => exact ⟨1, by omega, by go_num, ⟨_, rfl, by rw [HJ.out, <- HT.out, HOE.out]; exact V.str_append [] _⟩, hblk3, hB3⟩
            case measure => simp [intOf]; omega
          · rw [if_neg hk0] at hjt
            have HJ : Hid _ := hjt;have hk1 : 0 < k := by omega
            clear hk0 hjt;go_wp2_with fail;refine Calls.mono HI.out ?_;rintro e w3 ⟨rfl, hb3⟩;have hblk3 := (hb3.block w.heap.size hlt2).trans hblk;have hB3 := hB.trans (hb3.mono hB.size);generalize ht : V.str (V.text m x) = t;have htz : t.size <= 80000000 := by rw [<- ht, str_size]; omega
            have HT : Hid _ := ht;have ho2 : (o ++ (⟨#[44, 32]⟩ : ByteArray)).size = o.size + 2 := by rw [ByteArray.size_append]; rfl
            clear ht hb3 hB hblk y0 y1 y2 y3 y4 b3 HI;go_wp2_with fail;go_roundw
            case rel => exact ⟨k + 1, by omega, by go_num, ⟨_, rfl, by rw [HJ.out, <- HT.out, HO.out]; show V.str _ ++ V.str [44, 32] ++ V.str _ = _; rw [V.str_append, V.str_append, List.append_assoc]⟩, hblk3, hB3⟩
            case measure => simp [intOf]; omega
        · have hkk : k = v.l.length := by omega
          have HO2 : Hid (o = V.str (Lib.join (v.l.map (V.text m)) [44, 32])) := by show _ = _; rw [HO.out, hkk, List.take_length]
          have ho2 : ((⟨#[91]⟩ : ByteArray) ++ o).size = 1 + o.size := by rw [ByteArray.size_append]; rfl
          clear hkk;go_wp2_with fail;go_ret;refine ⟨ret_val (congrArg Value.string ?_), hB⟩;rw [HE.out, HO2.out];show V.str [91] ++ V.str _ ++ V.str [93] = _;rw [V.str_append, V.str_append]; rfl
    have g4 : (v.kind == 4) = false := beq_eq_false_iff_ne.2 k4;by_cases k5 : v.kind = 5
    · have HE : Hid (V.text (m + 1) v = 123 :: (Lib.join (v.f.map (V.fieldText m)) [44, 32] ++ [125])) := by show _ = _; rw [V.text, if_neg k1, if_neg k2, if_neg k3, if_neg k4, if_pos k5]; rfl
      have g5 : (v.kind == 5) = true := beq_iff_eq.2 k5;clear k1 k2 k3 k4 k5 hfit;go_enter Tryz.func40, Tryz.ntmps40;go_wp2_with fail;go_loopw [5, 6] (fun vo vi wr => ∃ k : Nat, k <= v.f.length /\ vi = .int .i64 k /\ (∃ o : ByteArray, vo = .string o /\ o = V.str (Lib.join ((v.f.take k).map (V.fieldText m)) [44, 32])) /\ wr.heap[w.heap.size]? = some (.cells #[.int .i64 v.kind, .int .i64 v.n, .string v.s, .slice al v.l.length cl, .slice af v.f.length cf] 61 (0, 0)) /\ Below w.heap.size w wr)
        (fun _ vi _ => v.f.length - (intOf vi).toNat)
      case atStart => exact ⟨0, Nat.zero_le _, rfl, ⟨_, rfl, rfl⟩, heap_alloc_new _ _, hbL⟩
      case round =>
        clear hbL;obtain ⟨k, hk, rfl, ⟨o, rfl, ho⟩, hblk, hB⟩ := hrel;have hoz : o.size <= 80000000 := by rw [ho, str_size]; have := V.acc_lenF m v.f k HSF.out; omega
        have HO : Hid _ := ho;clear ho;have b4 := cell_of_block hblk 4 _ rfl;by_cases hlt : k < v.f.length
        · obtain ⟨b, off, cap, x, d0, d1, d2, d3, d4, e1, hx, hm, yn, y0, y1, y2, y3, y4⟩ := V.elemF (V.Row.kept HF.out hB (fun _ _ ⟨x, c', hx, hc, hm⟩ => ⟨x, c', hx, hc, V.Mem.kept m hm hB⟩)) k hlt
          obtain ⟨rfl, _, rfl⟩ := Value.slice.inj e1;have s1 := V.sumF_le (fun x => x.1.size + V.bulk m x.2) v.f k x hx;have hxs := HSF.out x (List.mem_of_getElem? hx);have s2 := V.text_len m x.2 hxs;have hxn := BN.out x (List.mem_of_getElem? hx);have hlt2 := blt hblk;have HX : Hid _ := hx;have HM : Hid _ := hm;have HBLK : Hid _ := hblk;have hjt := V.join_take (V.fieldText m) v.f k x hx [44, 32];clear hm hx;by_cases hk0 : k = 0
          · rw [if_pos hk0] at hjt
            have HJ : Hid _ := hjt;have hoe : o = ⟨#[]⟩ := by rw [HO.out, hk0]; rfl
            have HP : Hid _ := hoe;clear hjt hoe;subst hk0;simp only [Nat.zero_mul, Nat.add_zero] at yn y0 y1 y2 y3 y4;go_wp2_with fail;generalize o = p at *;have hI : ∀ w', (w'.cell? ⟨w.heap.size, 4, none⟩ = some (.slice (some ⟨b, off, none⟩) v.f.length cf) /\ w'.cell? ⟨b, off, none⟩ = some (.string x.1) /\ w'.cell? ⟨b, off + 1, none⟩ = some d0 /\ w'.cell? ⟨b, off + 2, none⟩ = some d1 /\ w'.cell? ⟨b, off + 3, none⟩ = some d2 /\ w'.cell? ⟨b, off + 4, none⟩ = some d3 /\ w'.cell? ⟨b, off + 5, none⟩ = some d4 /\ Below wr.heap.size wr w') -> Calls Tryz.prog 40 #[.agg #[d0, d1, d2, d3, d4]] w' fun e w'' => (∃ t, e = .returned (.string t) /\ Hid (t = V.str (V.text m x.2)) /\ t.size <= 80000000) /\ w''.cell? ⟨w.heap.size, 4, none⟩ = some (.slice (some ⟨b, off, none⟩) v.f.length cf) /\ w''.cell? ⟨b, off, none⟩ = some (.string x.1) /\ w''.cell? ⟨b, off + 1, none⟩ = some d0 /\ w''.cell? ⟨b, off + 2, none⟩ = some d1 /\ w''.cell? ⟨b, off + 3, none⟩ = some d2 /\ w''.cell? ⟨b, off + 4, none⟩ = some d3 /\ w''.cell? ⟨b, off + 5, none⟩ = some d4 /\ Below wr.heap.size wr w'' := by
              intro w' ⟨t1, t2, t3, t4, t5, t6, t7, t8⟩;refine (IH.out w' x.2 d0 d1 d2 d3 d4 (V.Mem.kept m HM.out t8) hxs (by omega)).mono ?_;rintro e w'' ⟨rfl, hb⟩;exact ⟨⟨_, rfl, rfl, by rw [str_size]; omega⟩, kept_cell hb t1, kept_cell hb t2, kept_cell hb t3, kept_cell hb t4, kept_cell hb t5, kept_cell hb t6, kept_cell hb t7, t8.trans (hb.mono t8.size)⟩
            have HI : Hid _ := hI;have hB0 : Below wr.heap.size wr wr.drew := below_drewN (Below.refl _ _) 1;have hz1 : (p ++ x.1).size = p.size + x.1.size := ByteArray.size_append;have hz2 : (p ++ x.1 ++ (⟨#[58, 32]⟩ : ByteArray)).size = p.size + x.1.size + 2 := by rw [ByteArray.size_append, ByteArray.size_append]; rfl
            have hg1 : ¬ 9223372036854775807 < p.size + x.1.size := by omega
            have hg2 : ¬ 9223372036854775807 < p.size + x.1.size + 2 := by omega
            clear hI hxs;go_region_held3 (fun w' => w'.cell? ⟨w.heap.size, 4, none⟩ = some (.slice (some ⟨b, off, none⟩) v.f.length cf) /\ w'.cell? ⟨b, off, none⟩ = some (.string x.1) /\ w'.cell? ⟨b, off + 1, none⟩ = some d0 /\ w'.cell? ⟨b, off + 2, none⟩ = some d1 /\ w'.cell? ⟨b, off + 3, none⟩ = some d2 /\ w'.cell? ⟨b, off + 4, none⟩ = some d3 /\ w'.cell? ⟨b, off + 5, none⟩ = some d4 /\ Below wr.heap.size wr w') (go_keep)
              (first | (go_at_call 40; refine Calls.mono (HI.out _ ?_) ?_; exact ⟨‹_›, ‹_›, ‹_›, ‹_›, ‹_›, ‹_›, ‹_›, ‹_›⟩; rintro e w3 ⟨⟨t, rfl, ht, htz⟩, t1, t2, t3, t4, t5, t6, t7, t8⟩; have hg3 : ¬ 9223372036854775807 < p.size + x.1.size + 2 + t.size := (by omega)))
            all_goals
              go_wp2_with fail;go_roundw
              case rel => exact ⟨1, by omega, by go_num, ⟨_, rfl, by rw [HJ.out, ht.out, HP.out]; show V.str [] ++ x.1 ++ V.str [58, 32] ++ V.str _ = V.str (V.bl x.1 ++ ([58, 32] ++ V.text m x.2)); rw [<- V.str_append (V.bl x.1), <- V.str_append [58, 32], V.str_bl]; exact fin0 _ _ _⟩, (t8.block w.heap.size hlt2).trans HBLK.out, hB.trans (t8.mono hB.size)⟩
              case measure => simp [intOf]; omega
          · rw [if_neg hk0] at hjt
            have HJ : Hid _ := hjt;have hk1 : 0 < k := by omega
            have hoz2 : (o ++ (⟨#[44, 32]⟩ : ByteArray)).size = o.size + 2 := by rw [ByteArray.size_append]; rfl
            clear hk0 hjt;go_wp2_with fail;have hp : o ++ (⟨#[44, 32]⟩ : ByteArray) = V.str (Lib.join ((v.f.take k).map (V.fieldText m)) [44, 32]) ++ V.str [44, 32] := by rw [<- HO.out]; rfl
            generalize o ++ (⟨#[44, 32]⟩ : ByteArray) = p at *;have HP : Hid _ := hp;have hpz : p.size <= 80000002 := by omega
            clear hp hoz2 hoz;have hI : ∀ w', (w'.cell? ⟨w.heap.size, 4, none⟩ = some (.slice (some ⟨b, off, none⟩) v.f.length cf) /\ w'.cell? ⟨b, off + k * 6, none⟩ = some (.string x.1) /\ w'.cell? ⟨b, off + k * 6 + 1, none⟩ = some d0 /\ w'.cell? ⟨b, off + k * 6 + 2, none⟩ = some d1 /\ w'.cell? ⟨b, off + k * 6 + 3, none⟩ = some d2 /\ w'.cell? ⟨b, off + k * 6 + 4, none⟩ = some d3 /\ w'.cell? ⟨b, off + k * 6 + 5, none⟩ = some d4 /\ Below wr.heap.size wr w') -> Calls Tryz.prog 40 #[.agg #[d0, d1, d2, d3, d4]] w' fun e w'' => (∃ t, e = .returned (.string t) /\ Hid (t = V.str (V.text m x.2)) /\ t.size <= 80000000) /\ w''.cell? ⟨w.heap.size, 4, none⟩ = some (.slice (some ⟨b, off, none⟩) v.f.length cf) /\ w''.cell? ⟨b, off + k * 6, none⟩ = some (.string x.1) /\ w''.cell? ⟨b, off + k * 6 + 1, none⟩ = some d0 /\ w''.cell? ⟨b, off + k * 6 + 2, none⟩ = some d1 /\ w''.cell? ⟨b, off + k * 6 + 3, none⟩ = some d2 /\ w''.cell? ⟨b, off + k * 6 + 4, none⟩ = some d3 /\ w''.cell? ⟨b, off + k * 6 + 5, none⟩ = some d4 /\ Below wr.heap.size wr w'' := by
              intro w' ⟨t1, t2, t3, t4, t5, t6, t7, t8⟩;refine (IH.out w' x.2 d0 d1 d2 d3 d4 (V.Mem.kept m HM.out t8) hxs (by omega)).mono ?_;rintro e w'' ⟨rfl, hb⟩;exact ⟨⟨_, rfl, rfl, by rw [str_size]; omega⟩, kept_cell hb t1, kept_cell hb t2, kept_cell hb t3, kept_cell hb t4, kept_cell hb t5, kept_cell hb t6, kept_cell hb t7, t8.trans (hb.mono t8.size)⟩
            have HI : Hid _ := hI;have hB0 : Below wr.heap.size wr wr.drew := below_drewN (Below.refl _ _) 1;have hz1 : (p ++ x.1).size = p.size + x.1.size := ByteArray.size_append;have hz2 : (p ++ x.1 ++ (⟨#[58, 32]⟩ : ByteArray)).size = p.size + x.1.size + 2 := by rw [ByteArray.size_append, ByteArray.size_append]; rfl
            have hg1 : ¬ 9223372036854775807 < p.size + x.1.size := by omega
            have hg2 : ¬ 9223372036854775807 < p.size + x.1.size + 2 := by omega
            clear hI hxs;go_region_held3 (fun w' => w'.cell? ⟨w.heap.size, 4, none⟩ = some (.slice (some ⟨b, off, none⟩) v.f.length cf) /\ w'.cell? ⟨b, off + k * 6, none⟩ = some (.string x.1) /\ w'.cell? ⟨b, off + k * 6 + 1, none⟩ = some d0 /\ w'.cell? ⟨b, off + k * 6 + 2, none⟩ = some d1 /\ w'.cell? ⟨b, off + k * 6 + 3, none⟩ = some d2 /\ w'.cell? ⟨b, off + k * 6 + 4, none⟩ = some d3 /\ w'.cell? ⟨b, off + k * 6 + 5, none⟩ = some d4 /\ Below wr.heap.size wr w') (go_keep)
              (first | (go_at_call 40; refine Calls.mono (HI.out _ ?_) ?_; exact ⟨‹_›, ‹_›, ‹_›, ‹_›, ‹_›, ‹_›, ‹_›, ‹_›⟩; rintro e w3 ⟨⟨t, rfl, ht, htz⟩, t1, t2, t3, t4, t5, t6, t7, t8⟩; have hg3 : ¬ 9223372036854775807 < p.size + x.1.size + 2 + t.size := (by omega)))
            all_goals
              go_wp2_with fail;go_roundw
              case rel => exact ⟨k + 1, by omega, by go_num, ⟨_, rfl, by rw [HJ.out, ht.out, HP.out]; show V.str _ ++ V.str [44, 32] ++ x.1 ++ V.str [58, 32] ++ V.str _ = V.str (Lib.join _ _ ++ ([44, 32] ++ (V.bl x.1 ++ ([58, 32] ++ V.text m x.2)))); rw [<- V.str_append (Lib.join _ _), <- V.str_append [44, 32], <- V.str_append (V.bl x.1), <- V.str_append [58, 32], V.str_bl]; exact fin1 _ _ _ _ _⟩, (t8.block w.heap.size hlt2).trans HBLK.out, hB.trans (t8.mono hB.size)⟩
              case measure => simp [intOf]; omega
        · have hkk : k = v.f.length := by omega
          have HO2 : Hid (o = V.str (Lib.join (v.f.map (V.fieldText m)) [44, 32])) := by show _ = _; rw [HO.out, hkk, List.take_length]
          have ho2 : ((⟨#[123]⟩ : ByteArray) ++ o).size = 1 + o.size := by rw [ByteArray.size_append]; rfl
          clear hkk;go_wp2_with fail;go_ret;refine ⟨ret_val (congrArg Value.string ?_), hB⟩;rw [HE.out, HO2.out];show V.str [123] ++ V.str _ ++ V.str [125] = _;rw [V.str_append, V.str_append]; rfl
    have g5 : (v.kind == 5) = false := beq_eq_false_iff_ne.2 k5;have HE : Hid (V.text (m + 1) v = V.nullB) := by show _ = _; rw [V.text, if_neg k1, if_neg k2, if_neg k3, if_neg k4, if_neg k5]
    clear k1 k2 k3 k4 k5 hfit;go_enter Tryz.func40, Tryz.ntmps40;go_wp2_with fail;go_ret;exact ⟨ret_val (by rw [HE.out]; rfl), hbL⟩
end Go.Proofs.YtcekcfjabhlheaaGreatDoor.Vx
