/- StateSays: TC. -/
import Derived.Test.YtcekcfjabhlheaaGreatDoorVS
set_option maxRecDepth 100000
set_option maxHeartbeats 1600000
namespace Go.Proofs.YtcekcfjabhlheaaGreatDoor.Vx
open Go.RowKit
theorem nameMay_any (s : ByteArray) (w : World) (hs : s.size <= maxLen) :
  Calls Tryz.prog 19 #[.string s] w fun e w' => e = .returned (.bool (V.name (V.bl s))) /\ w' = w := by
 unfold maxLen at hs;by_cases h0 : s.size < 1
 ·have E : Hid (V.name (V.bl s) = false) := by show _ = _; rw [V.name, V.length_bl, decide_eq_false (by omega : ¬ 1 <= s.size)]; rfl
  go_enter Tryz.func19, Tryz.ntmps19;go_wp2_with fail;go_ret;exact ⟨ret_bool E.out.symm, rfl⟩
 by_cases h12 : 12 < s.size
 ·have E : Hid (V.name (V.bl s) = false) := by show _ = _; rw [V.name, V.length_bl, decide_eq_false (by omega : ¬ s.size <= 12), Bool.and_false]; rfl
  go_enter Tryz.func19, Tryz.ntmps19;go_wp2_with fail;go_ret;exact ⟨ret_bool E.out.symm, rfl⟩
 have E : V.name (V.bl s) = V.nameFrom 0 (V.bl s) := by
  rw [V.name, V.length_bl, decide_eq_true (by omega : 1 <= s.size), decide_eq_true (by omega : s.size <= 12)]; rfl
 rw [E];clear E;go_enter Tryz.func19, Tryz.ntmps19;go_wp2_with fail;go_loop [3, 4, 5] (fun i _ _ => ∃ k : Nat, k <= s.size /\ i = .int .i64 k /\ V.nameFrom 0 (V.bl s) = V.nameFrom k ((V.bl s).drop k)) (fun i _ _ => s.size - (intOf i).toNat)
 case atStart => exact ⟨0, Nat.zero_le _, rfl, by simp⟩
 case round =>
  obtain ⟨k, hk, rfl, hq⟩ := hrel;by_cases hlt : k < s.size
  ·rw [V.bl_drop s k hlt, V.nameFrom, V.nameByte] at hq;cases hl : V.letter s[k]
   ·have nl := V.not_letter _ hl;cases hd : V.digit s[k]
    ·have nd := V.not_digit _ hd;rw [hl, hd] at hq;have HQ : Hid _ := hq;clear hq hl hd;rcases (show s[k].toNat < 48 \/ (57 < s[k].toNat /\ s[k].toNat < 97) \/ 122 < s[k].toNat by omega) with hc | ⟨hc1, hc2⟩ | hc
     ·clear nl nd;go_wp2_with fail;go_ret;exact ⟨ret_bool (by rw [HQ.out]; rfl), rfl⟩
     ·clear nl nd;go_wp2_with fail;go_ret;exact ⟨ret_bool (by rw [HQ.out]; rfl), rfl⟩
     ·have gd1 : decide ((s[k].toNat : Int) <= 122) = false := by simp; omega
      have gd2 : decide ((s[k].toNat : Int) <= 57) = false := by simp; omega
      clear nl nd;go_wp2_with fail;go_ret;exact ⟨ret_bool (by rw [HQ.out]; rfl), rfl⟩
    ·obtain ⟨d1, d2⟩ := V.is_digit _ hd;rw [hl, hd] at hq;by_cases hk0 : k = 0
     ·have gk : ((k : Int) == 0) = true := by simp; omega
      rw [decide_eq_false (by omega : ¬ 0 < k)] at hq;have HQ : Hid _ := hq;clear hq hl hd nl hk0;go_wp2_with fail;go_ret;exact ⟨ret_bool (by rw [HQ.out]; rfl), rfl⟩
     ·have gk : ((k : Int) == 0) = false := by simp; omega
      rw [decide_eq_true (by omega : 0 < k)] at hq;have HQ : Hid _ := hq;clear hq hl hd nl hk0;go_wp2_with fail;go_round
      case rel => exact ⟨k + 1, by omega, by go_num, by rw [HQ.out]; rfl⟩
      case measure => simp [intOf]; omega
   ·obtain ⟨d1, d2⟩ := V.is_letter _ hl;rw [hl] at hq;have HQ : Hid _ := hq;clear hq hl;go_wp2_with fail;go_round
    case rel => exact ⟨k + 1, by omega, by go_num, by rw [HQ.out]; rfl⟩
    case measure => simp [intOf]; omega
  ·rw [V.bl_drop_end s k hlt, V.nameFrom] at hq;have HQ : Hid _ := hq;clear hq;go_wp2_with fail;go_ret;exact ⟨ret_bool HQ.out.symm, rfl⟩
theorem parts_any (m : Nat) : ∀ (w : World) (v : Val) (c0 c1 c2 c3 c4 : Value), V.Mem m w v [c0, c1, c2, c3, c4] -> V.bulk m v <= 2000000 ->
  Calls Tryz.prog 56 #[.agg #[c0, c1, c2, c3, c4]] w fun e w' => e = .returned (.tuple #[.int .i64 (V.parts m v), .int .i64 (V.deep m v)]) /\ Below w.heap.size w w' := by
 induction m with
 | zero => intro w v c0 c1 c2 c3 c4 h; exact h.elim
 | succ m ih =>
  intro w v c0 c1 c2 c3 c4 ⟨lv, fv, hcs, hl, hf⟩ hbk;obtain ⟨rfl, rfl, rfl, rfl, rfl⟩ := ij5 hcs;have IH : Hid _ := ih;clear ih;obtain ⟨al, cl, rfl⟩ := hl.shape;obtain ⟨af, cf, rfl⟩ := hf.shape;rw [V.bulk] at hbk;have hbL : Below w.heap.size w (w.alloc (.cells #[.int .i64 v.kind, .int .i64 v.n, .string v.s, .slice al v.l.length cl, .slice af v.f.length cf] 61)) := ba;go_enter Tryz.func56, Tryz.ntmps56;go_wp2_with fail;go_loopw [4, 5, 6, 7, 8] (fun vn vd vi _ _ wr => ∃ k : Nat, k <= v.l.length /\ vi = .int .i64 k /\ vn = .int .i64 (1 + V.sumL (V.parts m) (v.l.take k) : Nat) /\ vd = .int .i64 ((v.l.take k).foldl (fun d x => max d (V.deep m x)) 0 : Nat) /\
    wr.heap[w.heap.size]? = some (.cells #[.int .i64 v.kind, .int .i64 v.n, .string v.s, .slice al v.l.length cl, .slice af v.f.length cf] 61 (0, 0)) /\ Below w.heap.size w wr)
   (fun _ _ vi _ _ _ => v.l.length - (intOf vi).toNat)
  case atStart => exact ⟨0, Nat.zero_le _, rfl, rfl, rfl, heap_alloc_new _ _, hbL⟩
  case round =>
   obtain ⟨k, hk, rfl, rfl, rfl, hblk, hB⟩ := hrel;have b3 := cell_of_block hblk 3 _ rfl;have b4 := cell_of_block hblk 4 _ rfl;by_cases hlt : k < v.l.length
   ·obtain ⟨b, off, cap, x, d0, d1, d2, d3, d4, e1, hx, hm, y0, y1, y2, y3, y4⟩ := V.elemL (hl.kept hB (fun _ _ ⟨x, hx, hm⟩ => ⟨x, hx, V.Mem.kept m hm hB⟩)) k hlt;obtain ⟨rfl, _, rfl⟩ := Value.slice.inj e1;have s1 := V.sumL_le (V.bulk m) v.l k x hx;have s2 := V.sumL_mono (V.parts m) (V.bulk m) (v.l.take k) (V.parts_le m);have s3 := V.parts_le m x;have s4 := V.deep_le m x;have hsn := V.sumL_take (V.parts m) v.l k x hx;have hdn := V.foldl_take (V.deep m) v.l 0 k x hx;have HSN : Hid _ := hsn;have HDN : Hid _ := hdn;have hlt2 := blt hblk;have hdd : (v.l.take k).foldl (fun d x => max d (V.deep m x)) 0 <= 2000000 := V.foldl_max_le _ _ _ _ (by omega) (fun z hz => by have := V.deep_le m z; have := V.sumL_mem (V.bulk m) v.l z (List.mem_of_mem_take hz); omega);clear hsn hdn;have hI := IH.out wr x d0 d1 d2 d3 d4 hm (by omega);have HI : Hid _ := hI;clear hI hm hx;go_wp2_with fail;refine Calls.mono HI.out ?_;rintro e w3 ⟨rfl, hb3⟩;have hblk3 := (hb3.block w.heap.size hlt2).trans hblk;have hB3 := hB.trans (hb3.mono hB.size);clear hb3 hB hblk y0 y1 y2 y3 y4 b3 b4;generalize V.parts m x = px at *;generalize V.deep m x = dx at *;generalize V.sumL (V.parts m) (v.l.take k) = sx at *;generalize (v.l.take k).foldl (fun d x => max d (V.deep m x)) 0 = ex at *;go_wp2_with fail;go_roundw
    case rel => exact ⟨k + 1, by omega, by go_num, by rw [HSN.out]; go_num, by rw [HDN.out]; exact congrArg (Value.int .i64) (max_if ex dx), hblk3, hB3⟩
    case measure => simp [intOf]; omega
   ·have hkk : k = v.l.length := by omega
    subst hkk;rw [List.take_length];have q1 := V.sumL_mono (V.parts m) (V.bulk m) v.l (V.parts_le m);have q2 : v.l.foldl (fun d x => max d (V.deep m x)) 0 <= V.sumL (V.bulk m) v.l := V.foldl_max_le _ _ _ _ (by omega) (fun z hz => by have := V.deep_le m z; have := V.sumL_mem (V.bulk m) v.l z hz; omega);have HP : Hid (V.parts (m + 1) v = 1 + V.sumL (V.parts m) v.l + V.sumF (fun x => V.parts m x.2) v.f) := by show _ = _; rw [V.parts]
    have HD : Hid (V.deep (m + 1) v = v.f.foldl (fun d x => max d (V.deep m x.2)) (v.l.foldl (fun d x => max d (V.deep m x)) 0) + 1) := by show _ = _; rw [V.deep]
    generalize V.sumL (V.parts m) v.l = sl at *;generalize v.l.foldl (fun d x => max d (V.deep m x)) 0 = el at *;go_wp2_with fail;go_loopw [4, 5, 9, 10, 11] (fun vn vd vi _ _ wx => ∃ k : Nat, k <= v.f.length /\ vi = .int .i64 k /\ vn = .int .i64 (1 + sl + V.sumF (fun x => V.parts m x.2) (v.f.take k) : Nat) /\ vd = .int .i64 ((v.f.take k).foldl (fun d x => max d (V.deep m x.2)) el : Nat) /\
      wx.heap[w.heap.size]? = some (.cells #[.int .i64 v.kind, .int .i64 v.n, .string v.s, .slice al v.l.length cl, .slice af v.f.length cf] 61 (0, 0)) /\ Below w.heap.size w wx)
     (fun _ _ vi _ _ _ => v.f.length - (intOf vi).toNat)
    case atStart => exact ⟨0, Nat.zero_le _, rfl, rfl, rfl, hblk, hB⟩
    case round =>
     obtain ⟨k, hk, rfl, rfl, rfl, hblk, hB⟩ := hrel;have b4 := cell_of_block hblk 4 _ rfl;by_cases hlt : k < v.f.length
     ·obtain ⟨b, off, cap, x, d0, d1, d2, d3, d4, e1, hx, hm, yn, y0, y1, y2, y3, y4⟩ := V.elemF (hf.kept hB (fun _ _ ⟨x, c', hx, hc, hm⟩ => ⟨x, c', hx, hc, V.Mem.kept m hm hB⟩)) k hlt;obtain ⟨rfl, _, rfl⟩ := Value.slice.inj e1;have s1 := V.sumF_le (fun x => x.1.size + V.bulk m x.2) v.f k x hx;have s2 := V.sumF_mono (fun x => V.parts m x.2) (fun x => x.1.size + V.bulk m x.2) (v.f.take k) (fun z => by have := V.parts_le m z.2; omega);have s3 := V.parts_le m x.2;have s4 := V.deep_le m x.2;have hsn := V.sumF_take (fun x => V.parts m x.2) v.f k x hx;have hdn := V.foldl_take (fun x : ByteArray × Val => V.deep m x.2) v.f el k x hx;have HSN : Hid _ := hsn;have HDN : Hid _ := hdn;have hlt2 := blt hblk;have hdd : (v.f.take k).foldl (fun d x => max d (V.deep m x.2)) el <= 2000000 := V.foldl_max_le (fun x : ByteArray × Val => V.deep m x.2) _ _ _ (by omega) (fun z hz => by have := V.deep_le m z.2; have := V.sumF_mem (fun x => x.1.size + V.bulk m x.2) v.f z (List.mem_of_mem_take hz); omega);clear hsn hdn;have hI := IH.out wr x.2 d0 d1 d2 d3 d4 hm (by omega);have HI : Hid _ := hI;clear hI hm hx;go_wp2_with fail;refine Calls.mono HI.out ?_;rintro e w3 ⟨rfl, hb3⟩;have hblk3 := (hb3.block w.heap.size hlt2).trans hblk;have hB3 := hB.trans (hb3.mono hB.size);clear hb3 hB hblk yn y0 y1 y2 y3 y4 b4;generalize V.parts m x.2 = px at *;generalize V.deep m x.2 = dx at *;generalize V.sumF (fun x => V.parts m x.2) (v.f.take k) = sx at *;generalize (v.f.take k).foldl (fun d x => max d (V.deep m x.2)) el = ex at *;go_wp2_with fail;go_roundw
      case rel => exact ⟨k + 1, by omega, by go_num, by rw [HSN.out]; go_num, by rw [HDN.out]; exact congrArg (Value.int .i64) (max_if ex dx), hblk3, hB3⟩
      case measure => simp [intOf]; omega
     ·have hkf : k = v.f.length := by omega
      subst hkf;rw [List.take_length];have q3 := V.sumF_mono (fun x => V.parts m x.2) (fun x => x.1.size + V.bulk m x.2) v.f (fun z => by have := V.parts_le m z.2; omega);have q4 : v.f.foldl (fun d x => max d (V.deep m x.2)) el <= 2000000 := V.foldl_max_le (fun x : ByteArray × Val => V.deep m x.2) _ _ _ (by omega) (fun z hz => by have := V.deep_le m z.2; have := V.sumF_mem (fun x => x.1.size + V.bulk m x.2) v.f z hz; omega);generalize V.sumF (fun x => V.parts m x.2) v.f = sf at *;generalize v.f.foldl (fun d x => max d (V.deep m x.2)) el = ef at *;go_wp2_with fail;go_ret2;exact ⟨by rw [HP.out, HD.out]; go_num, hB⟩
theorem refShaped_any (m : Nat) : ∀ (w : World) (v : Val) (c0 c1 c2 c3 c4 : Value), V.Mem m w v [c0, c1, c2, c3, c4] -> V.bulk m v <= 2000000 ->
  Calls Tryz.prog 57 #[.agg #[c0, c1, c2, c3, c4]] w fun e w' => e = .returned (.bool (V.shaped m v)) /\ Below w.heap.size w w' := by
 induction m with
 | zero => intro w v c0 c1 c2 c3 c4 h; exact h.elim
 | succ m ih =>
  intro w v c0 c1 c2 c3 c4 ⟨lv, fv, hcs, hl, hf⟩ hbk;obtain ⟨rfl, rfl, rfl, rfl, rfl⟩ := ij5 hcs;have IH : Hid _ := ih;clear ih;obtain ⟨al, cl, rfl⟩ := hl.shape;obtain ⟨af, cf, rfl⟩ := hf.shape;obtain ⟨bs, bl, bf, bn⟩ := V.bulk_s m v _ hbk;rw [V.bulk] at hbk;have hbL : Below w.heap.size w (w.alloc (.cells #[.int .i64 v.kind, .int .i64 v.n, .string v.s, .slice al v.l.length cl, .slice af v.f.length cf] 61)) := ba;have HE : Hid _ := V.shaped_ref m v;have BN : Hid _ := bn;clear bn;go_enter Tryz.func57, Tryz.ntmps57;go_wp2_with fail;go_loopw [3, 4] (fun vi _ wr => ∃ k : Nat, k <= v.l.length /\ vi = .int .i64 k /\ (∀ j x, j < k -> v.l[j]? = some x -> V.shaped m x = true) /\
    wr.heap[w.heap.size]? = some (.cells #[.int .i64 v.kind, .int .i64 v.n, .string v.s, .slice al v.l.length cl, .slice af v.f.length cf] 61 (0, 0)) /\ Below w.heap.size w wr)
   (fun vi _ _ => v.l.length - (intOf vi).toNat)
  case atStart => exact ⟨0, Nat.zero_le _, rfl, fun j _ hj => absurd hj (by omega), heap_alloc_new _ _, hbL⟩
  case round =>
   clear hbL;obtain ⟨k, hk, rfl, hok, hblk, hB⟩ := hrel;have HOK : Hid _ := hok;clear hok;have b3 := cell_of_block hblk 3 _ rfl;have b4 := cell_of_block hblk 4 _ rfl;by_cases hlt : k < v.l.length
   ·obtain ⟨b, off, cap, x, d0, d1, d2, d3, d4, e1, hx, hm, y0, y1, y2, y3, y4⟩ := V.elemL (hl.kept hB (fun _ _ ⟨x, hx, hm⟩ => ⟨x, hx, V.Mem.kept m hm hB⟩)) k hlt;obtain ⟨rfl, _, rfl⟩ := Value.slice.inj e1;have s1 := V.sumL_le (V.bulk m) v.l k x hx;have hlt2 := blt hblk;have hI := IH.out wr x d0 d1 d2 d3 d4 hm (by omega);have HI : Hid _ := hI;have HX : Hid _ := hx;clear hI hm hx s1;go_wp2_with fail;refine Calls.mono HI.out ?_;rintro e w3 ⟨rfl, hb3⟩;have hblk3 := (hb3.block w.heap.size hlt2).trans hblk;have hB3 := hB.trans (hb3.mono hB.size);clear hb3 hB hblk y0 y1 y2 y3 y4 b3 b4 HI;generalize hq : V.shaped m x = q;have HQ : Hid _ := hq;clear hq;cases q
    ·have E : Hid (V.shaped (m + 1) v = false) := by show _ = _; rw [HE.out, V.all_false _ _ k x HX.out HQ.out]; rfl
     go_wp2_with fail;go_ret;exact ⟨ret_bool E.out.symm, hB3⟩
    ·go_wp2_with fail;go_roundw
     case rel => exact ⟨k + 1, by omega, by go_num, V.so_far HOK.out HX.out HQ.out, hblk3, hB3⟩
     case measure => simp [intOf]; omega
   ·have HE2 : Hid (V.shaped (m + 1) v = ((v.f.all (fun x => V.shaped m x.2) && V.rise v.f) && (V.spare v.kind v.n v.s v.l.length v.f.length && V.fits v.kind v.n v.s true))) := by
     show _ = _;rw [HE.out, V.all_true (V.shaped m) v.l (fun j x hj => HOK.out j x (by have := V.lt_of_get hj; omega) hj), Bool.true_and]
    clear HE HOK;go_wp2_with fail;go_loopw [5, 6, 7] (fun vi _ _ wr => ∃ k : Nat, k <= v.f.length /\ vi = .int .i64 k /\ (∀ j x, j < k -> v.f[j]? = some x -> (fun x : ByteArray × Val => V.shaped m x.2) x = true) /\ (∀ j, j < k -> V.okAt v.f j = true) /\
      wr.heap[w.heap.size]? = some (.cells #[.int .i64 v.kind, .int .i64 v.n, .string v.s, .slice al v.l.length cl, .slice af v.f.length cf] 61 (0, 0)) /\ Below w.heap.size w wr)
     (fun vi _ _ _ => v.f.length - (intOf vi).toNat)
    case atStart => exact ⟨0, Nat.zero_le _, rfl, fun j _ hj => absurd hj (by omega), fun j hj => absurd hj (by omega), hblk, hB⟩
    case round =>
     clear hblk hB b3 b4;obtain ⟨k, hk, rfl, hok, hok2, hblk, hB⟩ := hrel;have HOK : Hid _ := hok;have HO2 : Hid _ := hok2;clear hok hok2;have b4 := cell_of_block hblk 4 _ rfl;by_cases hlf : k < v.f.length
     ·obtain ⟨b, off, cap, x, d0, d1, d2, d3, d4, e1, hx, hm, yn, y0, y1, y2, y3, y4⟩ := V.elemF (hf.kept hB (fun _ _ ⟨x, c', hx, hc, hm⟩ => ⟨x, c', hx, hc, V.Mem.kept m hm hB⟩)) k hlf;obtain ⟨rfl, _, rfl⟩ := Value.slice.inj e1;have s1 := V.sumF_le (fun x => x.1.size + V.bulk m x.2) v.f k x hx;have hlt2 := blt hblk;have hI := IH.out wr x.2 d0 d1 d2 d3 d4 hm (by omega);have HI : Hid _ := hI;have HX : Hid _ := hx;clear hI hm hx s1;go_wp2_with fail;refine Calls.mono HI.out ?_;rintro e w3 ⟨rfl, hb3⟩;have hblk3 := (hb3.block w.heap.size hlt2).trans hblk;have hB3 := hB.trans (hb3.mono hB.size);have zn : w3.cell? ⟨b, off + k * 6, none⟩ = some (.string x.1) := (hb3.cell (p := ⟨b, off + k * 6, none⟩) (World.block_lt_of_cell? wr _ yn)).trans yn;clear hb3 hB hblk yn y0 y1 y2 y3 y4 b4 HI;have b4 := cell_of_block hblk3 4 _ rfl;generalize hq : V.shaped m x.2 = q;have HQ : Hid _ := hq;clear hq;have hxs := BN.out x (List.mem_of_getElem? HX.out);have hn1 : x.1.size <= maxLen := by unfold maxLen; omega
      go_wp2_with fail;refine (nameMay_any x.1 _ hn1).mono ?_;rintro e w4 ⟨rfl, hw4⟩;rw [hw4];clear hw4;cases q
      ·have E : Hid (V.shaped (m + 1) v = false) := by show _ = _; rw [HE2.out, V.all_false (fun x : ByteArray × Val => V.shaped m x.2) _ k x HX.out HQ.out]; rfl
       generalize V.name (V.bl x.1) = nm;go_wp2_with fail;go_quiet (fail);go_wp2_with fail;go_ret;exact ⟨ret_bool E.out.symm, below_drewN hB3 _⟩
      generalize hnm : V.name (V.bl x.1) = nm;cases nm
      ·have E : Hid (V.shaped (m + 1) v = false) := by show _ = _; rw [HE2.out, V.rise_false v.f k hlf (by rw [V.okAt, HX.out]; simp [hnm]), Bool.and_false]; rfl
       go_wp2_with fail;go_quiet (fail);go_wp2_with fail;go_ret;exact ⟨ret_bool E.out.symm, below_drewN hB3 _⟩
      by_cases hk0 : k = 0
      ·have hokk : V.okAt v.f k = true := by have := HX.out; subst hk0; rw [V.okAt_zero v.f x this]; exact hnm
       have HO3 : Hid _ := hokk;have HNM : Hid _ := hnm;clear hokk hnm;subst hk0;simp only [Nat.zero_mul, Nat.add_zero] at zn;go_wp2_with fail;go_quiet (fail);go_wp2_with fail;go_roundw
       case rel => exact ⟨1, by omega, by go_num, V.so_far HOK.out HX.out HQ.out, fun j hj => by rw [show j = 0 by omega]; exact HO3.out, hblk3, below_drewN hB3 _⟩
       case measure => simp [intOf]; omega
      ·obtain ⟨k', rfl⟩ : ∃ k', k = k' + 1 := ⟨k - 1, by omega⟩
       obtain ⟨b', off', cap', y, _, _, _, _, _, e1, hy, _, zp, _⟩ := V.elemF (hf.kept hB3 (fun _ _ ⟨x, c', hx, hc, hm⟩ => ⟨x, c', hx, hc, V.Mem.kept m hm hB3⟩)) k' (by omega);simp only [Value.slice.injEq, Option.some.injEq, Addr.mk.injEq] at e1;obtain ⟨⟨rfl, rfl, _⟩, _, rfl⟩ := e1;have hoe := V.okAt_succ v.f k' x y HX.out hy;have gk : decide (0 < ((k' + 1 : Nat) : Int)) = true := decide_eq_true (by omega);rw [hnm, Bool.true_and] at hoe;have hfl := less_flip (V.bl x.1) (V.bl y.1);have HNM : Hid _ := hnm;clear hk0 hy hnm;cases hls : Op.bytesLess (V.bl y.1) (V.bl x.1)
       ·have E : Hid (V.shaped (m + 1) v = false) := by show _ = _; rw [HE2.out, V.rise_false v.f (k' + 1) hlf (by rw [hoe, hls]), Bool.and_false]; rfl
        rw [hls, <- V.toList_bl, <- V.toList_bl] at hfl;rw [<- V.toList_bl, <- V.toList_bl] at hls;clear hoe;go_wp2_with fail;go_quiet (fail);go_wp2_with fail;go_ret;exact ⟨ret_bool E.out.symm, below_drewN hB3 _⟩
       ·rw [hls] at hoe;have HO3 : Hid _ := hoe;rw [hls, <- V.toList_bl, <- V.toList_bl] at hfl;rw [<- V.toList_bl, <- V.toList_bl] at hls;clear hoe;go_wp2_with fail;go_quiet (fail);go_wp2_with fail;go_roundw
        case rel => exact ⟨k' + 1 + 1, by omega, by go_num, V.so_far HOK.out HX.out HQ.out, fun j hj => by rcases Nat.lt_or_ge j (k' + 1) with h | h; exact HO2.out j h; rw [show j = k' + 1 by omega]; exact HO3.out, hblk3, below_drewN hB3 _⟩
        case measure => simp [intOf]; omega
     ·have HE3 : Hid (V.shaped (m + 1) v = (V.spare v.kind v.n v.s v.l.length v.f.length && V.fits v.kind v.n v.s true)) := by
       show _ = _;rw [HE2.out, V.all_true (fun x : ByteArray × Val => V.shaped m x.2) v.f (fun j x hj => HOK.out j x (by have := V.lt_of_get hj; omega) hj), V.rise_true v.f (fun j hj => HO2.out j (by omega))]; rfl
      clear HE2 HOK HO2 IH BN hl hf;have b0 := cell_of_block hblk 0 _ rfl;have b1 := cell_of_block hblk 1 _ rfl;have b2 := cell_of_block hblk 2 _ rfl;have b3 := cell_of_block hblk 3 _ rfl;go_wp2_with fail
      all_goals go_ret
      all_goals refine ⟨ret_bool ?_, hB⟩
      all_goals rw [HE3.out]
      all_goals clear HE3 b0 b1 b2 b3 b4 hblk hB
      all_goals clear hk hlt hlf hbk bs bl bf
      all_goals unfold V.spare V.fits
      all_goals rw [Bool.eq_iff_iff]
      all_goals simp_all
      all_goals omega
theorem fault_any (m : Nat) (w : World) (v : Val) (c0 c1 c2 c3 c4 : Value) (h : V.Mem m w v [c0, c1, c2, c3, c4]) (hbk : V.bulk m v <= 2000000) :
  Calls Tryz.prog 32 #[.agg #[c0, c1, c2, c3, c4]] w fun e w' => e = .returned (.int .i64 (V.fault m v)) /\ Below w.heap.size w w' := by
 have hbL : Below w.heap.size w (w.alloc (.cells #[c0, c1, c2, c3, c4] 61)) := ba;have hblk0 := heap_alloc_new w (.cells #[c0, c1, c2, c3, c4] 61);have HM : Hid _ := h;clear h;have hF : V.fault m v = if 60 < V.parts m v \/ 6 < V.deep m v then 2 else if V.shaped m v then 0 else 3 := rfl;have HF : Hid _ := hF;clear hF;go_enter Tryz.func32, Tryz.ntmps32;go_wp2_with fail;refine (parts_any m _ v c0 c1 c2 c3 c4 (V.Mem.kept m HM.out hbL) hbk).mono ?_;rintro e w1 ⟨rfl, hb1⟩;have hlt1 := blt hblk0;have hblk1 := (hb1.block w.heap.size hlt1).trans hblk0;have hB1 := hbL.trans (hb1.mono hbL.size);clear hb1 hbL hblk0 hlt1;have p1 := V.parts_le m v;have p2 := V.deep_le m v;generalize V.parts m v = pp at *;generalize V.deep m v = dd at *;by_cases hp : 60 < pp
 ·go_wp2_with fail;go_ret;exact ⟨ret_int (by rw [HF.out, if_pos (.inl hp)]; rfl), hB1⟩
 by_cases hd : 6 < dd
 ·go_wp2_with fail;go_ret;exact ⟨ret_int (by rw [HF.out, if_pos (.inr hd)]; rfl), hB1⟩
 obtain ⟨b0, b1, b2, b3, b4⟩ := cl5 hblk1;have HG : Hid (V.fault m v = if V.shaped m v then 0 else 3) := by show _ = _; rw [HF.out, if_neg (by omega)]
 clear HF;go_wp2_with fail;refine (refShaped_any m _ v c0 c1 c2 c3 c4 (V.Mem.kept m HM.out hB1) hbk).mono ?_;rintro e w2 ⟨rfl, hb2⟩;have hB2 := hB1.trans (hb2.mono hB1.size);generalize V.shaped m v = sh at *;cases sh
 ·go_wp2_with fail;go_ret;exact ⟨ret_int (by rw [HG.out]; rfl), hB2⟩
 ·go_wp2_with fail;go_ret;exact ⟨ret_int (by rw [HG.out]; rfl), hB2⟩
end Go.Proofs.YtcekcfjabhlheaaGreatDoor.Vx
