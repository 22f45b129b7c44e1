/- StateSays: UG UH UI UJ. -/
import Derived.Test.YtcekcfjabhlheaaGreatDoorRT
import Derived.Test.YtcekcfjabhlheaaGreatDoorTopC
import Derived.Test.YtcekcfjabhlheaaGreatDoorUK
import Derived.BigQuiet
import Derived.Test.YtcekcfjabhlheaaGreatDoorVY
import Derived.LaidEqlPtr
set_option maxRecDepth 100000
set_option maxHeartbeats 6400000
namespace Go.Proofs.YtcekcfjabhlheaaGreatDoor.Vx
open Go.RowKit
namespace P
theorem fc_length (ts : List K) : (fc ts).length = ts.length := List.length_map ..
theorem tv_of {k : Nat} {t : List UInt8} (hv : Lx.Valid k t) : t.length <= 40 /\ (k = 2 -> t ≠ [] /\ t.length <= 10 /\ ∀ b ∈ t, Lx.digit b = true) := by
 refine ⟨(Lx.again k t [] hv).2.2.1, ?_⟩;rintro rfl;obtain ⟨hk, r, n, hf⟩ := hv;cases r with
 | nil => cases hf
 | cons c r =>
  rw [Lx.firstTok] at hf;cases hl : Lx.letter c
  ·cases hd : Lx.digit c
   ·rw [hl, hd] at hf;simp only [Bool.false_eq_true, if_false] at hf;by_cases hq : c.toNat = 34
    ·rw [if_pos hq, Lx.quotedTok] at hf;have he : (Lx.qt ((c :: r).drop 1) 1 []).err = 0 := by rw [hf]
     have h1 := Lx.qt_kind _ _ _ he;rw [hf] at h1;cases h1
    ·rw [if_neg hq, Lx.signTok] at hf;split at hf
     ·cases hf
     ·split at hf <;> cases hf
   ·rw [hl, hd] at hf;simp only [Bool.false_eq_true, if_false, if_true] at hf;rw [Lx.digitsTok] at hf;by_cases hb : Lx.plen Lx.digit (c :: r) > 10 \/ Lx.plen Lx.digit (c :: r) > 1 /\ (c :: r).headD 0 = 48
    ·rw [if_pos hb] at hf;cases hf
    ·rw [if_neg hb] at hf;have h2 := congrArg Lx.Tok.text hf;simp only at h2;subst h2;have hp : Lx.plen Lx.digit (c :: r) = Lx.plen Lx.digit r + 1 := by rw [Lx.plen, if_pos hd]
     refine ⟨by rw [hp]; simp, ?_, Lx.plen_take Lx.digit (c :: r)⟩;rw [Lx.length_take_plen];omega
  ·rw [hl] at hf;simp only [if_true] at hf;rw [Lx.wordTok] at hf;split at hf <;> cases hf
theorem good_len (m : Nat) : ∀ (l : List K) (k : Nat), Lx.Good m k l -> k <= m -> k + l.length <= m
 | [], _, _, h => h
 | t :: r, k, ⟨h1, h2, _, h4⟩, _ => by
  have := good_len m r (t.2.1 + 1) h4 h2;simp only [List.length_cons];omega
theorem good_tv (m : Nat) : ∀ (l : List K) (k : Nat), Lx.Good m k l -> ∀ t ∈ l, Tv t
 | [], _, _ => fun _ h => absurd h (by simp)
 | t :: r, _, ⟨_, _, h3, h4⟩ => fun x hx => by
  rcases List.mem_cons.1 hx with rfl | hx
  ·exact tv_of h3
  ·exact good_tv m r _ h4 x hx
theorem lex_facts {s : List UInt8} {l : List K} (h : Lx.lexAll s = .ok l) : l.length <= 4000 /\ ∀ t ∈ l, Tv t := by
 have hg := Lx.lexAll_good s l h;have hs : s.length <= 4000 := by
  unfold Lx.lexAll at h;split at h
  ·cases h
  ·omega
 exact ⟨by have := good_len _ l 0 hg (Nat.zero_le _); omega, good_tv _ l 0 hg⟩
theorem rdr_new {B : Nat} {w : World} {ao : Option Addr} {cap : Nat} {l : List K} (ho : w.ownsRow B 218 3 (.slice ao l.length cap) l.length (l.flatMap Lx.tokCells)) (hl : l.length <= 4000) (ht : ∀ t ∈ l, Tv t) (ed : Int) :
  Rdr w.heap.size (w.alloc (rblk (.slice ao l.length cap) ed 0)) l := by
 refine ⟨⟨_, ed, 0, heap_alloc_new _ _, ao, cap, rfl, ?_, ?_⟩, ht⟩
 ·rcases ho.2 with ⟨hv, hn⟩ | ⟨g, cap', cur, hv, hg, hh, hnc, hle, hcs, htk⟩
  ·omega
  ·simp only [Value.slice.injEq] at hv;obtain ⟨_, _, rfl⟩ := hv;omega
 ·rw [List.flatMap_def] at ho;obtain ⟨a2, c2, e2, h | ⟨b, off, rfl, h⟩⟩ := row_own (l.map Lx.tokCells) ho (List.length_map _) (fun c hc => by
   obtain ⟨x, _, rfl⟩ := List.mem_map.1 hc;rfl)
  ·exact .inl h
  ·by_cases h0 : l.length = 0
   ·exact .inl h0
   ·simp only [Value.slice.injEq] at e2;obtain ⟨rfl, _, _⟩ := e2;have hcell : ∀ (j : Nat) (t : K), l[j]? = some t -> w.cell? ⟨b, off + j * 3, none⟩ = some (.int .i64 t.1) /\ w.cell? ⟨b, off + j * 3 + 1, none⟩ = some (.int .i64 t.2.1) /\ w.cell? ⟨b, off + j * 3 + 2, none⟩ = some (.string (Lx.str t.2.2)) := fun j t hj => by
     obtain ⟨cs, h1, h2, h3⟩ := h j (List.getElem?_eq_some_iff.1 hj).1;rw [List.getElem?_map, hj] at h3;cases h3;exact ⟨h2 0 (by decide), h2 1 (by decide), h2 2 (by decide)⟩
    have hb : b < w.heap.size := by
     have := (hcell 0 l[0] (List.getElem?_eq_getElem (by omega))).1;exact World.block_lt_of_cell? w _ this
    refine .inr ⟨b, off, rfl, hb, fun j t hj => ?_⟩;obtain ⟨q0, q1, q2⟩ := hcell j t hj;have hbl : Below w.heap.size w (w.alloc (rblk (.slice (some ⟨b, off, none⟩) l.length cap) ed 0)) := ba;exact ⟨kept_cell hbl q0, kept_cell hbl q1, kept_cell hbl q2⟩
def Got (e : Ex) (w w' : World) (cs : List Value) : Prop := (∃ k v s t a i c a' i' c', cs = xc k v s t a i c a' i' c') /\ X.MemD (New w w') 6 w' e cs /\ X.bulk 6 e <= 240000
end P
theorem parse1_any (sm : Val -> Val -> Bool) (hsm : V.Says sm) (R : Nat) (w : World) (ts : List P.K) (e : Ex) (h : P.Rdr R w ts) (hw : P.whole (fun e => decide (X.fault sm 6 e = 0)) (P.fc ts) = some (e, [])) (hwr : P.Wr 6 e) :
  Calls Tryz.prog 149 #[.pointer (some ⟨R, 0, none⟩)] w fun r w' => Fr w w' (fun c => c = R) /\ (∃ k v s t a i c a' i' c', r = .returned (.tuple #[.agg (P.xc k v s t a i c a' i' c').toArray, .nilIface]) /\ X.MemD (P.New w w') 6 w' e (P.xc k v s t a i c a' i' c')) /\ X.bulk 6 e <= 60 * ts.length /\ P.Rdr R w' [] := by
 have hR := h.lt;have hb0 : Below w.heap.size w (w.alloc (.cells #[.int .i64 0, .int .i64 0, .int .i64 0, .string ⟨#[]⟩, .slice none 0 0, .slice none 0 0, .string ⟨#[]⟩, .string ⟨#[]⟩, .slice none 0 0, .slice none 0 0] 170)) := ba;have hA0 := heap_alloc_new w (.cells #[.int .i64 0, .int .i64 0, .int .i64 0, .string ⟨#[]⟩, .slice none 0 0, .slice none 0 0, .string ⟨#[]⟩, .string ⟨#[]⟩, .slice none 0 0, .slice none 0 0] 170);have HSZ : Hid ((w.alloc (.cells #[.int .i64 0, .int .i64 0, .int .i64 0, .string ⟨#[]⟩, .slice none 0 0, .slice none 0 0, .string ⟨#[]⟩, .string ⟨#[]⟩, .slice none 0 0, .slice none 0 0] 170)).heap.size = w.heap.size + 1) := by
  show _ = _;simp
 have HF0 : Hid (Fr w _ (fun c => c = R)) := (P.fr_below hb0).weak (fun _ _ e => e.elim);have HWH := hide (whole_any sm hsm R _ ts (h.kept hb0) (P.whole_wok hw hwr) _ hw);obtain ⟨HA0, HW⟩ := hd2 hA0 hw;clear h hb0 hA0 hw hwr;go_enter Tryz.func149, Tryz.ntmps149;go_wp2_with fail;generalize (w.alloc _) = w0 at *;refine HWH.out.mono ?_;rintro r wb ⟨hfb, ⟨e', n, k1, v1, s1, t1, a1, i1, u1, b1, j1, p1, hE, rfl, hM, hbk, hr1⟩ | ⟨hE, _⟩⟩
 ·rw [HW.out] at hE;simp only [Option.some.injEq, Prod.mk.injEq] at hE;obtain ⟨rfl, hnil⟩ := hE;have hts : ts.drop (n + 1) = [] := by
   have := congrArg List.length hnil;rw [P.fc_length] at this;exact List.length_eq_zero_iff.1 this.symm
  rw [hts] at hr1 hbk;have hAd := (hfb.block w.heap.size (blt HA0.out) (by omega)).trans HA0.out;have HFb := hide (HF0.out.trans hfb (fun _ _ e => e));obtain ⟨HM, HR1⟩ := hd2 hM hr1;have HBK : Hid (X.bulk 6 e <= 60 * ts.length) := by
   show _ <= _;simpa using hbk
  have HS0 : Hid (w0.heap.size <= wb.heap.size) := hfb.size;unfold P.xc;clear hfb hM hr1 hbk hnil hts HWH;obtain ⟨z0, z1, z2, z3, z4, z5, z6, z7, z8, z9⟩ := cl10 hAd;obtain ⟨f0, f1, f2, f3, f4, f5, f6, f7, f8, f9⟩ := fl10 hAd;have HAx := hide hAd;clear hAd;go_wp2_with fail;have hBz := P.set10 HAx.out (.int .i64 k1) (.int .i64 v1.kind) (.int .i64 v1.n) (.string v1.s) (.slice none 0 0) (.slice none 0 0) (.string s1) (.string t1) (.slice a1 i1 u1) (.slice b1 j1 p1);have hFz := P.fr10 wb w.heap.size (.int .i64 k1) (.int .i64 v1.kind) (.int .i64 v1.n) (.string v1.s) (.slice none 0 0) (.slice none 0 0) (.string s1) (.string t1) (.slice a1 i1 u1) (.slice b1 j1 p1);generalize ((((((((((wb.setCell _ _).setCell _ _).setCell _ _).setCell _ _).setCell _ _).setCell _ _).setCell _ _).setCell _ _).setCell _ _).setCell _ _) = wz at *;obtain ⟨r0, r1, r2, r3, r4, r5, r6, r7, r8, r9⟩ := cl10 hBz;refine bodyPost_ret (v := .tuple #[.agg #[.int .i64 k1, .int .i64 v1.kind, .int .i64 v1.n, .string v1.s, .slice none 0 0, .slice none 0 0, .string s1, .string t1, .slice a1 i1 u1, .slice b1 j1 p1], .nilIface]) (by simp [results, Tryz.results149, go_sem, r0, r1, r2, r3, r4, r5, r6, r7, r8, r9]) rfl ⟨HFb.out.trans hFz (fun c hc e => by omega), ⟨k1, v1, s1, t1, a1, i1, u1, b1, j1, p1, rfl, ?_⟩, HBK.out, HR1.out.fr hFz (fun c e => by omega)⟩;refine HM.out.to (fun c hc => hFz.block c hc.2 (by have := hc.1; have := HSZ.out; omega)) (fun c hc => ⟨by have := hc.1; have := HSZ.out; omega, by have := hc.2; have := hFz.size; omega⟩)
 ·rw [HW.out] at hE;cases hE
theorem readAll_one (sm : Val -> Val -> Bool) (hsm : V.Says sm) (s : ByteArray) (w : World) (l : List P.K) (e : Ex) (hlx : Lx.lexAll (V.bl s) = .ok l) (hw : P.whole (fun e => decide (X.fault sm 6 e = 0)) (P.fc l) = some (e, [])) (hwr : P.Wr 6 e) :
  Calls Tryz.prog 148 #[.string s, .func (.func 149) #[] #[]] w fun r w' => Below w.heap.size w w' /\ ∃ cs, r = .returned (.tuple #[.agg cs.toArray, .int .i64 0, .nilIface]) /\ P.Got e w w' cs := by
 have hb0 : Below w.heap.size w ((w.alloc (.cells #[.int .i64 0, .int .i64 0, .int .i64 0, .string ⟨#[]⟩, .slice none 0 0, .slice none 0 0, .string ⟨#[]⟩, .string ⟨#[]⟩, .slice none 0 0, .slice none 0 0] 170)).alloc (.cells #[.int .i64 0, .int .i64 0, .int .i64 0, .string ⟨#[]⟩, .slice none 0 0, .slice none 0 0, .string ⟨#[]⟩, .string ⟨#[]⟩, .slice none 0 0, .slice none 0 0] 170)) := (ba).alloc (by simp) _;have hA0 : ((w.alloc (.cells #[.int .i64 0, .int .i64 0, .int .i64 0, .string ⟨#[]⟩, .slice none 0 0, .slice none 0 0, .string ⟨#[]⟩, .string ⟨#[]⟩, .slice none 0 0, .slice none 0 0] 170)).alloc (.cells #[.int .i64 0, .int .i64 0, .int .i64 0, .string ⟨#[]⟩, .slice none 0 0, .slice none 0 0, .string ⟨#[]⟩, .string ⟨#[]⟩, .slice none 0 0, .slice none 0 0] 170)).heap[w.heap.size]? = some (.cells #[.int .i64 0, .int .i64 0, .int .i64 0, .string ⟨#[]⟩, .slice none 0 0, .slice none 0 0, .string ⟨#[]⟩, .string ⟨#[]⟩, .slice none 0 0, .slice none 0 0] 170 (0, 0)) := by
  rw [heap_alloc_old _ _ (by simp)];exact heap_alloc_new _ _
 have HSZ : Hid (((w.alloc (.cells #[.int .i64 0, .int .i64 0, .int .i64 0, .string ⟨#[]⟩, .slice none 0 0, .slice none 0 0, .string ⟨#[]⟩, .string ⟨#[]⟩, .slice none 0 0, .slice none 0 0] 170)).alloc (.cells #[.int .i64 0, .int .i64 0, .int .i64 0, .string ⟨#[]⟩, .slice none 0 0, .slice none 0 0, .string ⟨#[]⟩, .string ⟨#[]⟩, .slice none 0 0, .slice none 0 0] 170)).heap.size = w.heap.size + 2) := by
  show _ = _;simp
 have HT := hide (tokens_all s ((w.alloc (.cells #[.int .i64 0, .int .i64 0, .int .i64 0, .string ⟨#[]⟩, .slice none 0 0, .slice none 0 0, .string ⟨#[]⟩, .string ⟨#[]⟩, .slice none 0 0, .slice none 0 0] 170)).alloc (.cells #[.int .i64 0, .int .i64 0, .int .i64 0, .string ⟨#[]⟩, .slice none 0 0, .slice none 0 0, .string ⟨#[]⟩, .string ⟨#[]⟩, .slice none 0 0, .slice none 0 0] 170)));rw [show Lx.lexAll (Lx.bl s) = _ from hlx] at HT;obtain ⟨hl4, htv⟩ := P.lex_facts hlx;obtain ⟨HL4, HTV, HW, HB0, HA0⟩ := hd5 hl4 htv hw hb0 hA0;clear hlx hw hl4 htv hb0 hA0;go_enter Tryz.func148, Tryz.ntmps148;go_wp2_with fail;generalize ((w.alloc _).alloc _) = w0 at *;refine HT.out.mono ?_;rintro r wa ⟨⟨ao, cap, rfl, hown⟩, hba⟩;have hrd := P.rdr_new hown HL4.out HTV.out (s.size : Int);unfold P.rblk at hrd;have hAa := (hba.block w.heap.size (blt HA0.out)).trans HA0.out;have HAb : Hid ((wa.alloc (.cells #[.slice ao l.length cap, .int .i64 s.size, .int .i64 0] 215)).heap[w.heap.size]? = some (.cells #[.int .i64 0, .int .i64 0, .int .i64 0, .string ⟨#[]⟩, .slice none 0 0, .slice none 0 0, .string ⟨#[]⟩, .string ⟨#[]⟩, .slice none 0 0, .slice none 0 0] 170 (0, 0))) := by
  show _ = _;rw [heap_alloc_old _ _ (blt hAa)];exact hAa
 have HR1 := hide (parse1_any sm hsm wa.heap.size _ l e hrd HW.out hwr);have HBA := hide (show Below w.heap.size w (wa.alloc (.cells #[.slice ao l.length cap, .int .i64 s.size, .int .i64 0] 215)) from (HB0.out.trans (hba.mono HB0.out.size)).alloc (by have := HB0.out.size; have := hba.size; omega) _);have HWA : Hid (w.heap.size + 2 <= wa.heap.size) := by
  show _ <= _;have := HSZ.out;have := hba.size;omega
 have HSB : Hid ((wa.alloc (.cells #[.slice ao l.length cap, .int .i64 s.size, .int .i64 0] 215)).heap.size = wa.heap.size + 1) := by
  show _ = _;simp
 clear hba HT hown hrd hAa;go_wp2_with fail;generalize (wa.alloc _) = wb at *;refine HR1.out.mono ?_;rintro r wc ⟨hfc, ⟨k1, v1, s1, t1, a1, i1, u1, b1, j1, p1, rfl, hM⟩, hbk, hr⟩;have hBC : Below w.heap.size w wc := HBA.out.trans (hfc.below HBA.out.size (fun c e => by have := HWA.out; omega));have hAc := (hfc.block w.heap.size (blt HAb.out) (by have := HWA.out; omega)).trans HAb.out;obtain ⟨⟨lv, ed, wr, hb, a2, c2, rfl, hc2, _⟩, _⟩ := id hr;unfold P.rblk at hb;have hltR := blt hb;have hbx : Below wc.heap.size wc (wc.alloc (.cells #[.int .i64 k1, .int .i64 v1.kind, .int .i64 v1.n, .string v1.s, .slice none 0 0, .slice none 0 0, .string s1, .string t1, .slice a1 i1 u1, .slice b1 j1 p1] 170)) := ba;have hX := heap_alloc_new wc (.cells #[.int .i64 k1, .int .i64 v1.kind, .int .i64 v1.n, .string v1.s, .slice none 0 0, .slice none 0 0, .string s1, .string t1, .slice a1 i1 u1, .slice b1 j1 p1] 170);have hb2 := (hbx.block wa.heap.size hltR).trans hb;have r0' : (wc.alloc (.cells #[.int .i64 k1, .int .i64 v1.kind, .int .i64 v1.n, .string v1.s, .slice none 0 0, .slice none 0 0, .string s1, .string t1, .slice a1 i1 u1, .slice b1 j1 p1] 170)).cell? ⟨wa.heap.size, 0, none⟩ = some (.slice a2 0 c2) := cell_of_block hb2 0 _ rfl;have hA2 := (hbx.block w.heap.size (blt hAc)).trans hAc;have HBC := hide (hBC.trans (hbx.mono hBC.size));have HM : Hid (X.MemD (P.New wb wc) 6 (wc.alloc (.cells #[.int .i64 k1, .int .i64 v1.kind, .int .i64 v1.n, .string v1.s, .slice none 0 0, .slice none 0 0, .string s1, .string t1, .slice a1 i1 u1, .slice b1 j1 p1] 170)) e (P.xc k1 v1 s1 t1 a1 i1 u1 b1 j1 p1)) := hM.to (fun c hc => hbx.block c hc.2) (fun _ hc => hc);have HSC : Hid ((wc.alloc (.cells #[.int .i64 k1, .int .i64 v1.kind, .int .i64 v1.n, .string v1.s, .slice none 0 0, .slice none 0 0, .string s1, .string t1, .slice a1 i1 u1, .slice b1 j1 p1] 170)).heap.size = wc.heap.size + 1) := by
  show _ = _;simp
 have HBK : Hid (X.bulk 6 e <= 240000) := by
  show _ <= _;have := HL4.out;omega
 obtain ⟨x0, x1, x2, x3, x4, x5, x6, x7, x8, x9⟩ := cl10 hX;obtain ⟨z0, z1, z2, z3, z4, z5, z6, z7, z8, z9⟩ := cl10 hA2;obtain ⟨f0, f1, f2, f3, f4, f5, f6, f7, f8, f9⟩ := fl10 hA2;have HA2 := hide hA2;have HLE : Hid (w.heap.size + 2 <= wb.heap.size /\ wb.heap.size <= wc.heap.size) := ⟨by have := HWA.out; have := HSB.out; omega, hfc.size⟩
 unfold P.xc;clear hfc hM hbk hr hBC hAc hb hltR hbx hX hb2 hA2 HR1 hc2;go_wp2_with fail;generalize (wc.alloc _) = wd at *;have hBz := P.set10 HA2.out (.int .i64 k1) (.int .i64 v1.kind) (.int .i64 v1.n) (.string v1.s) (.slice none 0 0) (.slice none 0 0) (.string s1) (.string t1) (.slice a1 i1 u1) (.slice b1 j1 p1);have hFz := P.fr10 wd w.heap.size (.int .i64 k1) (.int .i64 v1.kind) (.int .i64 v1.n) (.string v1.s) (.slice none 0 0) (.slice none 0 0) (.string s1) (.string t1) (.slice a1 i1 u1) (.slice b1 j1 p1);generalize ((((((((((wd.setCell _ _).setCell _ _).setCell _ _).setCell _ _).setCell _ _).setCell _ _).setCell _ _).setCell _ _).setCell _ _).setCell _ _) = wz at *;obtain ⟨r0, r1, r2, r3, r4, r5, r6, r7, r8, r9⟩ := cl10 hBz;have hle := HLE.out;have hsc := HSC.out;have HBz : Below w.heap.size w wz := HBC.out.trans (hFz.below HBC.out.size (fun c e => by omega));refine bodyPost_ret (v := .tuple #[.agg #[.int .i64 k1, .int .i64 v1.kind, .int .i64 v1.n, .string v1.s, .slice none 0 0, .slice none 0 0, .string s1, .string t1, .slice a1 i1 u1, .slice b1 j1 p1], .int .i64 0, .nilIface]) (by simp [results, Tryz.results148, go_sem, r0, r1, r2, r3, r4, r5, r6, r7, r8, r9]) rfl ⟨HBz, P.xc k1 v1 s1 t1 a1 i1 u1 b1 j1 p1, rfl, ⟨k1, v1, s1, t1, a1, i1, u1, b1, j1, p1, rfl⟩, ?_, HBK.out⟩;exact HM.out.to (fun c hc => hFz.block c (by have := hc.2; omega) (by have := hc.1; omega)) (fun c hc => ⟨by have := hc.1; omega, by have := hc.2; have := hFz.size; omega⟩)
theorem parse_one (sm : Val -> Val -> Bool) (hsm : V.Says sm) (s : ByteArray) (w : World) (l : List P.K) (e : Ex) (hlx : Lx.lexAll (V.bl s) = .ok l) (hw : P.whole (fun e => decide (X.fault sm 6 e = 0)) (P.fc l) = some (e, [])) (hwr : P.Wr 6 e) :
  Calls Tryz.prog 132 #[.string s] w fun r w' => Below w.heap.size w w' /\ ∃ cs, r = .returned (.tuple #[.agg cs.toArray, .int .i64 0, .nilIface]) /\ P.Got e w w' cs := by
 have hb0 : Below w.heap.size w (w.alloc (.cells #[.int .i64 0, .int .i64 0, .int .i64 0, .string ⟨#[]⟩, .slice none 0 0, .slice none 0 0, .string ⟨#[]⟩, .string ⟨#[]⟩, .slice none 0 0, .slice none 0 0] 170)) := ba;have hA0 := heap_alloc_new w (.cells #[.int .i64 0, .int .i64 0, .int .i64 0, .string ⟨#[]⟩, .slice none 0 0, .slice none 0 0, .string ⟨#[]⟩, .string ⟨#[]⟩, .slice none 0 0, .slice none 0 0] 170);have HSZ : Hid ((w.alloc (.cells #[.int .i64 0, .int .i64 0, .int .i64 0, .string ⟨#[]⟩, .slice none 0 0, .slice none 0 0, .string ⟨#[]⟩, .string ⟨#[]⟩, .slice none 0 0, .slice none 0 0] 170)).heap.size = w.heap.size + 1) := by
  show _ = _;simp
 have HR := hide (readAll_one sm hsm s (w.alloc (.cells #[.int .i64 0, .int .i64 0, .int .i64 0, .string ⟨#[]⟩, .slice none 0 0, .slice none 0 0, .string ⟨#[]⟩, .string ⟨#[]⟩, .slice none 0 0, .slice none 0 0] 170)) l e hlx hw hwr);obtain ⟨HB0, HA0⟩ := hd2 hb0 hA0;clear hlx hw hb0 hA0;go_enter Tryz.func132, Tryz.ntmps132;go_wp2_with fail;generalize (w.alloc _) = w0 at *;refine HR.out.mono ?_;rintro r wb ⟨hb, cs, rfl, ⟨k1, v1, s1, t1, a1, i1, u1, b1, j1, p1, rfl⟩, hM, hbk⟩;have hA2 := (hb.block w.heap.size (by have := HSZ.out; omega)).trans HA0.out;have HBC := bt HB0 hb;obtain ⟨HM, HBK⟩ := hd2 hM hbk;have HS0 : Hid (w0.heap.size <= wb.heap.size) := hb.size;obtain ⟨z0, z1, z2, z3, z4, z5, z6, z7, z8, z9⟩ := cl10 hA2;obtain ⟨f0, f1, f2, f3, f4, f5, f6, f7, f8, f9⟩ := fl10 hA2;have HA2 := hide hA2;unfold P.xc;clear hb hM hbk hA2 HR;go_wp2_with fail;have hBz := P.set10 HA2.out (.int .i64 k1) (.int .i64 v1.kind) (.int .i64 v1.n) (.string v1.s) (.slice none 0 0) (.slice none 0 0) (.string s1) (.string t1) (.slice a1 i1 u1) (.slice b1 j1 p1);have hFz := P.fr10 wb w.heap.size (.int .i64 k1) (.int .i64 v1.kind) (.int .i64 v1.n) (.string v1.s) (.slice none 0 0) (.slice none 0 0) (.string s1) (.string t1) (.slice a1 i1 u1) (.slice b1 j1 p1);generalize ((((((((((wb.setCell _ _).setCell _ _).setCell _ _).setCell _ _).setCell _ _).setCell _ _).setCell _ _).setCell _ _).setCell _ _).setCell _ _) = wz at *;obtain ⟨r0, r1, r2, r3, r4, r5, r6, r7, r8, r9⟩ := cl10 hBz;have hsc := HSZ.out;have hs0 := HS0.out;have HBz : Below w.heap.size w wz := HBC.out.trans (hFz.below HBC.out.size (fun c e => by omega));refine bodyPost_ret (v := .tuple #[.agg #[.int .i64 k1, .int .i64 v1.kind, .int .i64 v1.n, .string v1.s, .slice none 0 0, .slice none 0 0, .string s1, .string t1, .slice a1 i1 u1, .slice b1 j1 p1], .int .i64 0, .nilIface]) (by simp [results, Tryz.results132, go_sem, r0, r1, r2, r3, r4, r5, r6, r7, r8, r9]) rfl ⟨HBz, P.xc k1 v1 s1 t1 a1 i1 u1 b1 j1 p1, rfl, ⟨k1, v1, s1, t1, a1, i1, u1, b1, j1, p1, rfl⟩, ?_, HBK.out⟩;exact HM.out.to (fun c hc => hFz.block c hc.2 (by have := hc.1; omega)) (fun c hc => ⟨by have := hc.1; omega, by have := hc.2; have := hFz.size; omega⟩)
namespace X
def Writ : Nat -> Ex -> Prop
 | 0, _ => True
 | m + 1, e => (e.kind = 1 \/ e.kind = 8 \/ e.kind = 9) /\ ∀ x ∈ e.a, Writ m x
end X
theorem written_any (m : Nat) : ∀ (w : World) (e : Ex) (d0 d1 d2 d3 d4 d5 d6 d7 d8 d9 : Value), X.Mem m w e [d0, d1, d2, d3, d4, d5, d6, d7, d8, d9] -> X.Writ m e -> X.bulk m e <= 2000000 ->
  Calls Tryz.prog 133 #[.agg #[d0, d1, d2, d3, d4, d5, d6, d7, d8, d9]] w fun o w' => o = .returned (.bool true) /\ Below w.heap.size w w' := by
 induction m with
 | zero => intro w e d0 d1 d2 d3 d4 d5 d6 d7 d8 d9 h; exact h.elim
 | succ m ih =>
  intro w e d0 d1 d2 d3 d4 d5 d6 d7 d8 d9 ⟨c0, c1, c2, c3, c4, av, nv, hcs, hv, ha, hn⟩ hwr hbk;simp only [List.cons.injEq, and_true] at hcs;obtain ⟨rfl, rfl, rfl, rfl, rfl, rfl, rfl, rfl, rfl, rfl⟩ := hcs;obtain ⟨aa, ca, rfl⟩ := ha.shape;obtain ⟨an, cn, rfl⟩ := hn.shape;have IH : Hid _ := ih;have hbe := hbk;rw [X.bulk] at hbe;have hbL : Below w.heap.size w (w.alloc (.cells #[.int .i64 e.kind, d1, d2, d3, d4, d5, .string e.s, .string e.t, .slice aa e.a.length ca, .slice an e.n.length cn] 170)) := ba;have hblk0 := heap_alloc_new w (.cells #[.int .i64 e.kind, d1, d2, d3, d4, d5, .string e.s, .string e.t, .slice aa e.a.length ca, .slice an e.n.length cn] 170);have hal : e.a.length <= 2000000 := by omega
  obtain ⟨HBK, HA, HWR, HBLK0, HBL⟩ := hd5 hbk ha hwr.2 hblk0 hbL;have hk := hwr.1;have b0 := cell_of_block hblk0 0 _ rfl;have b8 := cell_of_block hblk0 8 _ rfl;clear ih hbk hbe ha hn hv hwr hblk0 hbL;generalize e.kind = q0 at *;rcases hk with rfl | rfl | rfl
  all_goals
   go_enter Tryz.func133, Tryz.ntmps133;go_wp2_with fail;clear b0 b8;go_loopw [20, 3] (fun vi _ wr => ∃ k : Nat, k <= e.a.length /\ vi = .int .i64 k /\ (∃ q, wr.heap[w.heap.size]? = some (.cells #[.int .i64 q, d1, d2, d3, d4, d5, .string e.s, .string e.t, .slice aa e.a.length ca, .slice an e.n.length cn] 170 (0, 0))) /\ Below w.heap.size w wr)
    (fun vi _ _ => e.a.length - (intOf vi).toNat)
   case atStart => exact ⟨0, Nat.zero_le _, rfl, ⟨_, HBLK0.out⟩, HBL.out⟩
   case round =>
    clear HBLK0 HBL;obtain ⟨k, hk, rfl, ⟨q, hblk⟩, hB⟩ := hrel;have b8 := cell_of_block hblk 8 _ rfl;by_cases hlt : k < e.a.length
    ·obtain ⟨b, off, cap, x, f0, f1, f2, f3, f4, f5, f6, f7, f8, f9, e1, hx, hm, y0, y1, y2, y3, y4, y5, y6, y7, y8, y9⟩ := X.elemA (HA.out.kept hB (fun _ _ ⟨x, hx, hm⟩ => ⟨x, hx, X.Mem.kept m hm hB⟩)) k hlt;obtain ⟨rfl, _, rfl⟩ := Value.slice.inj e1;have hlt2 := blt hblk;have hxm := List.mem_of_getElem? hx;have HI := hide (IH.out wr x f0 f1 f2 f3 f4 f5 f6 f7 f8 f9 hm (HWR.out x hxm) (X.bulk_a m e x hxm _ HBK.out));clear hm hx hxm;go_wp2_with fail;refine Calls.mono HI.out ?_;rintro o w3 ⟨rfl, hb3⟩;have HBLK3 := hide ((hb3.block w.heap.size hlt2).trans hblk);have HB3 := hide (hB.trans (hb3.mono hB.size));clear hb3 hB hblk y0 y1 y2 y3 y4 y5 y6 y7 y8 y9 b8 HI;go_wp2_with fail;go_roundw
     case rel => exact ⟨k + 1, by omega, by go_num, ⟨_, HBLK3.out⟩, HB3.out⟩
     case measure => simp [intOf]; omega
    ·clear hblk b8;go_wp2_with fail;go_ret;exact ⟨rfl, hB⟩
namespace X
def val : Nat -> Ex -> Val
 | 0, _ => V.zero
 | m + 1, e => if e.kind = 1 then e.v else if e.kind = 8 then ⟨4, 0, ⟨#[]⟩, e.a.map (val m), []⟩ else ⟨5, 0, ⟨#[]⟩, [], e.n.zip (e.a.map (val m))⟩
def work : Nat -> Ex -> Nat
 | 0, _ => 0
 | m + 1, e => 2 + (e.a.map (work m)).sum
def Fine : Nat -> Ex -> Prop
 | 0, _ => False
 | m + 1, e => ((e.kind = 1 /\ e.a = [] /\ e.n = []) \/ (e.kind = 8 /\ e.n = []) \/ (e.kind = 9 /\ e.a.length = e.n.length)) /\ V.fault (m + 1) (val (m + 1) e) = 0 /\ V.bulk (m + 1) (val (m + 1) e) <= 2000000 /\ e.a.length <= 60 /\ ∀ x ∈ e.a, Fine m x
theorem Fine.writ : ∀ {m : Nat} {e : Ex}, Fine m e -> Writ m e
 | 0, _, h => h.elim
 | m + 1, e, ⟨h1, _, _, _, h5⟩ => ⟨by rcases h1 with h | h | h; exact .inl h.1; exact .inr (.inl h.1); exact .inr (.inr h.1), fun x hx => (h5 x hx).writ⟩
theorem val_exOf : ∀ (d : Nat) (v : Val), P.Lay d v -> V.shaped d v = true -> val d (P.exOf d v) = v
 | 0, _, h, _ => h.elim
 | d + 1, v, h, hs => by
  rcases P.shaped_cases hs with ⟨h4, h5, hpl⟩ | ⟨l, rfl, hl⟩ | ⟨f, rfl, hr, hf⟩
  ·rw [P.exOf, if_neg h4, if_neg h5, val, if_pos rfl]
  ·rw [P.exOf, if_pos rfl, val, if_neg (show ¬ (8 : Int) = 1 by decide), if_pos rfl];congr 1;rw [List.map_map]
   conv => rhs; rw [<- List.map_id l]
   exact List.map_congr_left (fun x hx => val_exOf d x (h.1 x hx) (hl x hx))
  ·rw [P.exOf, if_neg (show ¬ (5 : Int) = 4 by decide), if_pos rfl, val, if_neg (show ¬ (9 : Int) = 1 by decide), if_neg (show ¬ (9 : Int) = 8 by decide)];congr 1;show (f.map (·.1)).zip ((f.map (fun x => P.exOf d x.2)).map (val d)) = f;rw [List.map_map, List.zip_map']
   conv => rhs; rw [<- List.map_id f]
   refine List.map_congr_left (fun x hx => ?_);show (x.1, val d (P.exOf d x.2)) = x;rw [val_exOf d x.2 (h.2 x hx) (hf x hx)]
theorem fault_parts {m : Nat} {v : Val} : V.fault m v = 0 ↔ V.parts m v <= 60 /\ V.deep m v <= 6 /\ V.shaped m v = true := by
 unfold V.fault;constructor
 ·intro h;split at h
  ·cases h
  ·split at h
   ·rename_i h1 h2;exact ⟨by omega, by omega, h2⟩
   ·cases h
 ·rintro ⟨h1, h2, h3⟩;rw [if_neg (by omega), if_pos h3]
theorem fine_exOf : ∀ (d : Nat) (v : Val), P.Lay d v -> d <= 6 -> V.fault d v = 0 -> V.bulk d v <= 2000000 -> Fine d (P.exOf d v)
 | 0, _, h, _, _, _ => h.elim
 | d + 1, v, h, hd, hf0, hb => by
  obtain ⟨hp, hdp, hs⟩ := fault_parts.1 hf0;have hv := val_exOf (d + 1) v h hs;refine ⟨?_, by rw [hv]; exact hf0, by rw [hv]; exact hb, ?_, ?_⟩
  ·rcases P.shaped_cases hs with ⟨h4, h5, hpl⟩ | ⟨l, rfl, hl⟩ | ⟨f, rfl, hr, hf⟩
   ·rw [P.exOf, if_neg h4, if_neg h5];exact .inl ⟨rfl, rfl, rfl⟩
   ·rw [P.exOf, if_pos rfl];exact .inr (.inl ⟨rfl, rfl⟩)
   ·rw [P.exOf, if_neg (show ¬ (5 : Int) = 4 by decide), if_pos rfl];exact .inr (.inr ⟨rfl, by simp⟩)
  ·rcases P.shaped_cases hs with ⟨h4, h5, hpl⟩ | ⟨l, rfl, hl⟩ | ⟨f, rfl, hr, hf⟩
   ·rw [P.exOf, if_neg h4, if_neg h5];simp
   ·rw [P.exOf, if_pos rfl];rw [V.parts] at hp;cases d with
    | zero =>
     cases l with
     | nil => simp
     | cons a r => exact (h.1 a (by simp)).elim
    | succ d =>
     have : l.length <= V.sumL (V.parts (d + 1)) l := by
      clear hv hf0 hb h hs hl hp hdp;unfold V.sumL;induction l with
      | nil => simp
      | cons a l ih =>
       have := P.parts_pos (m := d) (v := a);simp only [List.length_cons, List.map_cons, List.sum_cons];omega
     simp only [List.length_map];simp only at hp;omega
   ·rw [P.exOf, if_neg (show ¬ (5 : Int) = 4 by decide), if_pos rfl];rw [V.parts] at hp;cases d with
    | zero =>
     cases f with
     | nil => simp
     | cons a r => exact (h.2 a (by simp)).elim
    | succ d =>
     have := P.len_parts (m := d) f;simp only [List.length_map];simp only at hp;omega
  ·intro x hx;rcases P.shaped_cases hs with ⟨h4, h5, hpl⟩ | ⟨l, rfl, hl⟩ | ⟨f, rfl, hr, hf⟩
   ·rw [P.exOf, if_neg h4, if_neg h5] at hx;simp at hx
   ·rw [P.exOf, if_pos rfl] at hx;obtain ⟨y, hy, rfl⟩ := List.mem_map.1 hx;have h1 := V.sumL_mem (V.parts d) l y hy;have h2 := V.sumL_mem (V.bulk d) l y hy;have h3 := P.deep_lay d y;rw [V.parts] at hp;rw [V.bulk] at hb;simp only at hp hb;exact fine_exOf d y (h.1 y hy) (by omega) (fault_parts.2 ⟨by omega, by omega, hl y hy⟩) (by omega)
   ·rw [P.exOf, if_neg (show ¬ (5 : Int) = 4 by decide), if_pos rfl] at hx;obtain ⟨y, hy, rfl⟩ := List.mem_map.1 hx;have h1 := V.sumF_mem (fun x => V.parts d x.2) f y hy;have h2 := V.sumF_mem (fun x => x.1.size + V.bulk d x.2) f y hy;have h3 := P.deep_lay d y.2;rw [V.parts] at hp;rw [V.bulk] at hb;simp only at hp hb h1 h2;exact fine_exOf d y.2 (h.2 y hy) (by omega) (fault_parts.2 ⟨by omega, by omega, hf y hy⟩) (by omega)
theorem row_same {α : Type} {w : World} {v : Value} {n n' sz : Nat} {l l' : List α} {R R' : α -> List Value -> Prop} (h : V.Row w v n sz (fun i c => ∃ x, l[i]? = some x /\ R x c)) (h' : V.Row w v n' sz (fun i c => ∃ x, l'[i]? = some x /\ R' x c))
  (hn : l.length = n) (hn' : l'.length = n') (hR : ∀ x x' c, x ∈ l -> x' ∈ l' -> R x c -> R' x' c -> x = x') : l = l' := by
 obtain ⟨ao, cap, rfl, h⟩ := h;obtain ⟨ao', cap', e, h'⟩ := h';simp only [Value.slice.injEq] at e;obtain ⟨rfl, rfl, rfl⟩ := e;refine List.ext_getElem (by omega) (fun i hi hi' => ?_);rcases h with h | ⟨b, off, rfl, h⟩
 ·omega
 ·rcases h' with h' | ⟨b', off', e, h'⟩
  ·omega
  ·simp only [Option.some.injEq, Addr.mk.injEq, and_true] at e;obtain ⟨rfl, rfl⟩ := e;obtain ⟨cs, h1, h2, x, hx, hr⟩ := h i (by omega);obtain ⟨cs', h1', h2', x', hx', hr'⟩ := h' i (by omega);have hc : cs = cs' := by
    refine List.ext_getElem? (fun j => ?_);by_cases hj : j < sz
    ·rw [<- h2 j hj, <- h2' j hj]
    ·rw [List.getElem?_eq_none (by omega), List.getElem?_eq_none (by omega)]
   subst hc;rw [List.getElem?_eq_getElem hi] at hx;rw [List.getElem?_eq_getElem hi'] at hx';cases hx;cases hx';exact hR _ _ cs (List.getElem_mem hi) (List.getElem_mem hi') hr hr'
theorem vmem_same : ∀ (m m' : Nat) {w : World} {v v' : Val} {cs : List Value}, V.Mem m w v cs -> V.Mem m' w v' cs -> v = v'
 | 0, _, _, _, _, _, h, _ => h.elim
 | _ + 1, 0, _, _, _, _, _, h => h.elim
 | m + 1, m' + 1, w, v, v', cs, ⟨lv, fv, e, hl, hf⟩, ⟨lv', fv', e', hl', hf'⟩ => by
  rw [e] at e';simp only [List.cons.injEq, Value.int.injEq, Value.string.injEq, true_and, and_true] at e';obtain ⟨h1, h2, h3, rfl, rfl⟩ := e';have h4 := row_same hl hl' rfl rfl (fun x x' c _ _ hx hx' => vmem_same m m' hx hx');have h5 : v.f = v'.f := row_same (R := fun x c => ∃ c', c = .string x.1 :: c' /\ V.Mem m w x.2 c') (R' := fun x c => ∃ c', c = .string x.1 :: c' /\ V.Mem m' w x.2 c')
   (hf.imp (fun i c ⟨x, c', hx, hc, hm⟩ => ⟨x, hx, c', hc, hm⟩)) (hf'.imp (fun i c ⟨x, c', hx, hc, hm⟩ => ⟨x, hx, c', hc, hm⟩)) rfl rfl (fun x x' c _ _ hx hx' => by
    obtain ⟨c1, rfl, hm⟩ := hx;obtain ⟨c2, e, hm'⟩ := hx';simp only [List.cons.injEq, Value.string.injEq] at e;obtain ⟨e1, rfl⟩ := e;exact Prod.ext e1 (vmem_same m m' hm hm'))
  exact V.val_ext _ _ h1 h2 h3 h4 h5
theorem mem_same : ∀ (m m' : Nat) {w : World} {e e' : Ex} {cs : List Value}, Mem m w e cs -> Mem m' w e' cs -> e = e'
 | 0, _, _, _, _, _, h, _ => h.elim
 | _ + 1, 0, _, _, _, _, _, h => h.elim
 | m + 1, m' + 1, w, e, e', cs, ⟨c0, c1, c2, c3, c4, av, nv, q, hv, ha, hn⟩, ⟨d0, d1, d2, d3, d4, av', nv', q', hv', ha', hn'⟩ => by
  rw [q] at q';simp only [List.cons.injEq, Value.int.injEq, Value.string.injEq, true_and, and_true] at q';obtain ⟨h1, rfl, rfl, rfl, rfl, rfl, h2, h3, rfl, rfl⟩ := q';have h4 := vmem_same _ _ hv hv';have h5 := row_same ha.1 ha'.1 rfl rfl (fun x x' c _ _ hx hx' => mem_same m m' hx hx');have h6 : e.n = e'.n := row_same (R := fun x c => c = [.string x]) (R' := fun x c => c = [.string x]) hn hn' rfl rfl (fun x x' c _ _ hx hx' => by
   rw [hx] at hx';simp only [List.cons.injEq, Value.string.injEq, and_true] at hx';exact hx')
  obtain ⟨k, v, s, t, a, n⟩ := e;obtain ⟨k', v', s', t', a', n'⟩ := e';simp only at h1 h2 h3 h4 h5 h6;subst h1; subst h2; subst h3; subst h4; subst h5; subst h6;rfl
theorem work_same : ∀ {m m' : Nat} {e : Ex}, Fine m e -> Fine m' e -> work m e = work m' e
 | 0, _, _, h, _ => h.elim
 | _ + 1, 0, _, _, h => h.elim
 | m + 1, m' + 1, e, h, h' => by
  rw [work, work, List.map_congr_left (g := work m') (fun x hx => work_same (h.2.2.2.2 x hx) (h'.2.2.2.2 x hx))]
theorem work_less {m : Nat} {e x : Ex} (h : x ∈ e.a) : work m x < work (m + 1) e := by
 rw [work];have := sum_le (work m) e.a x h;omega
end X
theorem next_done (C o pb po : Nat) (k : Int) (ga : Option Addr) (n gc : Nat) (aa : Option Addr) (ca : Nat) (w : World) (h0 : w.cell? ⟨C, o, none⟩ = some (.pointer (some ⟨pb, po, none⟩))) (h1 : w.cell? ⟨C, o + 1, none⟩ = some (.slice ga n gc)) (hk : w.cell? ⟨pb, po, none⟩ = some (.int .i64 k)) (ha : w.cell? ⟨pb, po + 8, none⟩ = some (.slice aa n ca)) (hk7 : k ≠ 7) :
  Calls Tryz.prog 151 #[.pointer (some ⟨C, o, none⟩)] w fun e w' => e = .returned (.tuple #[.pointer none, .nilIface]) /\ ∃ n, w' = w.drewN n := by
 have hd : (k == 7) = false := by simp [hk7]
 clear hk7;go_enter Tryz.func151, Tryz.ntmps151;go_wp2_with fail;go_quiet (fail)
 all_goals
  go_wp2_with fail;go_ret2;exact ⟨rfl, _, rfl⟩
theorem next_more (C o pb po : Nat) (k : Int) (ga : Option Addr) (g gc n : Nat) (ab ao ca : Nat) (w : World) (h0 : w.cell? ⟨C, o, none⟩ = some (.pointer (some ⟨pb, po, none⟩))) (h1 : w.cell? ⟨C, o + 1, none⟩ = some (.slice ga g gc)) (hk : w.cell? ⟨pb, po, none⟩ = some (.int .i64 k)) (ha : w.cell? ⟨pb, po + 8, none⟩ = some (.slice (some ⟨ab, ao, none⟩) n ca)) (hk7 : k ≠ 7) (hlt : g < n) :
  Calls Tryz.prog 151 #[.pointer (some ⟨C, o, none⟩)] w fun e w' => e = .returned (.tuple #[.pointer (some ⟨ab, ao + g * 10, none⟩), .nilIface]) /\ ∃ n, w' = w.drewN n := by
 have hd : (k == 7) = false := by simp [hk7]
 have hne : ((g : Int) == (n : Int)) = false := by simp; omega
 clear hk7;go_enter Tryz.func151, Tryz.ntmps151;go_wp2_with fail;go_quiet (fail)
 all_goals
  go_wp2_with fail;go_quiet (fail)
  all_goals
   go_wp2_with fail;go_ret2;exact ⟨rfl, drewN_some _ _ _⟩
theorem counted_any (C o pb po : Nat) (k : Int) (aa : Option Addr) (n ca : Nat) (an : Option Addr) (nn cn : Nat) (w : World) (h0 : w.cell? ⟨C, o, none⟩ = some (.pointer (some ⟨pb, po, none⟩))) (hk : w.cell? ⟨pb, po, none⟩ = some (.int .i64 k)) (ha : w.cell? ⟨pb, po + 8, none⟩ = some (.slice aa n ca)) (hn : w.cell? ⟨pb, po + 9, none⟩ = some (.slice an nn cn)) (hkk : k = 1 \/ k = 8 \/ (k = 9 /\ n = nn)) :
  Calls Tryz.prog 184 #[.pointer (some ⟨C, o, none⟩)] w fun e w' => e = .returned (.bool true) /\ ∃ n, w' = w.drewN n := by
 rcases hkk with rfl | rfl | ⟨rfl, rfl⟩
 ·go_enter Tryz.func184, Tryz.ntmps184;go_wp2_with fail;go_ret;exact ⟨rfl, 0, rfl⟩
 ·go_enter Tryz.func184, Tryz.ntmps184;go_wp2_with fail;go_ret;exact ⟨rfl, 0, rfl⟩
 ·have hd : ((n : Int) == (n : Int)) = true := by simp
  go_enter Tryz.func184, Tryz.ntmps184;go_wp2_with fail;go_quiet (fail)
  all_goals
   go_wp2_with fail;go_ret;exact ⟨rfl, _, rfl⟩
theorem info170 : (Tryz.prog.info? 170).map (fun i => (i.zero, i.size, i.bytes)) = some (some (.agg #[.int .i64 0, .int .i64 0, .int .i64 0, .string ⟨#[]⟩, .slice none 0 0, .slice none 0 0, .string ⟨#[]⟩, .string ⟨#[]⟩, .slice none 0 0, .slice none 0 0]), 10, 168) := by kernel_rfl
theorem bitsLen_any (x : Nat) (w : World) (h1 : x <= 1000) : Calls Tryz.prog 168 #[.int .u64 x] w fun e w' => e = .returned (.int .i64 (Lib.bitLen x)) /\ w' = w := by
 have H : Hid (Calls Tryz.prog 119 #[.int .u64 x] w fun e w' => e = .returned (.int .i64 (Lib.bitLen x)) /\ w' = w) := Any.bits_Len64 { sh_laysM171 with } x w (by omega) (by omega);go_enter Tryz.func168, Tryz.ntmps168;go_wp2_with fail;refine H.out.mono ?_;rintro e w1 ⟨rfl, hw⟩;rw [hw];clear hw;go_wp2_with fail;go_ret;exact ⟨rfl, rfl⟩
theorem endless_any (C n cap nb no : Nat) (ps : Nat -> Nat × Nat) (w : World) (h : ∀ i, i < n -> w.cell? ⟨C, i * 2, none⟩ = some (.pointer (some ⟨(ps i).1, (ps i).2, none⟩))) (hne : ∀ i, i < n -> ¬ ((ps i).1 = nb /\ (ps i).2 = no)) (hpl : ∀ i, i < n -> ∃ cs t, w.heap[(ps i).1]? = some (.cells cs t (0, 0))) (hnx : ∃ cs t, w.heap[nb]? = some (.cells cs t (0, 0))) (h1 : 1 <= n) (h6 : n <= 6) :
  Calls Tryz.prog 152 #[.slice (some ⟨C, 0, none⟩) n cap, .pointer (some ⟨nb, no, none⟩)] w fun e w' => e = .returned (.bool false) /\ w' = w := by
 have HL := hide (bitsLen_any n w (by omega));have hw1 : IntKind.u64.wrap (n : Int) = (n : Int) := by rw [IntKind.wrap_u64]; omega
 have key : ∃ b j : Nat, Lib.bitLen n = b /\ j < n /\ ((b = 1 /\ j = 0) \/ (b = 2 /\ j = 1) \/ (b = 3 /\ j = 3)) := by
  rcases (show n = 1 \/ n = 2 \/ n = 3 \/ n = 4 \/ n = 5 \/ n = 6 by omega) with rfl | rfl | rfl | rfl | rfl | rfl
  ·exact ⟨1, 0, by decide, by decide, by decide⟩
  ·exact ⟨2, 1, by decide, by decide, by decide⟩
  ·exact ⟨2, 1, by decide, by decide, by decide⟩
  ·exact ⟨3, 3, by decide, by decide, by decide⟩
  ·exact ⟨3, 3, by decide, by decide, by decide⟩
  ·exact ⟨3, 3, by decide, by decide, by decide⟩
 obtain ⟨b, j, hb, hj, hbj⟩ := key;have hc := h j hj;have hq := hne j hj;obtain ⟨ca, ta, hba⟩ := hpl j hj;obtain ⟨cb, tb, hbb⟩ := hnx;generalize (ps j).1 = q1 at *;generalize (ps j).2 = q2 at *;rw [hb] at HL;obtain ⟨j0, hj0, hj1⟩ : ∃ i, Tryz.prog.info? 170 = some i /\ i.size ≠ 0 := by
  obtain ⟨i0, hi, hz0, hz1, hz2⟩ := info_parts info170;exact ⟨i0, hi, by rw [hz1]; decide⟩
 have hq2 : (⟨q1, q2, none⟩ : Addr) ≠ ⟨nb, no, none⟩ := fun e => hq ⟨congrArg Addr.block e, congrArg Addr.off e⟩
 have heq := run_eql_ptr_other (P := Tryz.prog) w (tp := 192) (te := 170) (a := ⟨q1, q2, none⟩) (b := ⟨nb, no, none⟩) Tryz.underlying192 hj0 hj1 hq2 hba hbb;clear hb h hne hq hq2 hba hbb hpl hj0 hj1;rcases hbj with ⟨rfl, rfl⟩ | ⟨rfl, rfl⟩ | ⟨rfl, rfl⟩
 all_goals
  go_enter Tryz.func152, Tryz.ntmps152;go_wp2_with fail;refine HL.out.mono ?_;rintro e w1 ⟨rfl, hw⟩;rw [hw];clear hw;go_wp2_with fail;go_ret;exact ⟨rfl, rfl⟩
end Go.Proofs.YtcekcfjabhlheaaGreatDoor.Vx
