/- StateSays: RS RT. -/
import Derived.Test.YtcekcfjabhlheaaGreatDoorRR
set_option maxRecDepth 100000
set_option maxHeartbeats 25600000
namespace Go.Proofs.YtcekcfjabhlheaaGreatDoor.Vx
open Go.RowKit
theorem P.rowF_ok {most d n : Nat} {acc : List (ByteArray × Ex)} {ts t1 t2 : List P.T} {x : List (ByteArray × Ex) × List P.T} {s : ByteArray} (h : P.rowS [125] (P.oneF most (P.ex d)) n acc ts = some x) (hw : ∀ y ∈ x.1, P.Wr d y.2) (h1 : P.name ts = some (s, t1)) (h2 : P.found 4 [58] t1 = some t2) : P.Wok d t2 := by
 rw [P.rowF] at h;cases n with
 | zero => cases h
 | succ n =>
  rw [P.fieldRow, h1] at h;simp only at h;split at h
  ·cases h
  split at h
  ·cases h
  rw [h2] at h;simp only at h;cases he : P.ex d t2 with
  | none =>
   rw [he] at h;cases h
  | some p =>
   obtain ⟨a, t3⟩ := p;refine ⟨a, t3, he, ?_⟩;rw [he] at h;simp only at h;cases hf : P.found 4 [44] t3 with
   | none =>
    rw [hf] at h;simp only at h;cases hf2 : P.found 4 [125] t3 with
    | none =>
     rw [hf2] at h;cases h
    | some t4 =>
     rw [hf2] at h;have e := Option.some.inj h;exact hw (s, a) (by rw [<- e]; simp)
   | some t4 =>
    rw [hf] at h;simp only at h;cases hr : P.fieldRow most (P.ex d) n (some s) (acc.length + 1) t4 with
    | none =>
     rw [hr] at h;cases h
    | some q =>
     rw [hr] at h;have e := Option.some.inj h;exact hw (s, a) (by rw [<- e]; simp)
theorem P.wok_kind {d : Nat} {ts r : List P.T} {e : Ex} (h : P.ex (d + 1) ts = some (e, r)) (hw : P.Wr (d + 1) e) :
  P.begins ts = some 1 \/ (P.begins ts = some 8 /\ ∃ p, P.rows [93] (P.ex d) (ts.drop 1) = some p /\ ∀ y ∈ p.1, P.Wr d y) \/ (P.begins ts = some 9 /\ ∃ p, P.fields 4000 (P.ex d) (ts.drop 1) = some p /\ ∀ y ∈ p.1, P.Wr d y.2) := by
 obtain ⟨hk, ha⟩ := hw;rw [P.ex] at h;cases hb : P.begins ts with
 | none =>
  rw [hb] at h;cases h
 | some k =>
  rw [hb] at h;simp only at h;split at h
  ·next e1 => exact .inl (by rw [e1])
  split at h
  ·cases hd : P.dot (ts.drop 1) with
   | none =>
    rw [hd] at h;cases h
   | some q =>
    rw [hd] at h;have e2 := congrArg (fun p => p.1.kind) (Option.some.inj h);simp only at e2;omega
  split at h
  ·unfold P.names2 at h;split at h
   ·cases h
   ·next s t1 _ =>
    cases hd : P.dot t1 with
    | none =>
     rw [hd] at h;cases h
    | some q =>
     rw [hd] at h;have e2 := congrArg (fun p => p.1.kind) (Option.some.inj h);simp only at e2;omega
  split at h
  ·unfold P.pick at h;split at h
   ·cases h
   ·next s t1 _ =>
    cases hd : P.name t1 with
    | none =>
     rw [hd] at h;cases h
    | some q =>
     rw [hd] at h;have e2 := congrArg (fun p => p.1.kind) (Option.some.inj h);simp only at e2;omega
  split at h
  ·next e8 =>
   cases hd : P.rows [93] (P.ex d) (ts.drop 1) with
   | none =>
    rw [hd] at h;cases h
   | some q =>
    rw [hd] at h;have e2 := congrArg (fun p => p.1.a) (Option.some.inj h);simp only at e2;exact .inr (.inl ⟨by rw [e8], q, rfl, by rw [e2]; exact ha⟩)
  split at h
  ·next e9 =>
   cases hd : P.fields 4000 (P.ex d) (ts.drop 1) with
   | none =>
    rw [hd] at h;cases h
   | some q =>
    rw [hd] at h;have e2 := congrArg (fun p => p.1.a) (Option.some.inj h);simp only at e2;exact .inr (.inr ⟨by rw [e9], q, rfl, fun y hy => ha y.2 (by rw [<- e2]; exact List.mem_map_of_mem hy)⟩)
  ·exfalso;unfold P.group at h;split at h
   ·cases h
   split at h
   ·unfold P.choice at h;split at h
    ·cases h
    split at h
    ·cases h
    split at h
    ·cases h
    next t3 _ =>
    cases hd : P.found 4 [41] t3 with
    | none =>
     rw [hd] at h;cases h
    | some q =>
     rw [hd] at h;have e2 := congrArg (fun p => p.1.kind) (Option.some.inj h);simp only at e2;omega
   ·split at h
    ·cases h
    next k2 t2 h2 =>
    split at h
    ·cases h
    next t3 _ =>
    cases hd : P.found 4 [41] t3 with
    | none =>
     rw [hd] at h;cases h
    | some q =>
     rw [hd] at h;have e2 := congrArg (fun p => p.1.kind) (Option.some.inj h);simp only at e2;have e3 : k2 = 5 \/ k2 = 6 := by
      unfold P.two at h2;split at h2
      ·cases h2
      split at h2
      ·split at h2
       ·exact .inl (congrArg Prod.fst (Option.some.inj h2)).symm
       split at h2
       ·exact .inr (congrArg Prod.fst (Option.some.inj h2)).symm
       ·cases h2
      ·cases h2
     omega
theorem expr_succ (d : Nat) (hd : d <= 6) (ih : P.IH d) : P.IH (d + 1) := by
 intro R w ts h hw;obtain ⟨e0, q0, hw1, hw2⟩ := hw;have HW := hide hw1;have HK := hide (P.wok_kind hw1 hw2);clear hw1 hw2;generalize hdp : (7 - ((d + 1 : Nat) : Int)) = dp;have HDP : Hid (dp = 6 - (d : Int)) := by
  show _ = _;omega
 have hd6 : dp <= 6 := by omega
 clear hdp;have hR := h.lt;have hb0 : Below w.heap.size w (((w.alloc (.cells #[.pointer (some ⟨R, 0, none⟩)] 188)).alloc (.cells #[.int .i64 dp] 3)).alloc (.cells #[.int .i64 0, .int .i64 0, .int .i64 0, .string ⟨#[]⟩, .slice none 0 0, .slice none 0 0, .string ⟨#[]⟩, .string ⟨#[]⟩, .slice none 0 0, .slice none 0 0] 170)) := ((ba).alloc (by simp) _).alloc (by simp <;> omega) _;have hc1 : (((w.alloc (.cells #[.pointer (some ⟨R, 0, none⟩)] 188)).alloc (.cells #[.int .i64 dp] 3)).alloc (.cells #[.int .i64 0, .int .i64 0, .int .i64 0, .string ⟨#[]⟩, .slice none 0 0, .slice none 0 0, .string ⟨#[]⟩, .string ⟨#[]⟩, .slice none 0 0, .slice none 0 0] 170)).heap[w.heap.size]? = some (.cells #[.pointer (some ⟨R, 0, none⟩)] 188 (0, 0)) := by
  rw [heap_alloc_old _ _ (by simp <;> omega), heap_alloc_old _ _ (by simp)]; exact heap_alloc_new _ _
 have hc2 : (((w.alloc (.cells #[.pointer (some ⟨R, 0, none⟩)] 188)).alloc (.cells #[.int .i64 dp] 3)).alloc (.cells #[.int .i64 0, .int .i64 0, .int .i64 0, .string ⟨#[]⟩, .slice none 0 0, .slice none 0 0, .string ⟨#[]⟩, .string ⟨#[]⟩, .slice none 0 0, .slice none 0 0] 170)).heap[w.heap.size + 1]? = some (.cells #[.int .i64 dp] 3 (0, 0)) := by
  rw [heap_alloc_old _ _ (by simp)];have h1 := heap_alloc_new (w.alloc (.cells #[.pointer (some ⟨R, 0, none⟩)] 188)) (.cells #[.int .i64 dp] 3);rw [P.size_alloc] at h1;exact h1
 have hA0 : (((w.alloc (.cells #[.pointer (some ⟨R, 0, none⟩)] 188)).alloc (.cells #[.int .i64 dp] 3)).alloc (.cells #[.int .i64 0, .int .i64 0, .int .i64 0, .string ⟨#[]⟩, .slice none 0 0, .slice none 0 0, .string ⟨#[]⟩, .string ⟨#[]⟩, .slice none 0 0, .slice none 0 0] 170)).heap[w.heap.size + 2]? = some (.cells #[.int .i64 0, .int .i64 0, .int .i64 0, .string ⟨#[]⟩, .slice none 0 0, .slice none 0 0, .string ⟨#[]⟩, .string ⟨#[]⟩, .slice none 0 0, .slice none 0 0] 170 (0, 0)) := by
  have h1 := heap_alloc_new ((w.alloc (.cells #[.pointer (some ⟨R, 0, none⟩)] 188)).alloc (.cells #[.int .i64 dp] 3)) (.cells #[.int .i64 0, .int .i64 0, .int .i64 0, .string ⟨#[]⟩, .slice none 0 0, .slice none 0 0, .string ⟨#[]⟩, .string ⟨#[]⟩, .slice none 0 0, .slice none 0 0] 170);rw [P.size_alloc, P.size_alloc] at h1;exact h1
 have hsz : (((w.alloc (.cells #[.pointer (some ⟨R, 0, none⟩)] 188)).alloc (.cells #[.int .i64 dp] 3)).alloc (.cells #[.int .i64 0, .int .i64 0, .int .i64 0, .string ⟨#[]⟩, .slice none 0 0, .slice none 0 0, .string ⟨#[]⟩, .string ⟨#[]⟩, .slice none 0 0, .slice none 0 0] 170)).heap.size = w.heap.size + 3 := by simp
 have HF0 : Hid (Fr w _ (fun c => c = R)) := (P.fr_below hb0).weak (fun _ _ e => e.elim);have HNX := hide (next_any R _ ts (h.kept hb0));have HR0 := hide (h.kept hb0);obtain ⟨HC1, HC2, HA0, HSZ, HTV⟩ := hd5 hc1 hc2 hA0 hsz h.2;have cb1 := cell_of_block hc1 0 _ rfl;have cb2 := cell_of_block hc2 0 _ rfl;clear h hb0 hc1 hc2 hA0 hsz;go_enter Tryz.func164, Tryz.ntmps164;go_wp2_with fail;generalize (((w.alloc _).alloc _).alloc _) = w0 at *;refine HNX.out.mono ?_;rintro r wa ⟨⟨at_, rfl⟩, hba⟩;have HBG := hide (beginning_any ts at_ wa HTV.out);have HFa : Hid (Fr w0 wa (fun c => c = R)) := (P.fr_below hba).weak (fun _ _ e => e.elim);have HRa := hide (HR0.out.kept hba);clear hba cb1 cb2 HNX HR0;go_wp2_with fail;refine HBG.out.mono ?_;rintro r wb ⟨hbb, hbg⟩;have HFb : Hid (Fr w0 wb (fun c => c = R)) := HFa.out.trans (P.fr_below hbb) (fun _ _ e => e.elim);have HRb := hide (HRa.out.kept hbb);have hB1 : wb.heap[w.heap.size]? = some (.cells #[.pointer (some ⟨R, 0, none⟩)] 188 (0, 0)) := (HFb.out.block _ (blt HC1.out) (by omega)).trans HC1.out;have hB2 : wb.heap[w.heap.size + 1]? = some (.cells #[.int .i64 dp] 3 (0, 0)) := (HFb.out.block _ (blt HC2.out) (by omega)).trans HC2.out;have hBA : wb.heap[w.heap.size + 2]? = some (.cells #[.int .i64 0, .int .i64 0, .int .i64 0, .string ⟨#[]⟩, .slice none 0 0, .slice none 0 0, .string ⟨#[]⟩, .string ⟨#[]⟩, .slice none 0 0, .slice none 0 0] 170 (0, 0)) := (HFb.out.block _ (blt HA0.out) (by omega)).trans HA0.out;have HFw : Hid (Fr w wb (fun c => c = R)) := HF0.out.trans HFb.out (fun _ _ e => e);have cb1 := cell_of_block hB1 0 _ rfl;have cb2 := cell_of_block hB2 0 _ rfl;obtain ⟨HB1, HB2, HBA⟩ := hd3 hB1 hB2 hBA;have HLB : Hid (w.heap.size + 3 <= wb.heap.size) := by
  show _ <= _;have := HFb.out.size;have := HSZ.out;omega
 clear hbb hB1 hB2 hBA HFa HRa HBG HFb HC1 HC2 HA0 HF0;rcases HK.out with hb | ⟨hb, p, hp, hpw⟩ | ⟨hb, p, hp, hpw⟩
 ·rw [hb] at hbg;have hbg2 : r = .returned (.tuple #[.int .i64 1, .nilIface]) := hbg;clear hbg;subst hbg2;cases ts with
  | nil => cases hb
  | cons t ts1 =>
    have HCL := hide (literal_any d R wb t ts1 HRb.out);have HLQ : Hid (w.heap.size + 3 <= wb.heap.size) := HLB.out;go_wp2_with fail;refine HCL.out.mono ?_;rintro r wc ⟨hfq, ⟨e, n, k1, v1, s1, t1, a1, i1, u1, b1, j1, p1, hE, rfl, hM, hbk, hr⟩ | ⟨hE, ⟨k1, v1, s1, t1, a1, i1, u1, b1, j1, p1, f, rfl⟩, ts', hr⟩⟩
    ·have hAq := (hfq.block (w.heap.size + 2) (blt HBA.out) (by omega)).trans HBA.out;have HF3 := hide (HFw.out.trans hfq (fun _ _ e => e));obtain ⟨HRq, HM⟩ := hd2 hr hM;have HP : Hid (P.ex (d + 1) (P.fc (t :: ts1)) = some (e, P.fc ((t :: ts1).drop (n + 1)))) := by
      show _ = _;rw [P.ex, hb];simp only;rw [if_pos (by decide)];exact hE
     have HBK : Hid (X.bulk (d + 1) e + 60 * ((t :: ts1).drop (n + 1)).length <= 60 * (t :: ts1).length) := by
      show _ <= _;simp only [List.length_drop, List.length_cons] at hbk ⊢;omega
     unfold P.xc;clear hfq hr hM hbk hE HCL cb1 cb2;obtain ⟨z0, z1, z2, z3, z4, z5, z6, z7, z8, z9⟩ := cl10 hAq;obtain ⟨f0, f1, f2, f3, f4, f5, f6, f7, f8, f9⟩ := fl10 hAq;have HAx := hide hAq;clear hAq;go_wp2_with fail;have hBz := P.set10 HAx.out (.int .i64 k1) (.int .i64 v1.kind) (.int .i64 v1.n) (.string v1.s) (.slice none 0 0) (.slice none 0 0) (.string s1) (.string t1) (.slice a1 i1 u1) (.slice b1 j1 p1);have hFz := P.fr10 wc (w.heap.size + 2) (.int .i64 k1) (.int .i64 v1.kind) (.int .i64 v1.n) (.string v1.s) (.slice none 0 0) (.slice none 0 0) (.string s1) (.string t1) (.slice a1 i1 u1) (.slice b1 j1 p1);generalize ((((((((((wc.setCell _ _).setCell _ _).setCell _ _).setCell _ _).setCell _ _).setCell _ _).setCell _ _).setCell _ _).setCell _ _).setCell _ _) = wz at *;obtain ⟨r0, r1, r2, r3, r4, r5, r6, r7, r8, r9⟩ := cl10 hBz;refine bodyPost_ret (v := .tuple #[.agg #[.int .i64 k1, .int .i64 v1.kind, .int .i64 v1.n, .string v1.s, .slice none 0 0, .slice none 0 0, .string s1, .string t1, .slice a1 i1 u1, .slice b1 j1 p1], .nilIface]) (by simp [results, Tryz.results164, go_sem, r0, r1, r2, r3, r4, r5, r6, r7, r8, r9]) rfl ⟨HF3.out.trans hFz (fun c hc e => by omega), .inl ⟨e, n, k1, v1, s1, t1, a1, i1, u1, b1, j1, p1, HP.out, rfl, HM.out.to (fun c hc => hFz.block c hc.2 (by have := hc.1; have := HLQ.out; omega)) (fun c hc => ⟨by have := hc.1; have := HLQ.out; omega, by have := hc.2; have := hFz.size; omega⟩), HBK.out, HRq.out.fr hFz (fun c e => by omega)⟩⟩
    ·have hn : P.ex (d + 1) (P.fc (t :: ts1)) = none := by
      rw [P.ex, hb];simp only;rw [if_pos (by decide)];exact hE
     rw [HW.out] at hn;cases hn
 ·rw [hb] at hbg;have hbg2 : r = .returned (.tuple #[.int .i64 8, .nilIface]) := hbg;clear hbg;subst hbg2;cases ts with
  | nil => cases hb
  | cons t ts1 =>
    have HPS := hide (pass_any R wb t ts1 HRb.out);go_wp2_with fail;refine HPS.out.mono ?_;rintro r wc ⟨rfl, hrc, hfc⟩;have HRc := hide hrc;have hB1 := (hfc.block _ (blt HB1.out) (by omega)).trans HB1.out;have hB2 := (hfc.block _ (blt HB2.out) (by omega)).trans HB2.out;have HBAc : Hid (wc.heap[w.heap.size + 2]? = some (.cells #[.int .i64 0, .int .i64 0, .int .i64 0, .string ⟨#[]⟩, .slice none 0 0, .slice none 0 0, .string ⟨#[]⟩, .string ⟨#[]⟩, .slice none 0 0, .slice none 0 0] 170 (0, 0))) := (hfc.block _ (blt HBA.out) (by omega)).trans HBA.out;have HLQ : Hid (w.heap.size + 3 <= wc.heap.size) := by
     show _ <= _;have := HLB.out;have := hfc.size;omega
    have HIN : Hid (P.Inn R w.heap.size (w.heap.size + 1) d wc) := ⟨cell_of_block hB1 0 _ rfl, by rw [<- HDP.out]; exact cell_of_block hB2 0 _ rfl, hR, by omega⟩
    have HFq := hide (HFw.out.trans hfc (fun _ _ e => e));clear HFw cb1 cb2;have HFw := HFq;have cb1 := cell_of_block hB1 0 _ rfl;have cb2 := cell_of_block hB2 0 _ rfl;clear hrc hfc hB1 hB2 HPS HBA HB1 HB2 HRb HLB;have HCL := hide (items_any d R w.heap.size (w.heap.size + 1) wc ts1 hd ih HRc.out HIN.out p hp hpw);go_wp2_with fail;refine HCL.out.mono ?_;rintro r wd ⟨hfq, ⟨e, n, k1, v1, s1, t1, a1, i1, u1, b1, j1, p1, hE, rfl, hM, hbk, hr⟩ | ⟨hE, ⟨k1, v1, s1, t1, a1, i1, u1, b1, j1, p1, f, rfl⟩, ts', hr⟩⟩
    ·have hAq := (hfq.block (w.heap.size + 2) (blt HBAc.out) (by omega)).trans HBAc.out;have HF3 := hide (HFw.out.trans hfq (fun _ _ e => e));obtain ⟨HRq, HM⟩ := hd2 hr hM;have HP : Hid (P.ex (d + 1) (P.fc (t :: ts1)) = some (e, P.fc ((t :: ts1).drop (n + 1 + 1)))) := by
      show _ = _;rw [P.ex, hb];simp only;rw [if_neg (by decide), if_neg (by decide), if_neg (by decide), if_neg (by decide), if_pos (by decide)];exact hE
     have HBK : Hid (X.bulk (d + 1) e + 60 * ((t :: ts1).drop (n + 1 + 1)).length <= 60 * (t :: ts1).length) := by
      show _ <= _;simp only [List.length_drop, List.length_cons] at hbk ⊢;omega
     unfold P.xc;clear hfq hr hM hbk hE HCL cb1 cb2;obtain ⟨z0, z1, z2, z3, z4, z5, z6, z7, z8, z9⟩ := cl10 hAq;obtain ⟨f0, f1, f2, f3, f4, f5, f6, f7, f8, f9⟩ := fl10 hAq;have HAx := hide hAq;clear hAq;go_wp2_with fail;have hBz := P.set10 HAx.out (.int .i64 k1) (.int .i64 v1.kind) (.int .i64 v1.n) (.string v1.s) (.slice none 0 0) (.slice none 0 0) (.string s1) (.string t1) (.slice a1 i1 u1) (.slice b1 j1 p1);have hFz := P.fr10 wd (w.heap.size + 2) (.int .i64 k1) (.int .i64 v1.kind) (.int .i64 v1.n) (.string v1.s) (.slice none 0 0) (.slice none 0 0) (.string s1) (.string t1) (.slice a1 i1 u1) (.slice b1 j1 p1);generalize ((((((((((wd.setCell _ _).setCell _ _).setCell _ _).setCell _ _).setCell _ _).setCell _ _).setCell _ _).setCell _ _).setCell _ _).setCell _ _) = wz at *;obtain ⟨r0, r1, r2, r3, r4, r5, r6, r7, r8, r9⟩ := cl10 hBz;refine bodyPost_ret (v := .tuple #[.agg #[.int .i64 k1, .int .i64 v1.kind, .int .i64 v1.n, .string v1.s, .slice none 0 0, .slice none 0 0, .string s1, .string t1, .slice a1 i1 u1, .slice b1 j1 p1], .nilIface]) (by simp [results, Tryz.results164, go_sem, r0, r1, r2, r3, r4, r5, r6, r7, r8, r9]) rfl ⟨HF3.out.trans hFz (fun c hc e => by omega), .inl ⟨e, n + 1, k1, v1, s1, t1, a1, i1, u1, b1, j1, p1, HP.out, rfl, HM.out.to (fun c hc => hFz.block c (hc.resolve_left id).2 (by have := (hc.resolve_left id).1; have := HLQ.out; omega)) (fun c hc => ⟨by have := (hc.resolve_left id).1; have := HLQ.out; omega, by have := (hc.resolve_left id).2; have := hFz.size; omega⟩), HBK.out, HRq.out.fr hFz (fun c e => by omega)⟩⟩
    ·have hn : P.ex (d + 1) (P.fc (t :: ts1)) = none := by
      rw [P.ex, hb];simp only;rw [if_neg (by decide), if_neg (by decide), if_neg (by decide), if_neg (by decide), if_pos (by decide)];exact hE
     rw [HW.out] at hn;cases hn
 ·rw [hb] at hbg;have hbg2 : r = .returned (.tuple #[.int .i64 9, .nilIface]) := hbg;clear hbg;subst hbg2;cases ts with
  | nil => cases hb
  | cons t ts1 =>
    have HPS := hide (pass_any R wb t ts1 HRb.out);go_wp2_with fail;refine HPS.out.mono ?_;rintro r wc ⟨rfl, hrc, hfc⟩;have HRc := hide hrc;have hB1 := (hfc.block _ (blt HB1.out) (by omega)).trans HB1.out;have hB2 := (hfc.block _ (blt HB2.out) (by omega)).trans HB2.out;have HBAc : Hid (wc.heap[w.heap.size + 2]? = some (.cells #[.int .i64 0, .int .i64 0, .int .i64 0, .string ⟨#[]⟩, .slice none 0 0, .slice none 0 0, .string ⟨#[]⟩, .string ⟨#[]⟩, .slice none 0 0, .slice none 0 0] 170 (0, 0))) := (hfc.block _ (blt HBA.out) (by omega)).trans HBA.out;have HLQ : Hid (w.heap.size + 3 <= wc.heap.size) := by
     show _ <= _;have := HLB.out;have := hfc.size;omega
    have HIN : Hid (P.Inn R w.heap.size (w.heap.size + 1) d wc) := ⟨cell_of_block hB1 0 _ rfl, by rw [<- HDP.out]; exact cell_of_block hB2 0 _ rfl, hR, by omega⟩
    have HFq := hide (HFw.out.trans hfc (fun _ _ e => e));clear HFw cb1 cb2;have HFw := HFq;have cb1 := cell_of_block hB1 0 _ rfl;have cb2 := cell_of_block hB2 0 _ rfl;clear hrc hfc hB1 hB2 HPS HBA HB1 HB2 HRb HLB;have HCL := hide (fields_any80 (P.Wok d) (P.ex d) 4000 d R w.heap.size (w.heap.size + 1) wc ts1 HRc.out (fun W tsW hf hr hq => inner_ev d R w.heap.size (w.heap.size + 1) W tsW hd ih hr (HIN.out.fr hf) hq) p hp (fun _ _ _ _ _ _ h1 h2 h3 => P.rowF_ok h1 hpw h2 h3));go_wp2_with fail;refine HCL.out.mono ?_;rintro r wd ⟨hfq, ⟨acc, m, an, capn, ao, cap, N, L, hE, rfl, e1, e2, hG, hbk, hlt, hr⟩ | ⟨hE, ⟨an, n1, capn, ao, n2, cap, f, rfl⟩, ts', hr⟩⟩
    ·have hAq := (hfq.block (w.heap.size + 2) (blt HBAc.out) (by omega)).trans HBAc.out;have HF3 := hide (HFw.out.trans hfq (fun _ _ e => e));have HRq := hide hr;have HM := hide (P.growF_node hG 9 ⟨#[]⟩ ⟨#[]⟩);have HP : Hid (P.ex (d + 1) (P.fc (t :: ts1)) = some (⟨9, V.zero, ⟨#[]⟩, ⟨#[]⟩, L.map (·.1), N⟩, P.fc ((t :: ts1).drop (m + 1 + 1)))) := by
      show _ = _;rw [P.ex, hb];simp only;rw [if_neg (by decide), if_neg (by decide), if_neg (by decide), if_neg (by decide), if_neg (by decide), if_pos (by decide), show P.fields 4000 (P.ex d) ((P.fc (t :: ts1)).drop 1) = _ from hE, <- e1, <- e2];rfl
     have HBK : Hid (X.bulk (d + 1) ⟨9, V.zero, ⟨#[]⟩, ⟨#[]⟩, L.map (·.1), N⟩ + 60 * ((t :: ts1).drop (m + 1 + 1)).length <= 60 * (t :: ts1).length) := by
      show _ <= _;rw [<- e1, <- e2, X.bulk, V.bulk];simp only [V.zero, X.sumA, X.sumN, V.sumL, V.sumF, P.zero_size, List.map_nil, List.sum_nil, List.length_nil, List.length_cons, List.length_map, List.drop_succ_cons] at hbk ⊢;omega
     clear hfq hr hE HCL cb1 cb2 hG hbk hlt e1 e2;obtain ⟨z0, z1, z2, z3, z4, z5, z6, z7, z8, z9⟩ := cl10 hAq;obtain ⟨f0, f1, f2, f3, f4, f5, f6, f7, f8, f9⟩ := fl10 hAq;have HAx := hide hAq;clear hAq;go_wp2_with fail;have hBz := P.set10 HAx.out (.int .i64 9) (.int .i64 0) (.int .i64 0) (.string ⟨#[]⟩) (.slice none 0 0) (.slice none 0 0) (.string ⟨#[]⟩) (.string ⟨#[]⟩) (.slice ao L.length cap) (.slice an N.length capn);have hFz := P.fr10 wd (w.heap.size + 2) (.int .i64 9) (.int .i64 0) (.int .i64 0) (.string ⟨#[]⟩) (.slice none 0 0) (.slice none 0 0) (.string ⟨#[]⟩) (.string ⟨#[]⟩) (.slice ao L.length cap) (.slice an N.length capn);generalize ((((((((((wd.setCell _ _).setCell _ _).setCell _ _).setCell _ _).setCell _ _).setCell _ _).setCell _ _).setCell _ _).setCell _ _).setCell _ _) = wz at *;obtain ⟨r0, r1, r2, r3, r4, r5, r6, r7, r8, r9⟩ := cl10 hBz;refine bodyPost_ret (v := .tuple #[.agg #[.int .i64 9, .int .i64 0, .int .i64 0, .string ⟨#[]⟩, .slice none 0 0, .slice none 0 0, .string ⟨#[]⟩, .string ⟨#[]⟩, .slice ao L.length cap, .slice an N.length capn], .nilIface]) (by simp [results, Tryz.results164, go_sem, r0, r1, r2, r3, r4, r5, r6, r7, r8, r9]) rfl ⟨HF3.out.trans hFz (fun c hc e => by omega), .inl ⟨_, m + 1, 9, V.zero, ⟨#[]⟩, ⟨#[]⟩, ao, L.length, cap, an, N.length, capn, HP.out, rfl, HM.out.to (fun c hc => hFz.block c hc.2 (by have := hc.1; have := HLQ.out; omega)) (fun c hc => ⟨by have := hc.1; have := HLQ.out; omega, by have := hc.2; have := hFz.size; omega⟩), HBK.out, HRq.out.fr hFz (fun c e => by omega)⟩⟩
    ·have hn : P.ex (d + 1) (P.fc (t :: ts1)) = none := by
      rw [P.ex, hb];simp only;rw [if_neg (by decide), if_neg (by decide), if_neg (by decide), if_neg (by decide), if_neg (by decide), if_pos (by decide), show P.fields 4000 (P.ex d) ((P.fc (t :: ts1)).drop 1) = _ from hE];rfl
     rw [HW.out] at hn;cases hn
theorem expr_all : ∀ d, d <= 7 -> P.IH d
 | 0, _ => fun _ _ _ _ ⟨_, _, _, h⟩ => h.elim
 | d + 1, h => expr_succ d (by omega) (expr_all d (by omega))
theorem P.whole_wok {ok : Ex -> Bool} {ts : List P.T} {p : Ex × List P.T} (h : P.whole ok ts = some p) (hw : P.Wr 6 p.1) : P.Wok 6 ts := by
 unfold P.whole at h;cases he : P.ex 6 ts with
 | none =>
  rw [he] at h;cases h
 | some q =>
  rw [he] at h;simp only at h;split at h
  ·have e := Option.some.inj h;subst e;exact ⟨q.1, q.2, he, hw⟩
  ·cases h
theorem whole_any (sm : Val -> Val -> Bool) (hsm : V.Says sm) (R : Nat) (w : World) (ts : List P.K) (h : P.Rdr R w ts) (hq : P.Wok 6 (P.fc ts)) (x : Ex × List P.T) (hx : P.whole (fun e => decide (X.fault sm 6 e = 0)) (P.fc ts) = some x) :
  Calls Tryz.prog 150 #[.pointer (some ⟨R, 0, none⟩)] w fun r w' => Fr w w' (fun c => c = R) /\ P.ExOut (P.whole (fun e => decide (X.fault sm 6 e = 0)) (P.fc ts)) 6 R w w' ts r := by
 have hR := h.lt;obtain ⟨HXX, HQ⟩ := hd2 hx hq;have hb0 : Below w.heap.size w (w.alloc (.cells #[.int .i64 0, .int .i64 0, .int .i64 0, .string ⟨#[]⟩, .slice none 0 0, .slice none 0 0, .string ⟨#[]⟩, .string ⟨#[]⟩, .slice none 0 0, .slice none 0 0] 170)) := ba;have hA0 := heap_alloc_new w (.cells #[.int .i64 0, .int .i64 0, .int .i64 0, .string ⟨#[]⟩, .slice none 0 0, .slice none 0 0, .string ⟨#[]⟩, .string ⟨#[]⟩, .slice none 0 0, .slice none 0 0] 170);have hsz : (w.alloc (.cells #[.int .i64 0, .int .i64 0, .int .i64 0, .string ⟨#[]⟩, .slice none 0 0, .slice none 0 0, .string ⟨#[]⟩, .string ⟨#[]⟩, .slice none 0 0, .slice none 0 0] 170)).heap.size = w.heap.size + 1 := by simp
 have HF0 : Hid (Fr w _ (fun c => c = R)) := (P.fr_below hb0).weak (fun _ _ e => e.elim);have HNX := hide (next_any R _ ts (h.kept hb0));have HR0 := hide (h.kept hb0);obtain ⟨HA0, HSZ, HLN⟩ := hd3 hA0 hsz h.len;clear h hb0 hA0 hsz hx hq;go_enter Tryz.func150, Tryz.ntmps150;go_wp2_with fail;generalize (w.alloc _) = w0 at *;refine HNX.out.mono ?_;rintro r wa ⟨⟨at_, rfl⟩, hba⟩;have HFa : Hid (Fr w0 wa (fun c => c = R)) := (P.fr_below hba).weak (fun _ _ e => e.elim);have HEX := hide (expr_all 6 (by decide) R wa ts (HR0.out.kept hba) HQ.out);have hfd := field_at (.int .i64 (P.headT ts).1) (.int .i64 at_) (.string (Lx.str (P.headT ts).2)) wa;clear hba HNX HR0;go_wp2_with fail;refine HEX.out.mono ?_;rintro r wb ⟨hfb, ⟨e, n, k1, v1, s1, t1, a1, i1, u1, b1, j1, p1, hE, rfl, hM, hbk, hr1⟩ | ⟨hE, ⟨k1, v1, s1, t1, a1, i1, u1, b1, j1, p1, f, rfl⟩, ts', hr1⟩⟩
 ·have hFb := HFa.out.trans hfb (fun _ _ e => e);have hAb := (hFb.block w.heap.size (blt HA0.out) (by omega)).trans HA0.out;have HAc : Hid ((wb.alloc (.cells #[.int .i64 k1, .int .i64 v1.kind, .int .i64 v1.n, .string v1.s, .slice none 0 0, .slice none 0 0, .string s1, .string t1, .slice a1 i1 u1, .slice b1 j1 p1] 170)).heap[w.heap.size]? = some (.cells #[.int .i64 0, .int .i64 0, .int .i64 0, .string ⟨#[]⟩, .slice none 0 0, .slice none 0 0, .string ⟨#[]⟩, .string ⟨#[]⟩, .slice none 0 0, .slice none 0 0] 170 (0, 0))) := by
   show _ = _;rw [heap_alloc_old _ _ (blt hAb)]; exact hAb
  have hX := heap_alloc_new wb (.cells #[.int .i64 k1, .int .i64 v1.kind, .int .i64 v1.n, .string v1.s, .slice none 0 0, .slice none 0 0, .string s1, .string t1, .slice a1 i1 u1, .slice b1 j1 p1] 170);have HFc : Hid (Fr w (wb.alloc (.cells #[.int .i64 k1, .int .i64 v1.kind, .int .i64 v1.n, .string v1.s, .slice none 0 0, .slice none 0 0, .string s1, .string t1, .slice a1 i1 u1, .slice b1 j1 p1] 170)) (fun c => c = R)) := (HF0.out.trans hFb (fun _ _ e => e)).alloc _;have HMc : Hid (X.MemD (P.New wa wb) 6 (wb.alloc (.cells #[.int .i64 k1, .int .i64 v1.kind, .int .i64 v1.n, .string v1.s, .slice none 0 0, .slice none 0 0, .string s1, .string t1, .slice a1 i1 u1, .slice b1 j1 p1] 170)) e (P.xc k1 v1 s1 t1 a1 i1 u1 b1 j1 p1)) := hM.to (fun c hc => heap_alloc_old _ _ hc.2) (fun _ hc => hc);have HCK := hide (xcheck_any sm hsm 6 (wb.alloc (.cells #[.int .i64 k1, .int .i64 v1.kind, .int .i64 v1.n, .string v1.s, .slice none 0 0, .slice none 0 0, .string s1, .string t1, .slice a1 i1 u1, .slice b1 j1 p1] 170)) e _ _ _ _ _ _ _ _ _ _ HMc.out.mem (by have := HLN.out; omega));have HRc : Hid (P.Rdr R (wb.alloc (.cells #[.int .i64 k1, .int .i64 v1.kind, .int .i64 v1.n, .string v1.s, .slice none 0 0, .slice none 0 0, .string s1, .string t1, .slice a1 i1 u1, .slice b1 j1 p1] 170)) (ts.drop (n + 1))) := hr1.kept (ba);have HSc : Hid ((wb.alloc (.cells #[.int .i64 k1, .int .i64 v1.kind, .int .i64 v1.n, .string v1.s, .slice none 0 0, .slice none 0 0, .string s1, .string t1, .slice a1 i1 u1, .slice b1 j1 p1] 170)).heap.size = wb.heap.size + 1) := by
   show _ = _;simp
  have HLa : Hid (w.heap.size + 1 <= wa.heap.size) := by
   show _ <= _;have := HFa.out.size;have := HSZ.out;omega
  have HLb : Hid (wa.heap.size <= wb.heap.size) := hfb.size;obtain ⟨HE, HBK⟩ := hd2 hE hbk;obtain ⟨x0, x1, x2, x3, x4, x5, x6, x7, x8, x9⟩ := cl10 hX;have HX := hide hX;unfold P.xc;clear hfb hFb hAb hX hM hr1 hE hbk hfd HEX;go_wp2_with fail;generalize (wb.alloc _) = wc at *;refine HCK.out.mono ?_;rintro r wd ⟨rfl, hbd⟩;have hfd : Fr wc wd (fun c => c = R) := (P.fr_below hbd).weak (fun _ _ e => e.elim);have hAd := (hfd.block w.heap.size (blt HAc.out) (by omega)).trans HAc.out;have hXd := (hfd.block wb.heap.size (blt HX.out) (by have := HLa.out; have := HLb.out; omega)).trans HX.out;by_cases hf0 : X.fault sm 6 e = 0
  ·rw [hf0, X.errOf_zero];have HF3 := hide (HFc.out.trans hfd (fun _ _ e => e));have HP : Hid (P.whole (fun e => decide (X.fault sm 6 e = 0)) (P.fc ts) = some (e, P.fc (ts.drop (n + 1)))) := by
    show _ = _;unfold P.whole;rw [HE.out];simp [hf0]
   have HRd := hide (HRc.out.kept hbd);have HM3 : Hid (X.MemD (P.New wa wb) 6 wd e (P.xc k1 v1 s1 t1 a1 i1 u1 b1 j1 p1)) := HMc.out.to (fun c hc => hfd.block c (by have := hc.2; have := HSc.out; omega) (by have := hc.1; have := HLa.out; omega)) (fun _ hc => hc);have HLd : Hid (wb.heap.size <= wd.heap.size) := by
    show _ <= _;have := hfd.size;have := HSc.out;omega
   obtain ⟨y0, y1, y2, y3, y4, y5, y6, y7, y8, y9⟩ := cl10 hXd;clear hbd hfd hXd hf0;obtain ⟨z0, z1, z2, z3, z4, z5, z6, z7, z8, z9⟩ := cl10 hAd;obtain ⟨f0, f1, f2, f3, f4, f5, f6, f7, f8, f9⟩ := fl10 hAd;have HAx := hide hAd;clear hAd;go_wp2_with fail;have hBz := P.set10 HAx.out (.int .i64 k1) (.int .i64 v1.kind) (.int .i64 v1.n) (.string v1.s) (.slice none 0 0) (.slice none 0 0) (.string s1) (.string t1) (.slice a1 i1 u1) (.slice b1 j1 p1);have hFz := P.fr10 wd w.heap.size (.int .i64 k1) (.int .i64 v1.kind) (.int .i64 v1.n) (.string v1.s) (.slice none 0 0) (.slice none 0 0) (.string s1) (.string t1) (.slice a1 i1 u1) (.slice b1 j1 p1);generalize ((((((((((wd.setCell _ _).setCell _ _).setCell _ _).setCell _ _).setCell _ _).setCell _ _).setCell _ _).setCell _ _).setCell _ _).setCell _ _) = wz at *;obtain ⟨r0, r1, r2, r3, r4, r5, r6, r7, r8, r9⟩ := cl10 hBz;refine bodyPost_ret (v := .tuple #[.agg #[.int .i64 k1, .int .i64 v1.kind, .int .i64 v1.n, .string v1.s, .slice none 0 0, .slice none 0 0, .string s1, .string t1, .slice a1 i1 u1, .slice b1 j1 p1], .nilIface]) (by simp [results, Tryz.results150, go_sem, r0, r1, r2, r3, r4, r5, r6, r7, r8, r9]) rfl ⟨HF3.out.trans hFz (fun c hc e => by omega), .inl ⟨e, n, k1, v1, s1, t1, a1, i1, u1, b1, j1, p1, HP.out, rfl, HM3.out.to (fun c hc => hFz.block c (by have := hc.2; have := HLd.out; omega) (by have := hc.1; have := HLa.out; omega)) (fun c hc => ⟨by have := hc.1; have := HLa.out; omega, by have := hc.2; have := HLd.out; have := hFz.size; omega⟩), HBK.out, HRd.out.fr hFz (fun c e => by omega)⟩⟩
  ·exfalso;have hx2 := HXX.out;unfold P.whole at hx2;rw [HE.out] at hx2;simp [hf0] at hx2
 ·obtain ⟨e0, q0, hw1, _⟩ := HQ.out;rw [hE] at hw1;cases hw1
end Go.Proofs.YtcekcfjabhlheaaGreatDoor.Vx
