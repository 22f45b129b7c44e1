/- For TopPrint: Read. -/
import Derived.Test.YtbdbpfcblppnbaaGreatDoorSB
import Derived.Test.YtbdbpfcblppnbaaGreatDoorSC
import Derived.Test.YtbdbpfcblppnbaaGreatDoorSD
import Derived.Test.YtbdbpfcblppnbaaGreatDoorX3
import Derived.BigQuiet
namespace Go.Proofs.YtbdbpfcblppnbaaGreatDoor.Vx
open Go.RowKit
namespace P
theorem KRow.on {α : Type} {B : Base α} {sz base : Nat} {w w' : World} {v : Value} {l : List α} {ex : Nat → Prop} (h : KRow B sz (fun c => base ≤ c ∧ c < w.heap.size) w v l) (hf : Fr w w' ex) (hx : ∀ c, ex c → c < base) : KRow B sz (fun c => base ≤ c ∧ c < w'.heap.size) w' v l :=
 h.to (fun c hc => hf.block c hc.2 (fun e => by have := hx c e; have := hc.1; omega)) (fun c hc => ⟨hc.1, by have := hf.size; have := hc.2; omega⟩)
theorem KRow.new {α : Type} {B : Base α} {sz base : Nat} {w w' : World} {v : Value} {l : List α} (h : KRow B sz (New w w') w' v l) (hb : base ≤ w.heap.size) : KRow B sz (fun c => base ≤ c ∧ c < w'.heap.size) w' v l :=
 h.to (fun _ _ => rfl) (fun c hc => ⟨by have := hc.1; omega, hc.2⟩)
theorem BS_of {D : Nat → Prop} {w : World} {s : Sk} {iv rv ov : Value} (hi : KRow BI 6 D w iv s.ins) (hr : KRow BR 3 D w rv s.res) (ho : KRow BO 11 D w ov s.outs) : KM BS D w s [.string s.name, iv, rv, ov] := fun w2 h2 => ⟨iv, rv, ov, rfl, hi.vals w2 h2, hr.ress w2 h2, ho.named w2 h2⟩
theorem fc_length (ts : List K) : (fc ts).length = ts.length := List.length_map ..
theorem cell1_set {w : World} {g : Nat} {t : TypeId} {z0 z1 z2 z3 : Value} (h : w.heap[g]? = some (.cells #[z0, z1, z2, z3] t (0, 0))) (y : Value) : (w.setCell ⟨g, 1, none⟩ y).heap[g]? = some (.cells #[z0, y, z2, z3] t (0, 0)) := block_set (i := 1) h y
theorem cell0_set {w : World} {g : Nat} {t : TypeId} {z0 z1 z2 z3 : Value} (h : w.heap[g]? = some (.cells #[z0, z1, z2, z3] t (0, 0))) (y : Value) : (w.setCell ⟨g, 0, none⟩ y).heap[g]? = some (.cells #[y, z1, z2, z3] t (0, 0)) := block_set (i := 0) h y
theorem cell2_set {w : World} {g : Nat} {t : TypeId} {z0 z1 z2 z3 : Value} (h : w.heap[g]? = some (.cells #[z0, z1, z2, z3] t (0, 0))) (y : Value) : (w.setCell ⟨g, 2, none⟩ y).heap[g]? = some (.cells #[z0, z1, y, z3] t (0, 0)) := block_set (i := 2) h y
theorem cell3_set {w : World} {g : Nat} {t : TypeId} {z0 z1 z2 z3 : Value} (h : w.heap[g]? = some (.cells #[z0, z1, z2, z3] t (0, 0))) (y : Value) : (w.setCell ⟨g, 3, none⟩ y).heap[g]? = some (.cells #[z0, z1, z2, y] t (0, 0)) := block_set (i := 3) h y
end P
set_option maxRecDepth 100000 in
set_option maxHeartbeats 6400000 in
theorem stack_any (sm : Val → Val → Bool) (hsm : V.Says sm) (R : Nat) (w : World) (ts : List P.K) (h : P.Rdr R w ts) :
  Calls Tryz.prog 12 #[.pointer (some ⟨R, 0, none⟩)] w fun r w' => Fr w w' (fun c => c = R) ∧ P.OneK P.BS (X.bulkS 6) P.ShS (P.stack (P.okE sm)) R w w' ts r := by
 have hR := h.lt
 have hb0 : Below w.heap.size w ((w.alloc (.cells #[.string ⟨#[]⟩, .slice none 0 0, .slice none 0 0, .slice none 0 0] 41)).alloc (.cells #[.string ⟨#[]⟩, .slice none 0 0, .slice none 0 0, .slice none 0 0] 41)) := ((Below.refl _ _).alloc (Nat.le_refl _) _).alloc (by simp) _
 have hA0 : ((w.alloc (.cells #[.string ⟨#[]⟩, .slice none 0 0, .slice none 0 0, .slice none 0 0] 41)).alloc (.cells #[.string ⟨#[]⟩, .slice none 0 0, .slice none 0 0, .slice none 0 0] 41)).heap[w.heap.size]? = some (.cells #[.string ⟨#[]⟩, .slice none 0 0, .slice none 0 0, .slice none 0 0] 41 (0, 0)) := by
  rw [heap_alloc_old _ _ (by simp)]
  exact heap_alloc_new _ _
 have hS0 : ((w.alloc (.cells #[.string ⟨#[]⟩, .slice none 0 0, .slice none 0 0, .slice none 0 0] 41)).alloc (.cells #[.string ⟨#[]⟩, .slice none 0 0, .slice none 0 0, .slice none 0 0] 41)).heap[w.heap.size + 1]? = some (.cells #[.string ⟨#[]⟩, .slice none 0 0, .slice none 0 0, .slice none 0 0] 41 (0, 0)) := by
  have h1 := heap_alloc_new (w.alloc (.cells #[.string ⟨#[]⟩, .slice none 0 0, .slice none 0 0, .slice none 0 0] 41)) (.cells #[.string ⟨#[]⟩, .slice none 0 0, .slice none 0 0, .slice none 0 0] 41)
  rw [P.size_alloc] at h1
  exact h1
 have hsz : ((w.alloc (.cells #[.string ⟨#[]⟩, .slice none 0 0, .slice none 0 0, .slice none 0 0] 41)).alloc (.cells #[.string ⟨#[]⟩, .slice none 0 0, .slice none 0 0, .slice none 0 0] 41)).heap.size = w.heap.size + 2 := by simp
 have HF0 : Hid (Fr w ((w.alloc (.cells #[.string ⟨#[]⟩, .slice none 0 0, .slice none 0 0, .slice none 0 0] 41)).alloc (.cells #[.string ⟨#[]⟩, .slice none 0 0, .slice none 0 0, .slice none 0 0] 41)) (fun c => c = R)) := (P.fr_below hb0).weak (fun _ _ e => e.elim)
 have HN1 := hide (rname_any R _ ts (h.kept hb0))
 have HA0 := hide hA0
 have HS0 := hide hS0
 have HSZ := hide hsz
 clear h hb0 hA0 hS0 hsz
 go_enter Tryz.func12, Tryz.ntmps12
 go_wp2_with fail
 generalize ((w.alloc (.cells #[.string ⟨#[]⟩, .slice none 0 0, .slice none 0 0, .slice none 0 0] 41)).alloc (.cells #[.string ⟨#[]⟩, .slice none 0 0, .slice none 0 0, .slice none 0 0] 41)) = w0 at *
 refine HN1.out.mono ?_
 have HL0 : Hid (w.heap.size + 2 ≤ w0.heap.size) := by
  show _ ≤ _
  have := HSZ.out
  omega
 rintro r wa ⟨hfa, ⟨tk, ts1, rfl, hE1, hn1, rfl, hr1⟩ | ⟨hE1, rfl, hr1⟩⟩
 ·have hSq := (hfa.block (w.heap.size + 1) (blt HS0.out) (by omega)).trans HS0.out
  have hAq := (hfa.block w.heap.size (blt HA0.out) (by omega)).trans HA0.out
  have hfs := Fr.set1 wa (w.heap.size + 1) 0 (.string (V.str tk.2.2))
  have HSwa : Hid ((wa.setCell ⟨w.heap.size + 1, 0, none⟩ (.string (V.str tk.2.2))).heap[w.heap.size + 1]? = some (.cells #[.string (V.str tk.2.2), .slice none 0 0, .slice none 0 0, .slice none 0 0] 41 (0, 0))) := P.cell0_set hSq _
  have HAwa : Hid ((wa.setCell ⟨w.heap.size + 1, 0, none⟩ (.string (V.str tk.2.2))).heap[w.heap.size]? = some (.cells #[.string ⟨#[]⟩, .slice none 0 0, .slice none 0 0, .slice none 0 0] 41 (0, 0))) := (hfs.block w.heap.size (blt hAq) (by omega)).trans hAq
  have HLwa : Hid (w.heap.size + 2 ≤ (wa.setCell ⟨w.heap.size + 1, 0, none⟩ (.string (V.str tk.2.2))).heap.size) := by
   show _ ≤ _
   have := hfa.size
   have := hfs.size
   have := HL0.out
   omega
  have HFwa : Hid (Fr w (wa.setCell ⟨w.heap.size + 1, 0, none⟩ (.string (V.str tk.2.2))) (fun c => c = R)) := (HF0.out.trans hfa (fun _ _ e => e)).trans hfs (fun c hc e => by omega)
  obtain ⟨y0, y1, y2, y3⟩ := cl4 hSq
  have yf0 := free_of_block hSq 0
  have HRwa : Hid (P.Rdr R (wa.setCell ⟨w.heap.size + 1, 0, none⟩ (.string (V.str tk.2.2))) ts1) := hr1.fr hfs (fun c e => by omega)
  have HE1 := hide hE1
  have HNS : Hid ((V.str tk.2.2).size ≤ 12) := P.name_size hn1
  clear hfa hE1 hr1 hn1 hSq hAq hfs HN1
  go_wp2_with fail
  generalize (wa.setCell ⟨w.heap.size + 1, 0, none⟩ (.string (V.str tk.2.2))) = w1 at *
  have HSw1 := HSwa
  clear HSwa
  have HAw1 := HAwa
  clear HAwa
  have HLw1 := HLwa
  clear HLwa
  have HFw1 := HFwa
  clear HFwa
  have HRw1 := HRwa
  clear HRwa
  have HE := hide (each_any26 P.BI (fun x => x.1.size + V.bulk 6 x.2) (P.input (P.okE sm)) R ⟨#[105, 110, 112, 117, 116]⟩ 8 (by decide) (fun w ts h => input_any sm hsm R w ts h) w1 ts1 HRw1.out)
  go_wp2_with fail
  refine HE.out.mono ?_
  rintro r wb ⟨hf, vI, ev, rfl, ⟨lI, nI, hE, rfl, hK, ⟨aI, cI, rfl⟩, hbk, hr⟩ | ⟨hE, ⟨f, rfl⟩, rfl, ts', hr⟩⟩
  ·have hSq := (hf.block (w.heap.size + 1) (blt HSw1.out) (by omega)).trans HSw1.out
   have hAq := (hf.block w.heap.size (blt HAw1.out) (by omega)).trans HAw1.out
   have hfs := Fr.set1 wb (w.heap.size + 1) 1 (.slice aI lI.length cI)
   have HSwb : Hid ((wb.setCell ⟨w.heap.size + 1, 1, none⟩ (.slice aI lI.length cI)).heap[w.heap.size + 1]? = some (.cells #[.string (V.str tk.2.2), .slice aI lI.length cI, .slice none 0 0, .slice none 0 0] 41 (0, 0))) := P.cell1_set hSq _
   have HAwb : Hid ((wb.setCell ⟨w.heap.size + 1, 1, none⟩ (.slice aI lI.length cI)).heap[w.heap.size]? = some (.cells #[.string ⟨#[]⟩, .slice none 0 0, .slice none 0 0, .slice none 0 0] 41 (0, 0))) := (hfs.block w.heap.size (blt hAq) (by omega)).trans hAq
   have HLwb : Hid (w.heap.size + 2 ≤ (wb.setCell ⟨w.heap.size + 1, 1, none⟩ (.slice aI lI.length cI)).heap.size) := by
    show _ ≤ _
    have := hf.size
    have := hfs.size
    have := HLw1.out
    omega
   have HFwb : Hid (Fr w (wb.setCell ⟨w.heap.size + 1, 1, none⟩ (.slice aI lI.length cI)) (fun c => c = R)) := (HFw1.out.trans hf (fun _ _ e => e)).trans hfs (fun c hc e => by omega)
   obtain ⟨y0, y1, y2, y3⟩ := cl4 hSq
   have yf1 := free_of_block hSq 1
   have HKI : Hid (P.KRow P.BI 6 (fun c => w.heap.size + 2 ≤ c ∧ c < (wb.setCell ⟨w.heap.size + 1, 1, none⟩ (.slice aI lI.length cI)).heap.size) (wb.setCell ⟨w.heap.size + 1, 1, none⟩ (.slice aI lI.length cI)) (.slice aI lI.length cI) lI) := (hK.new HLw1.out).on hfs (fun c e => by omega)
   have HRwb : Hid (P.Rdr R (wb.setCell ⟨w.heap.size + 1, 1, none⟩ (.slice aI lI.length cI)) (ts1.drop nI)) := hr.fr hfs (fun c e => by omega)
   have HXI : Hid (P.each P.kInput 8 (P.input (P.okE sm)) ((P.fc ts1).length + 1) 0 (P.fc ts1) = some (lI, P.fc (ts1.drop nI))) := by
    show _ = _
    rw [P.fc_length]
    exact hE
   have HBI := hide hbk
   clear hf hE hK hbk hr hSq hAq hfs HE
   go_wp2_with fail
   generalize (wb.setCell ⟨w.heap.size + 1, 1, none⟩ (.slice aI lI.length cI)) = wb2 at *
   have HSwb2 := HSwb
   clear HSwb
   have HAwb2 := HAwb
   clear HAwb
   have HLwb2 := HLwb
   clear HLwb
   have HFwb2 := HFwb
   clear HFwb
   have HRwb2 := HRwb
   clear HRwb
   have HE := hide (each_any28 P.BR (fun r => r.kind.size + r.name.size + X.sumP 6 r.parts) (P.resource (P.okE sm)) R ⟨#[114, 101, 115, 111, 117, 114, 99, 101]⟩ 8 (by decide) (fun w ts h => resource_any sm hsm R w ts h) wb2 (ts1.drop nI) HRwb2.out)
   go_wp2_with fail
   refine HE.out.mono ?_
   rintro r wc ⟨hf, vR, ev, rfl, ⟨lR, nR, hE, rfl, hK, ⟨aR, cR, rfl⟩, hbk, hr⟩ | ⟨hE, ⟨f, rfl⟩, rfl, ts', hr⟩⟩
   ·have hSq := (hf.block (w.heap.size + 1) (blt HSwb2.out) (by omega)).trans HSwb2.out
    have hAq := (hf.block w.heap.size (blt HAwb2.out) (by omega)).trans HAwb2.out
    have hfs := Fr.set1 wc (w.heap.size + 1) 2 (.slice aR lR.length cR)
    have HSwc : Hid ((wc.setCell ⟨w.heap.size + 1, 2, none⟩ (.slice aR lR.length cR)).heap[w.heap.size + 1]? = some (.cells #[.string (V.str tk.2.2), .slice aI lI.length cI, .slice aR lR.length cR, .slice none 0 0] 41 (0, 0))) := P.cell2_set hSq _
    have HAwc : Hid ((wc.setCell ⟨w.heap.size + 1, 2, none⟩ (.slice aR lR.length cR)).heap[w.heap.size]? = some (.cells #[.string ⟨#[]⟩, .slice none 0 0, .slice none 0 0, .slice none 0 0] 41 (0, 0))) := (hfs.block w.heap.size (blt hAq) (by omega)).trans hAq
    have HLwc : Hid (w.heap.size + 2 ≤ (wc.setCell ⟨w.heap.size + 1, 2, none⟩ (.slice aR lR.length cR)).heap.size) := by
     show _ ≤ _
     have := hf.size
     have := hfs.size
     have := HLwb2.out
     omega
    have HFwc : Hid (Fr w (wc.setCell ⟨w.heap.size + 1, 2, none⟩ (.slice aR lR.length cR)) (fun c => c = R)) := (HFwb2.out.trans hf (fun _ _ e => e)).trans hfs (fun c hc e => by omega)
    obtain ⟨y0, y1, y2, y3⟩ := cl4 hSq
    have yf2 := free_of_block hSq 2
    have HKR : Hid (P.KRow P.BR 3 (fun c => w.heap.size + 2 ≤ c ∧ c < (wc.setCell ⟨w.heap.size + 1, 2, none⟩ (.slice aR lR.length cR)).heap.size) (wc.setCell ⟨w.heap.size + 1, 2, none⟩ (.slice aR lR.length cR)) (.slice aR lR.length cR) lR) := (hK.new HLwb2.out).on hfs (fun c e => by omega)
    have HKI2 : Hid (P.KRow P.BI 6 (fun c => w.heap.size + 2 ≤ c ∧ c < (wc.setCell ⟨w.heap.size + 1, 2, none⟩ (.slice aR lR.length cR)).heap.size) (wc.setCell ⟨w.heap.size + 1, 2, none⟩ (.slice aR lR.length cR)) (.slice aI lI.length cI) lI) := (HKI.out.on hf (fun c e => by omega)).on hfs (fun c e => by omega)
    have HRwc : Hid (P.Rdr R (wc.setCell ⟨w.heap.size + 1, 2, none⟩ (.slice aR lR.length cR)) ((ts1.drop nI).drop nR)) := hr.fr hfs (fun c e => by omega)
    have HXR : Hid (P.each P.kResource 8 (P.resource (P.okE sm)) ((P.fc (ts1.drop nI)).length + 1) 0 (P.fc (ts1.drop nI)) = some (lR, P.fc ((ts1.drop nI).drop nR))) := by
     show _ = _
     rw [P.fc_length]
     exact hE
    have HBR := hide hbk
    clear HKI
    have HKI := HKI2
    clear HKI2
    clear hf hE hK hbk hr hSq hAq hfs HE
    go_wp2_with fail
    generalize (wc.setCell ⟨w.heap.size + 1, 2, none⟩ (.slice aR lR.length cR)) = wc2 at *
    have HSwc2 := HSwc
    clear HSwc
    have HAwc2 := HAwc
    clear HAwc
    have HLwc2 := HLwc
    clear HLwc
    have HFwc2 := HFwc
    clear HFwc
    have HRwc2 := HRwc
    clear HRwc
    have HE := hide (each_any30 P.BO (fun x => x.1.size + X.bulk 6 x.2) (P.output (P.okE sm)) R ⟨#[111, 117, 116, 112, 117, 116]⟩ 8 (by decide) (fun w ts h => output_any sm hsm R w ts h) wc2 ((ts1.drop nI).drop nR) HRwc2.out)
    go_wp2_with fail
    refine HE.out.mono ?_
    rintro r wd ⟨hf, vO, ev, rfl, ⟨lO, nO, hE, rfl, hK, ⟨aO, cO, rfl⟩, hbk, hr⟩ | ⟨hE, ⟨f, rfl⟩, rfl, ts', hr⟩⟩
    ·have hSq := (hf.block (w.heap.size + 1) (blt HSwc2.out) (by omega)).trans HSwc2.out
     have hAq := (hf.block w.heap.size (blt HAwc2.out) (by omega)).trans HAwc2.out
     have hfs := Fr.set1 wd (w.heap.size + 1) 3 (.slice aO lO.length cO)
     have HSwd : Hid ((wd.setCell ⟨w.heap.size + 1, 3, none⟩ (.slice aO lO.length cO)).heap[w.heap.size + 1]? = some (.cells #[.string (V.str tk.2.2), .slice aI lI.length cI, .slice aR lR.length cR, .slice aO lO.length cO] 41 (0, 0))) := P.cell3_set hSq _
     have HAwd : Hid ((wd.setCell ⟨w.heap.size + 1, 3, none⟩ (.slice aO lO.length cO)).heap[w.heap.size]? = some (.cells #[.string ⟨#[]⟩, .slice none 0 0, .slice none 0 0, .slice none 0 0] 41 (0, 0))) := (hfs.block w.heap.size (blt hAq) (by omega)).trans hAq
     have HLwd : Hid (w.heap.size + 2 ≤ (wd.setCell ⟨w.heap.size + 1, 3, none⟩ (.slice aO lO.length cO)).heap.size) := by
      show _ ≤ _
      have := hf.size
      have := hfs.size
      have := HLwc2.out
      omega
     have HFwd : Hid (Fr w (wd.setCell ⟨w.heap.size + 1, 3, none⟩ (.slice aO lO.length cO)) (fun c => c = R)) := (HFwc2.out.trans hf (fun _ _ e => e)).trans hfs (fun c hc e => by omega)
     obtain ⟨y0, y1, y2, y3⟩ := cl4 hSq
     have yf3 := free_of_block hSq 3
     have HKO : Hid (P.KRow P.BO 11 (fun c => w.heap.size + 2 ≤ c ∧ c < (wd.setCell ⟨w.heap.size + 1, 3, none⟩ (.slice aO lO.length cO)).heap.size) (wd.setCell ⟨w.heap.size + 1, 3, none⟩ (.slice aO lO.length cO)) (.slice aO lO.length cO) lO) := (hK.new HLwc2.out).on hfs (fun c e => by omega)
     have HKI3 : Hid (P.KRow P.BI 6 (fun c => w.heap.size + 2 ≤ c ∧ c < (wd.setCell ⟨w.heap.size + 1, 3, none⟩ (.slice aO lO.length cO)).heap.size) (wd.setCell ⟨w.heap.size + 1, 3, none⟩ (.slice aO lO.length cO)) (.slice aI lI.length cI) lI) := (HKI.out.on hf (fun c e => by omega)).on hfs (fun c e => by omega)
     have HKR3 : Hid (P.KRow P.BR 3 (fun c => w.heap.size + 2 ≤ c ∧ c < (wd.setCell ⟨w.heap.size + 1, 3, none⟩ (.slice aO lO.length cO)).heap.size) (wd.setCell ⟨w.heap.size + 1, 3, none⟩ (.slice aO lO.length cO)) (.slice aR lR.length cR) lR) := (HKR.out.on hf (fun c e => by omega)).on hfs (fun c e => by omega)
     have HRwd : Hid (P.Rdr R (wd.setCell ⟨w.heap.size + 1, 3, none⟩ (.slice aO lO.length cO)) (((ts1.drop nI).drop nR).drop nO)) := hr.fr hfs (fun c e => by omega)
     have HXO : Hid (P.each P.kOutput 8 (P.output (P.okE sm)) ((P.fc ((ts1.drop nI).drop nR)).length + 1) 0 (P.fc ((ts1.drop nI).drop nR)) = some (lO, P.fc (((ts1.drop nI).drop nR).drop nO))) := by
      show _ = _
      rw [P.fc_length]
      exact hE
     have HBO := hide hbk
     clear HKI HKR
     have HKI := HKI3
     clear HKI3
     have HKR := HKR3
     clear HKR3
     have HP : Hid (P.stack (P.okE sm) (P.fc (tk :: ts1)) = some (⟨V.str tk.2.2, lI, lR, lO⟩, P.fc ((tk :: ts1).drop (nI + nR + nO + 1)))) := by
      show _ = _
      unfold P.stack
      rw [HE1.out]
      simp only
      rw [HXI.out]
      simp only
      rw [HXR.out]
      simp only
      rw [HXO.out]
      rw [List.drop_succ_cons, ← List.drop_drop, ← List.drop_drop]
      rfl
     have hAx := HAwd.out
     have hSx := HSwd.out
     obtain ⟨q0, q1, q2, q3⟩ := cl4 hSx
     clear hSx hSq hAq hfs hf hE hK hbk hr HE
     obtain ⟨z0, z1, z2, z3⟩ := cl4 hAx
     obtain ⟨f0, f1, f2, f3⟩ := fl4 hAx
     have HAx := hide hAx
     clear hAx
     go_wp2_with fail
     obtain ⟨wz, hwz, hBz, hFz⟩ := P.sf4 HAx.out (.string (V.str tk.2.2)) (.slice aI lI.length cI) (.slice aR lR.length cR) (.slice aO lO.length cO)
     rw [← hwz]
     clear hwz
     obtain ⟨r0, r1, r2, r3⟩ := cl4 hBz
     refine bodyPost_ret (v := .tuple #[.agg #[.string (V.str tk.2.2), .slice aI lI.length cI, .slice aR lR.length cR, .slice aO lO.length cO], .nilIface]) (by simp [results, Tryz.results12, go_sem, r0, r1, r2, r3]) rfl ⟨HFwd.out.trans hFz (fun c hc e => by omega), .inl ⟨⟨V.str tk.2.2, lI, lR, lO⟩, nI + nR + nO + 1, [.string (V.str tk.2.2), .slice aI lI.length cI, .slice aR lR.length cR, .slice aO lO.length cO], HP.out, rfl, ⟨_, _, _, _, _, _, _, _, _, _, rfl⟩, P.BS_of (s := ⟨V.str tk.2.2, lI, lR, lO⟩) (HKI.out.to (fun c hc => hFz.block c hc.2 (by have := hc.1; omega)) (fun c hc => ⟨by have := hc.1; omega, by have := hc.2; have := hFz.size; omega⟩)) (HKR.out.to (fun c hc => hFz.block c hc.2 (by have := hc.1; omega)) (fun c hc => ⟨by have := hc.1; omega, by have := hc.2; have := hFz.size; omega⟩)) (HKO.out.to (fun c hc => hFz.block c hc.2 (by have := hc.1; omega)) (fun c hc => ⟨by have := hc.1; omega, by have := hc.2; have := hFz.size; omega⟩)), ?_, ?_⟩⟩
     ·have h1 := HBI.out
      have h2 := HBR.out
      have h3 := HBO.out
      have h4 := HNS.out
      show (V.str tk.2.2).size + X.sumI 6 lI + lI.length + X.sumR 6 lR + lR.length + X.sumP 6 lO + lO.length + 60 * (ts1.drop (nI + nR + nO)).length ≤ 60 * (ts1.length + 1)
      rw [← List.drop_drop, ← List.drop_drop]
      unfold X.sumI X.sumR X.sumP at *
      omega
     ·rw [List.drop_succ_cons, ← List.drop_drop, ← List.drop_drop]
      exact HRwd.out.fr hFz (fun c e => by omega)
    ·have hSq := (hf.block (w.heap.size + 1) (blt HSwc2.out) (by omega)).trans HSwc2.out
     have hAq := (hf.block w.heap.size (blt HAwc2.out) (by omega)).trans HAwc2.out
     have hfs := Fr.set1 wd (w.heap.size + 1) 3 (.slice none 0 0)
     have HSwd : Hid ((wd.setCell ⟨w.heap.size + 1, 3, none⟩ (.slice none 0 0)).heap[w.heap.size + 1]? = some (.cells #[.string (V.str tk.2.2), .slice aI lI.length cI, .slice aR lR.length cR, .slice none 0 0] 41 (0, 0))) := P.cell3_set hSq _
     have HAwd : Hid ((wd.setCell ⟨w.heap.size + 1, 3, none⟩ (.slice none 0 0)).heap[w.heap.size]? = some (.cells #[.string ⟨#[]⟩, .slice none 0 0, .slice none 0 0, .slice none 0 0] 41 (0, 0))) := (hfs.block w.heap.size (blt hAq) (by omega)).trans hAq
     have HLwd : Hid (w.heap.size + 2 ≤ (wd.setCell ⟨w.heap.size + 1, 3, none⟩ (.slice none 0 0)).heap.size) := by
      show _ ≤ _
      have := hf.size
      have := hfs.size
      have := HLwc2.out
      omega
     have HFwd : Hid (Fr w (wd.setCell ⟨w.heap.size + 1, 3, none⟩ (.slice none 0 0)) (fun c => c = R)) := (HFwc2.out.trans hf (fun _ _ e => e)).trans hfs (fun c hc e => by omega)
     obtain ⟨y0, y1, y2, y3⟩ := cl4 hSq
     have yf3 := free_of_block hSq 3
     have hN : P.each P.kOutput 8 (P.output (P.okE sm)) ((P.fc ((ts1.drop nI).drop nR)).length + 1) 0 (P.fc ((ts1.drop nI).drop nR)) = none := by
      rw [P.fc_length]
      exact hE
     have HRx : Hid (P.Rdr R (wd.setCell ⟨w.heap.size + 1, 3, none⟩ (.slice none 0 0)) ts') := hr.fr hfs (fun c e => by omega)
     have HP : Hid (P.stack (P.okE sm) (P.fc (tk :: ts1)) = none) := by
      show _ = _
      unfold P.stack
      rw [HE1.out]
      simp only
      rw [HXI.out]
      simp only
      rw [HXR.out]
      simp only
      rw [hN]
      rfl
     have hAx := HAwd.out
     have hSx := HSwd.out
     obtain ⟨q0, q1, q2, q3⟩ := cl4 hSx
     clear hSx hSq hAq hfs
     clear hf hE hr HE hN
     obtain ⟨z0, z1, z2, z3⟩ := cl4 hAx
     obtain ⟨f0, f1, f2, f3⟩ := fl4 hAx
     have HAx := hide hAx
     clear hAx
     go_wp2_with fail
     obtain ⟨wz, hwz, hBz, hFz⟩ := P.sf4 HAx.out (.string (V.str tk.2.2)) (.slice aI lI.length cI) (.slice aR lR.length cR) (.slice none 0 0)
     rw [← hwz]
     clear hwz
     obtain ⟨r0, r1, r2, r3⟩ := cl4 hBz
     refine bodyPost_ret (v := .tuple #[.agg #[.string (V.str tk.2.2), .slice aI lI.length cI, .slice aR lR.length cR, .slice none 0 0], .iface 62 (.int .i64 f)]) (by simp [results, Tryz.results12, go_sem, r0, r1, r2, r3]) rfl ⟨HFwd.out.trans hFz (fun c hc e => by omega), .inr ⟨HP.out, ⟨[.string (V.str tk.2.2), .slice aI lI.length cI, .slice aR lR.length cR, .slice none 0 0], f, rfl, ⟨_, _, _, _, _, _, _, _, _, _, rfl⟩⟩, _, HRx.out.fr hFz (fun c e => by omega)⟩⟩
   ·have hSq := (hf.block (w.heap.size + 1) (blt HSwb2.out) (by omega)).trans HSwb2.out
    have hAq := (hf.block w.heap.size (blt HAwb2.out) (by omega)).trans HAwb2.out
    have hfs := Fr.set1 wc (w.heap.size + 1) 2 (.slice none 0 0)
    have HSwc : Hid ((wc.setCell ⟨w.heap.size + 1, 2, none⟩ (.slice none 0 0)).heap[w.heap.size + 1]? = some (.cells #[.string (V.str tk.2.2), .slice aI lI.length cI, .slice none 0 0, .slice none 0 0] 41 (0, 0))) := P.cell2_set hSq _
    have HAwc : Hid ((wc.setCell ⟨w.heap.size + 1, 2, none⟩ (.slice none 0 0)).heap[w.heap.size]? = some (.cells #[.string ⟨#[]⟩, .slice none 0 0, .slice none 0 0, .slice none 0 0] 41 (0, 0))) := (hfs.block w.heap.size (blt hAq) (by omega)).trans hAq
    have HLwc : Hid (w.heap.size + 2 ≤ (wc.setCell ⟨w.heap.size + 1, 2, none⟩ (.slice none 0 0)).heap.size) := by
     show _ ≤ _
     have := hf.size
     have := hfs.size
     have := HLwb2.out
     omega
    have HFwc : Hid (Fr w (wc.setCell ⟨w.heap.size + 1, 2, none⟩ (.slice none 0 0)) (fun c => c = R)) := (HFwb2.out.trans hf (fun _ _ e => e)).trans hfs (fun c hc e => by omega)
    obtain ⟨y0, y1, y2, y3⟩ := cl4 hSq
    have yf2 := free_of_block hSq 2
    have hN : P.each P.kResource 8 (P.resource (P.okE sm)) ((P.fc (ts1.drop nI)).length + 1) 0 (P.fc (ts1.drop nI)) = none := by
     rw [P.fc_length]
     exact hE
    have HRx : Hid (P.Rdr R (wc.setCell ⟨w.heap.size + 1, 2, none⟩ (.slice none 0 0)) ts') := hr.fr hfs (fun c e => by omega)
    have HP : Hid (P.stack (P.okE sm) (P.fc (tk :: ts1)) = none) := by
     show _ = _
     unfold P.stack
     rw [HE1.out]
     simp only
     rw [HXI.out]
     simp only
     rw [hN]
    have hAx := HAwc.out
    have hSx := HSwc.out
    obtain ⟨q0, q1, q2, q3⟩ := cl4 hSx
    clear hSx hSq hAq hfs
    clear hf hE hr HE hN
    obtain ⟨z0, z1, z2, z3⟩ := cl4 hAx
    obtain ⟨f0, f1, f2, f3⟩ := fl4 hAx
    have HAx := hide hAx
    clear hAx
    go_wp2_with fail
    obtain ⟨wz, hwz, hBz, hFz⟩ := P.sf4 HAx.out (.string (V.str tk.2.2)) (.slice aI lI.length cI) (.slice none 0 0) (.slice none 0 0)
    rw [← hwz]
    clear hwz
    obtain ⟨r0, r1, r2, r3⟩ := cl4 hBz
    refine bodyPost_ret (v := .tuple #[.agg #[.string (V.str tk.2.2), .slice aI lI.length cI, .slice none 0 0, .slice none 0 0], .iface 62 (.int .i64 f)]) (by simp [results, Tryz.results12, go_sem, r0, r1, r2, r3]) rfl ⟨HFwc.out.trans hFz (fun c hc e => by omega), .inr ⟨HP.out, ⟨[.string (V.str tk.2.2), .slice aI lI.length cI, .slice none 0 0, .slice none 0 0], f, rfl, ⟨_, _, _, _, _, _, _, _, _, _, rfl⟩⟩, _, HRx.out.fr hFz (fun c e => by omega)⟩⟩
  ·have hSq := (hf.block (w.heap.size + 1) (blt HSw1.out) (by omega)).trans HSw1.out
   have hAq := (hf.block w.heap.size (blt HAw1.out) (by omega)).trans HAw1.out
   have hfs := Fr.set1 wb (w.heap.size + 1) 1 (.slice none 0 0)
   have HSwb : Hid ((wb.setCell ⟨w.heap.size + 1, 1, none⟩ (.slice none 0 0)).heap[w.heap.size + 1]? = some (.cells #[.string (V.str tk.2.2), .slice none 0 0, .slice none 0 0, .slice none 0 0] 41 (0, 0))) := P.cell1_set hSq _
   have HAwb : Hid ((wb.setCell ⟨w.heap.size + 1, 1, none⟩ (.slice none 0 0)).heap[w.heap.size]? = some (.cells #[.string ⟨#[]⟩, .slice none 0 0, .slice none 0 0, .slice none 0 0] 41 (0, 0))) := (hfs.block w.heap.size (blt hAq) (by omega)).trans hAq
   have HLwb : Hid (w.heap.size + 2 ≤ (wb.setCell ⟨w.heap.size + 1, 1, none⟩ (.slice none 0 0)).heap.size) := by
    show _ ≤ _
    have := hf.size
    have := hfs.size
    have := HLw1.out
    omega
   have HFwb : Hid (Fr w (wb.setCell ⟨w.heap.size + 1, 1, none⟩ (.slice none 0 0)) (fun c => c = R)) := (HFw1.out.trans hf (fun _ _ e => e)).trans hfs (fun c hc e => by omega)
   obtain ⟨y0, y1, y2, y3⟩ := cl4 hSq
   have yf1 := free_of_block hSq 1
   have hN : P.each P.kInput 8 (P.input (P.okE sm)) ((P.fc ts1).length + 1) 0 (P.fc ts1) = none := by
    rw [P.fc_length]
    exact hE
   have HRx : Hid (P.Rdr R (wb.setCell ⟨w.heap.size + 1, 1, none⟩ (.slice none 0 0)) ts') := hr.fr hfs (fun c e => by omega)
   have HP : Hid (P.stack (P.okE sm) (P.fc (tk :: ts1)) = none) := by
    show _ = _
    unfold P.stack
    rw [HE1.out]
    simp only
    rw [hN]
   have hAx := HAwb.out
   have hSx := HSwb.out
   obtain ⟨q0, q1, q2, q3⟩ := cl4 hSx
   clear hSx hSq hAq hfs
   clear hf hE hr HE hN
   obtain ⟨z0, z1, z2, z3⟩ := cl4 hAx
   obtain ⟨f0, f1, f2, f3⟩ := fl4 hAx
   have HAx := hide hAx
   clear hAx
   go_wp2_with fail
   obtain ⟨wz, hwz, hBz, hFz⟩ := P.sf4 HAx.out (.string (V.str tk.2.2)) (.slice none 0 0) (.slice none 0 0) (.slice none 0 0)
   rw [← hwz]
   clear hwz
   obtain ⟨r0, r1, r2, r3⟩ := cl4 hBz
   refine bodyPost_ret (v := .tuple #[.agg #[.string (V.str tk.2.2), .slice none 0 0, .slice none 0 0, .slice none 0 0], .iface 62 (.int .i64 f)]) (by simp [results, Tryz.results12, go_sem, r0, r1, r2, r3]) rfl ⟨HFwb.out.trans hFz (fun c hc e => by omega), .inr ⟨HP.out, ⟨[.string (V.str tk.2.2), .slice none 0 0, .slice none 0 0, .slice none 0 0], f, rfl, ⟨_, _, _, _, _, _, _, _, _, _, rfl⟩⟩, _, HRx.out.fr hFz (fun c e => by omega)⟩⟩
 ·have hSq := (hfa.block (w.heap.size + 1) (blt HS0.out) (by omega)).trans HS0.out
  have hAq := (hfa.block w.heap.size (blt HA0.out) (by omega)).trans HA0.out
  have hfs := Fr.set1 wa (w.heap.size + 1) 0 (.string ⟨#[]⟩)
  have HSwa : Hid ((wa.setCell ⟨w.heap.size + 1, 0, none⟩ (.string ⟨#[]⟩)).heap[w.heap.size + 1]? = some (.cells #[.string ⟨#[]⟩, .slice none 0 0, .slice none 0 0, .slice none 0 0] 41 (0, 0))) := P.cell0_set hSq _
  have HAwa : Hid ((wa.setCell ⟨w.heap.size + 1, 0, none⟩ (.string ⟨#[]⟩)).heap[w.heap.size]? = some (.cells #[.string ⟨#[]⟩, .slice none 0 0, .slice none 0 0, .slice none 0 0] 41 (0, 0))) := (hfs.block w.heap.size (blt hAq) (by omega)).trans hAq
  have HLwa : Hid (w.heap.size + 2 ≤ (wa.setCell ⟨w.heap.size + 1, 0, none⟩ (.string ⟨#[]⟩)).heap.size) := by
   show _ ≤ _
   have := hfa.size
   have := hfs.size
   have := HL0.out
   omega
  have HFwa : Hid (Fr w (wa.setCell ⟨w.heap.size + 1, 0, none⟩ (.string ⟨#[]⟩)) (fun c => c = R)) := (HF0.out.trans hfa (fun _ _ e => e)).trans hfs (fun c hc e => by omega)
  obtain ⟨y0, y1, y2, y3⟩ := cl4 hSq
  have yf0 := free_of_block hSq 0
  have HRx : Hid (P.Rdr R (wa.setCell ⟨w.heap.size + 1, 0, none⟩ (.string ⟨#[]⟩)) ts) := hr1.fr hfs (fun c e => by omega)
  have HP : Hid (P.stack (P.okE sm) (P.fc ts) = none) := by
   show _ = _
   unfold P.stack
   rw [hE1]
  have hAx := HAwa.out
  have hSx := HSwa.out
  obtain ⟨q0, q1, q2, q3⟩ := cl4 hSx
  clear hSx hSq hAq hfs
  clear hfa hE1 hr1 HN1
  obtain ⟨z0, z1, z2, z3⟩ := cl4 hAx
  obtain ⟨f0, f1, f2, f3⟩ := fl4 hAx
  have HAx := hide hAx
  clear hAx
  go_wp2_with fail
  obtain ⟨wz, hwz, hBz, hFz⟩ := P.sf4 HAx.out (.string ⟨#[]⟩) (.slice none 0 0) (.slice none 0 0) (.slice none 0 0)
  rw [← hwz]
  clear hwz
  obtain ⟨r0, r1, r2, r3⟩ := cl4 hBz
  refine bodyPost_ret (v := .tuple #[.agg #[.string ⟨#[]⟩, .slice none 0 0, .slice none 0 0, .slice none 0 0], .iface 62 (.int .i64 5)]) (by simp [results, Tryz.results12, go_sem, r0, r1, r2, r3]) rfl ⟨HFwa.out.trans hFz (fun c hc e => by omega), .inr ⟨HP.out, ⟨[.string ⟨#[]⟩, .slice none 0 0, .slice none 0 0, .slice none 0 0], 5, rfl, ⟨_, _, _, _, _, _, _, _, _, _, rfl⟩⟩, _, HRx.out.fr hFz (fun c e => by omega)⟩⟩
end Go.Proofs.YtbdbpfcblppnbaaGreatDoor.Vx
namespace Go.Proofs.YtbdbpfcblppnbaaGreatDoor.Vx
open Go.RowKit
namespace P
theorem tv_of {k : Nat} {t : List UInt8} (hv : Lx.Valid k t) : t.length ≤ 40 ∧ (k = 2 → t ≠ [] ∧ t.length ≤ 10 ∧ ∀ b ∈ t, Lx.digit b = true) := by
 refine ⟨(Lx.again k t [] hv).2.2.1, ?_⟩
 rintro rfl
 obtain ⟨hk, r, n, hf⟩ := hv
 cases r with
 | nil => cases hf
 | cons c r =>
  rw [Lx.firstTok] at hf
  cases hl : Lx.letter c
  ·cases hd : Lx.digit c
   ·rw [hl, hd] at hf
    simp only [Bool.false_eq_true, if_false] at hf
    by_cases hq : c.toNat = 34
    ·rw [if_pos hq, Lx.quotedTok] at hf
     have he : (Lx.qt ((c :: r).drop 1) 1 []).err = 0 := by rw [hf]
     have h1 := Lx.qt_kind _ _ _ he
     rw [hf] at h1
     cases h1
    ·rw [if_neg hq, Lx.signTok] at hf
     split at hf
     ·cases hf
     ·split at hf <;> cases hf
   ·rw [hl, hd] at hf
    simp only [Bool.false_eq_true, if_false, if_true] at hf
    rw [Lx.digitsTok] at hf
    by_cases hb : Lx.plen Lx.digit (c :: r) > 10 ∨ Lx.plen Lx.digit (c :: r) > 1 ∧ (c :: r).headD 0 = 48
    ·rw [if_pos hb] at hf
     cases hf
    ·rw [if_neg hb] at hf
     have h2 := congrArg Lx.Tok.text hf
     simp only at h2
     subst h2
     have hp : Lx.plen Lx.digit (c :: r) = Lx.plen Lx.digit r + 1 := by rw [Lx.plen, if_pos hd]
     refine ⟨by rw [hp]; simp, ?_, Lx.plen_take Lx.digit (c :: r)⟩
     rw [Lx.length_take_plen]
     omega
  ·rw [hl] at hf
   simp only [if_true] at hf
   rw [Lx.wordTok] at hf
   split at hf <;> cases hf
theorem good_len (m : Nat) : ∀ (l : List K) (k : Nat), Lx.Good m k l → k ≤ m → k + l.length ≤ m
 | [], _, _, h => h
 | t :: r, k, ⟨h1, h2, _, h4⟩, _ => by
  have := good_len m r (t.2.1 + 1) h4 h2
  simp only [List.length_cons]
  omega
theorem good_tv (m : Nat) : ∀ (l : List K) (k : Nat), Lx.Good m k l → ∀ t ∈ l, Tv t
 | [], _, _ => fun _ h => absurd h (by simp)
 | t :: r, _, ⟨_, _, h3, h4⟩ => fun x hx => by
  rcases List.mem_cons.1 hx with rfl | hx
  ·exact tv_of h3
  ·exact good_tv m r _ h4 x hx
theorem lex_facts {s : List UInt8} {l : List K} (h : Lx.lexAll s = .ok l) : l.length ≤ 4000 ∧ ∀ t ∈ l, Tv t := by
 have hg := Lx.lexAll_good s l h
 have hs : s.length ≤ 4000 := by
  unfold Lx.lexAll at h
  split at h
  ·cases h
  ·omega
 exact ⟨by have := good_len _ l 0 hg (Nat.zero_le _); omega, good_tv _ l 0 hg⟩
/-- A reader that was made of tokens. -/
theorem rdr_new {B : Nat} {w : World} {ao : Option Addr} {cap : Nat} {l : List K} (ho : w.ownsRow B 80 3 (.slice ao l.length cap) l.length (l.flatMap Lx.tokCells)) (hl : l.length ≤ 4000) (ht : ∀ t ∈ l, Tv t) (ed : Int) :
  Rdr w.heap.size (w.alloc (rblk (.slice ao l.length cap) ed 0)) l := by
 refine ⟨⟨_, ed, 0, heap_alloc_new _ _, ao, cap, rfl, ?_, ?_⟩, ht⟩
 ·rcases ho.2 with ⟨hv, hn⟩ | ⟨g, cap', cur, hv, hg, hh, hnc, hle, hcs, htk⟩
  ·omega
  ·simp only [Value.slice.injEq] at hv
   obtain ⟨_, _, rfl⟩ := hv
   omega
 ·rw [List.flatMap_def] at ho
  obtain ⟨a2, c2, e2, h | ⟨b, off, rfl, h⟩⟩ := row_own (l.map Lx.tokCells) ho (List.length_map _) (fun c hc => by
   obtain ⟨x, _, rfl⟩ := List.mem_map.1 hc
   rfl)
  ·exact .inl h
  ·by_cases h0 : l.length = 0
   ·exact .inl h0
   ·simp only [Value.slice.injEq] at e2
    obtain ⟨rfl, _, _⟩ := e2
    have hcell : ∀ (j : Nat) (t : K), l[j]? = some t → w.cell? ⟨b, off + j * 3, none⟩ = some (.int .i64 t.1) ∧ w.cell? ⟨b, off + j * 3 + 1, none⟩ = some (.int .i64 t.2.1) ∧ w.cell? ⟨b, off + j * 3 + 2, none⟩ = some (.string (Lx.str t.2.2)) := fun j t hj => by
     obtain ⟨cs, h1, h2, h3⟩ := h j (List.getElem?_eq_some_iff.1 hj).1
     rw [List.getElem?_map, hj] at h3
     cases h3
     exact ⟨h2 0 (by decide), h2 1 (by decide), h2 2 (by decide)⟩
    have hb : b < w.heap.size := by
     have := (hcell 0 l[0] (List.getElem?_eq_getElem (by omega))).1
     exact World.block_lt_of_cell? w _ this
    refine .inr ⟨b, off, rfl, hb, fun j t hj => ?_⟩
    obtain ⟨q0, q1, q2⟩ := hcell j t hj
    have hbl : Below w.heap.size w (w.alloc (rblk (.slice (some ⟨b, off, none⟩) l.length cap) ed 0)) := (Below.refl _ _).alloc (Nat.le_refl _) _
    exact ⟨kept_cell hbl q0, kept_cell hbl q1, kept_cell hbl q2⟩
theorem KRow.stks {D : Nat → Prop} {w : World} {v : Value} {l : List Sk} (h : KRow BS 4 D w v l) (w2 : World) (hw : ∀ c, D c → w2.heap[c]? = w.heap[c]?) : X.Stks 6 w2 v l := h w2 hw
/-- Read, plainly. -/
def readS (ok : Ex → Bool) (s : List UInt8) : Option (List Sk) :=
 match Lx.lexAll s with
 | .ok r => read ok (r.map Lx.face)
 | .error _ => none
/-- What Read answers. -/
def RdOut (p : Option (List Sk)) (w w' : World) (r : Ending) : Prop :=
 ∃ v at_ ev, r = .returned (.tuple #[v, .int .i64 at_, ev]) ∧ ((∃ l, p = some l ∧ ev = .nilIface ∧ (∃ ao cap, v = .slice ao l.length cap) ∧ KRow BS 4 (New w w') w' v l ∧ (l.map (X.bulkS 6)).sum + l.length ≤ 240000) ∨ (p = none ∧ (∃ f : Int, ev = .iface 62 (.int .i64 f)) ∧ v = .slice none 0 0))
end P
set_option maxRecDepth 100000 in
set_option maxHeartbeats 3200000 in
theorem read1_any (sm : Val → Val → Bool) (hsm : V.Says sm) (R : Nat) (w : World) (ts : List P.K) (h : P.Rdr R w ts) :
  Calls Tryz.prog 10 #[.pointer (some ⟨R, 0, none⟩)] w fun r w' => Fr w w' (fun c => c = R) ∧ P.EachK P.BS (X.bulkS 6) 4 (P.each P.kStack 8 (P.stack (P.okE sm)) (ts.length + 1) 0 (P.fc ts)) R w w' ts r := by
 have HE := hide (each_any11 P.BS (X.bulkS 6) (P.stack (P.okE sm)) R ⟨#[115, 116, 97, 99, 107]⟩ 8 (by decide) (fun w ts h => stack_any sm hsm R w ts h) w ts h)
 clear h
 go_enter Tryz.func10, Tryz.ntmps10
 go_wp2_with fail
 refine HE.out.mono ?_
 rintro r wa ⟨hf, v, ev, rfl, hres⟩
 have HF := hide hf
 have HRES := hide hres
 clear hf hres HE
 go_wp2_with fail
 exact bodyPost_ret (v := .tuple #[v, ev]) (by simp [results, Tryz.results10, go_sem]) rfl ⟨HF.out, v, ev, rfl, HRES.out⟩
set_option maxRecDepth 100000 in
set_option maxHeartbeats 6400000 in
theorem readAll_any (sm : Val → Val → Bool) (hsm : V.Says sm) (s : ByteArray) (w : World) :
  Calls Tryz.prog 9 #[.string s, .func (.func 10) #[] #[]] w fun r w' => Below w.heap.size w w' ∧ P.RdOut (P.readS (P.okE sm) (V.bl s)) w w' r := by
 have HT := hide (tokens_all s w)
 go_enter Tryz.func9, Tryz.ntmps9
 go_wp2_with fail
 refine HT.out.mono ?_
 rintro r wa ⟨hH, hba⟩
 cases hlx : Lx.lexAll (Lx.bl s) with
 | error e =>
  obtain ⟨a, f⟩ := e
  rw [hlx] at hH
  obtain ⟨rfl, _⟩ := hH
  have HP : Hid (P.readS (P.okE sm) (V.bl s) = none) := by
   show _ = _
   unfold P.readS
   rw [show Lx.lexAll (V.bl s) = _ from hlx]
  have HBA := hide hba
  clear hlx hba HT
  go_wp2_with fail
  exact bodyPost_ret (v := .tuple #[.slice none 0 0, .int .i64 a, .iface 62 (.int .i64 f)]) (by simp [results, Tryz.results9, go_sem]) rfl ⟨HBA.out, _, _, _, rfl, .inr ⟨HP.out, ⟨_, rfl⟩, rfl⟩⟩
 | ok l =>
  rw [hlx] at hH
  obtain ⟨ao, cap, rfl, hown⟩ := hH
  obtain ⟨hl4, htv⟩ := P.lex_facts hlx
  have hrd := P.rdr_new hown hl4 htv (s.size : Int)
  unfold P.rblk at hrd
  have HPR : Hid (P.readS (P.okE sm) (V.bl s) = P.read (P.okE sm) (P.fc l)) := by
   show _ = _
   unfold P.readS
   rw [show Lx.lexAll (V.bl s) = _ from hlx]
   rfl
  have HR1 := hide (read1_any sm hsm wa.heap.size _ l hrd)
  have HBA := hide (show Below w.heap.size w (wa.alloc (.cells #[.slice ao l.length cap, .int .i64 s.size, .int .i64 0] 77)) from hba.alloc hba.size _)
  have HWA : Hid (w.heap.size ≤ wa.heap.size) := hba.size
  have HL4 := hide hl4
  have HSZ : Hid ((wa.alloc (.cells #[.slice ao l.length cap, .int .i64 s.size, .int .i64 0] 77)).heap.size = wa.heap.size + 1) := by
   show _ = _
   simp
  clear hlx hba HT hown hl4 htv hrd
  go_wp2_with fail
  generalize (wa.alloc (.cells #[.slice ao l.length cap, .int .i64 s.size, .int .i64 0] 77)) = wb at *
  refine HR1.out.mono ?_
  rintro r wc ⟨hfc, v, ev, rfl, ⟨ls, n, hE, rfl, hK, ⟨av, cv, rfl⟩, hbk, hr⟩ | ⟨hE, ⟨f, rfl⟩, rfl, ts', hr⟩⟩
  ·have HBC : Hid (Below w.heap.size w wc) := HBA.out.trans (hfc.below HBA.out.size (fun c e => by have := HWA.out; omega))
   obtain ⟨⟨lv, ed, wr, hb, a2, c2, rfl, hc2, _⟩, _⟩ := id hr
   unfold P.rblk at hb
   have r0 := cell_of_block hb 0 _ rfl
   have r2 := cell_of_block hb 2 _ rfl
   have hE2 : P.each P.kStack 8 (P.stack (P.okE sm)) ((P.fc l).length + 1) 0 (P.fc l) = some (ls, P.fc (l.drop n)) := by
    rw [P.fc_length]
    exact hE
   cases hts : l.drop n with
   | nil =>
    have HP : Hid (P.readS (P.okE sm) (V.bl s) = some ls) := by
     show _ = _
     rw [HPR.out]
     unfold P.read
     rw [hE2, hts]
     rfl
    have HK : Hid (P.KRow P.BS 4 (P.New w wc) wc (.slice av ls.length cv) ls) := hK.to (fun _ _ => rfl) (fun c hc => ⟨by have := hc.1; have := HBA.out.size; omega, hc.2⟩)
    have HBK : Hid ((ls.map (X.bulkS 6)).sum + ls.length ≤ 240000) := by
     show _ ≤ _
     have := HL4.out
     omega
    rw [hts] at r0
    have r0' : wc.cell? ⟨wa.heap.size, 0, none⟩ = some (.slice a2 0 c2) := r0
    clear hfc hE hE2 hK hbk hr hb hts r0 HR1 hc2
    go_wp2_with fail
    exact bodyPost_ret (v := .tuple #[.slice av ls.length cv, .int .i64 0, .nilIface]) (by simp [results, Tryz.results9, go_sem]) rfl ⟨HBC.out, _, _, _, rfl, .inl ⟨ls, HP.out, rfl, ⟨_, _, rfl⟩, HK.out, HBK.out⟩⟩
   | cons t2 ts2 =>
    have HP : Hid (P.readS (P.okE sm) (V.bl s) = none) := by
     show _ = _
     rw [HPR.out]
     unfold P.read
     rw [hE2, hts]
     rfl
    rw [hts] at r0
    have r0' : wc.cell? ⟨wa.heap.size, 0, none⟩ = some (.slice a2 (ts2.length + 1) c2) := r0
    have hgt : decide ((0 : Int) < ((ts2.length + 1 : Nat) : Int)) = true := decide_eq_true (by omega)
    have HFL := hide (fail_any wa.heap.size wc (l.drop n) (.iface 62 (.int .i64 5)) hr)
    clear hfc hE hE2 hK hbk hr hb hts r0 HR1 hc2 r2
    go_wp2_with fail
    refine HFL.out.mono ?_
    rintro r wd ⟨rfl, hrd, hfd⟩
    have HBD : Hid (Below w.heap.size w wd) := HBC.out.trans (hfd.below HBC.out.size (fun c e => by have := HWA.out; omega))
    obtain ⟨⟨lv, ed, wr, hb, _⟩, _⟩ := hrd
    unfold P.rblk at hb
    have r2 := cell_of_block hb 2 _ rfl
    clear hb hfd HFL r0'
    go_wp2_with fail
    go_quiet (fail)
    all_goals
     go_wp2_with fail
     exact bodyPost_ret (v := .tuple #[.slice none 0 0, .int .i64 wr, .iface 62 (.int .i64 5)]) (by simp [results, Tryz.results9, go_sem]) rfl ⟨below_drewN HBD.out _, _, _, _, rfl, .inr ⟨HP.out, ⟨_, rfl⟩, rfl⟩⟩
  ·have HBC : Hid (Below w.heap.size w wc) := HBA.out.trans (hfc.below HBA.out.size (fun c e => by have := HWA.out; omega))
   have HP : Hid (P.readS (P.okE sm) (V.bl s) = none) := by
    show _ = _
    rw [HPR.out]
    unfold P.read
    rw [show P.each P.kStack 8 (P.stack (P.okE sm)) ((P.fc l).length + 1) 0 (P.fc l) = none from by rw [P.fc_length]; exact hE]
   obtain ⟨⟨lv, ed, wr, hb, _⟩, _⟩ := hr
   unfold P.rblk at hb
   have r2 := cell_of_block hb 2 _ rfl
   clear hfc hE hb HR1
   go_wp2_with fail
   go_quiet (fail)
   all_goals
    go_wp2_with fail
    exact bodyPost_ret (v := .tuple #[.slice none 0 0, .int .i64 wr, .iface 62 (.int .i64 f)]) (by simp [results, Tryz.results9, go_sem]) rfl ⟨below_drewN HBC.out _, _, _, _, rfl, .inr ⟨HP.out, ⟨_, rfl⟩, rfl⟩⟩
set_option maxRecDepth 100000 in
set_option maxHeartbeats 3200000 in
theorem read_any (sm : Val → Val → Bool) (hsm : V.Says sm) (s : ByteArray) (w : World) :
  Calls Tryz.prog 4 #[.string s] w fun r w' => Below w.heap.size w w' ∧ P.RdOut (P.readS (P.okE sm) (V.bl s)) w w' r := by
 have HE := hide (readAll_any sm hsm s w)
 go_enter Tryz.func4, Tryz.ntmps4
 go_wp2_with fail
 refine HE.out.mono ?_
 rintro r wa ⟨hb, v, at_, ev, rfl, hres⟩
 have HB := hide hb
 have HRES := hide hres
 clear hb hres HE
 go_wp2_with fail
 exact bodyPost_ret (v := .tuple #[v, .int .i64 at_, ev]) (by simp [results, Tryz.results4, go_sem]) rfl ⟨HB.out, v, at_, ev, rfl, HRES.out⟩
end Go.Proofs.YtbdbpfcblppnbaaGreatDoor.Vx
