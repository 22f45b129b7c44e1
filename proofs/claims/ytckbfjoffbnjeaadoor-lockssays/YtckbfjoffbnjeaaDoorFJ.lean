/- disk: List. -/
import Derived.Test.YtckbfjoffbnjeaaDoorFI
import Derived.Test.YtckbfjoffbnjeaaDoorFS
import Derived.Sort.OwnSorted
namespace Go.Proofs.YtckbfjoffbnjeaaDoor
open Go.RowKit
open Go.ChangeMaps (setBlock)
attribute [local go_sem ↓] Go.wp_at_zero Go.wp_at_succ
/-- Texts, rising. -/
def sorted (L : List ByteArray) : List ByteArray := ((L.map N.bl).mergeSort (fun x y => decide (x ≤ y))).map N.str
theorem str_bl (s : ByteArray) : N.str (N.bl s) = s := by apply N.bext; rfl
theorem strs_enc (L : List ByteArray) : (L.map N.bl).map Go.Proofs.encStr = strs L := by
  unfold strs
  rw [List.map_map]
  apply List.map_congr_left
  intro s _
  show Value.string ⟨(N.bl s).toArray⟩ = .string s
  congr 1
theorem strs_enc2 (ts : List (List UInt8)) : ts.map Go.Proofs.encStr = strs (ts.map N.str) := by
  unfold strs
  rw [List.map_map]
  apply List.map_congr_left
  intro s _
  rfl
theorem sorts_any (w : World) (base : Nat) (v : Value) (L : List ByteArray) (h : w.ownsRow base 9 1 v L.length (strs L)) (hl : L.length ≤ 1000) :
    Calls Tryd.prog 51 #[v] w fun o w' => o = .returned (.tuple #[]) ∧ w'.ownsRow base 9 1 v L.length (strs (sorted L)) ∧ w.grownBy w' v.ownBlock := by
  by_cases h0 : L = []
  · subst h0
    obtain ⟨a, c, rfl⟩ := owns_shape h
    refine (sh_sort_str_none a c w).mono ?_
    rintro o w' ⟨rfl, rfl⟩
    exact ⟨rfl, by simpa [sorted] using h, ⟨rfl, rfl, rfl, Nat.le_refl _, fun _ _ _ => rfl⟩⟩
  · rcases id h.2 with ⟨_, hn⟩ | ⟨g, cap, cur, rfl, hbase, hb, h1, h2, h3, h4⟩
    · exact absurd (List.eq_nil_of_length_eq_zero hn) h0
    · have hlen : (L.map N.bl).length = L.length := by simp
      have hH := Go.holds_of_block (ss := L.map N.bl) hb (by rw [hlen, strs_enc]; simpa using h4)
      have hc := sh_sort_str g 0 cap (L.map N.bl) w hH (Array.getElem?_eq_some_iff.1 hb).1 (by rw [hlen]; omega)
      rw [hlen] at hc
      refine hc.mono ?_
      rintro o w' ⟨rfl, n, os, rfl⟩
      have ho := Go.ownsRow_sorted (n := n) (os := os) (ss := L.map N.bl) (ts := (L.map N.bl).mergeSort fun x y => decide (x ≤ y)) (by simp) hbase hb (by rw [hlen]; exact h1) h2 h3
      rw [hlen, strs_enc2] at ho
      exact ⟨rfl, ho, Go.grownBy_sorted _⟩
set_option maxRecDepth 100000 in
set_option maxHeartbeats 1000000 in
theorem list_any (w : World) (B : Nat → Prop) (g : Nat) (D : Dk) (h : Disk w B g D) (hd : D.down = false) (hk : (D.files.map (·.1)).Nodup) (hl : D.files.length ≤ 1000) :
    Calls Tryd.prog 37 #[.pointer (some ⟨g, 0, none⟩)] w fun o w' => ∃ u, o = .returned (.tuple #[u, .nilIface]) ∧ Strs w' u ((M.rise D.files).map N.str) ∧ Fr w w' (fun _ => False) := by
  obtain ⟨bk, bf, cv, h1, h2, h3, h4, h5, h6, h7, h8, h9⟩ := h
  obtain ⟨es, c, hb, hes0, hS⟩ := id h3
  have hes : es.toList.map M.kv = D.files.map M.ent := hes0
  have hbl := h3.lt
  have c1 := cell_of_block h1 1 _ rfl
  have c5 := cell_of_block h1 5 _ rfl
  rw [hd] at c5
  have hrg := range_run hb
  have HFR0 : Hid (Fr w (w.alloc (.mapIter (some bf) c #[] c)) (fun _ => False)) := (Fr.refl _ _).alloc _
  have HR0 : Hid ((w.alloc (.mapIter (some bf) c #[] c)).heap[w.heap.size]? = some (.mapIter (some bf) c #[] c)) := heap_alloc_new _ _
  have HSZ0 : Hid ((w.alloc (.mapIter (some bf) c #[] c)).heap.size = w.heap.size + 1) := by show _ = _; simp
  have KB : Hid (∀ wx, Fr w wx (fun _ => False) → wx.heap[bf]? = some (.map es c)) := fun wx hf => (hf.block bf hbl (fun h => h)).trans hb
  have HES := hide hes
  have HK := hide hk
  have HS := hide hS
  have HU27 := hide u27
  have HI9 := hide info9
  have hlF : ∀ {E : List MapEntry} {F2 : List (ByteArray × ByteArray)} {sn : Array Nat}, M.Rng es E F2 sn → F2.length ≤ 1000 := by
    intro E F2 sn hr
    have e1 : E.length = F2.length := by have := congrArg List.length hr.f2; simpa using this
    have e2 : E.length ≤ es.toList.length := by have := hr.le; simp; omega
    have e3 : es.toList.length = D.files.length := by have := congrArg List.length hes; simpa using this
    omega
  have HLF : Hid (∀ (E : List MapEntry) (F2 : List (ByteArray × ByteArray)) (sn : Array Nat), M.Rng es E F2 sn → F2.length ≤ 1000) := fun E F2 sn hr => hlF hr
  clear h1 h2 h3 h4 h5 h6 h7 h8 h9 hes hes0 hk hS hb hl hd hlF
  go_enter Tryd.func37, Tryd.ntmps37
  go_wp2_with fail
  generalize w.alloc (.mapIter (some bf) c #[] c) = w0 at *
  go_loopw [4, 5] (fun v4 _ wx => ∃ (sn : Array Nat) (E : List MapEntry) (F2 : List (ByteArray × ByteArray)), M.Rng es E F2 sn ∧ wx.ownsRow (w.heap.size + 1) 9 1 v4 F2.length (strs (F2.map (·.1))) ∧ wx.heap[w.heap.size]? = some (.mapIter (some bf) c sn c) ∧ Fr w wx (fun _ => False) ∧ w.heap.size + 1 ≤ wx.heap.size) (fun _ _ wx => M.leftC wx w.heap.size bf)
  case atStart => exact ⟨#[], [], [], M.Rng.start es, World.ownsRow_nil .., HR0.out, HFR0.out, Nat.le_of_eq HSZ0.out.symm⟩
  case round =>
    obtain ⟨wx, hwx⟩ : ∃ z, z = wr := ⟨_, rfl⟩
    subst hwx
    obtain ⟨sn, E, F2, hrn, hox, hrx, hfx, hszx⟩ := hrel
    have hF2 := HLF.out E F2 sn hrn
    obtain ⟨va, vc, rfl⟩ := owns_shape hox
    rcases run_next_at (P := Tryd.prog) wx 0 w.heap.size bf c c sn es c hrx (KB.out _ hfx) (fun y hy => HS.out.1 y hy) (Nat.le_refl _) with ⟨h0, hnx⟩ | ⟨e, he, w1, hw1, hrun⟩
    · have hp := hrn.perm HES.out HS.out.2 h0
      have hsrt : sorted (F2.map (·.1)) = (M.rise D.files).map N.str := by
        rw [← M.rise_perm hp]
        unfold sorted M.rise
        rw [List.map_map]
        rfl
      have hso := sorts_any wx (w.heap.size + 1) (.slice va F2.length vc) (F2.map (·.1)) (by rw [List.length_map]; exact hox) (by rw [List.length_map]; exact hF2)
      rw [List.length_map] at hso
      have HSO := hide hso
      clear hso
      have HOX := hide hox
      have HFX := hide hfx
      have HSR := hide hsrt
      clear hox hfx hrx hrn h0 hp hsrt
      go_wp2_with fail
      refine HSO.out.mono ?_
      rintro o w2 ⟨rfl, ho2, hg2⟩
      have HO2 := hide ho2
      have HF2 : Hid (Fr w w2 (fun _ => False)) := HFX.out.grown hg2 (fun x e hx => by have := (HOX.out.lt x e).1; omega)
      clear ho2 hg2
      go_wp2_with fail
      go_ret2
      refine ⟨_, rfl, ?_, HF2.out⟩
      rw [← HSR.out]
      have hll : (sorted (F2.map (·.1))).length = F2.length := by unfold sorted; simp
      have := HO2.out
      rw [← hll] at this
      have hs2 := Strs.of_owns this
      rw [hll] at hs2
      exact hs2
    · obtain ⟨x, hxk, hxv, hxF, hrn2, hab⟩ := hrn.next HES.out HK.out he
      have hless := M.left_less he
      have hmem := (M.left_mem.1 he).1
      obtain ⟨w2, hrun2, hr2, hf2, ho2, hsz2⟩ : ∃ w2, (Instr.next (.pointer (some ⟨w.heap.size, 0, none⟩)) false 0).run Tryd.prog wx = .ok (.tuple #[.bool true, .string x.1, .agg #[.string x.2]]) w2 ∧ w2.heap[w.heap.size]? = some (.mapIter (some bf) c (sn.push e.born) c) ∧ Fr w w2 (fun _ => False) ∧ w2.ownsRow (w.heap.size + 1) 9 1 (.slice va F2.length vc) F2.length (strs (F2.map (·.1))) ∧ w.heap.size + 1 ≤ w2.heap.size := by
        have hr1 : w1.heap[w.heap.size]? = some (.mapIter (some bf) c sn c) := by rcases hw1 with rfl | rfl <;> exact hrx
        have hf1 : Fr w w1 (fun _ => False) := by
          rcases hw1 with rfl | rfl
          · exact hfx
          · exact hfx.drew
        have ho1 : w1.ownsRow (w.heap.size + 1) 9 1 (.slice va F2.length vc) F2.length (strs (F2.map (·.1))) := by rcases hw1 with rfl | rfl <;> exact hox
        have hs1 : w.heap.size + 1 ≤ w1.heap.size := by rcases hw1 with rfl | rfl <;> exact hszx
        refine ⟨_, ?_, heap_set_at hr1, hf1.trans (fr_set w1 _ _) (fun c hc e => by omega), owns_fr ho1 (fr_set w1 _ _) (fun c hc e => by have := (ho1.lt c hc).1; omega), Nat.le_trans hs1 (fr_set w1 _ _).size⟩
        rw [hxk, hxv] at hrun
        exact hrun
      have hen := run_entry_at (P := Tryd.prog) w2 w.heap.size bf c sn es c e hr2 (KB.out _ hf2) hmem HS.out.2
      rw [hxk, hxv] at hen
      simp only [M.val] at hen
      have hF3 := HLF.out _ _ _ hrn2
      have HR2 := hide hr2
      have HF2 := hide hf2
      have HO2 := hide ho2
      have HBX := hide (KB.out _ hfx)
      have HRN2 := hide hrn2
      have HLS := hide hless
      have HRX := hide hrx
      clear hr2 hf2 ho2 hox hfx hrx hrn hrn2 hless hab hmem he hrun hxF hw1 hxk hxv
      obtain ⟨i0, hi0, hz0, hz1, hz2⟩ := info_parts HI9.out
      go_wp2_with (at_builtin; go_must (refine wpList_append_lies _ rfl (.tmp 20) (.tmp 22) 33 rfl (w.heap.size + 1) 9 i0 (.string ⟨#[]⟩) 1 16 HU27.out hi0 hz0 hz1 hz2 rfl (by decide) (.slice va F2.length vc) F2.length (strs (F2.map (·.1))) rfl (HO2.out.alloc _) ⟨w2.heap.size, 0, none⟩ 1 1 [.string x.1] rfl rfl (news_alloc _ #[.string x.1] _ _ rfl) (by simp [Value.oneCell']) (by decide) (by unfold maxLen; omega) (by omega) (by simp; omega) _ rfl ?_); intro gA capA wA hownA hgrow hat hltA)
      have hA : ∀ y, (Value.slice va F2.length vc).ownBlock = some y → w.heap.size + 1 ≤ y := fun y hy => (HO2.out.lt y hy).1
      have hr3 : wA.heap[w.heap.size]? = some (.mapIter (some bf) c (sn.push e.born) c) := by
        have h1 : (w2.alloc (.cells #[.string x.1] 9)).heap[w.heap.size]? = some (.mapIter (some bf) c (sn.push e.born) c) := ((World.grownBy_alloc w2 _ none).block _ (Array.getElem?_eq_some_iff.1 HR2.out).1 (by simp)).trans HR2.out
        rw [hgrow.block _ (Array.getElem?_eq_some_iff.1 h1).1 (fun e => by have := hA _ e.symm; omega)]; exact h1
      have hf3 : Fr w wA (fun _ => False) := (HF2.out.alloc _).grown hgrow (fun y hy hc => by have := hA y hy; omega)
      have hsA : w.heap.size + 1 ≤ wA.heap.size := by have := hgrow.size; simp at this; omega
      have hoA : wA.ownsRow (w.heap.size + 1) 9 1 (.slice (some ⟨gA, 0, none⟩) (F2.length + 1) capA) (F2 ++ [x]).length (strs ((F2 ++ [x]).map (·.1))) := by
        have e1 : (F2 ++ [x]).length = F2.length + 1 := by simp
        have e2 : strs ((F2 ++ [x]).map (·.1)) = strs (F2.map (·.1)) ++ [.string x.1] := by unfold strs; rw [List.map_append, List.map_append]; rfl
        rw [e1, e2]; exact hownA
      go_wp2_with fail
      go_roundw
      case rel => exact ⟨sn.push e.born, E ++ [e], F2 ++ [x], HRN2.out, hoA, hr3, hf3, hsA⟩
      case measure => rw [M.leftC_at hr3 (KB.out _ hf3), M.leftC_at HRX.out HBX.out]; exact HLS.out
end Go.Proofs.YtckbfjoffbnjeaaDoor
