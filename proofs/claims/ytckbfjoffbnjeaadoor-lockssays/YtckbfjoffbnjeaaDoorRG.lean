/- For LocksSays: Sorted; the names that are on the disk are those of the reference. -/
import Derived.Test.YtckbfjoffbnjeaaDoorRF
namespace Go.Proofs.YtckbfjoffbnjeaaDoor
open Go.RowKit
open Go.ChangeMaps (setBlock)
attribute [local go_sem ↓] Go.wp_at_zero Go.wp_at_succ
theorem J.range_run {w : World} {b : Nat} {es : Array MapEntry} {c : Nat} (h : w.heap[b]? = some (.map es c)) : (Instr.range 27 (.map (some b))).run Tryd.prog w = .ok (.pointer (some ⟨w.heap.size, 0, none⟩)) (w.alloc (.mapIter (some b) c #[] c)) := by
  simp [Instr.range, run_underlying J.u112, MapKept.run_getObj_map h, Result.andThen]
theorem J.Rng.len {es : Array MapEntry} {E : List MapEntry} {F2 : List (ByteArray × ByteArray)} {sn : Array Nat} (h : J.Rng es E F2 sn) : F2.length ≤ es.size := by
  have h1 := congrArg List.length h.f2
  have h2 := h.le
  simp at h1
  omega
set_option maxRecDepth 100000 in
set_option maxHeartbeats 1000000 in
theorem refSorted_any (w : World) (b : Nat) (F : List (ByteArray × ByteArray)) (h : J.Is w b F) (hk : (F.map (·.1)).Nodup) (hF : F.length ≤ 900) :
    Calls Tryd.prog 19 #[.map (some b)] w fun o w' => ∃ u, o = .returned u ∧ Strs w' u (K.once (F.map (·.1))) ∧ Fr w w' (fun _ => False) := by
  obtain ⟨es, c, hb, hes0, hS⟩ := id h
  have hes : es.toList.map M.kv = F.map J.ent := hes0
  have hesz : es.size = F.length := by
    have h5 := congrArg List.length hes0
    simpa using h5
  have hrg := J.range_run hb
  have hfr0 : Fr w (w.alloc (.mapIter (some b) c #[] c)) (fun _ => False) := (Fr.refl _ _).alloc _
  have hr0 : (w.alloc (.mapIter (some b) c #[] c)).heap[w.heap.size]? = some (.mapIter (some b) c #[] c) := heap_alloc_new _ _
  have hz0 : (w.alloc (.mapIter (some b) c #[] c)).heap.size = w.heap.size + 1 := by simp
  have HFR0 := hide hfr0
  have HR0 := hide hr0
  have hbl := h.lt
  have KB : Hid (∀ wx, Fr w wx (fun _ => False) → wx.heap[b]? = some (.map es c)) := fun wx hf => (hf.block b hbl (fun h => h)).trans hb
  have HES := hide hes
  have HK := hide hk
  have HS := hide hS
  have HU := hide u27
  have HI := hide info9
  clear hfr0 hr0 h hb hes hes0 hk hS
  go_enter Tryd.func19, Tryd.ntmps19
  go_wp2_with fail
  have HZ0 := hide hz0
  clear hz0
  generalize w.alloc (.mapIter (some b) c #[] c) = w0 at *
  go_loopw [3, 4] (fun vl _ wx => ∃ (sn : Array Nat) (E : List MapEntry) (F2 : List (ByteArray × ByteArray)), J.Rng es E F2 sn ∧ wx.ownsRow (w.heap.size + 1) 9 1 vl (F2.map (·.1)).length (strs (F2.map (·.1))) ∧ wx.heap[w.heap.size]? = some (.mapIter (some b) c sn c) ∧ Fr w wx (fun _ => False)) (fun _ _ wx => M.leftC wx w.heap.size b)
  case atStart => exact ⟨#[], [], [], J.Rng.start es, World.ownsRow_nil .., HR0.out, HFR0.out⟩
  case round =>
    obtain ⟨wx, hwx⟩ : ∃ z, z = wr := ⟨_, rfl⟩
    subst hwx
    obtain ⟨sn, E, F2, hrn, hox, hrx, hfx⟩ := hrel
    obtain ⟨va, vc, rfl⟩ := owns_shape hox
    have hf2l := hrn.len
    obtain ⟨N2, hN2⟩ : ∃ N2, N2 = F2.map (·.1) := ⟨_, rfl⟩
    have hl2 : N2.length ≤ 900 := by rw [hN2, List.length_map]; omega
    rw [← hN2] at hox ⊢
    have HN2 := hide hN2
    clear hN2
    rcases run_next_at (P := Tryd.prog) wx 0 w.heap.size b c c sn es c hrx (KB.out _ hfx) (fun y hy => HS.out.1 y hy) (Nat.le_refl _) with ⟨h0, hnx⟩ | ⟨e, he, w1, hw1, hrun⟩
    · have HP := hide (hrn.perm HES.out HS.out.2 h0)
      have HIO := hide (inOrder_any _ _ wx (Strs.of_owns hox) (by omega))
      have HFX := hide hfx
      clear hox hfx hrx hrn h0
      go_wp2_with fail
      refine HIO.out.mono ?_
      rintro o w9 ⟨u, rfl, ho9, hf9⟩
      have HS9 := hide (Strs.of_owns ho9)
      have HF9 := hide (HFX.out.trans hf9 (fun _ _ e => e))
      clear ho9 hf9 HIO
      go_wp2_with fail
      go_ret
      refine ⟨_, rfl, ?_, HF9.out⟩
      have e9 : K.once N2 = K.once (F.map (·.1)) := K.rise_eq (K.once_nodup _) (K.once_nodup _) (K.once_rise _) (K.once_rise _) (fun x => by rw [K.mem_once, K.mem_once, HN2.out]; exact (HP.out.map _).mem_iff)
      rw [← e9]
      exact HS9.out
    · obtain ⟨x, hxk, hxv, hxF, hrn2, hab⟩ := hrn.next HES.out HK.out he
      have hless := M.left_less he
      have hmem := (M.left_mem.1 he).1
      obtain ⟨w2, hrun2, hr2, hf2, ho2⟩ : ∃ w2, (Instr.next (.pointer (some ⟨w.heap.size, 0, none⟩)) false 0).run Tryd.prog wx = .ok (.tuple #[.bool true, .string x.1, .string x.2]) w2 ∧ w2.heap[w.heap.size]? = some (.mapIter (some b) c (sn.push e.born) c) ∧ Fr w w2 (fun _ => False) ∧ w2.ownsRow (w.heap.size + 1) 9 1 (.slice va N2.length vc) N2.length (strs N2) := by
        have hr1 : w1.heap[w.heap.size]? = some (.mapIter (some b) c sn c) := by rcases hw1 with rfl | rfl <;> exact hrx
        have hf1 : Fr w w1 (fun _ => False) := by
          rcases hw1 with rfl | rfl
          · exact hfx
          · exact hfx.drew
        have ho1 : w1.ownsRow (w.heap.size + 1) 9 1 (.slice va N2.length vc) N2.length (strs N2) := by rcases hw1 with rfl | rfl <;> exact hox
        refine ⟨_, ?_, heap_set_at hr1, hf1.trans (fr_set w1 _ _) (fun c hc e => by omega), owns_fr ho1 (fr_set w1 _ _) (fun y hy e => by have := (ho1.lt y hy).1; omega)⟩
        rw [hxk, hxv] at hrun
        exact hrun
      have hen := run_entry_at (P := Tryd.prog) w2 w.heap.size b c sn es c e hr2 (KB.out _ hf2) hmem HS.out.2
      rw [hxk, hxv] at hen
      simp only [J.val] at hen
      have HO2 := hide ho2
      have HR2 := hide hr2
      have HF2 := hide hf2
      have HBX := hide (KB.out _ hfx)
      have HRN2 := hide hrn2
      have HLS := hide hless
      have HRX := hide hrx
      have hz2 := hf2.size
      have hr2l : w.heap.size < w2.heap.size := (Array.getElem?_eq_some_iff.1 hr2).1
      clear hr2 hf2 ho2 hox hfx hrx hrn hrn2 hless hab hmem he hrun hxF hw1 hxk hxv
      obtain ⟨i0, hi0, hz0, hz1, hz3⟩ := info_parts HI.out
      go_wp2_with (at_builtin; go_must (refine wpList_append_lies _ rfl (.tmp 11) (.tmp 13) 33 rfl (w.heap.size + 1) 9 i0 (.string ⟨#[]⟩) 1 16 HU.out hi0 hz0 hz1 hz3 rfl (by decide) (.slice va N2.length vc) N2.length (strs N2) rfl (HO2.out.alloc _) ⟨w2.heap.size, 0, none⟩ 1 1 [.string x.1] rfl rfl (news_alloc _ #[.string x.1] _ _ rfl) (by simp [Value.oneCell']) (by decide) (by unfold maxLen; omega) (by omega) (by simp; omega) _ rfl ?_); intro gA capA wA hownA hgrow hat hltA)
      have hA : ∀ y, (Value.slice va N2.length vc).ownBlock = some y → w.heap.size + 1 ≤ y := fun y hy => (HO2.out.lt y hy).1
      have hr3 : wA.heap[w.heap.size]? = some (.mapIter (some b) c (sn.push e.born) c) := by
        have h1 : (w2.alloc (.cells #[.string x.1] 9)).heap[w.heap.size]? = some (.mapIter (some b) c (sn.push e.born) c) := ((World.grownBy_alloc w2 _ none).block _ hr2l (by simp)).trans HR2.out
        rw [hgrow.block _ (Array.getElem?_eq_some_iff.1 h1).1 (fun e => by have := hA _ e.symm; omega)]; exact h1
      have hf3 : Fr w wA (fun _ => False) := (HF2.out.alloc _).grown hgrow (fun y hy hc => by have := hA y hy; omega)
      have hoA : wA.ownsRow (w.heap.size + 1) 9 1 (.slice (some ⟨gA, 0, none⟩) (N2.length + 1) capA) ((F2 ++ [x]).map (·.1)).length (strs ((F2 ++ [x]).map (·.1))) := by
        rw [List.map_append, ← HN2.out, List.length_append]
        have e : strs (N2 ++ [x].map (·.1)) = strs N2 ++ [.string x.1] := by unfold strs; simp
        rw [e]; exact hownA
      have HR3 := hide hr3
      have HF3 := hide hf3
      have HOA := hide hoA
      clear hr3 hf3 hoA hownA hgrow hat hA hltA
      go_wp2_with fail
      go_roundw
      case rel => exact ⟨sn.push e.born, E ++ [e], F2 ++ [x], HRN2.out, HOA.out, HR3.out, HF3.out⟩
      case measure => rw [M.leftC_at HR3.out (KB.out _ HF3.out), M.leftC_at HRX.out HBX.out]; exact HLS.out
theorem K.names_once {F : List (ByteArray × ByteArray)} {L : K.Lo} (h : J.Tied F L) (hL : (L.map (·.1)).Nodup) : K.names L = K.once (F.map (·.1)) := by
  have hp : ((L.map (fun x => N.bl x.1)).mergeSort (fun x y => decide (x ≤ y))).Pairwise (fun x y => x ≤ y) := by
    have := List.pairwise_mergeSort (le := fun x y : List UInt8 => decide (x ≤ y)) (fun a b c h1 h2 => by simp at h1 h2 ⊢; exact List.le_trans h1 h2) M.le_total (L.map (fun x => N.bl x.1))
    exact this.imp (fun h => by simpa using h)
  have hper : (K.names L).Perm (L.map (·.1)) := by
    unfold K.names
    refine ((List.mergeSort_perm _ _).map N.str).trans ?_
    rw [List.map_map]
    have e : (N.str ∘ fun x : ByteArray × ByteArray => N.bl x.1) = fun x => x.1 := by funext x; exact str_bl x.1
    rw [e]
  refine K.rise_eq (hper.nodup_iff.2 hL) (K.once_nodup _) ?_ (K.once_rise _) (fun x => ?_)
  · unfold K.Rise K.names
    rw [List.map_map]
    have e : (N.bl ∘ N.str) = id := by funext y; exact K.bl_str y
    rw [e, List.map_id]
    exact hp
  · rw [hper.mem_iff, K.mem_once, J.mem_keys, J.mem_keys, h.same]
end Go.Proofs.YtckbfjoffbnjeaaDoor
