/- For TopDisk: files, changes. -/
import Derived.Test.YtmlbcdofogffkabFJ
namespace Go.Proofs.Ytmlbcdofogffkab
open Go.RowKit
attribute [local go_sem ↓] Go.wp_at_zero Go.wp_at_succ
theorem below_fr' {w w' : World} (h : Fr w w' (fun _ => False)) : Below w.heap.size w w' := h.below (Nat.le_refl _) (fun _ e => e.elim)
theorem quote_size (s : ByteArray) : (N.str (Qt.V.quote (N.bl s))).size ≤ 4 * s.size + 2 := by
  have h := Qt.V.flat_len (N.bl s)
  have e : (N.str (Qt.V.quote (N.bl s))).size = (Qt.V.quote (N.bl s)).length := Qt.str_size _
  rw [e]
  unfold Qt.V.quote
  rw [N.length_bl] at h
  rw [List.length_cons, List.length_append, List.length_singleton]
  omega
theorem rise_mem {F : List (ByteArray × ByteArray)} {n : List UInt8} (h : n ∈ M.rise F) : ∃ x ∈ F, N.bl x.1 = n := by
  unfold M.rise at h
  rw [List.mem_mergeSort] at h
  obtain ⟨x, hx, rfl⟩ := List.mem_map.1 h
  exact ⟨x, hx, rfl⟩
theorem rise_len (F : List (ByteArray × ByteArray)) : (M.rise F).length = F.length := by unfold M.rise; simp
theorem tx_size {F : List (ByteArray × ByteArray)} (hg : M.Good F) {t : ByteArray} {n : List UInt8} (hn : n ∈ M.rise F) : (M.tx F t n).size ≤ t.size + 16027 := by
  obtain ⟨x, hx, rfl⟩ := rise_mem hn
  unfold M.tx
  have h1 := quote_size ((M.get F (N.str (N.bl x.1))).getD ⟨#[]⟩)
  have h2 := hg.get (N.str (N.bl x.1))
  have h3 := hg.name x hx
  rw [ByteArray.size_append, ByteArray.size_append, ByteArray.size_append]
  rw [str_bl] at *
  have h4 : (⟨#[47]⟩ : ByteArray).size = 1 := rfl
  omega
set_option maxRecDepth 100000 in
set_option maxHeartbeats 1600000 in
theorem files_any {w wx : World} {g : Nat} {vw : Value} {G : List ByteArray} {D : Dk} {b : Int} {m : Nat} (h : Dsk w wx g vw G D b m) :
    Calls Try.prog 55 #[.pointer (some ⟨g, 0, none⟩)] wx fun o w2 => o = .returned (.string (M.text D.files)) ∧ Dsk w w2 g vw G D b m := by
  have hg := h.inv.goodF
  have hdn := h.inv.down
  have HLS : Hid (Calls Try.prog 92 #[.pointer (some ⟨g, 0, none⟩)] wx fun o w' => ∃ u, o = .returned (.tuple #[u, .nilIface]) ∧ Strs w' u ((M.rise D.files).map N.str) ∧ Fr wx w' (fun _ => False)) := by
    obtain ⟨B, h1, h2, h3, h4, h5⟩ := h
    exact list_any wx B g D h1 hdn hg.nodup (by have := hg.len; omega)
  have hrl := rise_len D.files
  have hrl2 := hg.len
  have HG := hide hg
  have H := hide h
  clear h hg
  go_enter Try.func55, Try.ntmps55
  go_wp2_with fail
  refine HLS.out.mono ?_
  rintro o w1 ⟨u, rfl, hu, hf1⟩
  obtain ⟨ua, uc, rfl, _⟩ := id hu
  have HD1 := hide (H.out.kept hf1)
  have HU := hide hu
  rw [List.length_map]
  clear hf1 hu
  go_wp2_with fail
  go_loopw [5, 6, 7, 8] (fun vt vi _ _ wy => ∃ k : Nat, k ≤ (M.rise D.files).length ∧ vi = .int .i64 k ∧ (∃ Y : ByteArray, vt = .string Y ∧ Y = ((M.rise D.files).take k).foldl (M.tx D.files) ⟨#[]⟩ ∧ Y.size ≤ k * 16027) ∧ Dsk w wy g vw G D b m ∧ Strs wy (.slice ua (M.rise D.files).length uc) ((M.rise D.files).map N.str)) (fun _ vi _ _ _ => (M.rise D.files).length - (intOf vi).toNat)
  case atStart => exact ⟨0, Nat.zero_le _, rfl, ⟨_, rfl, rfl, Nat.le_refl _⟩, HD1.out, by have := HU.out; rw [List.length_map] at this; exact this⟩
  case round =>
    obtain ⟨k, hk, rfl, ⟨Y, rfl, hY, hYs⟩, hD, hS⟩ := hrel
    by_cases hlt : k < (M.rise D.files).length
    · obtain ⟨n, hn⟩ : ∃ n, (M.rise D.files)[k]? = some n := ⟨_, List.getElem?_eq_getElem hlt⟩
      have hnm := List.mem_of_getElem? hn
      obtain ⟨x, hxF, hxn⟩ := rise_mem hnm
      have hns : (N.str n).size ≤ 24 := by rw [← hxn, str_bl]; exact HG.out.name x hxF
      obtain ⟨b0, off0, rfl, cN⟩ := hS.at (i := k) (x := N.str n) (by rw [List.getElem?_map, hn]; rfl)
      have hget : M.get D.files (N.str n) = some x.2 := M.mem_get HG.out.nodup (by rw [← hxn, str_bl]; exact hxF)
      have hx4 := HG.out.small x hxF
      have htx : M.tx D.files Y n = Y ++ N.str n ++ N.str (Qt.V.quote (N.bl x.2)) ++ ⟨#[47]⟩ := by unfold M.tx; rw [hget]; rfl
      have hnext : ((M.rise D.files).take (k + 1)).foldl (M.tx D.files) ⟨#[]⟩ = M.tx D.files Y n := by rw [List.take_add_one, hn, hY]; simp
      have hsz := tx_size HG.out (t := Y) hnm
      have hqs := quote_size x.2
      have HRD : Hid (Calls Try.prog 31 #[.pointer (some ⟨g, 0, none⟩), .string (N.str n)] wr fun o w2 => o = .returned (.tuple #[.string x.2, .nilIface]) ∧ Fr wr w2 (fun _ => False)) := by
        obtain ⟨B, h1, h2, h3, h4, h5⟩ := hD
        refine (read_any wr B g D (N.str n) h1).mono ?_
        rintro o w2 ⟨rfl, hf⟩
        have e : D.read (N.str n) = (x.2, 0) := by unfold Dk.read; rw [if_neg (by rw [hdn]; decide), hget]
        rw [e]
        exact ⟨rfl, hf⟩
      have HD := hide hD
      have HS := hide hS
      have HNX := hide (hnext.trans htx)
      have HSZ := hide (show (Y ++ N.str n ++ N.str (Qt.V.quote (N.bl x.2)) ++ ⟨#[47]⟩).size ≤ (k + 1) * 16027 by rw [← htx]; omega)
      have hA1 : Y.size + (N.str n).size ≤ 9223372036854775807 := by omega
      have hA2 : Y.size + (N.str n).size + (N.str (Qt.V.quote (N.bl x.2))).size ≤ 9223372036854775807 := by omega
      have hA3 : Y.size + (N.str n).size + (N.str (Qt.V.quote (N.bl x.2))).size + 1 ≤ 9223372036854775807 := by omega
      have HQ := hide (fun W => Qt.quote_any x.2 W (by omega))
      generalize N.str n = nn at *
      generalize N.str (Qt.V.quote (N.bl x.2)) = Q at *
      clear hD hS hnext htx hget hn hnm hxn hxF hY
      go_wp2_with fail
      refine HRD.out.mono ?_
      rintro o w2 ⟨rfl, hf2⟩
      have cN2 := kept_cell (below_fr' hf2) cN
      have HD2 := hide (HD.out.kept hf2)
      have HS2 := hide (HS.out.kept (below_fr' hf2) (Nat.le_refl _))
      clear hf2 cN
      go_wp2_with fail
      have hd1 : Below w2.heap.size w2 w2.drew := below_drewN (Below.refl _ _) 1
      have HTR : Hid (∀ wA wB, Below w2.heap.size w2 wA → Below wA.heap.size wA wB → Below w2.heap.size w2 wB) := fun wA wB h k => h.trans (k.mono h.size)
      go_region_with (go_at_call 100; (with_reducible refine Calls.mono (HQ.out _) ?_); rintro o w3 ⟨rfl, hb3⟩; have t2 := HTR.out _ _ hd1 hb3; have t1 := kept_cell t2 cN2)
      all_goals
        have HD3 := hide (HD2.out.kept (fr_below t2))
        have HS3 := hide (HS2.out.kept t2 (Nat.le_refl _))
        clear t1 t2 hb3
        go_wp2_with fail
        go_roundw
        case rel => exact ⟨k + 1, by omega, by go_num, ⟨_, rfl, HNX.out.symm, HSZ.out⟩, HD3.out, HS3.out⟩
        case measure => simp [intOf]; omega
    · have HT : Hid (Y = M.text D.files) := by
        show _ = _
        rw [hY, List.take_of_length_le (by omega)]; rfl
      have HD := hide hD
      clear hD hS hY
      go_wp2_with fail
      go_ret
      exact ⟨by rw [HT.out]; rfl, HD.out⟩
end Go.Proofs.Ytmlbcdofogffkab
