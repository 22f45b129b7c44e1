/- For TopDisk: what is behind a restart; changes; the row of texts. -/
import Derived.Test.YtmlbcdofogffkabFL
namespace Go.Proofs.Ytmlbcdofogffkab
open Go.RowKit
attribute [local go_sem ↓] Go.wp_at_zero Go.wp_at_succ
/-- A disk in memory, beside a row of texts. -/
def Dw (w wx : World) (g : Nat) (vw : Value) (G : List ByteArray) (D : Dk) : Prop := ∃ B, Disk wx B g D ∧ (∀ x, B x → w.heap.size ≤ x ∧ x < wx.heap.size) ∧ Beside w.heap.size wx B vw G ∧ Fr w wx (fun _ => False)
theorem Dw.kept {w wx w2 : World} {g : Nat} {vw : Value} {G : List ByteArray} {D : Dk} (h : Dw w wx g vw G D) (hf : Fr wx w2 (fun _ => False)) : Dw w w2 g vw G D := by
  obtain ⟨B, h1, h3, h4, h5⟩ := h
  have hs := hf.size
  exact ⟨B, h1.fr hf (fun _ _ e => e), fun x hx => ⟨(h3 x hx).1, by have := (h3 x hx).2; omega⟩, h4.fr hf (fun c e => e.elim) (fun c e => .inl e), h5.trans hf (fun _ _ e => e)⟩
theorem Dw.fr {w wx : World} {g : Nat} {vw : Value} {G : List ByteArray} {D : Dk} (h : Dw w wx g vw G D) : Fr w wx (fun _ => False) := by
  obtain ⟨B, _, _, _, h5⟩ := h; exact h5
theorem Dw.strs {w wx : World} {g : Nat} {vw : Value} {G : List ByteArray} {D : Dk} (h : Dw w wx g vw G D) : Strs wx vw G := by
  obtain ⟨B, _, _, h4, _⟩ := h; exact h4.strs
set_option maxRecDepth 100000 in
set_option maxHeartbeats 1600000 in
theorem files_w {w wx : World} {g : Nat} {vw : Value} {G : List ByteArray} {D : Dk} (h : Dw w wx g vw G D) (hg : M.Good D.files) (hdn : D.down = false) :
    Calls Try.prog 55 #[.pointer (some ⟨g, 0, none⟩)] wx fun o w2 => o = .returned (.string (M.text D.files)) ∧ Dw w w2 g vw G D := by
  have HLS : Hid (Calls Try.prog 92 #[.pointer (some ⟨g, 0, none⟩)] wx fun o w' => ∃ u, o = .returned (.tuple #[u, .nilIface]) ∧ Strs w' u ((M.rise D.files).map N.str) ∧ Fr wx w' (fun _ => False)) := by
    obtain ⟨B, h1, h3, h4, h5⟩ := h
    exact list_any wx B g D h1 hdn hg.nodup (by have := hg.len; omega)
  have hrl := rise_len D.files
  have hrl2 := hg.len
  have HG := hide hg
  have H := hide h
  clear h hg
  go_enter Try.func55, Try.ntmps55
  go_wp2_with fail
  refine HLS.out.mono ?_
  rintro o w1 ⟨u, rfl, hu, hf1⟩
  obtain ⟨ua, uc, rfl, _⟩ := id hu
  have HD1 := hide (H.out.kept hf1)
  have HU := hide hu
  rw [List.length_map]
  clear hf1 hu
  go_wp2_with fail
  go_loopw [5, 6, 7, 8] (fun vt vi _ _ wy => ∃ k : Nat, k ≤ (M.rise D.files).length ∧ vi = .int .i64 k ∧ (∃ Y : ByteArray, vt = .string Y ∧ Y = ((M.rise D.files).take k).foldl (M.tx D.files) ⟨#[]⟩ ∧ Y.size ≤ k * 16027) ∧ Dw w wy g vw G D ∧ Strs wy (.slice ua (M.rise D.files).length uc) ((M.rise D.files).map N.str)) (fun _ vi _ _ _ => (M.rise D.files).length - (intOf vi).toNat)
  case atStart => exact ⟨0, Nat.zero_le _, rfl, ⟨_, rfl, rfl, Nat.le_refl _⟩, HD1.out, by have := HU.out; rw [List.length_map] at this; exact this⟩
  case round =>
    obtain ⟨k, hk, rfl, ⟨Y, rfl, hY, hYs⟩, hD, hS⟩ := hrel
    by_cases hlt : k < (M.rise D.files).length
    · obtain ⟨n, hn⟩ : ∃ n, (M.rise D.files)[k]? = some n := ⟨_, List.getElem?_eq_getElem hlt⟩
      have hnm := List.mem_of_getElem? hn
      obtain ⟨x, hxF, hxn⟩ := rise_mem hnm
      have hns : (N.str n).size ≤ 24 := by rw [← hxn, str_bl]; exact HG.out.name x hxF
      obtain ⟨b0, off0, rfl, cN⟩ := hS.at (i := k) (x := N.str n) (by rw [List.getElem?_map, hn]; rfl)
      have hget : M.get D.files (N.str n) = some x.2 := M.mem_get HG.out.nodup (by rw [← hxn, str_bl]; exact hxF)
      have hx4 := HG.out.small x hxF
      have htx : M.tx D.files Y n = Y ++ N.str n ++ N.str (Qt.V.quote (N.bl x.2)) ++ ⟨#[47]⟩ := by unfold M.tx; rw [hget]; rfl
      have hnext : ((M.rise D.files).take (k + 1)).foldl (M.tx D.files) ⟨#[]⟩ = M.tx D.files Y n := by rw [List.take_add_one, hn, hY]; simp
      have hsz := tx_size HG.out (t := Y) hnm
      have hqs := quote_size x.2
      have HRD : Hid (Calls Try.prog 31 #[.pointer (some ⟨g, 0, none⟩), .string (N.str n)] wr fun o w2 => o = .returned (.tuple #[.string x.2, .nilIface]) ∧ Fr wr w2 (fun _ => False)) := by
        obtain ⟨B, h1, h3, h4, h5⟩ := hD
        refine (read_any wr B g D (N.str n) h1).mono ?_
        rintro o w2 ⟨rfl, hf⟩
        have e : D.read (N.str n) = (x.2, 0) := by unfold Dk.read; rw [if_neg (by rw [hdn]; decide), hget]
        rw [e]
        exact ⟨rfl, hf⟩
      have HD := hide hD
      have HS := hide hS
      have HNX := hide (hnext.trans htx)
      have HSZ := hide (show (Y ++ N.str n ++ N.str (Qt.V.quote (N.bl x.2)) ++ ⟨#[47]⟩).size ≤ (k + 1) * 16027 by rw [← htx]; omega)
      have hA1 : Y.size + (N.str n).size ≤ 9223372036854775807 := by omega
      have hA2 : Y.size + (N.str n).size + (N.str (Qt.V.quote (N.bl x.2))).size ≤ 9223372036854775807 := by omega
      have hA3 : Y.size + (N.str n).size + (N.str (Qt.V.quote (N.bl x.2))).size + 1 ≤ 9223372036854775807 := by omega
      have HQ := hide (fun W => Qt.quote_any x.2 W (by omega))
      generalize N.str n = nn at *
      generalize N.str (Qt.V.quote (N.bl x.2)) = Q at *
      clear hD hS hnext htx hget hn hnm hxn hxF hY
      go_wp2_with fail
      refine HRD.out.mono ?_
      rintro o w2 ⟨rfl, hf2⟩
      have cN2 := kept_cell (below_fr' hf2) cN
      have HD2 := hide (HD.out.kept hf2)
      have HS2 := hide (HS.out.kept (below_fr' hf2) (Nat.le_refl _))
      clear hf2 cN
      go_wp2_with fail
      have hd1 : Below w2.heap.size w2 w2.drew := below_drewN (Below.refl _ _) 1
      have HTR : Hid (∀ wA wB, Below w2.heap.size w2 wA → Below wA.heap.size wA wB → Below w2.heap.size w2 wB) := fun wA wB h k => h.trans (k.mono h.size)
      go_region_with (go_at_call 100; (with_reducible refine Calls.mono (HQ.out _) ?_); rintro o w3 ⟨rfl, hb3⟩; have t2 := HTR.out _ _ hd1 hb3; have t1 := kept_cell t2 cN2)
      all_goals
        have HD3 := hide (HD2.out.kept (fr_below t2))
        have HS3 := hide (HS2.out.kept t2 (Nat.le_refl _))
        clear t1 t2 hb3
        go_wp2_with fail
        go_roundw
        case rel => exact ⟨k + 1, by omega, by go_num, ⟨_, rfl, HNX.out.symm, HSZ.out⟩, HD3.out, HS3.out⟩
        case measure => simp [intOf]; omega
    · have HT : Hid (Y = M.text D.files) := by
        show _ = _
        rw [hY, List.take_of_length_le (by omega)]; rfl
      have HD := hide hD
      clear hD hS hY
      go_wp2_with fail
      go_ret
      exact ⟨by rw [HT.out]; rfl, HD.out⟩
/-- Behind a restart with nothing torn. -/
theorem Dsk.restarts {w wx : World} {g : Nat} {vw : Value} {G : List ByteArray} {D : Dk} {b : Int} {m : Nat} (h : Dsk w wx g vw G D b m) (hm : m ≤ 1000) (keep : Int) (hkp : -9223372036854775808 ≤ keep ∧ keep ≤ 9223372036854775807) :
    Calls Try.prog 38 #[.pointer (some ⟨g, 0, none⟩), .int .i64 keep, .int .i64 0] wx fun o w2 => o = .returned (.tuple #[]) ∧ ∃ D2, Dw w w2 g vw G D2 ∧ M.Good D2.files ∧ D2.down = false ∧ M.text D2.files = M.text (D.keep4 (D.many keep)) := by
  obtain ⟨B, h1, h2, h3, h4, h5⟩ := h
  have hlen := h2.len
  have hmany : D.many keep ≤ D.chg.length := by unfold Dk.many; omega
  have hst : D.stays4 keep 0 = D.keep4 (D.many keep) := by
    unfold Dk.stays4
    cases hc : D.chg[D.many keep]? with
    | none => rfl
    | some c => show c.first4 0 _ = _; unfold Ch.first4; rw [if_pos (by omega)]
  have hgd := h2.good _ hmany
  refine (restart4 wx B g D keep 0 h1 (by omega) h2.kinds h2.sizes hkp (by decide) (by rw [hst]; exact hgd.nodup)).mono ?_
  rintro o w2 ⟨rfl, ⟨B', F2, hp, hD', hB'⟩, hf⟩
  rw [hst] at hp
  have hs := h5.size
  have hs2 := hf.size
  have hkF : (F2.map (·.1)).Nodup := ((hp.map (·.1)).nodup_iff).2 hgd.nodup
  refine ⟨rfl, D.again4 keep 0 F2, ⟨_, hD'.shrink, fun x hx => ⟨?_, hx.2⟩, h4.fr hf (fun c e => .inl e) (fun c e => hB' c e.1), h5.trans hf (fun c hc e => by have := (h3 c e).1; omega)⟩, ?_, rfl, M.text_perm hp hgd.nodup⟩
  · rcases hB' x hx.1 with h | h
    · exact (h3 x h).1
    · omega
  · exact ⟨hkF, fun x hx => hgd.small x ((hp.mem_iff).1 hx), by have := hp.length_eq; have := hgd.len; show F2.length ≤ 40; omega, fun x hx => hgd.name x ((hp.mem_iff).1 hx)⟩
/-- The texts that were laid down: one for each change, and the one ahead of all. -/
def Was (G : List ByteArray) (D : Dk) : Prop := G.length = D.chg.length + 1 ∧ ∀ j, j ≤ D.chg.length → G[j]? = some (M.text (D.keep4 j))
theorem Was.did {G : List ByteArray} {D : Dk} {b : Int} {m : Nat} (h : Was G D) (hi : Inv D b m) (c : Ch) : Was (G ++ [M.text (D.did4 c).files]) (D.did4 c) := by
  have el : (D.did4 c).chg.length = D.chg.length + 1 := by show (D.chg ++ [c]).length = _; simp
  refine ⟨by rw [el, List.length_append, h.1]; rfl, fun j hj => ?_⟩
  rw [el] at hj
  by_cases hlt : j ≤ D.chg.length
  · rw [List.getElem?_append_left (by rw [h.1]; omega), did4_keep D c hlt]
    exact h.2 j hlt
  · have : j = D.chg.length + 1 := by omega
    subst this
    rw [List.getElem?_append_right (by rw [h.1]; omega), h.1, Nat.sub_self, did4_last, ← hi.files]
    rfl
theorem Was.start {D : Dk} {b : Int} {m : Nat} (h : Inv D b m) : Was [M.text D.synced4.files] D.synced4 := by
  refine ⟨rfl, fun j hj => ?_⟩
  have : j = 0 := by have : D.synced4.chg.length = 0 := rfl; omega
  subst this
  have e : D.synced4.keep4 0 = D.synced4.files := by
    show D.keep4 D.chg.length = D.files
    exact h.files.symm
  rw [e]; rfl
theorem Was.same {G : List ByteArray} {D D' : Dk} (h : Was G D) (hc : D'.chg = D.chg) (hk : D'.kept = D.kept) : Was G D' := by
  unfold Was Dk.keep4 at *
  rw [hc, hk]; exact h
/-- Does an act of this kind change files? -/
def chB (k : ByteArray) : Bool := (k.toList == [119, 114, 105, 116, 101]) || (k.toList == [97, 112, 112, 101, 110, 100]) || (k.toList == [109, 97, 107, 101]) || (k.toList == [109, 111, 118, 101]) || (k.toList == [114, 101, 109, 111, 118, 101])
set_option maxRecDepth 100000 in
set_option maxHeartbeats 800000 in
theorem changes_any (k : ByteArray) (w : World) : Calls Try.prog 56 #[.string k] w fun o w' => o = .returned (.bool (chB k)) ∧ w' = w := by
  unfold chB
  cases h1 : (k.toList == [119, 114, 105, 116, 101]) <;> cases h2 : (k.toList == [97, 112, 112, 101, 110, 100]) <;> cases h3 : (k.toList == [109, 97, 107, 101]) <;> cases h4 : (k.toList == [109, 111, 118, 101]) <;> cases h5 : (k.toList == [114, 101, 109, 111, 118, 101])
  all_goals
    go_enter Try.func56, Try.ntmps56
    go_wp2_with fail
    go_ret
    exact ⟨rfl, rfl⟩
set_option maxRecDepth 100000 in
theorem steps_any {w : World} {B : Nat → Prop} {g : Nat} {D : Dk} (h : Disk w B g D) : Calls Try.prog 43 #[.pointer (some ⟨g, 0, none⟩)] w fun o w' => o = .returned (.int .i64 D.steps) ∧ w' = w := by
  obtain ⟨bk, bf, cv, h1, _⟩ := h
  have c3 := cell_of_block h1 3 _ rfl
  clear h1
  go_enter Try.func43, Try.ntmps43
  go_wp2_with fail
  go_ret
  exact ⟨rfl, rfl⟩
/-- What is not a change leaves the changes. -/
theorem after_same {D : Dk} {x : Ac} (hs : (x.kind.toList == [115, 121, 110, 99]) = false) (h : chB x.kind = false ∨ ((x.kind.toList == [109, 111, 118, 101]) = true ∧ (x.s.toList == x.t.toList) = true)) : (D.after x).chg = D.chg ∧ (D.after x).kept = D.kept := by
  rcases h with h | ⟨h1, h2⟩
  · unfold chB at h
    simp only [Bool.or_eq_false_iff] at h
    obtain ⟨⟨⟨⟨f0, f1⟩, f2⟩, f3⟩, f4⟩ := h
    have : D.after x = D := by unfold Dk.after; rw [if_neg (by rw [f0]; decide), if_neg (by rw [f1]; decide), if_neg (by rw [f2]; decide), if_neg (by rw [f3]; decide), if_neg (by rw [f4]; decide), if_neg (by rw [hs]; decide)]
    rw [this]; exact ⟨rfl, rfl⟩
  · have hk := eq_of_beq h1
    have : D.after x = D.step := by
      unfold Dk.after
      rw [hk, if_neg (by decide), if_neg (by decide), if_neg (by decide), if_pos (by decide)]
      unfold Dk.moved
      rw [if_pos h2]
    rw [this]; exact ⟨rfl, rfl⟩
/-- What is a change is one more. -/
theorem after_did {D : Dk} {x : Ac} (h : chB x.kind = true) (hn : (x.kind.toList == [109, 111, 118, 101]) = false ∨ (x.s.toList == x.t.toList) = false) : ∃ c, D.after x = D.did4 c := by
  unfold Dk.after
  split
  · exact ⟨_, rfl⟩
  split
  · exact ⟨_, rfl⟩
  split
  · exact ⟨_, rfl⟩
  split
  · rename_i h4
    rcases hn with hn | hn
    · rw [h4] at hn; cases hn
    · unfold Dk.moved
      rw [if_neg (by rw [hn]; decide)]
      exact ⟨_, rfl⟩
  split
  · exact ⟨_, rfl⟩
  · rename_i f0 f1 f2 f3 f4
    exfalso
    unfold chB at h
    simp only [Bool.not_eq_true] at f0 f1 f2 f3 f4
    rw [f0, f1, f2, f3, f4] at h
    cases h
end Go.Proofs.Ytmlbcdofogffkab
