/- For TopLocks: All. -/
import Derived.Test.YtckbfjoffbnjeaaDoorLB
namespace Go.Proofs.YtckbfjoffbnjeaaDoor
open Go.RowKit
attribute [local go_sem ↓] Go.wp_at_zero Go.wp_at_succ
theorem K.owns_base {w : World} {base base2 n z : Nat} {t : TypeId} {v : Value} {xs : List Value} (h : w.ownsRow base t z v n xs) (hb : base2 ≤ base) : w.ownsRow base2 t z v n xs := by
  refine ⟨h.1, ?_⟩
  rcases h.2 with h1 | ⟨g, cap, cur, rfl, hg, r⟩
  · exact .inl h1
  · exact .inr ⟨g, cap, cur, rfl, Nat.le_trans hb hg, r⟩
namespace K
def pl : List UInt8 := [108, 111, 99, 107, 46]
theorem bl_pre (n : ByteArray) : N.bl (pre n) = pl ++ N.bl n := by
  unfold pre N.bl
  rw [ByteArray.data_append, Array.toList_append]; rfl
theorem le_app (a b : List UInt8) : ∀ p : List UInt8, (p ++ a ≤ p ++ b) ↔ a ≤ b
  | [] => Iff.rfl
  | x :: p => by
    rw [List.cons_append, List.cons_append, List.cons_le_cons_iff]
    constructor
    · rintro (h | ⟨_, h⟩)
      · exact absurd h (UInt8.lt_irrefl x)
      · exact (le_app a b p).1 h
    · intro h; exact .inr ⟨rfl, (le_app a b p).2 h⟩
/-- The names of locks, rising. -/
def names (L : Lo) : List ByteArray := ((L.map (fun x => N.bl x.1)).mergeSort (fun x y => decide (x ≤ y))).map N.str
theorem names_len (L : Lo) : (names L).length = L.length := by unfold names; simp
theorem str_app (a b : List UInt8) : N.str (a ++ b) = N.str a ++ N.str b := by apply N.bext; simp [N.str, ByteArray.data_append]
theorem On.names {F : List (ByteArray × ByteArray)} {L : Lo} (h : On F L) : (M.rise F).map N.str = (names L).map pre := by
  have e1 : M.rise F = M.rise (L.map file) := M.rise_perm h.perm
  have e2 : M.rise (L.map file) = ((L.map (fun x => N.bl x.1)).mergeSort (fun x y => decide (x ≤ y))).map (pl ++ ·) := by
    unfold M.rise
    rw [List.map_mergeSort (s := fun x y => decide (x ≤ y)) (fun a _ b _ => by rw [decide_eq_decide]; exact (le_app a b pl).symm)]
    rw [List.map_map, List.map_map]
    congr 1
  rw [e1, e2]
  unfold K.names
  rw [List.map_map, List.map_map]
  apply List.map_congr_left
  intro l _
  show N.str (pl ++ l) = pre (N.str l)
  rw [str_app]; rfl
theorem names_fine {F : List (ByteArray × ByteArray)} {L : Lo} (h : On F L) : ∀ n ∈ K.names L, N.name n = true := by
  intro n hn
  unfold K.names at hn
  obtain ⟨l, hl, rfl⟩ := List.mem_map.1 hn
  rw [List.mem_mergeSort] at hl
  obtain ⟨x, hx, rfl⟩ := List.mem_map.1 hl
  rw [str_bl]; exact (h.fine x hx).1
theorem cut_pre (n : ByteArray) (w : World) : Calls Tryd.prog 50 #[.string (pre n), .string ⟨#[108, 111, 99, 107, 46]⟩] w fun e w' => e = .returned (.tuple #[.string n, .bool true]) ∧ w' = w := by
  refine (sh_strings_CutPrefix (pre n) ⟨#[108, 111, 99, 107, 46]⟩ w).mono fun e w' hh => ?_
  have e1 : (pre n).data.toList = pl ++ n.data.toList := bl_pre n
  have h1 : Lib.hasPrefix (pre n).data.toList pl = true := by unfold Lib.hasPrefix; rw [e1]; simp
  have h2 : (⟨(Lib.trimPrefix (pre n).data.toList pl).toArray⟩ : ByteArray) = n := by
    unfold Lib.trimPrefix
    rw [if_pos h1, e1, List.drop_left]
  have hp : (⟨#[108, 111, 99, 107, 46]⟩ : ByteArray).data.toList = pl := rfl
  rw [hp, h1, h2] at hh
  exact hh
end K
set_option maxRecDepth 100000 in
set_option maxHeartbeats 1000000 in
theorem behind_any (w : World) (B : Nat → Prop) (g : Nat) (D : Dk) (L : K.Lo) (h : Disk w B g D) (hd : D.down = false) (hL : K.On D.files L) (hlen : L.length ≤ 1000) :
    Calls Tryd.prog 36 #[.pointer (some ⟨g, 0, none⟩), .string ⟨#[108, 111, 99, 107, 46]⟩] w fun o w' => ∃ u, o = .returned (.tuple #[u, .nilIface]) ∧ w'.ownsRow w.heap.size 9 1 u (K.names L).length (strs (K.names L)) ∧ Fr w w' (fun _ => False) := by
  have hnd : (D.files.map (·.1)).Nodup := ((hL.perm.map (·.1)).nodup_iff).2 (K.file_nodup hL.nodup)
  have hll : D.files.length ≤ 1000 := by rw [hL.perm.length_eq, List.length_map]; exact hlen
  have hls := list_any w B g D h hd hnd hll
  rw [hL.names] at hls
  have HLS := hide hls
  have hsz : ∀ n ∈ K.names L, N.name n = true := K.names_fine hL
  have HSZ := hide hsz
  have hlN : (K.names L).length ≤ 1000 := by rw [K.names_len]; exact hlen
  have HU := hide u27
  have HI := hide info9
  clear h hd hL hnd hll hls hsz hlen
  generalize K.names L = N0 at *
  go_enter Tryd.func36, Tryd.ntmps36
  go_wp2_with fail
  refine HLS.out.mono ?_
  rintro o w1 ⟨u, rfl, hs1, hf1⟩
  obtain ⟨a1, c1, rfl, _⟩ := id hs1
  rw [List.length_map]
  have HS1 := hide hs1
  have HF1 := hide hf1
  have hsz1 := hf1.size
  clear hs1 hf1 HLS
  go_wp2_with fail
  go_loopw [23, 8, 10, 11, 12] (fun vi vo _ _ _ wx => ∃ k : Nat, k ≤ N0.length ∧ vi = .int .i64 k ∧ wx.ownsRow w1.heap.size 9 1 vo k (strs (N0.take k)) ∧ Fr w1 wx (fun _ => False)) (fun vi _ _ _ _ _ => N0.length - (intOf vi).toNat)
  case atStart => exact ⟨0, Nat.zero_le _, rfl, World.ownsRow_nil .., Fr.refl _ _⟩
  case round =>
    obtain ⟨wx, hwx⟩ : ∃ z, z = wr := ⟨_, rfl⟩
    subst hwx
    obtain ⟨k, hk, rfl, hox, hfx⟩ := hrel
    obtain ⟨va, vc, rfl⟩ := owns_shape hox
    have HOX := hide hox
    have HFX := hide hfx
    have hszx := hfx.size
    by_cases hlt : k < N0.length
    · obtain ⟨n, hn⟩ : ∃ n, N0[k]? = some n := ⟨_, List.getElem?_eq_getElem hlt⟩
      have hst : Strs wx (.slice a1 N0.length c1) (N0.map K.pre) := by
        have := HS1.out.kept (hfx.below (Nat.le_refl _) (fun _ e => e.elim)) (Nat.le_refl _)
        rw [List.length_map] at this; exact this
      obtain ⟨b, off, rfl, y0⟩ := hst.at (i := k) (x := K.pre n) (by rw [List.getElem?_map, hn]; rfl)
      have hnm := HSZ.out n (List.mem_of_getElem? hn)
      have hn12 := N.name_size hnm
      have HCP := hide (K.cut_pre n wx)
      have hvn := vname_any n wx (by unfold maxLen; omega)
      rw [hnm] at hvn
      have HVN := hide hvn
      have HE : Hid (strs (N0.take (k + 1)) = strs (N0.take k) ++ [.string n]) := by
        show _ = _
        rw [List.take_add_one, hn]
        unfold strs
        simp
      clear hox hfx hn hst hnm hvn
      obtain ⟨i0, hi0, hz0, hz1, hz2⟩ := info_parts HI.out
      generalize strs (N0.take k) = L0 at *
      go_wp2_with (first
        | (go_at_call 50; (with_reducible refine Calls.mono HCP.out ?_); rintro o w2 ⟨rfl, hw2⟩; rw [hw2]; clear hw2 w2)
        | (go_at_call 34; (with_reducible refine Calls.mono HVN.out ?_); rintro o w2 ⟨rfl, hw2⟩; rw [hw2]; clear hw2 w2)
        | (at_builtin; go_must (refine wpList_append_lies _ rfl (.tmp 38) (.tmp 40) 33 rfl w1.heap.size 9 i0 (.string ⟨#[]⟩) 1 16 HU.out hi0 hz0 hz1 hz2 rfl (by decide) (.slice va k vc) k L0 rfl (HOX.out.alloc _) ⟨wx.heap.size, 0, none⟩ 1 1 [.string n] rfl rfl (news_alloc _ #[.string n] _ _ rfl) (by simp [Value.oneCell']) (by decide) (by unfold maxLen; omega) (by omega) (by simp; omega) _ rfl ?_); intro gA capA wA hownA hgrow hat hltA))
      have hA : ∀ y, (Value.slice va k vc).ownBlock = some y → w1.heap.size ≤ y := fun y hy => (HOX.out.lt y hy).1
      have hf3 : Fr w1 wA (fun _ => False) := (HFX.out.alloc _).grown hgrow (fun y hy hc => by have := hA y hy; omega)
      have hoA : wA.ownsRow w1.heap.size 9 1 (.slice (some ⟨gA, 0, none⟩) (k + 1) capA) (k + 1) (strs (N0.take (k + 1))) := by
        rw [HE.out]; exact hownA
      have HF3 := hide hf3
      have HOA := hide hoA
      clear hf3 hoA hownA hgrow hat
      go_wp2_with fail
      go_roundw
      case rel => exact ⟨k + 1, by omega, by go_num, HOA.out, HF3.out⟩
      case measure => simp [intOf]; omega
    · have hkk : k = N0.length := by omega
      clear hox hfx
      go_wp2_with fail
      go_ret2
      have h3 := HOX.out
      rw [show N0.take k = N0 from List.take_of_length_le (by omega)] at h3
      refine ⟨_, rfl, ?_, HF1.out.trans HFX.out (fun _ _ e => e)⟩
      rw [← hkk]
      exact K.owns_base h3 hsz1
set_option maxRecDepth 100000 in
theorem all_any (w : World) (B : Nat → Prop) (g : Nat) (D : Dk) (L : K.Lo) (h : Disk w B g D) (hd : D.down = false) (hL : K.On D.files L) (hlen : L.length ≤ 1000) :
    Calls Tryd.prog 17 #[.pointer (some ⟨g, 0, none⟩)] w fun o w' => ∃ u, o = .returned (.tuple #[u, .nilIface]) ∧ w'.ownsRow w.heap.size 9 1 u (K.names L).length (strs (K.names L)) ∧ Fr w w' (fun _ => False) := by
  have HBE := hide (behind_any w B g D L h hd hL hlen)
  clear h hd hL hlen
  go_enter Tryd.func17, Tryd.ntmps17
  go_wp2_with fail
  refine HBE.out.mono ?_
  rintro o w1 ⟨u, rfl, ho, hf⟩
  have HO := hide ho
  have HF := hide hf
  clear ho hf HBE
  go_wp2_with fail
  go_ret2
  exact ⟨_, rfl, HO.out, HF.out⟩
end Go.Proofs.YtckbfjoffbnjeaaDoor
