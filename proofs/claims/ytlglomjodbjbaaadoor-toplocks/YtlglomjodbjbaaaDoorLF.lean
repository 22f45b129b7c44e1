/- For TopLocks: slices.BinarySearch laid; checkRoom, where there is room. -/
import Derived.Shelf.Spec.SearchS
import Derived.Test.YtlglomjodbjbaaaDoorLE
namespace Go.Proofs.YtlglomjodbjbaaaDoor
open Go.RowKit Go.Sort Go.Shelf
attribute [local go_sem ↓] Go.wp_at_zero Go.wp_at_succ
def sh_bs_ren : Go.Shelf.Ren := ⟨fun | 26 => 26 | 33 => 39 | 34 => 40 | 38 => 51 | n => n, fun | 0 => 0 | 3 => 3 | 4 => 4 | 9 => 9 | 24 => 28 | 40 => 81 | n => n, fun | n => n⟩
theorem sh_bs : Lays2.n26 Tryd.prog sh_bs_ren := {
  mixed := by kernel_rfl
  f26 := Tryd.func26.trans (congrArg some (by kernel_rfl))
  f33 := Tryd.func39.trans (congrArg some (by kernel_rfl))
  f34 := Tryd.func40.trans (congrArg some (by kernel_rfl))
  f38 := Tryd.func51.trans (congrArg some (by kernel_rfl))
  t0 := Tryd.underlying0
  a0 := Tryd.isAgg0
  z0 := Tryd.sizeOf0
  v0 := Tryd.zeroValue0
  t3 := Tryd.underlying3
  a3 := Tryd.isAgg3
  z3 := Tryd.sizeOf3
  v3 := Tryd.zeroValue3
  t4 := Tryd.underlying4
  a4 := Tryd.isAgg4
  z4 := Tryd.sizeOf4
  v4 := Tryd.zeroValue4
  t9 := Tryd.underlying9
  a9 := Tryd.isAgg9
  z9 := Tryd.sizeOf9
  v9 := Tryd.zeroValue9
  t24 := Tryd.underlying28
  a24 := Tryd.isAgg28
  z24 := Tryd.sizeOf28
  v24 := Tryd.zeroValue28
  t40 := Tryd.underlying81
  a40 := Tryd.isAgg81
  z40 := Tryd.sizeOf81
  v40 := Tryd.zeroValue81 }
/-- slices.BinarySearch answers, and changes nothing. -/
theorem bs_any (v : Value) (X : List ByteArray) (x : ByteArray) (w : World) (hs : Strs w v X) (hX : X.length ≤ 1000) :
    Calls Tryd.prog 26 #[v, .string x] w fun e w' => ∃ (k : Nat) (b : Bool), e = .returned (.tuple #[.int .i64 k, .bool b]) ∧ Fr w w' (fun _ => False) := by
  obtain ⟨a, c, rfl, h⟩ := hs
  rcases h with rfl | ⟨b, off, rfl, h⟩
  · refine (Any2.slices_BinarySearch_string_empty sh_bs a c x w).mono ?_
    rintro e w' ⟨rfl, rfl⟩
    exact ⟨0, false, rfl, Fr.refl _ _⟩
  · refine (Any2.slices_BinarySearch_string sh_bs b off X.length c (fun j => X.getD j ⟨#[]⟩) x w (by omega) (fun j hj => h j _ (by simp [hj]))).mono ?_
    rintro e w' ⟨rfl, q, rfl⟩
    exact ⟨_, _, rfl, ⟨rfl, rfl, rfl, Nat.le_refl _, fun _ _ _ => rfl⟩⟩
set_option maxRecDepth 100000 in
set_option maxHeartbeats 1000000 in
theorem checkRoom_any (w : World) (B : Nat → Prop) (g : Nat) (D : Dk) (L : K.Lo) (v : Value) (N0 : List ByteArray) (h : Disk w B g D) (hd : D.down = false) (hL : K.On D.files L) (hlen : L.length ≤ 28) (hs : Strs w v N0) (hn : N0.length ≤ 12) (hf : ∀ n ∈ N0, N.name n = true) :
    Calls Tryd.prog 14 #[.pointer (some ⟨g, 0, none⟩), v] w fun o w' => o = .returned .nilIface ∧ Fr w w' (fun _ => False) := by
  have hnd : (D.files.map (·.1)).Nodup := ((hL.perm.map (·.1)).nodup_iff).2 (K.file_nodup hL.nodup)
  have hll : D.files.length ≤ 28 := by rw [hL.perm.length_eq, List.length_map]; exact hlen
  have HLS := hide (list_any w B g D h hd hnd (by omega))
  have hl2 : ((M.rise D.files).map N.str).length ≤ 28 := by unfold M.rise; simpa using hll
  obtain ⟨av, cv, rfl, _⟩ := id hs
  have HS := hide hs
  have HFN := hide hf
  clear h hd hL hnd hll hlen hs hf
  generalize (M.rise D.files).map N.str = X at *
  go_enter Tryd.func14, Tryd.ntmps14
  go_wp2_with fail
  refine HLS.out.mono ?_
  rintro o w1 ⟨u, rfl, hs1, hf1⟩
  obtain ⟨a1, c1, rfl, _⟩ := id hs1
  have HS1 := hide hs1
  have HF1 := hide hf1
  have hsz1 := hf1.size
  clear hs1 hf1 HLS
  go_wp2_with fail
  go_loopw [24, 7, 9, 11] (fun vi vc _ _ wx => ∃ k c : Nat, k ≤ N0.length ∧ vi = .int .i64 k ∧ vc = .int .i64 c ∧ c ≤ 28 + k ∧ Fr w1 wx (fun _ => False)) (fun vi _ _ _ _ => N0.length - (intOf vi).toNat)
  case atStart => exact ⟨0, X.length, Nat.zero_le _, rfl, rfl, by omega, Fr.refl _ _⟩
  case round =>
    obtain ⟨wx, hwx⟩ : ∃ z, z = wr := ⟨_, rfl⟩
    subst hwx
    obtain ⟨k, c, hk, rfl, rfl, hc, hfx⟩ := hrel
    have HFX := hide hfx
    have hszx := hfx.size
    by_cases hlt : k < N0.length
    · obtain ⟨n, hnk⟩ : ∃ n, N0[k]? = some n := ⟨_, List.getElem?_eq_getElem hlt⟩
      have hst : Strs wx (.slice av N0.length cv) N0 := HS.out.kept ((HF1.out.trans hfx (fun _ _ e => e)).below (Nat.le_refl _) (fun _ e => e.elim)) (Nat.le_refl _)
      obtain ⟨b, off, rfl, y0⟩ := hst.at hnk
      have hn12 := N.name_size (HFN.out n (List.mem_of_getElem? hnk))
      have hsx : Strs wx (.slice a1 X.length c1) X := HS1.out.kept (hfx.below (Nat.le_refl _) (fun _ e => e.elim)) (Nat.le_refl _)
      have HB : Hid (∀ s, Calls Tryd.prog 26 #[.slice a1 X.length c1, .string s] wx fun e w' => ∃ (k : Nat) (b : Bool), e = .returned (.tuple #[.int .i64 k, .bool b]) ∧ Fr wx w' (fun _ => False)) := fun s => bs_any _ X s wx hsx (by omega)
      clear hfx hnk hst hsx
      go_wp2_with (go_at_call 26; (with_reducible refine Calls.mono (HB.out _) ?_); rintro o w2 ⟨kk, bb, rfl, hf2⟩; have HF2 := hide (HFX.out.trans hf2 (fun _ _ e => e)); clear hf2)
      · go_roundw
        case rel => exact ⟨k + 1, c + 1, by omega, by go_num, by go_num, by omega, HF2.out⟩
        case measure => simp [intOf]; omega
      · go_roundw
        case rel => exact ⟨k + 1, c, by omega, by go_num, rfl, by omega, HF2.out⟩
        case measure => simp [intOf]; omega
    · clear hfx
      have hc40 : ¬ (40 : Int) < c := by omega
      go_wp2_with fail
      go_ret
      exact ⟨rfl, HF1.out.trans HFX.out (fun _ _ e => e)⟩
end Go.Proofs.YtlglomjodbjbaaaDoor
