/- The document's Reach: what is reached, round by round. -/
import Derived.Test.YtienhelohfhhfaaGQ
namespace Go.Proofs.Ytienhelohfhhfaa
open Go.RowKit
attribute [local go_sem ↓] Go.wp_at_zero Go.wp_at_succ
open Gr (Ints Lists Bools hide cells On ofN lists onb Graf Got Rch src dst)
namespace Gr
/-- M has each of these ways, and no others. -/
def Ways2 (N : Net) (n : Nat) (over : Bool) (M : Net) : Prop := ∀ b c, b < n → (c ∈ M b ↔ ∃ (i k d : Nat), i < n ∧ (N i)[k]? = some d ∧ b = src over i d ∧ c = dst over i d)
theorem Rnd.put2 {N : Net} {n : Nat} {over : Bool} {M : Net} {S0 S : List Bool} {i k d : Nat} (hM : Ways2 N n over M) (hi : i < n) (hS : S.length = n) (h : Rnd N n over M S0 S i k) (hd : (N i)[k]? = some d)
    (hs : On S (src over i d)) (hl : dst over i d < n) : Rnd N n over M S0 (S.set (dst over i d) true) i (k + 1) := by
  refine ⟨by simp [h.len], fun x hx => on_set.2 (.inl (h.mono x hx)), ?_, ?_⟩
  · intro C hC h0 x hx
    rcases on_set.1 hx with hx | ⟨rfl, _⟩
    · exact h.least C hC h0 x hx
    · exact hC _ (h.least C hC h0 _ hs) _ ((hM _ _ (by rw [← hS]; exact hs.lt)).2 ⟨i, k, d, hi, hd, rfl, rfl⟩)
  · intro hq a q x ha hlt hx
    have hq' : ∀ x, On S x → On S0 x := fun x hx => hq x (on_set.2 (.inl hx))
    by_cases e : a = i ∧ q = k
    · obtain ⟨rfl, rfl⟩ := e
      rw [hd] at hx
      cases hx
      exact fun _ => hq _ (on_set.2 (.inr ⟨rfl, by rw [hS]; exact hl⟩))
    · exact h.quiet hq' a q x ha (by omega) hx
theorem Rds.step2 {N M : Net} {over : Bool} {l : List Nat} {n r : Nat} {S0 S : List Bool} (hM : Ways2 N n over M) (h : Rds M l n S0 r) (hr : Rnd N n over M S0 S n 0) : Rds M l n S (r + 1) := by
  refine ⟨hr.len.trans h.len, fun x hx => hr.mono x (h.has x hx), fun C hC h0 x hx => hr.least C hC (h.least C hC h0) x hx, ?_⟩
  by_cases hq : ∀ x, On S x → On S0 x
  · left
    intro x hx j hj
    obtain ⟨a, q, d, ha, hd, rfl, rfl⟩ := (hM x j (by rw [← h.len, ← hr.len]; exact hx.lt)).1 hj
    exact hr.mono _ (hr.quiet hq a q d ha (by omega) hd (hq _ hx))
  · by_cases hx : ∃ x, On S x ∧ ¬ On S0 x
    · obtain ⟨x, h1, h2⟩ := hx
      rcases h.far with hf | hf
      · exact absurd (hr.least (On S0) hf (fun _ h => h)) hq
      · right
        have := un_lt S0 S hr.len hr.mono x h1 h2
        omega
    · exfalso
      apply hq
      intro x h1
      by_cases h2 : On S0 x
      · exact h2
      · exact absurd ⟨x, h1, h2⟩ hx
theorem Rds.end2 {M : Net} {l : List Nat} {n : Nat} {S : List Bool} (hM : ∀ i, i < n → ∀ j ∈ M i, j < n) (h : Rds M l n S n) : Got M S l n := by
  refine ⟨h.len, h.has, ?_, ?_⟩
  · refine h.least (fun i => ∃ x ∈ l, Rch M x i) ?_ (fun x hx => ⟨x, hx, Rch.refl x⟩)
    rintro i ⟨x, hx, hr⟩ j hj
    exact ⟨x, hx, hr.step hj⟩
  · rcases h.far with hf | hf
    · exact hf
    · intro i hi j hj
      exact un_zero (by omega) j (by rw [h.len]; exact hM i (by rw [← h.len]; exact hi.lt) j hj)
theorem netOf_get {NZ : List (List Int)} {i k : Nat} {x : Nat} (h : (row NZ i)[k]? = some (x : Int)) : (netOf NZ i)[k]? = some x := by
  unfold netOf; rw [List.getElem?_map, h]; simp
theorem netOf_len (NZ : List (List Int)) (i : Nat) : (netOf NZ i).length = (row NZ i).length := by unfold netOf; simp
end Gr
/-- What the document's Reach says. -/
def Gr.FoundR (M : Gr.Net) (n : Nat) (lz : List Int) (w : World) (e : Ending) (w' : World) : Prop :=
  ((∃ x ∈ lz, ¬ (0 ≤ x ∧ x < n)) ∧ e = .returned (.tuple #[.slice none 0 0, .int .i64 1]) ∨
      (∀ x ∈ lz, 0 ≤ x ∧ x < n) ∧ ∃ S v, Got M S (lz.map Int.toNat) n ∧ e = .returned (.tuple #[v, .int .i64 0]) ∧ Ints w' v (ofN (Gr.nums S))) ∧ Below w.heap.size w w'
set_option maxRecDepth 100000 in
set_option maxHeartbeats 4000000 in
theorem reachR_any (NZ : List (List Int)) (n : Nat) (M : Gr.Net) (over : Bool) (nv lv : Value) (lz : List Int) (w : World) (hn0 : NZ.length = n) (hn : n ≤ 100) (hlz : lz.length ≤ 1000) (hL : Lists w nv NZ) (hI : Ints w lv lz)
    (hrl : ∀ a, a < n → (Gr.row NZ a).length ≤ 1000) (hok : ∀ a, a < n → ∀ x ∈ Gr.row NZ a, 0 ≤ x ∧ x < n) (hW : Gr.Ways2 (Gr.netOf NZ) n over M) (hM : ∀ i, i < n → ∀ j ∈ M i, j < n) :
    Calls Try.prog 24 #[nv, lv, .bool over] w (Gr.FoundR M n lz w) := by
  obtain ⟨i0, hi0, hz0, hz1, hz2⟩ := info_parts info3
  have hmk := make_bools n (by omega)
  obtain ⟨an, cn, rfl, _⟩ := id hL
  obtain ⟨al, cl, rfl, _⟩ := id hI
  rw [hn0] at hL ⊢
  have HL := hide hL
  have HI := hide hI
  have HOK := hide hok
  have HW := hide hW
  have HM := hide hM
  have HRL := hide hrl
  clear hL hI hok hW hM hrl
  have hP0 : (w.alloc (.cells (List.replicate n (.bool false)).toArray 4)).heap[w.heap.size]? = some (.cells (Gr.bits (List.replicate n false)) 4 (0, 0)) := by
    rw [heap_alloc_new]; unfold Gr.bits; rw [List.map_replicate]
  have HP0 := hide hP0
  have HBP := hide (show Below w.heap.size w (w.alloc (.cells (List.replicate n (.bool false)).toArray 4)) from (Below.refl _ _).alloc (Nat.le_refl _) _)
  have HSP := hide (show w.heap.size + 1 ≤ (w.alloc (.cells (List.replicate n (.bool false)).toArray 4)).heap.size by simp)
  clear hP0
  go_enter Try.func24, Try.ntmps24
  go_wp2_with fail
  go_loopw [10] (fun vi wx => ∃ (k : Nat) (S : List Bool), k ≤ lz.length ∧ vi = .int .i64 k ∧ S.length = n ∧ (∀ x ∈ lz.take k, 0 ≤ x ∧ x < n) ∧ (∀ x, On S x ↔ x ∈ (lz.take k).map Int.toNat) ∧ wx.heap[w.heap.size]? = some (.cells (Gr.bits S) 4 (0, 0)) ∧ Below w.heap.size w wx ∧ w.heap.size + 1 ≤ wx.heap.size) (fun vi _ => lz.length - (intOf vi).toNat)
  case atStart =>
    refine ⟨0, _, Nat.zero_le _, rfl, by simp, fun x hx => by simp at hx, fun x => ?_, HP0.out, HBP.out, HSP.out⟩
    constructor
    · intro h
      unfold On at h
      rw [List.getElem?_replicate] at h
      split at h <;> simp at h
    · intro h; simp at h
  case round =>
    obtain ⟨k, S, hk, rfl, hS, hin, hon, hfx, hB, hsz⟩ := hrel
    clear HP0 HBP HSP hmk
    by_cases hkl : k < lz.length
    · obtain ⟨y, hy⟩ := getElem_some hkl
      obtain ⟨b2, o2, rfl, cy⟩ := (HI.out.kept hB (Nat.le_refl _)).at hy
      have hmem := List.mem_of_getElem? hy
      by_cases hy0 : 0 ≤ y ∧ y < n
      · obtain ⟨z, rfl⟩ : ∃ z : Nat, y = (z : Int) := ⟨y.toNat, by omega⟩
        have hzn : z < n := by omega
        obtain ⟨c, hc⟩ := getElem_some (l := S) (k := z) (by omega)
        have cd : wr.cell? ⟨w.heap.size, z, none⟩ = some (.bool c) := Gr.row_cell (V := S.map (fun b => Value.bool b)) hfx (by rw [List.getElem?_map, hc]; rfl)
        have fd : wr.frozen? ⟨w.heap.size, z, none⟩ = false := Gr.row_free (V := S.map (fun b => Value.bool b)) hfx
        have HFX := hide hfx
        have HB := hide hB
        have HIN := hide hin
        have HON := hide hon
        have HY := hide hy
        clear hfx hB hin hon hy hmem hc
        go_wp2_with fail
        go_roundw
        case rel =>
          refine ⟨k + 1, S.set z true, by omega, by go_num, by simp [hS], ?_, ?_, Gr.bits_set HFX.out, HB.out.setCell (p := ⟨w.heap.size, z, none⟩) (Nat.le_refl _) _, by simpa using hsz⟩
          · rw [take_next HY.out]
            intro x hx
            rcases List.mem_append.1 hx with h | h
            · exact HIN.out x h
            · rw [List.mem_singleton] at h; rw [h]; exact hy0
          · intro x
            rw [Gr.on_set, HON.out x, take_next HY.out, List.map_append, List.mem_append]
            constructor
            · rintro (h | ⟨rfl, _⟩)
              · exact .inl h
              · right; simp
            · rintro (h | h)
              · exact .inl h
              · right
                have : x = z := by simpa using h
                exact ⟨this, by omega⟩
        case measure => simp [intOf]; omega
      · have HB := hide hB
        have HMM := hide hmem
        clear hin hon hB hfx hmem
        have hcase : y < 0 ∨ (¬ y < 0 ∧ (n : Int) ≤ y) := by omega
        rcases hcase with h1 | ⟨h1, h2⟩
        · go_wp2_with fail
          go_ret2
          exact ⟨.inl ⟨⟨y, HMM.out, by omega⟩, rfl⟩, HB.out⟩
        · go_wp2_with fail
          go_ret2
          exact ⟨.inl ⟨⟨y, HMM.out, by omega⟩, rfl⟩, HB.out⟩
    · have hkk : k = lz.length := by omega
      subst hkk
      rw [List.take_length] at hin hon
      have hr0 := Gr.Rds.start (M := M) hS hon
      have HR0 := hide hr0
      have HIN := hide hin
      have HFX := hide hfx
      have HB := hide hB
      clear hr0 hin hon hfx hB
      go_wp2_with fail
      go_loopw [11, 12, 13] (fun vr _ _ wx => ∃ (r : Nat) (S : List Bool), r ≤ n ∧ vr = .int .i64 r ∧ Gr.Rds M (lz.map Int.toNat) n S r ∧ wx.heap[w.heap.size]? = some (.cells (Gr.bits S) 4 (0, 0)) ∧ Below w.heap.size w wx ∧ w.heap.size + 1 ≤ wx.heap.size) (fun vr _ _ _ => n - (intOf vr).toNat)
      case atStart => exact ⟨0, S, Nat.zero_le _, rfl, HR0.out, HFX.out, HB.out, hsz⟩
      case round =>
        obtain ⟨r, S2, hr, rfl, hrd, hfx, hB, hsz2⟩ := hrel
        clear HR0 HFX HB hsz
        by_cases hrl : r < n
        · have HRD := hide hrd
          have HFX := hide hfx
          have HB := hide hB
          clear hrd hfx hB
          go_wp2_with fail
          go_loopw [12, 13] (fun vi _ wx => ∃ (i : Nat) (T : List Bool), i ≤ n ∧ vi = .int .i64 i ∧ Gr.Rnd (Gr.netOf NZ) n over M S2 T i 0 ∧ wx.heap[w.heap.size]? = some (.cells (Gr.bits T) 4 (0, 0)) ∧ Below w.heap.size w wx ∧ w.heap.size + 1 ≤ wx.heap.size) (fun vi _ _ => n - (intOf vi).toNat)
          case atStart => exact ⟨0, S2, Nat.zero_le _, rfl, Gr.Rnd.start _ _ _ _ _, HFX.out, HB.out, hsz2⟩
          case round =>
            obtain ⟨i, T, hi, rfl, hrn, hfx, hB, hsz3⟩ := hrel
            clear HFX HB hsz2
            by_cases hil : i < n
            · obtain ⟨l, hl⟩ := getElem_some (l := NZ) (k := i) (by omega)
              have hrow := Gr.row_some hl
              obtain ⟨b5, o5, c5, au, cu, e1, c1, h1⟩ := Gr.Lists.get (HL.out.kept hB (Nat.le_refl _)) hl
              simp only [Value.slice.injEq] at e1
              obtain ⟨rfl, hzz, rfl⟩ := e1
              clear hzz
              have hll := HRL.out i hil
              rw [hrow] at hll
              have HRN := hide hrn
              have HFX := hide hfx
              have HB := hide hB
              have HL1 := hide hl
              have HROW := hide hrow
              clear hrn hfx hB hl h1 hrow
              go_wp2_with fail
              go_loopw [13] (fun vk wx => ∃ (k : Nat) (T : List Bool), k ≤ l.length ∧ vk = .int .i64 k ∧ Gr.Rnd (Gr.netOf NZ) n over M S2 T i k ∧ wx.heap[w.heap.size]? = some (.cells (Gr.bits T) 4 (0, 0)) ∧ Below w.heap.size w wx ∧ w.heap.size + 1 ≤ wx.heap.size) (fun vk _ => l.length - (intOf vk).toNat)
              case atStart => exact ⟨0, T, Nat.zero_le _, rfl, HRN.out, HFX.out, HB.out, hsz3⟩
              case round =>
                obtain ⟨k, T2, hk2, rfl, hrn, hfx, hB, hsz4⟩ := hrel
                clear HRN HFX HB c1 hsz3
                obtain ⟨b6, o6, c6, au6, cu6, e6, c1, h1⟩ := Gr.Lists.get (HL.out.kept hB (Nat.le_refl _)) HL1.out
                simp only [Value.slice.injEq, Option.some.injEq, Addr.mk.injEq] at e6
                obtain ⟨⟨rfl, rfl, _⟩, hzz, rfl⟩ := e6
                clear hzz
                by_cases hkl2 : k < l.length
                · obtain ⟨y, hy⟩ := getElem_some hkl2
                  have hym := List.mem_of_getElem? hy
                  have hyr := HOK.out i hil y (by rw [HROW.out]; exact hym)
                  obtain ⟨z, rfl⟩ : ∃ z : Nat, y = (z : Int) := ⟨y.toNat, by omega⟩
                  have hzn : z < n := by omega
                  have hNg : (Gr.netOf NZ i)[k]? = some z := Gr.netOf_get (by rw [HROW.out]; exact hy)
                  obtain ⟨b7, o7, rfl, cy⟩ := h1.at hy
                  have hT2 : T2.length = n := hrn.len.trans HRD.out.len
                  obtain ⟨ci, hci⟩ := getElem_some (l := T2) (k := i) (by omega)
                  obtain ⟨cz, hcz⟩ := getElem_some (l := T2) (k := z) (by omega)
                  have d1 : wr.cell? ⟨w.heap.size, i, none⟩ = some (.bool ci) := Gr.row_cell (V := T2.map (fun b => Value.bool b)) hfx (by rw [List.getElem?_map, hci]; rfl)
                  have d2 : wr.cell? ⟨w.heap.size, z, none⟩ = some (.bool cz) := Gr.row_cell (V := T2.map (fun b => Value.bool b)) hfx (by rw [List.getElem?_map, hcz]; rfl)
                  have f1 : wr.frozen? ⟨w.heap.size, i, none⟩ = false := Gr.row_free (V := T2.map (fun b => Value.bool b)) hfx
                  have f2 : wr.frozen? ⟨w.heap.size, z, none⟩ = false := Gr.row_free (V := T2.map (fun b => Value.bool b)) hfx
                  have HB := hide hB
                  have HFX := hide hfx
                  have HRN := hide hrn
                  have HNG := hide hNg
                  have HCI := hide hci
                  have HCZ := hide hcz
                  clear hB hfx hrn hNg hci hcz h1 hy hym hyr
                  cases over
                  · cases ci
                    · go_wp2_with fail
                      go_roundw
                      case rel => exact ⟨k + 1, T2, by omega, by go_num, HRN.out.skip HNG.out (by show ¬ On T2 i; unfold On; rw [HCI.out]; decide), HFX.out, HB.out, hsz4⟩
                      case measure => simp [intOf]; omega
                    · go_wp2_with fail
                      go_roundw
                      case rel => exact ⟨k + 1, T2.set z true, by omega, by go_num, HRN.out.put2 HW.out hil hT2 HNG.out (show On T2 i from HCI.out) hzn, Gr.bits_set HFX.out, HB.out.setCell (p := ⟨w.heap.size, z, none⟩) (Nat.le_refl _) _, by simpa using hsz4⟩
                      case measure => simp [intOf]; omega
                  · cases cz
                    · go_wp2_with fail
                      all_goals
                        go_roundw
                        case rel => exact ⟨k + 1, T2, by omega, by go_num, HRN.out.skip HNG.out (by show ¬ On T2 z; unfold On; rw [HCZ.out]; decide), HFX.out, HB.out, hsz4⟩
                        case measure => simp [intOf]; omega
                    · go_wp2_with fail
                      all_goals
                        go_roundw
                        case rel => exact ⟨k + 1, T2.set i true, by omega, by go_num, HRN.out.put2 HW.out hil hT2 HNG.out (show On T2 z from HCZ.out) hil, Gr.bits_set HFX.out, HB.out.setCell (p := ⟨w.heap.size, i, none⟩) (Nat.le_refl _) _, by simpa using hsz4⟩
                        case measure => simp [intOf]; omega
                · have hnx := hrn.next (by rw [Gr.netOf_len, HROW.out]; omega)
                  have HNX := hide hnx
                  have HFX := hide hfx
                  have HB := hide hB
                  clear hnx hrn hfx hB h1
                  go_wp2_with fail
                  go_roundw
                  case rel => exact ⟨i + 1, T2, by omega, by go_num, HNX.out, HFX.out, HB.out, hsz4⟩
                  case measure => simp [intOf]; omega
            · have hii : i = n := by omega
              subst hii
              have hst := HRD.out.step2 HW.out hrn
              have HST := hide hst
              have HFX := hide hfx
              have HB := hide hB
              clear hst hrn hfx hB
              go_wp2_with fail
              go_roundw
              case rel => exact ⟨r + 1, T, by omega, by go_num, HST.out, HFX.out, HB.out, hsz3⟩
              case measure => simp [intOf]; omega
        · have hrr : r = n := by omega
          subst hrr
          have hgot := hrd.end2 HM.out
          have hSl := hgot.len
          have HGOT := hide hgot
          have HFX := hide hfx
          have HB := hide hB
          clear hgot hrd hfx hB
          go_wp2_with fail
          go_loopw [15, 14] (fun vi vo wx => ∃ (k : Nat) (ao : Option Addr) (cap : Nat), k ≤ r ∧ vi = .int .i64 k ∧ vo = .slice ao (Gr.numsTo S2 k).length cap ∧ wx.ownsRow (w.heap.size + 1) 3 1 (.slice ao (Gr.numsTo S2 k).length cap) (Gr.numsTo S2 k).length (cells (ofN (Gr.numsTo S2 k))) ∧ wx.heap[w.heap.size]? = some (.cells (Gr.bits S2) 4 (0, 0)) ∧ Below w.heap.size w wx ∧ w.heap.size + 1 ≤ wx.heap.size) (fun vi _ _ => r - (intOf vi).toNat)
          case atStart => exact ⟨0, none, 0, Nat.zero_le _, rfl, rfl, World.ownsRow_nil _ _ _ _, HFX.out, HB.out, hsz2⟩
          case round =>
            obtain ⟨k, ao, cap, hk3, rfl, rfl, hown, hfx, hB, hsz5⟩ := hrel
            clear HFX HB hsz2
            by_cases hkl3 : k < r
            · obtain ⟨c, hc⟩ := getElem_some (l := S2) (k := k) (by omega)
              have d1 : wr.cell? ⟨w.heap.size, k, none⟩ = some (.bool c) := Gr.row_cell (V := S2.map (fun b => Value.bool b)) hfx (by rw [List.getElem?_map, hc]; rfl)
              have hrl2 := Gr.numsTo_le S2 k
              have hsc := Gr.numsTo_succ S2 k
              rw [hc] at hsc
              have HOW := hide hown
              have HB := hide hB
              have HSC := hide hsc
              have HFX := hide hfx
              clear hown hB hsc hc hfx
              cases c
              · go_wp2_with fail
                go_roundw
                case rel =>
                  refine ⟨k + 1, ao, cap, by omega, by go_num, ?_, ?_, HFX.out, HB.out, hsz5⟩
                  · rw [HSC.out]; rfl
                  · rw [HSC.out]; exact HOW.out
                case measure => simp [intOf]; omega
              · go_wp2_with (at_builtin; go_must (refine wpList_append_lies _ rfl (.tmp 106) (.tmp 108) 37 rfl (w.heap.size + 1) 3 i0 (.int .i64 0) 1 8 Try.underlying37 hi0 hz0 hz1 hz2 rfl (by decide) (.slice ao (Gr.numsTo S2 k).length cap) (Gr.numsTo S2 k).length (cells (ofN (Gr.numsTo S2 k))) rfl (HOW.out.alloc _) ⟨wr.heap.size, 0, none⟩ 1 1 [.int .i64 k] rfl rfl (news_alloc _ #[.int .i64 k] _ _ rfl) (by simp [Value.oneCell']) (by decide) (by unfold maxLen; omega) (by omega) (by simp; omega) _ rfl ?_); intro g cap' w4 hown4 hgrow hat hlt4)
                go_roundw
                case rel =>
                  have e2 : Gr.numsTo S2 (k + 1) = Gr.numsTo S2 k ++ [k] := by rw [HSC.out]; rfl
                  have hgw : wr.grownBy w4 (Value.slice ao (Gr.numsTo S2 k).length cap).ownBlock := grown_trans (World.grownBy_alloc wr _ _) hgrow
                  refine ⟨k + 1, some ⟨g, 0, none⟩, cap', by omega, by go_num, ?_, ?_, ?_, HB.out.grown hgw (by omega) (fun c hc => by have := (HOW.out.lt c hc).1; omega), by have := hgw.size; omega⟩
                  · rw [e2, List.length_append]; rfl
                  · rw [e2, List.length_append, Gr.ofN_append, Gr.cells_append]; exact hown4
                  · rw [hgw.block w.heap.size (by omega) (fun e => by have := (HOW.out.lt _ e.symm).1; omega)]; exact HFX.out
                case measure => simp [intOf]; omega
            · have hkk : k = S2.length := by omega
              have HOW := hide hown
              have HB := hide hB
              clear hown hB hfx
              go_wp2_with fail
              go_ret2
              refine ⟨.inr ⟨HIN.out, S2, _, HGOT.out, rfl, ?_⟩, HB.out⟩
              refine Ints.of_owns (base := w.heap.size + 1) (e := 3) ?_
              have h9 := HOW.out
              rw [hkk] at h9
              rw [hkk, Gr.ofN_length]; exact h9
end Go.Proofs.Ytienhelohfhhfaa
