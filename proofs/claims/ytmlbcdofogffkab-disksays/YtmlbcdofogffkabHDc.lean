/- For DiskSays: the reference's put. -/
import Derived.Test.YtmlbcdofogffkabFE
import Derived.Test.YtmlbcdofogffkabEE
import Derived.BigQuiet
namespace Go.Proofs.Ytmlbcdofogffkab
open Go.RowKit
attribute [local go_sem ↓] Go.wp_at_zero Go.wp_at_succ
namespace R
/-- A slice of files (two cells each). -/
def Fls (w : World) (v : Value) (S : List (ByteArray × ByteArray)) : Prop :=
  ∃ ao cap, v = .slice ao S.length cap ∧ (S = [] ∨ ∃ b off, ao = some ⟨b, off, none⟩ ∧ ∀ i x, S[i]? = some x → w.cell? ⟨b, off + i * 2, none⟩ = some (.string x.1) ∧ w.cell? ⟨b, off + i * 2 + 1, none⟩ = some (.string x.2))
theorem Fls.kept {w w' : World} {v : Value} {S : List (ByteArray × ByteArray)} (h : Fls w v S) (hb : Below w.heap.size w w') : Fls w' v S := by
  obtain ⟨ao, cap, rfl, h⟩ := h
  refine ⟨ao, cap, rfl, ?_⟩
  rcases h with h | ⟨b, off, rfl, h⟩
  · exact .inl h
  · exact .inr ⟨b, off, rfl, fun i x hx => ⟨kept_cell hb (h i x hx).1, kept_cell hb (h i x hx).2⟩⟩
theorem Fls.at {w : World} {ao : Option Addr} {n cap : Nat} {S : List (ByteArray × ByteArray)} (h : Fls w (.slice ao n cap) S) {i : Nat} {x : ByteArray × ByteArray} (hx : S[i]? = some x) : ∃ b off, ao = some ⟨b, off, none⟩ ∧ w.cell? ⟨b, off + i * 2, none⟩ = some (.string x.1) ∧ w.cell? ⟨b, off + i * 2 + 1, none⟩ = some (.string x.2) := by
  obtain ⟨ao', cap', q5, q6⟩ := h
  simp only [Value.slice.injEq] at q5
  obtain ⟨rfl, _, rfl⟩ := q5
  rcases q6 with h | ⟨b, off, rfl, h⟩
  · rw [h] at hx; cases hx
  · exact ⟨b, off, rfl, h i x hx⟩
/-- Where a file is, or -1. -/
def place (S : List (ByteArray × ByteArray)) (n : ByteArray) : Int := match M.at_ n S 0 with | some p => p.1 | none => -1
theorem at_shift (n : ByteArray) : ∀ (S : List (ByteArray × ByteArray)) (i : Nat), M.at_ n S i = (M.at_ n S 0).map (fun p => (p.1 + i, p.2))
  | [], _ => rfl
  | x :: S, i => by
    rw [M.at_, M.at_]
    split
    · simp
    · rw [at_shift n S (i + 1), at_shift n S (0 + 1), Option.map_map]
      congr 1
      funext p
      simp
      omega
theorem at_drop (n : ByteArray) (S : List (ByteArray × ByteArray)) : ∀ (k : Nat), k ≤ S.length → (∀ (j : Nat) (y : ByteArray × ByteArray), j < k → S[j]? = some y → (n == y.1) = false) → M.at_ n S 0 = M.at_ n (S.drop k) k
  | 0, _, _ => by simp
  | k + 1, hk, h => by
    rw [at_drop n S k (by omega) (fun j y hj => h j y (by omega))]
    obtain ⟨x, hx⟩ : ∃ x, S[k]? = some x := ⟨_, List.getElem?_eq_getElem (by omega)⟩
    have e : S.drop k = x :: S.drop (k + 1) := by
      have := List.drop_eq_getElem_cons (l := S) (i := k) (by omega)
      rw [this]
      congr 1
      exact (List.getElem?_eq_some_iff.1 hx).2
    rw [e, M.at_, if_neg (by rw [h k x (by omega) hx]; decide)]
end R
theorem beq_toList (a b : ByteArray) : (a.toList == b.toList) = (b == a) := by
  cases h : (b == a) with
  | true => rw [(MapKept.bytes_beq _ _).1 h]; simp
  | false =>
    rw [beq_eq_false_iff_ne]
    intro e
    rw [ByteArray.toList_eq, ByteArray.toList_eq] at e
    have e2 : a = b := ByteArray.ext (Array.toList_inj.1 e)
    rw [(MapKept.bytes_beq b a).2 e2.symm] at h
    cases h
set_option maxRecDepth 100000 in
set_option maxHeartbeats 400000 in
theorem refHas_any (w : World) (v : Value) (S : List (ByteArray × ByteArray)) (n : ByteArray) (h : R.Fls w v S) (hl : S.length ≤ 1000000) :
    Calls Try.prog 84 #[v, .string n] w fun o w' => o = .returned (.int .i64 (R.place S n)) ∧ w' = w := by
  obtain ⟨ao, cap, rfl, _⟩ := id h
  have H := hide h
  clear h
  go_enter Try.func84, Try.ntmps84
  go_wp2_with fail
  go_loop [5] (fun vi => ∃ k : Nat, k ≤ S.length ∧ vi = .int .i64 k ∧ (∀ (j : Nat) (y : ByteArray × ByteArray), j < k → S[j]? = some y → (n == y.1) = false)) (fun vi => S.length - (intOf vi).toNat)
  case atStart => exact ⟨0, Nat.zero_le _, rfl, fun j _ hj => absurd hj (by omega)⟩
  case round =>
    obtain ⟨k, hk, rfl, hok⟩ := hrel
    by_cases hlt : k < S.length
    · obtain ⟨x, hx⟩ : ∃ x, S[k]? = some x := ⟨_, List.getElem?_eq_getElem hlt⟩
      obtain ⟨b, off, rfl, c0, c1⟩ := H.out.at hx
      have HX := hide hx
      have HOK := hide hok
      cases he : (x.1.toList == n.toList) with
      | true =>
        have HP : Hid (R.place S n = k) := by
          show _ = _
          unfold R.place
          rw [R.at_drop n S k hk hok]
          have e : S.drop k = x :: S.drop (k + 1) := by
            rw [List.drop_eq_getElem_cons (l := S) (i := k) hlt]
            congr 1
            exact (List.getElem?_eq_some_iff.1 hx).2
          rw [e, M.at_, if_pos (by rw [← beq_toList]; exact he)]
        clear hok hx
        go_wp2_with fail
        go_ret
        exact ⟨by rw [HP.out]; rfl, rfl⟩
      | false =>
        have HN : Hid ((n == x.1) = false) := by show _ = _; rw [← beq_toList]; exact he
        clear hok hx
        go_wp2_with fail
        go_round
        case rel =>
          refine ⟨k + 1, by omega, by go_num, fun j y hj hy => ?_⟩
          rcases Nat.lt_or_ge j k with h | h
          · exact HOK.out j y h hy
          · rw [show j = k by omega, HX.out] at hy; cases hy; exact HN.out
        case measure => simp [intOf]; omega
    · have HP : Hid (R.place S n = -1) := by
        show _ = _
        unfold R.place
        rw [R.at_drop n S k hk hok, List.drop_of_length_le (by omega)]
        rfl
      clear hok
      go_wp2_with fail
      go_ret
      exact ⟨by rw [HP.out]; rfl, rfl⟩
end Go.Proofs.Ytmlbcdofogffkab
namespace Go.Proofs.Ytmlbcdofogffkab
open Go.RowKit
attribute [local go_sem ↓] Go.wp_at_zero Go.wp_at_succ
theorem N.byte_iff (b : UInt8) : N.byte b = true ↔ (97 ≤ b.toNat ∧ b.toNat ≤ 122) ∨ (48 ≤ b.toNat ∧ b.toNat ≤ 57) ∨ b.toNat = 46 := by
  simp [N.byte, N.letter, N.digit, or_assoc]
set_option maxRecDepth 100000 in
set_option maxHeartbeats 800000 in
theorem fileMay_any (s : ByteArray) (w : World) (hs : s.size ≤ maxLen) :
    Calls Try.prog 41 #[.string s] w fun e w' => e = .returned (.bool (N.may s)) ∧ w' = w := by
  unfold maxLen at hs
  go_enter Try.func41, Try.ntmps41
  go_wp2_with fail
  go_loop [3] (fun i => ∃ k : Nat, k ≤ s.size ∧ i = .int .i64 k ∧ N.from_ (N.bl s) = N.from_ ((N.bl s).drop k)) (fun i => s.size - (intOf i).toNat)
  case atStart => exact ⟨0, Nat.zero_le _, rfl, by simp⟩
  case round =>
    obtain ⟨k, hk, rfl, hq⟩ := hrel
    by_cases hlt : k < s.size
    · rw [N.bl_drop s k hlt, N.from_] at hq
      have hb := N.byte_iff s[k]
      cases he : N.byte s[k] with
      | true =>
        rw [he] at hq hb
        have hb' := hb.1 rfl
        have HQ : Hid _ := hq
        clear hq hb he
        rcases hb' with ⟨h1, h2⟩ | ⟨h1, h2⟩ | h1
        · go_wp2_with fail
          go_round
          case rel => exact ⟨k + 1, by omega, by go_num, by rw [HQ.out]; rfl⟩
          case measure => simp [intOf]; omega
        · go_wp2_with fail
          go_round
          case rel => exact ⟨k + 1, by omega, by go_num, by rw [HQ.out]; rfl⟩
          case measure => simp [intOf]; omega
        · have g : ((s[k].toNat : Int) == 46) = true := by simp; omega
          go_wp2_with fail
          go_round
          case rel => exact ⟨k + 1, by omega, by go_num, by rw [HQ.out]; rfl⟩
          case measure => simp [intOf]; omega
      | false =>
        rw [he] at hq hb
        have hb' : ¬ _ := fun h => Bool.noConfusion (hb.2 h)
        have HE : Hid (N.may s = false) := by show _ = _; unfold N.may; rw [hq]; simp
        clear hq hb he
        have g : ((s[k].toNat : Int) == 46) = false := by simp; omega
        rcases Nat.lt_or_ge s[k].toNat 48 with h1 | h1
        · clear hb'
          go_wp2_with fail
          go_ret
          exact ⟨ret_bool HE.out.symm, rfl⟩
        · rcases Nat.lt_or_ge s[k].toNat 97 with h2 | h2
          · have h3 : decide ((s[k].toNat : Int) ≤ 57) = false := decide_eq_false (by omega)
            clear hb'
            go_wp2_with fail
            go_ret
            exact ⟨ret_bool HE.out.symm, rfl⟩
          · have h3 : decide ((s[k].toNat : Int) ≤ 57) = false := decide_eq_false (by omega)
            have h4 : decide ((s[k].toNat : Int) ≤ 122) = false := decide_eq_false (by omega)
            clear hb'
            go_wp2_with fail
            go_ret
            exact ⟨ret_bool HE.out.symm, rfl⟩
    · rw [N.bl_drop_end s k hlt, N.from_] at hq
      have HQ : Hid _ := hq
      clear hq
      by_cases h0 : s.size = 0
      · have HE : Hid (N.may s = false) := by show _ = _; rw [N.may, decide_eq_false (by omega : ¬ 1 ≤ s.size)]; rfl
        go_wp2_with fail
        go_ret
        exact ⟨ret_bool HE.out.symm, rfl⟩
      by_cases h24 : 24 < s.size
      · have HE : Hid (N.may s = false) := by show _ = _; rw [N.may, decide_eq_false (by omega : ¬ s.size ≤ 24), Bool.and_false]; rfl
        go_wp2_with fail
        go_ret
        exact ⟨ret_bool (by rw [HE.out]; simp; omega), rfl⟩
      have HE : Hid (N.may s = true) := by show _ = _; rw [N.may, decide_eq_true (by omega : 1 ≤ s.size), decide_eq_true (by omega : s.size ≤ 24), HQ.out]; rfl
      go_wp2_with fail
      go_ret
      exact ⟨ret_bool (by rw [HE.out]; simp; omega), rfl⟩
end Go.Proofs.Ytmlbcdofogffkab
namespace Go.Proofs.Ytmlbcdofogffkab
open Go.RowKit
attribute [local go_sem ↓] Go.wp_at_zero Go.wp_at_succ
theorem u72 : Try.prog.underlying 72 = some (.slice 148) := by kernel_rfl
theorem info122 : (Try.prog.info? 148).map (fun i => (i.zero, i.size, i.bytes)) = some (some (.agg #[.string ⟨#[]⟩, .string ⟨#[]⟩]), 2, 32) := by kernel_rfl
namespace R
def cells (x : ByteArray × ByteArray) : List Value := [.string x.1, .string x.2]
def flat (S : List (ByteArray × ByteArray)) : List Value := (S.map cells).flatten
theorem flat_snoc (S : List (ByteArray × ByteArray)) (x : ByteArray × ByteArray) : flat (S ++ [x]) = flat S ++ [.string x.1, .string x.2] := by simp [flat, cells]
/-- Files but those of a name. -/
def less (S : List (ByteArray × ByteArray)) (n : ByteArray) : List (ByteArray × ByteArray) := S.filter (fun x => !(n == x.1))
theorem less_take (S : List (ByteArray × ByteArray)) (n : ByteArray) (k : Nat) (x : ByteArray × ByteArray) (hx : S[k]? = some x) :
    less (S.take (k + 1)) n = if n == x.1 then less (S.take k) n else less (S.take k) n ++ [x] := by
  rw [List.take_add_one, hx]
  unfold less
  rw [List.filter_append]
  cases h : (n == x.1) <;> simp [h]
theorem less_le (S : List (ByteArray × ByteArray)) (n : ByteArray) : (less S n).length ≤ S.length := List.length_filter_le _ _
end R
set_option maxRecDepth 100000 in
set_option maxHeartbeats 800000 in
theorem without_any (w : World) (v : Value) (S : List (ByteArray × ByteArray)) (n : ByteArray) (h : R.Fls w v S) (hl : S.length ≤ 1000000) :
    Calls Try.prog 122 #[v, .string n] w fun o w' => ∃ u, o = .returned u ∧ w'.ownsRow w.heap.size 148 2 u (R.less S n).length (R.flat (R.less S n)) ∧ Fr w w' (fun _ => False) := by
  obtain ⟨ao, cap, rfl, _⟩ := id h
  have H := hide h
  have HU := hide u72
  have HI := hide info122
  clear h
  go_enter Try.func122, Try.ntmps122
  go_wp2_with fail
  go_loopw [5, 6] (fun vo vi wx => ∃ k : Nat, k ≤ S.length ∧ vi = .int .i64 k ∧ wx.ownsRow w.heap.size 148 2 vo (R.less (S.take k) n).length (R.flat (R.less (S.take k) n)) ∧ Fr w wx (fun _ => False)) (fun _ vi _ => S.length - (intOf vi).toNat)
  case atStart => exact ⟨0, Nat.zero_le _, rfl, World.ownsRow_nil .., Fr.refl _ _⟩
  case round =>
    obtain ⟨wx, hwx⟩ : ∃ z, z = wr := ⟨_, rfl⟩
    subst hwx
    obtain ⟨k, hk, rfl, hox, hfx⟩ := hrel
    obtain ⟨va, vc, rfl⟩ := owns_shape hox
    have HOX := hide hox
    have HFX := hide hfx
    have hsz := hfx.size
    by_cases hlt : k < S.length
    · obtain ⟨x, hx⟩ : ∃ x, S[k]? = some x := ⟨_, List.getElem?_eq_getElem hlt⟩
      obtain ⟨b, off, rfl, c0, c1⟩ := (H.out.kept (hfx.below (Nat.le_refl _) (fun _ e => e.elim))).at hx
      have HT := hide (R.less_take S n k x hx)
      have hll : (R.less (S.take k) n).length ≤ 1000000 := Nat.le_trans (R.less_le _ _) (by simp; omega)
      clear hox hfx hx
      cases he : (x.1.toList == n.toList) with
      | true =>
        have HE : Hid (R.less (S.take (k + 1)) n = R.less (S.take k) n) := by
          show _ = _
          rw [HT.out, ← beq_toList, he]; rfl
        go_wp2_with fail
        go_roundw
        case rel => exact ⟨k + 1, by omega, by go_num, by rw [HE.out]; exact HOX.out, HFX.out⟩
        case measure => simp [intOf]; omega
      | false =>
        have HE : Hid (R.less (S.take (k + 1)) n = R.less (S.take k) n ++ [x]) := by
          show _ = _
          rw [HT.out, ← beq_toList, he]; rfl
        obtain ⟨i0, hi0, hz0, hz1, hz2⟩ := info_parts HI.out
        generalize R.less (S.take k) n = L at *
        go_wp2_with (at_builtin; go_must (refine wpList_append_lies _ rfl (.tmp 20) (.tmp 25) 72 rfl w.heap.size 148 i0 (.agg #[.string ⟨#[]⟩, .string ⟨#[]⟩]) 2 32 HU.out hi0 hz0 hz1 hz2 rfl (by decide) (.slice va L.length vc) L.length (R.flat L) rfl (HOX.out.alloc _) ⟨wx.heap.size, 0, none⟩ 1 1 [.string x.1, .string x.2] rfl rfl (news_alloc _ #[.string x.1, .string x.2] _ _ rfl) (by simp [Value.oneCell']) (by decide) (by unfold maxLen; omega) (by omega) (by simp; omega) _ rfl ?_); intro gA capA wA hownA hgrow hat hltA)
        have hA : ∀ y, (Value.slice va L.length vc).ownBlock = some y → w.heap.size ≤ y := fun y hy => (HOX.out.lt y hy).1
        have hf3 : Fr w wA (fun _ => False) := (HFX.out.alloc _).grown hgrow (fun y hy hc => by have := hA y hy; omega)
        have hoA : wA.ownsRow w.heap.size 148 2 (.slice (some ⟨gA, 0, none⟩) (L.length + 1) capA) (R.less (S.take (k + 1)) n).length (R.flat (R.less (S.take (k + 1)) n)) := by
          rw [HE.out, R.flat_snoc, List.length_append]; exact hownA
        have HF3 := hide hf3
        have HOA := hide hoA
        clear hf3 hoA hownA hgrow hat
        go_wp2_with fail
        go_roundw
        case rel => exact ⟨k + 1, by omega, by go_num, HOA.out, HF3.out⟩
        case measure => simp [intOf]; omega
    · have HT : Hid (S.take k = S) := by show _ = _; exact List.take_of_length_le (by omega)
      clear hox hfx
      go_wp2_with fail
      go_ret
      refine ⟨_, rfl, ?_, HFX.out⟩
      have := HOX.out
      rw [HT.out] at this ⊢
      exact this
end Go.Proofs.Ytmlbcdofogffkab
namespace Go.Proofs.Ytmlbcdofogffkab
open Go.RowKit
attribute [local go_sem ↓] Go.wp_at_zero Go.wp_at_succ
namespace R
abbrev Fl := ByteArray × ByteArray
def before (a b : ByteArray) : Bool := Op.bytesLess a.toList b.toList || a.toList == b.toList
def lay (f : Fl) (p : Bool × List Fl) (x : Fl) : Bool × List Fl :=
  (p.1 || before f.1 x.1, (if (!p.1 && before f.1 x.1) then p.2 ++ [f] else p.2) ++ (if f.1 == x.1 then [] else [x]))
def laid (S : List Fl) (f : Fl) (k : Nat) : Bool × List Fl := (S.take k).foldl (lay f) (false, [])
/-- Files with one more put in. -/
def put (S : List Fl) (f : Fl) : List Fl := if (laid S f S.length).1 then (laid S f S.length).2 else (laid S f S.length).2 ++ [f]
theorem laid_next (S : List Fl) (f : Fl) (k : Nat) (x : Fl) (hx : S[k]? = some x) : laid S f (k + 1) = lay f (laid S f k) x := by
  unfold laid
  rw [List.take_add_one, hx]
  simp
theorem lay_len (f : Fl) (p : Bool × List Fl) (x : Fl) : (lay f p x).2.length ≤ p.2.length + 2 := by
  unfold lay
  dsimp only
  split <;> split <;> simp
theorem laid_len (S : List Fl) (f : Fl) : ∀ k, k ≤ S.length → (laid S f k).2.length ≤ 2 * k
  | 0, _ => by simp [laid]
  | k + 1, h => by
    rw [laid_next S f k S[k] (List.getElem?_eq_getElem (by omega))]
    have := lay_len f (laid S f k) S[k]
    have := laid_len S f k (by omega)
    omega
/-- Files under way: the row, the box of the file that is put in. -/
def Pu (w wy : World) (f : Fl) (vo : Value) (L : List Fl) : Prop :=
  wy.ownsRow (w.heap.size + 1) 148 2 vo L.length (flat L) ∧ Fr w wy (fun _ => False) ∧ w.heap.size + 1 ≤ wy.heap.size ∧ wy.heap[w.heap.size]? = some (.cells #[.string f.1, .string f.2] 148)
theorem Pu.fr {w wy wz : World} {f : Fl} {vo : Value} {L : List Fl} (h : Pu w wy f vo L) (hf : Fr wy wz (fun _ => False)) : Pu w wz f vo L :=
  ⟨owns_fr h.1 hf (fun _ _ e => e), h.2.1.trans hf (fun _ _ e => e), Nat.le_trans h.2.2.1 hf.size, (hf.block _ (by have := h.2.2.1; omega) (fun e => e)).trans h.2.2.2⟩
theorem Pu.push {w wy wA : World} {f x : Fl} {va : Option Addr} {vc gA capA : Nat} {L : List Fl} {ob : Obj} (h : Pu w wy f (.slice va L.length vc) L) (hg : (wy.alloc ob).grownBy wA (Value.slice va L.length vc).ownBlock)
    (ho : wA.ownsRow (w.heap.size + 1) 148 2 (.slice (some ⟨gA, 0, none⟩) (L.length + 1) capA) (L.length + 1) (flat L ++ [.string x.1, .string x.2])) : Pu w wA f (.slice (some ⟨gA, 0, none⟩) (L.length + 1) capA) (L ++ [x]) := by
  have hA : ∀ y, (Value.slice va L.length vc).ownBlock = some y → w.heap.size + 1 ≤ y := fun y hy => (h.1.lt y hy).1
  refine ⟨?_, (h.2.1.alloc ob).grown hg (fun y hy hc => by have := hA y hy; omega), ?_, ?_⟩
  · rw [flat_snoc, List.length_append]; exact ho
  · have := hg.size; have := h.2.2.1; simp at *; omega
  · have h1 : (wy.alloc ob).heap[w.heap.size]? = some (.cells #[.string f.1, .string f.2] 148) := ((World.grownBy_alloc wy ob none).block _ (Array.getElem?_eq_some_iff.1 h.2.2.2).1 (by simp)).trans h.2.2.2
    rw [hg.block _ (Array.getElem?_eq_some_iff.1 h1).1 (fun e => by have := hA _ e.symm; omega)]
    exact h1
end R
set_option maxRecDepth 100000 in
set_option maxHeartbeats 800000 in
theorem refPut_any (w : World) (v : Value) (S : List R.Fl) (f : R.Fl) (h : R.Fls w v S) (hl : S.length ≤ 1000000) :
    Calls Try.prog 121 #[v, .agg #[.string f.1, .string f.2]] w fun o w' => ∃ u, o = .returned u ∧ w'.ownsRow (w.heap.size + 1) 148 2 u (R.put S f).length (R.flat (R.put S f)) ∧ Fr w w' (fun _ => False) := by
  obtain ⟨ao, cap, rfl, _⟩ := id h
  have H := hide h
  have HU := hide u72
  have HI := hide info122
  clear h
  have HB0 : Hid ((w.alloc (.cells #[.string f.1, .string f.2] 148)).heap[w.heap.size]? = some (.cells #[.string f.1, .string f.2] 148)) := heap_alloc_new _ _
  have HF0 : Hid (Fr w (w.alloc (.cells #[.string f.1, .string f.2] 148)) (fun _ => False)) := (Fr.refl _ _).alloc _
  have HZ0 : Hid (w.heap.size + 1 ≤ (w.alloc (.cells #[.string f.1, .string f.2] 148)).heap.size) := by show _ ≤ _; simp
  go_enter Try.func121, Try.ntmps121
  go_wp2_with fail
  generalize w.alloc (.cells #[.string f.1, .string f.2] 148) = w0 at *
  go_loopw [5, 6, 7] (fun vo vl vi wx => ∃ k : Nat, k ≤ S.length ∧ vi = .int .i64 k ∧ vl = .bool (R.laid S f k).1 ∧ R.Pu w wx f vo (R.laid S f k).2) (fun _ _ vi _ => S.length - (intOf vi).toNat)
  case atStart => exact ⟨0, Nat.zero_le _, rfl, rfl, World.ownsRow_nil .., HF0.out, HZ0.out, HB0.out⟩
  case round =>
    obtain ⟨wx, hwx⟩ : ∃ z, z = wr := ⟨_, rfl⟩
    subst hwx
    obtain ⟨k, hk, rfl, rfl, hpu⟩ := hrel
    obtain ⟨va, vc, rfl⟩ := owns_shape hpu.1
    have hll := R.laid_len S f k hk
    have HPU := hide hpu
    have hzx := hpu.2.2.1
    have b0 := cell_of_block hpu.2.2.2 0 _ rfl
    have b1 := cell_of_block hpu.2.2.2 1 _ rfl
    obtain ⟨i0, hi0, hz0, hz1, hz2⟩ := info_parts HI.out
    by_cases hlt : k < S.length
    · obtain ⟨x, hx⟩ : ∃ x, S[k]? = some x := ⟨_, List.getElem?_eq_getElem hlt⟩
      obtain ⟨b, off, rfl, c0', c1'⟩ := H.out.at hx
      have HXC : Hid (∀ wy, Fr w wy (fun _ => False) → wy.cell? ⟨b, off + k * 2, none⟩ = some (.string x.1) ∧ wy.cell? ⟨b, off + k * 2 + 1, none⟩ = some (.string x.2)) := fun wy hf => ⟨kept_cell (hf.below (Nat.le_refl _) (fun _ e => e.elim)) c0', kept_cell (hf.below (Nat.le_refl _) (fun _ e => e.elim)) c1'⟩
      have c0 := (HXC.out _ hpu.2.1).1
      have HT := hide (R.laid_next S f k x hx)
      clear hpu hx c0' c1'
      obtain ⟨p, L, hpL⟩ : ∃ p L, R.laid S f k = (p, L) := ⟨_, _, rfl⟩
      rw [hpL] at HPU HT hll ⊢
      dsimp only at HPU hll ⊢
      clear hpL
      cases p with
      | true =>
        go_wp2_with fail
        go_quiet (fail)
        have HQ := hide (HPU.out.fr (fr_drewN wx nq))
        generalize wx.drewN nq = wq at *
        have b0q := cell_of_block HQ.out.2.2.2 0 _ rfl
        have b1q := cell_of_block HQ.out.2.2.2 1 _ rfl
        have c0q := (HXC.out _ HQ.out.2.1).1
        have c1q := (HXC.out _ HQ.out.2.1).2
        have hzq := HQ.out.2.2.1
        go_wp2_with fail
        go_quiet (fail)
        have HQ2 := hide (HQ.out.fr (fr_drewN wq nq))
        generalize wq.drewN nq = wq2 at *
        have b0q2 := cell_of_block HQ2.out.2.2.2 0 _ rfl
        have b1q2 := cell_of_block HQ2.out.2.2.2 1 _ rfl
        have c0q2 := (HXC.out _ HQ2.out.2.1).1
        have c1q2 := (HXC.out _ HQ2.out.2.1).2
        have hzq2 := HQ2.out.2.2.1
        cases he : (x.1.toList == f.1.toList) with
        | true =>
          have HE : Hid (R.laid S f (k + 1) = (true, L)) := by
            show _ = _
            rw [HT.out, R.lay, ← beq_toList, he]
            simp
          go_wp2_with fail
          go_roundw
          case rel => exact ⟨k + 1, by omega, by go_num, by rw [HE.out], by rw [HE.out]; exact HQ2.out⟩
          case measure => simp [intOf]; omega
        | false =>
          have HE : Hid (R.laid S f (k + 1) = (true, L ++ [x])) := by
            show _ = _
            rw [HT.out, R.lay, ← beq_toList, he]
            simp
          go_wp2_with (at_builtin; go_must (refine wpList_append_lies _ rfl (.tmp 38) (.tmp 43) 72 rfl (w.heap.size + 1) 148 i0 (.agg #[.string ⟨#[]⟩, .string ⟨#[]⟩]) 2 32 HU.out hi0 hz0 hz1 hz2 rfl (by decide) (.slice va L.length vc) L.length (R.flat L) rfl (HQ2.out.1.alloc _) ⟨wq2.heap.size, 0, none⟩ 1 1 [.string x.1, .string x.2] rfl rfl (news_alloc _ #[.string x.1, .string x.2] _ _ rfl) (by simp [Value.oneCell']) (by decide) (by unfold maxLen; omega) (by omega) (by simp; omega) _ rfl ?_); intro gB capB wB hownB hgrowB hatB hltB)
          have HPB := hide (HQ2.out.push (x := x) hgrowB hownB)
          have hzB := HPB.out.2.2.1
          clear hownB hgrowB hatB hltB
          go_wp2_with fail
          go_roundw
          case rel => exact ⟨k + 1, by omega, by go_num, by rw [HE.out], by rw [HE.out]; exact HPB.out⟩
          case measure => simp [intOf]; omega
      | false =>
        cases hbf : (Op.bytesLess f.1.toList x.1.toList || f.1.toList == x.1.toList) with
        | false =>
          go_wp2_with fail
          go_quiet (fail)
          have HQ := hide (HPU.out.fr (fr_drewN wx nq))
          generalize wx.drewN nq = wq at *
          have b0q := cell_of_block HQ.out.2.2.2 0 _ rfl
          have b1q := cell_of_block HQ.out.2.2.2 1 _ rfl
          have c0q := (HXC.out _ HQ.out.2.1).1
          have c1q := (HXC.out _ HQ.out.2.1).2
          have hzq := HQ.out.2.2.1
          go_wp2_with fail
          go_quiet (fail)
          have HQ2 := hide (HQ.out.fr (fr_drewN wq nq))
          generalize wq.drewN nq = wq2 at *
          have b0q2 := cell_of_block HQ2.out.2.2.2 0 _ rfl
          have b1q2 := cell_of_block HQ2.out.2.2.2 1 _ rfl
          have c0q2 := (HXC.out _ HQ2.out.2.1).1
          have c1q2 := (HXC.out _ HQ2.out.2.1).2
          have hzq2 := HQ2.out.2.2.1
          cases he : (x.1.toList == f.1.toList) with
          | true =>
            have HE : Hid (R.laid S f (k + 1) = (false, L)) := by
              show _ = _
              rw [HT.out, R.lay, ← beq_toList, he]; simp only [R.before, hbf]
              simp
            go_wp2_with fail
            go_roundw
            case rel => exact ⟨k + 1, by omega, by go_num, by rw [HE.out], by rw [HE.out]; exact HQ2.out⟩
            case measure => simp [intOf]; omega
          | false =>
            have HE : Hid (R.laid S f (k + 1) = (false, L ++ [x])) := by
              show _ = _
              rw [HT.out, R.lay, ← beq_toList, he]; simp only [R.before, hbf]
              simp
            go_wp2_with (at_builtin; go_must (refine wpList_append_lies _ rfl (.tmp 38) (.tmp 43) 72 rfl (w.heap.size + 1) 148 i0 (.agg #[.string ⟨#[]⟩, .string ⟨#[]⟩]) 2 32 HU.out hi0 hz0 hz1 hz2 rfl (by decide) (.slice va L.length vc) L.length (R.flat L) rfl (HQ2.out.1.alloc _) ⟨wq2.heap.size, 0, none⟩ 1 1 [.string x.1, .string x.2] rfl rfl (news_alloc _ #[.string x.1, .string x.2] _ _ rfl) (by simp [Value.oneCell']) (by decide) (by unfold maxLen; omega) (by omega) (by simp; omega) _ rfl ?_); intro gB capB wB hownB hgrowB hatB hltB)
            have HPB := hide (HQ2.out.push (x := x) hgrowB hownB)
            have hzB := HPB.out.2.2.1
            clear hownB hgrowB hatB hltB
            go_wp2_with fail
            go_roundw
            case rel => exact ⟨k + 1, by omega, by go_num, by rw [HE.out], by rw [HE.out]; exact HPB.out⟩
            case measure => simp [intOf]; omega
        | true =>
          go_wp2_with fail
          go_quiet (fail)
          have HQ := hide (HPU.out.fr (fr_drewN wx nq))
          generalize wx.drewN nq = wq at *
          have b0q := cell_of_block HQ.out.2.2.2 0 _ rfl
          have b1q := cell_of_block HQ.out.2.2.2 1 _ rfl
          have c0q := (HXC.out _ HQ.out.2.1).1
          have c1q := (HXC.out _ HQ.out.2.1).2
          have hzq := HQ.out.2.2.1
          go_wp2_with (at_builtin; go_must (refine wpList_append_lies _ rfl (.tmp 26) (.tmp 28) 72 rfl (w.heap.size + 1) 148 i0 (.agg #[.string ⟨#[]⟩, .string ⟨#[]⟩]) 2 32 HU.out hi0 hz0 hz1 hz2 rfl (by decide) (.slice va L.length vc) L.length (R.flat L) rfl (HQ.out.1.alloc _) ⟨wq.heap.size, 0, none⟩ 1 1 [.string f.1, .string f.2] rfl rfl (news_alloc _ #[.string f.1, .string f.2] _ _ rfl) (by simp [Value.oneCell']) (by decide) (by unfold maxLen; omega) (by omega) (by simp; omega) _ rfl ?_); intro gA capA wA hownA hgrowA hatA hltA)
          have HPA := hide (HQ.out.push (x := f) hgrowA hownA)
          have hzA := HPA.out.2.2.1
          clear hownA hgrowA hatA hltA
          have b0A := cell_of_block HPA.out.2.2.2 0 _ rfl
          have b1A := cell_of_block HPA.out.2.2.2 1 _ rfl
          have c0A := (HXC.out _ HPA.out.2.1).1
          have c1A := (HXC.out _ HPA.out.2.1).2
          have hlA : (L ++ [f]).length = L.length + 1 := by simp
          rw [← hlA] at HPA ⊢
          generalize hLA : L ++ [f] = LA at *
          go_wp2_with fail
          go_quiet (fail)
          have HQ2 := hide (HPA.out.fr (fr_drewN wA nq))
          generalize wA.drewN nq = wq2 at *
          have b0q2 := cell_of_block HQ2.out.2.2.2 0 _ rfl
          have b1q2 := cell_of_block HQ2.out.2.2.2 1 _ rfl
          have c0q2 := (HXC.out _ HQ2.out.2.1).1
          have c1q2 := (HXC.out _ HQ2.out.2.1).2
          have hzq2 := HQ2.out.2.2.1
          cases he : (x.1.toList == f.1.toList) with
          | true =>
            have HE : Hid (R.laid S f (k + 1) = (true, LA)) := by
              show _ = _
              rw [HT.out, R.lay, ← beq_toList, he]; simp only [R.before, hbf]; rw [← hLA]
              simp
            go_wp2_with fail
            go_roundw
            case rel => exact ⟨k + 1, by omega, by go_num, by rw [HE.out], by rw [HE.out]; exact HQ2.out⟩
            case measure => simp [intOf]; omega
          | false =>
            have HE : Hid (R.laid S f (k + 1) = (true, LA ++ [x])) := by
              show _ = _
              rw [HT.out, R.lay, ← beq_toList, he]; simp only [R.before, hbf]; rw [← hLA]
              simp
            go_wp2_with (at_builtin; go_must (refine wpList_append_lies _ rfl (.tmp 38) (.tmp 43) 72 rfl (w.heap.size + 1) 148 i0 (.agg #[.string ⟨#[]⟩, .string ⟨#[]⟩]) 2 32 HU.out hi0 hz0 hz1 hz2 rfl (by decide) (.slice (some ⟨gA, 0, none⟩) LA.length capA) LA.length (R.flat LA) rfl (HQ2.out.1.alloc _) ⟨wq2.heap.size, 0, none⟩ 1 1 [.string x.1, .string x.2] rfl rfl (news_alloc _ #[.string x.1, .string x.2] _ _ rfl) (by simp [Value.oneCell']) (by decide) (by unfold maxLen; omega) (by omega) (by simp; omega) _ rfl ?_); intro gB capB wB hownB hgrowB hatB hltB)
            have HPB := hide (HQ2.out.push (x := x) hgrowB hownB)
            have hzB := HPB.out.2.2.1
            clear hownB hgrowB hatB hltB
            go_wp2_with fail
            go_roundw
            case rel => exact ⟨k + 1, by omega, by go_num, by rw [HE.out], by rw [HE.out]; have h := HPB.out; rw [hlA] at h; exact h⟩
            case measure => simp [intOf]; omega
    · have HK : Hid (k = S.length) := by show _ = _; omega
      clear hpu
      have HV : Hid (R.put S f = if (R.laid S f k).1 then (R.laid S f k).2 else (R.laid S f k).2 ++ [f]) := by show _ = _; rw [HK.out]; rfl
      obtain ⟨p, L, hpL⟩ : ∃ p L, R.laid S f k = (p, L) := ⟨_, _, rfl⟩
      rw [hpL] at HPU HV hll ⊢
      dsimp only at HPU HV hll ⊢
      clear hpL
      cases p with
      | true =>
        go_wp2_with fail
        go_ret
        refine ⟨_, rfl, ?_, HPU.out.2.1⟩
        rw [show R.put S f = L from HV.out.trans (by simp)]
        exact HPU.out.1
      | false =>
        go_wp2_with (at_builtin; go_must (refine wpList_append_lies _ rfl (.tmp 47) (.tmp 49) 72 rfl (w.heap.size + 1) 148 i0 (.agg #[.string ⟨#[]⟩, .string ⟨#[]⟩]) 2 32 HU.out hi0 hz0 hz1 hz2 rfl (by decide) (.slice va L.length vc) L.length (R.flat L) rfl (HPU.out.1.alloc _) ⟨wx.heap.size, 0, none⟩ 1 1 [.string f.1, .string f.2] rfl rfl (news_alloc _ #[.string f.1, .string f.2] _ _ rfl) (by simp [Value.oneCell']) (by decide) (by unfold maxLen; omega) (by omega) (by simp; omega) _ rfl ?_); intro gA capA wA hownA hgrowA hatA hltA)
        have HPA := hide (HPU.out.push (x := f) hgrowA hownA)
        have hzA := HPA.out.2.2.1
        clear hownA hgrowA hatA hltA
        go_wp2_with fail
        go_ret
        refine ⟨_, rfl, ?_, HPA.out.2.1⟩
        rw [show R.put S f = L ++ [f] from HV.out.trans (by simp)]
        exact HPA.out.1
end Go.Proofs.Ytmlbcdofogffkab
