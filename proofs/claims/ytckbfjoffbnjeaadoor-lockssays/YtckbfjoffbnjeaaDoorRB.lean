/- For LocksSays: the reference's small functions: NameMay, Decimal, SameTexts; same; the closures. -/
import Derived.Test.YtckbfjoffbnjeaaDoorRA
namespace Go.Proofs.YtckbfjoffbnjeaaDoor
open Go.RowKit
attribute [local go_sem ↓] Go.wp_at_zero Go.wp_at_succ
namespace N
theorem is_letter (b : UInt8) (h : letter b = true) : 97 ≤ b.toNat ∧ b.toNat ≤ 122 := by simpa [letter] using h
theorem not_letter (b : UInt8) (h : letter b = false) : ¬ (97 ≤ b.toNat ∧ b.toNat ≤ 122) := by
  simp only [letter, Bool.and_eq_false_iff, decide_eq_false_iff_not] at h; omega
theorem is_digit (b : UInt8) (h : digit b = true) : 48 ≤ b.toNat ∧ b.toNat ≤ 57 := by simpa [digit] using h
theorem not_digit (b : UInt8) (h : digit b = false) : ¬ (48 ≤ b.toNat ∧ b.toNat ≤ 57) := by
  simp only [digit, Bool.and_eq_false_iff, decide_eq_false_iff_not] at h; omega
end N
set_option maxRecDepth 100000 in
set_option maxHeartbeats 1600000 in
theorem refName_any (s : ByteArray) (w : World) (hs : s.size ≤ maxLen) :
    Calls Tryd.prog 13 #[.string s] w fun e w' => e = .returned (.bool (N.name s)) ∧ w' = w := by
  unfold maxLen at hs
  by_cases h0 : s.size < 1
  · have E : Hid (N.name s = false) := by show _ = _; rw [N.name, decide_eq_false (by omega : ¬ 1 ≤ s.size)]; rfl
    go_enter Tryd.func13, Tryd.ntmps13
    go_wp2_with fail
    go_ret
    exact ⟨ret_bool E.out.symm, rfl⟩
  by_cases h12 : 12 < s.size
  · have E : Hid (N.name s = false) := by show _ = _; rw [N.name, decide_eq_false (by omega : ¬ s.size ≤ 12), Bool.and_false]; rfl
    go_enter Tryd.func13, Tryd.ntmps13
    go_wp2_with fail
    go_ret
    exact ⟨ret_bool E.out.symm, rfl⟩
  have E : N.name s = N.nameFrom 0 (N.bl s) := by
    rw [N.name, decide_eq_true (by omega : 1 ≤ s.size), decide_eq_true (by omega : s.size ≤ 12)]; rfl
  rw [E]
  clear E
  go_enter Tryd.func13, Tryd.ntmps13
  go_wp2_with fail
  go_loop [3, 4, 5] (fun i _ _ => ∃ k : Nat, k ≤ s.size ∧ i = .int .i64 k ∧ N.nameFrom 0 (N.bl s) = N.nameFrom k ((N.bl s).drop k)) (fun i _ _ => s.size - (intOf i).toNat)
  case atStart => exact ⟨0, Nat.zero_le _, rfl, by simp⟩
  case round =>
    obtain ⟨k, hk, rfl, hq⟩ := hrel
    by_cases hlt : k < s.size
    · rw [N.bl_drop s k hlt, N.nameFrom, N.nameByte] at hq
      cases hl : N.letter s[k]
      · have nl := N.not_letter _ hl
        cases hd : N.digit s[k]
        · have nd := N.not_digit _ hd
          rw [hl, hd] at hq
          have HQ : Hid _ := hq
          clear hq hl hd
          rcases (show s[k].toNat < 48 ∨ (57 < s[k].toNat ∧ s[k].toNat < 97) ∨ 122 < s[k].toNat by omega) with hc | ⟨hc1, hc2⟩ | hc
          · clear nl nd
            go_wp2_with fail
            go_ret
            exact ⟨ret_bool (by rw [HQ.out]; rfl), rfl⟩
          · clear nl nd
            go_wp2_with fail
            go_ret
            exact ⟨ret_bool (by rw [HQ.out]; rfl), rfl⟩
          · have gd1 : decide ((s[k].toNat : Int) ≤ 122) = false := by simp; omega
            have gd2 : decide ((s[k].toNat : Int) ≤ 57) = false := by simp; omega
            clear nl nd
            go_wp2_with fail
            go_ret
            exact ⟨ret_bool (by rw [HQ.out]; rfl), rfl⟩
        · obtain ⟨d1, d2⟩ := N.is_digit _ hd
          rw [hl, hd] at hq
          by_cases hk0 : k = 0
          · have gk : ((k : Int) == 0) = true := by simp; omega
            rw [decide_eq_false (by omega : ¬ 0 < k)] at hq
            have HQ : Hid _ := hq
            clear hq hl hd nl hk0
            go_wp2_with fail
            go_ret
            exact ⟨ret_bool (by rw [HQ.out]; rfl), rfl⟩
          · have gk : ((k : Int) == 0) = false := by simp; omega
            rw [decide_eq_true (by omega : 0 < k)] at hq
            have HQ : Hid _ := hq
            clear hq hl hd nl hk0
            go_wp2_with fail
            go_round
            case rel => exact ⟨k + 1, by omega, by go_num, by rw [HQ.out]; rfl⟩
            case measure => simp [intOf]; omega
      · obtain ⟨d1, d2⟩ := N.is_letter _ hl
        rw [hl] at hq
        have HQ : Hid _ := hq
        clear hq hl
        go_wp2_with fail
        go_round
        case rel => exact ⟨k + 1, by omega, by go_num, by rw [HQ.out]; rfl⟩
        case measure => simp [intOf]; omega
    · rw [N.bl_drop_end s k hlt, N.nameFrom] at hq
      have HQ : Hid _ := hq
      clear hq
      go_wp2_with fail
      go_ret
      exact ⟨ret_bool HQ.out.symm, rfl⟩
theorem byte_wrap (k : Nat) (h : k < 10) : IntKind.u8.wrap (IntKind.i64.wrap (48 + (k : Int))) = 48 + k := by
  rw [IntKind.wrap, IntKind.wrap, show (2 : Int) ^ IntKind.u8.bits = 256 from rfl, show IntKind.u8.signed = false from rfl, show (2 : Int) ^ IntKind.i64.bits = 18446744073709551616 from rfl, show IntKind.i64.signed = true from rfl, show (2 : Int) ^ (IntKind.i64.bits - 1) = 9223372036854775808 from rfl]
  simp
  omega
theorem dig_at (w : World) (g k : Nat) (h : k < 10) (hb : w.heap[g]? = some (.cells #[.int .u8 (48 + (k : Int))] 5 (0, 0))) : (convert 81 9 (.slice (some ⟨g, 0, none⟩) 1 1)).run Tryd.prog w = .ok (.string (K.num k)) w := by
  have e : (48 + (k : Int)) = ((UInt8.ofNat (48 + k)).toNat : Int) := by rw [UInt8.toNat_ofNat']; omega
  rw [run_convert_bytes_arg _ 81 5 Tryd.underlying81 Tryd.underlying5 g 0 1 1 ([UInt8.ofNat (48 + k)].map fun b => (b.toNat : Int)) rfl ?_ 9 Tryd.underlying9, strOfNums_bytes]
  · unfold K.num
    rw [K.digits h]; rfl
  · intro i hi
    have hi0 : i = 0 := by simpa using hi
    subst hi0
    rw [e] at hb
    exact cell_of_block hb 0 _ rfl
set_option maxRecDepth 100000 in
theorem dec_any (k : Nat) (w : World) (h : k < 10) : Calls Tryd.prog 29 #[.int .i64 k] w fun e w' => e = .returned (.string (K.num k)) ∧ Fr w w' (fun _ => False) := by
  have hc := dig_at (w.alloc (.cells #[.int .u8 (48 + (k : Int))] 5)) w.heap.size k h (heap_alloc_new _ _)
  have hw := byte_wrap k h
  go_enter Tryd.func29, Tryd.ntmps29
  go_wp2_with fail
  go_ret
  exact ⟨rfl, (Fr.refl _ _).alloc _⟩
set_option maxRecDepth 100000 in
theorem same_nil (k : Int) (w : World) : Calls Tryd.prog 8 #[.nilIface, .int .i64 k] w fun e w' => e = .returned (.bool (decide (k = 0))) ∧ w' = w := by
  by_cases hk : k = 0
  · subst hk
    go_enter Tryd.func8, Tryd.ntmps8
    go_wp2_with fail
    go_ret
    exact ⟨rfl, rfl⟩
  · have hb : (k == 0) = false := by simp [hk]
    have hd : decide (k = 0) = false := by simp [hk]
    rw [hd]
    go_enter Tryd.func8, Tryd.ntmps8
    go_wp2_with fail
    go_ret
    exact ⟨rfl, rfl⟩
set_option maxRecDepth 100000 in
theorem same_err (n k : Int) (w : World) (hk : 0 < k) : Calls Tryd.prog 8 #[.iface 59 (.int .i64 n), .int .i64 k] w fun e w' => e = .returned (.bool (n == k)) ∧ w' = w := by
  have hta := ta_errno n w
  go_enter Tryd.func8, Tryd.ntmps8
  go_wp2_with fail
  go_ret
  exact ⟨rfl, rfl⟩
set_option maxRecDepth 100000 in
set_option maxHeartbeats 1000000 in
theorem sameTexts_any (A C : List ByteArray) (a c : Value) (w : World) (hA : A.length ≤ 1000000) (ha : Strs w a A) (hc : Strs w c C) :
    Calls Tryd.prog 18 #[a, c] w fun o w' => Same A C o ∧ Below w.heap.size w w' := by
  obtain ⟨aa, ca, rfl, _⟩ := id ha
  obtain ⟨ab, cb, rfl, _⟩ := id hc
  have HA := hide ha
  have HC := hide hc
  clear ha hc
  by_cases hlen : A.length = C.length
  · go_enter Tryd.func18, Tryd.ntmps18
    go_wp2_with fail
    go_loopw [5] (fun vi wx => ∃ i : Nat, i ≤ A.length ∧ vi = .int .i64 i ∧ Below w.heap.size w wx) (fun vi _ => A.length - (intOf vi).toNat)
    case atStart => exact ⟨0, Nat.zero_le _, rfl, Below.refl _ _⟩
    case round =>
      obtain ⟨i, hi, rfl, hBx⟩ := hrel
      by_cases hlt : i < A.length
      · obtain ⟨x, hx⟩ : ∃ x, A[i]? = some x := ⟨_, List.getElem?_eq_getElem hlt⟩
        obtain ⟨y, hy⟩ : ∃ y, C[i]? = some y := ⟨_, List.getElem?_eq_getElem (by omega)⟩
        obtain ⟨b1, o1, rfl, c1⟩ := (HA.out.kept hBx (Nat.le_refl _)).at hx
        obtain ⟨b2, o2, rfl, c2⟩ := (HC.out.kept hBx (Nat.le_refl _)).at hy
        have HXY : Hid (A = C → x = y) := fun e => by rw [e, hy] at hx; simpa using hx.symm
        have HBX := hide hBx
        clear hBx hx hy
        cases hl : x.toList == y.toList with
        | true =>
          go_wp2_with fail
          go_region_held3 (fun W' => W'.cell? ⟨b1, o1 + i, none⟩ = some (.string x) ∧ W'.cell? ⟨b2, o2 + i, none⟩ = some (.string y)) (go_keep) (fail)
          all_goals
            go_wp2_with fail
            go_roundw
            case rel => exact ⟨i + 1, by omega, by go_num, HBX.out.drew⟩
            case measure => simp [intOf]; omega
        | false =>
          have HNE : Hid (¬ A = C) := fun e => by have := HXY.out e; rw [this] at hl; simp at hl
          go_wp2_with fail
          go_region_held3 (fun W' => W'.cell? ⟨b1, o1 + i, none⟩ = some (.string x) ∧ W'.cell? ⟨b2, o2 + i, none⟩ = some (.string y)) (go_keep) (fail)
          all_goals
            go_wp2_with fail
            go_ret
            exact ⟨⟨_, rfl, fun e => absurd e HNE.out⟩, HBX.out.drew⟩
      · have HBX := hide hBx
        clear hBx
        go_wp2_with fail
        go_ret
        exact ⟨⟨_, rfl, fun _ => rfl⟩, HBX.out⟩
  · have HNE : Hid (¬ A = C) := fun e => hlen (by rw [e])
    have hb : ((A.length : Int) != C.length) = true := by simp; omega
    go_enter Tryd.func18, Tryd.ntmps18
    go_wp2_with fail
    go_ret
    exact ⟨⟨_, rfl, fun e => absurd e HNE.out⟩, Below.refl _ _⟩
theorem same_any (c : Nat) (w : World) : Calls Tryd.prog 8 #[errV c, .int .i64 c] w fun e w' => e = .returned (.bool true) ∧ w' = w := by
  by_cases h : c = 0
  · subst h
    exact same_nil 0 w
  · rw [errV_ne h]
    refine (same_err c c w (by omega)).mono ?_
    rintro e w' ⟨rfl, rfl⟩
    exact ⟨by simp, rfl⟩
set_option maxRecDepth 100000 in
theorem alive20_any (k : Nat) (w : World) : Calls Tryd.prog 20 #[.int .i64 k] w fun o w' => o = .returned (.bool true) ∧ w' = w := by
  go_enter Tryd.func20, Tryd.ntmps20
  go_wp2_with fail
  go_ret
  exact ⟨rfl, rfl⟩
set_option maxRecDepth 100000 in
theorem alive7_any (k bl bh : Nat) (lo hi : Int) (w : World) (h1 : w.cell? ⟨bl, 0, none⟩ = some (.int .i64 lo)) (h2 : w.cell? ⟨bh, 0, none⟩ = some (.int .i64 hi)) : Calls Tryd.prog 7 #[.int .i64 k, .pointer (some ⟨bl, 0, none⟩), .pointer (some ⟨bh, 0, none⟩)] w fun o w' => o = .returned (.bool (decide (lo ≤ (k : Int)) && decide ((k : Int) ≤ hi))) ∧ w' = w := by
  by_cases a : lo ≤ (k : Int)
  · by_cases b : (k : Int) ≤ hi
    · go_enter Tryd.func7, Tryd.ntmps7
      go_wp2_with fail
      go_ret
      exact ⟨ret_bool (by first | (simp; done) | (simp [a]; done) | (simp [b]; done) | (simp [a, b]; done)), rfl⟩
    · have b2 : decide ((k : Int) ≤ hi) = false := decide_eq_false b
      go_enter Tryd.func7, Tryd.ntmps7
      go_wp2_with fail
      go_ret
      exact ⟨ret_bool (by first | (simp; done) | (simp [a]; done) | (simp [b]; done) | (simp [a, b]; done)), rfl⟩
  · have a2 : decide (lo ≤ (k : Int)) = false := decide_eq_false a
    go_enter Tryd.func7, Tryd.ntmps7
    go_wp2_with fail
    go_ret
    exact ⟨ret_bool (by first | (simp; done) | (simp [a]; done)), rfl⟩
end Go.Proofs.YtckbfjoffbnjeaaDoor
