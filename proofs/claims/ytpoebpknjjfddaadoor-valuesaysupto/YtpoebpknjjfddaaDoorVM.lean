/- What value.Quote returns. -/
import Derived.Test.YtpoebpknjjfddaaDoorVL
namespace Go.Proofs.YtpoebpknjjfddaaDoor
open Go.RowKit
theorem V.take_snoc (s : ByteArray) (k : Nat) (h : k < s.size) : (V.bl s).take (k + 1) = (V.bl s).take k ++ [s[k]] := by
  rw [List.take_add_one, V.bl_get s k h]; rfl
theorem V.flat_snoc (s : ByteArray) (k : Nat) (h : k < s.size) : [34] ++ ((V.bl s).take (k + 1)).flatMap V.quoteB = [34] ++ ((V.bl s).take k).flatMap V.quoteB ++ V.quoteB s[k] := by
  rw [V.take_snoc s k h, List.flatMap_append]; simp
theorem hex_at2 (n : Nat) (h : n < 16) : (⟨#[48, 49, 50, 51, 52, 53, 54, 55, 56, 57, 97, 98, 99, 100, 101, 102]⟩ : ByteArray)[n]'h = V.hexd n := hex_lit ⟨n, h⟩
set_option maxRecDepth 100000 in
set_option maxHeartbeats 800000 in
theorem quote_any (s : ByteArray) (w : World) (hs : s.size ≤ 2000000) :
    Calls Tryd.prog 23 #[.string s] w fun e w' => e = .returned (.string (V.str (V.quote (V.bl s)))) ∧ Below w.heap.size w w' := by
  have hbl : Below w.heap.size w (w.alloc (.cells #[.pointer none, .slice none 0 0] 73)) := (Below.refl _ _).alloc (Nat.le_refl _) _
  have hf := Lib.fresh_isBuilder 73 5 w
  go_enter Tryd.func23, Tryd.ntmps23
  go_wp2_with fail
  refine (writeByte_list w.heap.size w.heap.size [] 34 _ hf (by simp) (by simp)).mono ?_
  rintro e w1 ⟨rfl, h1, hb1⟩
  have hB1 := hbl.trans hb1
  clear hf hb1 hbl
  go_wp2_with fail
  go_loopw [9, 4, 5] (fun i _ _ wr => ∃ k : Nat, k ≤ s.size ∧ i = .int .i64 k ∧ Lib.IsBuilder 73 5 w.heap.size w.heap.size (Lib.byteCells ([34] ++ ((V.bl s).take k).flatMap V.quoteB)) wr ∧ Below w.heap.size w wr) (fun i _ _ _ => s.size - (intOf i).toNat)
  case atStart => exact ⟨0, Nat.zero_le _, rfl, by simpa using h1, hB1⟩
  case round =>
    obtain ⟨k, hk, rfl, hb, hB⟩ := hrel
    clear h1 hB1
    have hsz := hB.size
    by_cases hlt : k < s.size
    · have hfl := V.flat_len ((V.bl s).take k)
      have htl : ((V.bl s).take k).length ≤ k := List.length_take_le _ _
      have hsn := V.flat_snoc s k hlt
      have HSN : Hid _ := hsn
      clear hsn
      by_cases hq : s[k].toNat = 34 ∨ s[k].toNat = 92
      · have hqb : V.quoteB s[k] = [92, s[k]] := by rw [V.quoteB, if_pos hq]
        have HQB : Hid _ := hqb
        have L1 : ([34] ++ ((V.bl s).take k).flatMap V.quoteB).length + 4 ≤ 1000000000 := by rw [List.length_append]; simp only [List.length_cons, List.length_nil]; omega
        generalize [34] ++ ((V.bl s).take k).flatMap V.quoteB = acc at *
        clear hqb
        by_cases h34 : s[k].toNat = 34
        · have g34 : ((s[k].toNat : Int) == 34) = true := by simp; omega
          clear hq h34
          go_wp2_with fail
          refine (writeByte_list w.heap.size w.heap.size acc 92 _ hb (by omega) hsz).mono ?_
          rintro e w2 ⟨rfl, h2, hb2⟩
          have hs2 := hb2.size
          go_wp2_with fail
          refine (writeByte_list w.heap.size w.heap.size (acc ++ [92]) s[k] _ h2 (by simp; omega) (by omega)).mono ?_
          rintro e w3 ⟨rfl, h3, hb3⟩
          have hB3 := (hB.trans hb2).trans hb3
          clear hB hb2 hb3 h2 hb
          go_wp2_with fail
          go_roundw
          case rel => exact ⟨k + 1, by omega, by go_num, by rw [HSN.out, HQB.out]; simpa using h3, hB3⟩
          case measure => simp [intOf]; omega
        · have g34 : ((s[k].toNat : Int) == 34) = false := by simp; omega
          have g92 : ((s[k].toNat : Int) == 92) = true := by simp; omega
          clear hq h34
          go_wp2_with fail
          refine (writeByte_list w.heap.size w.heap.size acc 92 _ hb (by omega) hsz).mono ?_
          rintro e w2 ⟨rfl, h2, hb2⟩
          have hs2 := hb2.size
          go_wp2_with fail
          refine (writeByte_list w.heap.size w.heap.size (acc ++ [92]) s[k] _ h2 (by simp; omega) (by omega)).mono ?_
          rintro e w3 ⟨rfl, h3, hb3⟩
          have hB3 := (hB.trans hb2).trans hb3
          clear hB hb2 hb3 h2 hb
          go_wp2_with fail
          go_roundw
          case rel => exact ⟨k + 1, by omega, by go_num, by rw [HSN.out, HQB.out]; simpa using h3, hB3⟩
          case measure => simp [intOf]; omega
      · have g34 : ((s[k].toNat : Int) == 34) = false := by simp; omega
        have g92 : ((s[k].toNat : Int) == 92) = false := by simp; omega
        by_cases hx : s[k].toNat < 32 ∨ 126 < s[k].toNat
        · have hqb : V.quoteB s[k] = [92, 120] ++ [V.hexd (s[k].toNat / 16), V.hexd (s[k].toNat % 16)] := by rw [V.quoteB, if_neg hq, if_neg (by omega)]; rfl
          have HQB : Hid _ := hqb
          have L1 : ([34] ++ ((V.bl s).take k).flatMap V.quoteB).length + 4 ≤ 1000000000 := by rw [List.length_append]; simp only [List.length_cons, List.length_nil]; omega
          generalize [34] ++ ((V.bl s).take k).flatMap V.quoteB = acc at *
          have hd1 : s[k].toNat / 16 < 16 := by have := s[k].toNat_lt; omega
          have hd2 : s[k].toNat % 16 < 16 := by omega
          clear hqb hq
          by_cases hx1 : s[k].toNat < 32
          · clear hx
            go_wp2_with fail
            refine (writeString_list w.heap.size w.heap.size acc ⟨#[92, 120]⟩ _ hb (by rw [show (⟨#[92, 120]⟩ : ByteArray).size = 2 from rfl]; omega) hsz).mono ?_
            rintro e w2 ⟨rfl, h2, hb2⟩
            have hs2 := hb2.size
            rw [show V.bl ⟨#[92, 120]⟩ = [92, 120] from rfl] at h2
            go_wp2_with fail
            refine (writeByte_list w.heap.size w.heap.size (acc ++ [92, 120]) _ _ h2 (by simp; omega) (by omega)).mono ?_
            rintro e w3 ⟨rfl, h3, hb3⟩
            have hs3 := hb3.size
            rw [hex_at2 _ hd1] at h3
            go_wp2_with fail
            refine (writeByte_list w.heap.size w.heap.size (acc ++ [92, 120] ++ [V.hexd (s[k].toNat / 16)]) _ _ h3 (by simp; omega) (by omega)).mono ?_
            rintro e w4 ⟨rfl, h4, hb4⟩
            rw [hex_at2 _ hd2] at h4
            have hB4 := ((hB.trans hb2).trans hb3).trans hb4
            clear hB hb2 hb3 hb4 h2 h3 hb
            go_wp2_with fail
            go_roundw
            case rel => exact ⟨k + 1, by omega, by go_num, by rw [HSN.out, HQB.out]; simpa using h4, hB4⟩
            case measure => simp [intOf]; omega
          · have hx2 : 126 < s[k].toNat := by omega
            clear hx
            go_wp2_with fail
            refine (writeString_list w.heap.size w.heap.size acc ⟨#[92, 120]⟩ _ hb (by rw [show (⟨#[92, 120]⟩ : ByteArray).size = 2 from rfl]; omega) hsz).mono ?_
            rintro e w2 ⟨rfl, h2, hb2⟩
            have hs2 := hb2.size
            rw [show V.bl ⟨#[92, 120]⟩ = [92, 120] from rfl] at h2
            go_wp2_with fail
            refine (writeByte_list w.heap.size w.heap.size (acc ++ [92, 120]) _ _ h2 (by simp; omega) (by omega)).mono ?_
            rintro e w3 ⟨rfl, h3, hb3⟩
            have hs3 := hb3.size
            rw [hex_at2 _ hd1] at h3
            go_wp2_with fail
            refine (writeByte_list w.heap.size w.heap.size (acc ++ [92, 120] ++ [V.hexd (s[k].toNat / 16)]) _ _ h3 (by simp; omega) (by omega)).mono ?_
            rintro e w4 ⟨rfl, h4, hb4⟩
            rw [hex_at2 _ hd2] at h4
            have hB4 := ((hB.trans hb2).trans hb3).trans hb4
            clear hB hb2 hb3 hb4 h2 h3 hb
            go_wp2_with fail
            go_roundw
            case rel => exact ⟨k + 1, by omega, by go_num, by rw [HSN.out, HQB.out]; simpa using h4, hB4⟩
            case measure => simp [intOf]; omega
        · have hqb : V.quoteB s[k] = [s[k]] := by rw [V.quoteB, if_neg hq, if_pos (by omega)]
          have HQB : Hid _ := hqb
          have L1 : ([34] ++ ((V.bl s).take k).flatMap V.quoteB).length + 4 ≤ 1000000000 := by rw [List.length_append]; simp only [List.length_cons, List.length_nil]; omega
          generalize [34] ++ ((V.bl s).take k).flatMap V.quoteB = acc at *
          have hx1 : 32 ≤ s[k].toNat := by omega
          have hx2 : s[k].toNat ≤ 126 := by omega
          clear hqb hq hx
          go_wp2_with fail
          refine (writeByte_list w.heap.size w.heap.size acc s[k] _ hb (by omega) hsz).mono ?_
          rintro e w3 ⟨rfl, h3, hb3⟩
          have hB3 := hB.trans hb3
          clear hB hb3 hb
          go_wp2_with fail
          go_roundw
          case rel => exact ⟨k + 1, by omega, by go_num, by rw [HSN.out, HQB.out]; exact h3, hB3⟩
          case measure => simp [intOf]; omega
    · have hfl := V.flat_len (V.bl s)
      rw [V.length_bl] at hfl
      rw [List.take_of_length_le (by rw [V.length_bl]; omega)] at hb
      have L1 : ([34] ++ (V.bl s).flatMap V.quoteB).length + 4 ≤ 1000000000 := by rw [List.length_append]; simp only [List.length_cons, List.length_nil]; omega
      have HQ : Hid (V.quote (V.bl s) = [34] ++ (V.bl s).flatMap V.quoteB ++ [34]) := by show _ = _; rw [V.quote]; simp
      generalize [34] ++ (V.bl s).flatMap V.quoteB = acc at *
      go_wp2_with fail
      refine (writeByte_list w.heap.size w.heap.size acc 34 _ hb (by omega) hsz).mono ?_
      rintro e w2 ⟨rfl, h2, hb2⟩
      have hs2 := hb2.size
      go_wp2_with fail
      refine (string_any w.heap.size w.heap.size (acc ++ [34]) _ h2 (by omega)).mono ?_
      rintro e w3 ⟨rfl, hb3⟩
      go_wp2_with fail
      go_ret
      exact ⟨by rw [HQ.out]; rfl, (hB.trans hb2).trans hb3⟩
end Go.Proofs.YtpoebpknjjfddaaDoor
