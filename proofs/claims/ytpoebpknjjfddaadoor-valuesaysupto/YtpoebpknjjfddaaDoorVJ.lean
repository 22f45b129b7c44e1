/- The document's own Quoted. -/
import Derived.Test.YtpoebpknjjfddaaDoorVI
namespace Go.Proofs.YtpoebpknjjfddaaDoor
open Go.RowKit
namespace V
def hexd (n : Nat) : UInt8 := (if n < 10 then 48 + n else 87 + n).toUInt8
def quoteB (c : UInt8) : List UInt8 := if c.toNat = 34 ∨ c.toNat = 92 then [92, c] else if 32 ≤ c.toNat ∧ c.toNat ≤ 126 then [c] else [92, 120, hexd (c.toNat / 16), hexd (c.toNat % 16)]
def quote (l : List UInt8) : List UInt8 := 34 :: (l.flatMap quoteB ++ [34])
theorem bl_append (a b : ByteArray) : bl (a ++ b) = bl a ++ bl b := by simp [bl, ByteArray.data_append]
theorem str_append (a b : List UInt8) : str a ++ str b = str (a ++ b) := by
  apply ByteArray.ext; simp [str, ByteArray.data_append]
theorem take_flat (s : ByteArray) (k : Nat) (h : k < s.size) : ((bl s).take (k + 1)).flatMap quoteB = ((bl s).take k).flatMap quoteB ++ quoteB s[k] := by
  rw [List.take_add_one, bl_get s k h]; simp
theorem quoteB_len (c : UInt8) : (quoteB c).length ≤ 4 := by unfold quoteB; split; simp; split <;> simp
theorem flat_len (l : List UInt8) : (l.flatMap quoteB).length ≤ 4 * l.length := by
  induction l with
  | nil => simp
  | cons a l ih => rw [List.flatMap_cons, List.length_append, List.length_cons]; have := quoteB_len a; omega
end V
theorem strOfNums_bytes (acc : List UInt8) : strOfNums (acc.map fun b => (b.toNat : Int)) = V.str acc := by
  unfold strOfNums V.str
  rw [List.map_map]
  have : ((fun n : Int => UInt8.ofNat n.toNat) ∘ fun b : UInt8 => (b.toNat : Int)) = id := by funext b; simp
  rw [this]; simp
theorem conv_at (w : World) (g : Nat) (l : List UInt8) (cs : Array Value) (n : Nat) (hn : n = l.length) (h : cs = (l.map (fun b => Value.int .u8 b.toNat)).toArray) (hb : w.heap[g]? = some (.cells cs 5 (0, 0))) :
    (convert 71 9 (.slice (some ⟨g, 0, none⟩) n n)).run Tryd.prog w = .ok (.string (V.str l)) w := by
  subst hn h
  rw [run_convert_bytes_arg _ 71 5 Tryd.underlying71 Tryd.underlying5 g 0 l.length l.length (l.map fun b => (b.toNat : Int)) (by simp) ?_ 9 Tryd.underlying9, strOfNums_bytes]
  intro i hi
  rw [Nat.zero_add, cell_of_row _ g i _ 5 (0, 0) hb]
  simp [List.getD, List.getElem?_eq_getElem hi]
theorem conv_new (w : World) (l : List UInt8) (cs : Array Value) (n : Nat) (hn : n = l.length) (h : cs = (l.map (fun b => Value.int .u8 b.toNat)).toArray) :
    (convert 71 9 (.slice (some ⟨w.heap.size, 0, none⟩) n n)).run Tryd.prog (w.alloc (.cells cs 5)) = .ok (.string (V.str l)) (w.alloc (.cells cs 5)) := conv_at _ _ l cs n hn h (heap_alloc_new _ _)
theorem conv_some (w : World) (l : List UInt8) (cs : Array Value) (n : Nat) (hn : n = l.length) (h : cs = (l.map (fun b => Value.int .u8 b.toNat)).toArray) :
    ∃ t : ByteArray, t = V.str l ∧ t.size = n ∧ (convert 71 9 (.slice (some ⟨w.heap.size, 0, none⟩) n n)).run Tryd.prog (w.alloc (.cells cs 5)) = .ok (.string t) (w.alloc (.cells cs 5)) :=
  ⟨_, rfl, by rw [hn]; simp [V.str, ByteArray.size], conv_new w l cs n hn h⟩
theorem hex_lit : ∀ n : Fin 16, ((⟨#[48, 49, 50, 51, 52, 53, 54, 55, 56, 57, 97, 98, 99, 100, 101, 102]⟩ : ByteArray)[n.val]'(n.isLt)) = V.hexd n.val := by decide
theorem wrap_u8 (i : Int) (h0 : 0 ≤ i) (h1 : i < 256) : IntKind.u8.wrap i = i := by
  rw [IntKind.wrap, show (2 : Int) ^ IntKind.u8.bits = 256 from rfl, show IntKind.u8.signed = false from rfl]
  simp
  omega
theorem hex_at (i : Int) (n : Nat) (hi : i = n) (hn : n < 16) (h : i.toNat < (⟨#[48, 49, 50, 51, 52, 53, 54, 55, 56, 57, 97, 98, 99, 100, 101, 102]⟩ : ByteArray).size) : ((⟨#[48, 49, 50, 51, 52, 53, 54, 55, 56, 57, 97, 98, 99, 100, 101, 102]⟩ : ByteArray)[i.toNat]'h) = V.hexd n := by
  subst hi
  exact hex_lit ⟨n, hn⟩
theorem hex_conv (c : UInt8) (h1 : (IntKind.u8.wrap ((c.toNat : Int) / 16)).toNat < (⟨#[48, 49, 50, 51, 52, 53, 54, 55, 56, 57, 97, 98, 99, 100, 101, 102]⟩ : ByteArray).size) (h2 : ((c.toNat : Int).tmod 16).toNat < (⟨#[48, 49, 50, 51, 52, 53, 54, 55, 56, 57, 97, 98, 99, 100, 101, 102]⟩ : ByteArray).size) :
    ∃ t : ByteArray, t = V.str [92, 120, V.hexd (c.toNat / 16), V.hexd (c.toNat % 16)] ∧ t.size = 4 ∧ ∀ W : World, (convert 71 9 (.slice (some ⟨W.heap.size, 0, none⟩) 4 4)).run Tryd.prog
      (W.alloc (.cells #[.int .u8 92, .int .u8 120, .int .u8 ((⟨#[48, 49, 50, 51, 52, 53, 54, 55, 56, 57, 97, 98, 99, 100, 101, 102]⟩ : ByteArray)[(IntKind.u8.wrap ((c.toNat : Int) / 16)).toNat]'h1).toNat, .int .u8 ((⟨#[48, 49, 50, 51, 52, 53, 54, 55, 56, 57, 97, 98, 99, 100, 101, 102]⟩ : ByteArray)[((c.toNat : Int).tmod 16).toNat]'h2).toNat] 5)).drew =
      .ok (.string t) (W.alloc (.cells #[.int .u8 92, .int .u8 120, .int .u8 ((⟨#[48, 49, 50, 51, 52, 53, 54, 55, 56, 57, 97, 98, 99, 100, 101, 102]⟩ : ByteArray)[(IntKind.u8.wrap ((c.toNat : Int) / 16)).toNat]'h1).toNat, .int .u8 ((⟨#[48, 49, 50, 51, 52, 53, 54, 55, 56, 57, 97, 98, 99, 100, 101, 102]⟩ : ByteArray)[((c.toNat : Int).tmod 16).toNat]'h2).toNat] 5)).drew := by
  have hc := c.toNat_lt
  rw [hex_at _ (c.toNat / 16) (by rw [wrap_u8 _ (by omega) (by omega)]; omega) (by omega), hex_at _ (c.toNat % 16) (by rw [Int.tmod_eq_emod_of_nonneg (by omega)]; omega) (by omega)]
  exact ⟨_, rfl, rfl, fun W => conv_at _ _ _ _ 4 rfl rfl (heap_alloc_new _ _)⟩
theorem str_size (l : List UInt8) : (V.str l).size = l.length := by simp [V.str, ByteArray.size]
set_option maxRecDepth 100000 in
set_option maxHeartbeats 1600000 in
theorem quoted_any (s : ByteArray) (w : World) (hs : s.size ≤ 2000000) :
    Calls Tryd.prog 24 #[.string s] w fun e w' => e = .returned (.string (V.str (V.quote (V.bl s)))) ∧ Below w.heap.size w w' := by
  go_enter Tryd.func24, Tryd.ntmps24
  go_wp2_with fail
  go_loopw [3, 4, 5] (fun vo vi _ wr => ∃ k : Nat, k ≤ s.size ∧ vi = .int .i64 k ∧ (∃ o : ByteArray, vo = .string o ∧ o = V.str (((V.bl s).take k).flatMap V.quoteB) ∧ o.size ≤ 4 * k) ∧ Below w.heap.size w wr)
    (fun _ vi _ _ => s.size - (intOf vi).toNat)
  case atStart => exact ⟨0, Nat.zero_le _, rfl, ⟨_, rfl, rfl, by decide⟩, Below.refl _ _⟩
  case round =>
    obtain ⟨k, hk, rfl, ⟨o, rfl, ho, hos⟩, hB⟩ := hrel
    have HO : Hid _ := ho
    clear ho
    by_cases hlt : k < s.size
    · by_cases h1 : s[k].toNat = 34 ∨ s[k].toNat = 92
      · have HQ : Hid (V.quoteB s[k] = [92, s[k]]) := by show _ = _; rw [V.quoteB, if_pos h1]
        have HT : Hid _ := V.take_flat s k hlt
        rcases h1 with h1 | h1
        · obtain ⟨t, ht, htz, hc⟩ := conv_some wr [92, 34] #[.int .u8 92, .int .u8 34] 2 rfl rfl
          have HTT : Hid _ := ht
          clear ht
          have HS : Hid (s[k] = 34) := UInt8.toNat_inj.1 h1
          go_wp2_with fail
          go_roundw
          case rel => exact ⟨k + 1, by omega, by go_num, ⟨_, rfl, by rw [HT.out, HQ.out, HO.out, HS.out, HTT.out, V.str_append], by rw [ByteArray.size_append]; omega⟩, hB.alloc hB.size _⟩
          case measure => simp [intOf]; omega
        · obtain ⟨t, ht, htz, hc⟩ := conv_some wr [92, 92] #[.int .u8 92, .int .u8 92] 2 rfl rfl
          have HTT : Hid _ := ht
          clear ht
          have HS : Hid (s[k] = 92) := UInt8.toNat_inj.1 h1
          go_wp2_with fail
          go_roundw
          case rel => exact ⟨k + 1, by omega, by go_num, ⟨_, rfl, by rw [HT.out, HQ.out, HO.out, HS.out, HTT.out, V.str_append], by rw [ByteArray.size_append]; omega⟩, hB.alloc hB.size _⟩
          case measure => simp [intOf]; omega
      · by_cases h2 : 32 ≤ s[k].toNat ∧ s[k].toNat ≤ 126
        · have HQ : Hid (V.quoteB s[k] = [s[k]]) := by show _ = _; rw [V.quoteB, if_neg h1, if_pos h2]
          have HT : Hid _ := V.take_flat s k hlt
          obtain ⟨h2a, h2b⟩ := h2
          have n34 : ((s[k].toNat : Int) == 34) = false := beq_eq_false_iff_ne.2 (by omega)
          have n92 : ((s[k].toNat : Int) == 92) = false := beq_eq_false_iff_ne.2 (by omega)
          obtain ⟨t, ht, htz, hc⟩ := conv_some wr [s[k]] #[.int .u8 s[k].toNat] 1 rfl rfl
          have HTT : Hid _ := ht
          clear ht
          clear h1
          go_wp2_with fail
          go_roundw
          case rel => exact ⟨k + 1, by omega, by go_num, ⟨_, rfl, by rw [HT.out, HQ.out, HO.out, HTT.out, V.str_append], by rw [ByteArray.size_append]; omega⟩, hB.alloc hB.size _⟩
          case measure => simp [intOf]; omega
        · have HQ : Hid (V.quoteB s[k] = [92, 120, V.hexd (s[k].toNat / 16), V.hexd (s[k].toNat % 16)]) := by show _ = _; rw [V.quoteB, if_neg h1, if_neg h2]
          have HT : Hid _ := V.take_flat s k hlt
          have n34 : ((s[k].toNat : Int) == 34) = false := beq_eq_false_iff_ne.2 (by omega)
          have n92 : ((s[k].toNat : Int) == 92) = false := beq_eq_false_iff_ne.2 (by omega)
          clear h1
          rcases (show s[k].toNat < 32 ∨ 126 < s[k].toNat by omega) with h3 | h3
          all_goals
            have hlt256 := s[k].toNat_lt
            have hw : IntKind.u8.wrap ((s[k].toNat : Int) / 16) = (s[k].toNat : Int) / 16 := wrap_u8 _ (by omega) (by omega)
            have hm : (s[k].toNat : Int).tmod 16 = (s[k].toNat : Int) % 16 := Int.tmod_eq_emod_of_nonneg (by omega)
            have q1 : (0 : Int) ≤ IntKind.u8.wrap ((s[k].toNat : Int) / 16) := by omega
            have q2 : IntKind.u8.wrap ((s[k].toNat : Int) / 16) < 16 := by omega
            have q3 : (0 : Int) ≤ (s[k].toNat : Int).tmod 16 := by omega
            have q4 : (s[k].toNat : Int).tmod 16 < 16 := by omega
            clear hw hm
            obtain ⟨t, ht, htz, hc⟩ := hex_conv s[k] (by show _ < 16; omega) (by show _ < 16; omega)
            have HTT : Hid _ := ht
            clear ht
            go_wp2_with fail
            go_region_with fail
            all_goals
             go_wp2_with fail
             go_roundw
             case rel => exact ⟨k + 1, by omega, by go_num, ⟨_, rfl, by rw [HT.out, HQ.out, HO.out, HTT.out, V.str_append], by rw [ByteArray.size_append]; omega⟩, below_drewN (hB.alloc hB.size _) 1⟩
             case measure => simp [intOf]; omega
    · have hkk : k = s.size := by omega
      subst hkk
      have HE : Hid (V.str (V.quote (V.bl s)) = V.str [34] ++ o ++ V.str [34]) := by
        show _ = _
        rw [HO.out, List.take_of_length_le (by rw [V.length_bl]; omega), V.str_append, V.str_append]; rfl
      go_wp2_with fail
      go_ret
      exact ⟨ret_val (congrArg Value.string HE.out.symm), hB⟩
end Go.Proofs.YtpoebpknjjfddaaDoor
