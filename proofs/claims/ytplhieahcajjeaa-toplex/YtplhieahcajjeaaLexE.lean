/- What quoted returns. -/
import Derived.Test.YtplhieahcajjeaaLexD
import Derived.Laws.BytesArg
namespace Go.Proofs.Ytplhieahcajjeaa
open Go.RowKit
namespace Lx
theorem unq_le (l : List UInt8) (h : l ≠ []) : (unq l).2 ≤ l.length := by
  have hl : 0 < l.length := by cases l <;> simp_all
  unfold unq
  split
  · simp
  · split
    · exact hl
    · split
      · rename_i h1; exact h1.1
      · split
        · rename_i h1; exact h1.1
        · simp
def qtF : Nat → List UInt8 → Nat → List UInt8 → Tok
  | 0, _, _, _ => bad 4
  | _ + 1, [], _, _ => bad 4
  | n + 1, c :: r, k, acc =>
    if c.toNat = 34 then (if acc.length > 40 then bad 1 else ⟨3, acc, k + 1, 0⟩)
    else if (unq (c :: r)).2 = 0 then bad 4
    else qtF n ((c :: r).drop (unq (c :: r)).2) (k + (unq (c :: r)).2) (acc ++ [(unq (c :: r)).1])
theorem qtF_fuel : ∀ (n m : Nat) (l : List UInt8) (k : Nat) (acc : List UInt8), l.length < n → l.length < m → qtF n l k acc = qtF m l k acc
  | 0, _, _, _, _, h, _ => absurd h (by omega)
  | _ + 1, 0, _, _, _, _, h => absurd h (by omega)
  | n + 1, m + 1, [], k, acc, _, _ => by rw [qtF, qtF]
  | n + 1, m + 1, c :: r, k, acc, h1, h2 => by
    rw [qtF, qtF]
    split
    · rfl
    · split
      · rfl
      · rename_i h0
        simp only [List.length_cons] at h1 h2
        exact qtF_fuel n m _ _ _ (by rw [List.length_drop, List.length_cons]; omega) (by rw [List.length_drop, List.length_cons]; omega)
def qt (l : List UInt8) (k : Nat) (acc : List UInt8) : Tok := qtF (l.length + 1) l k acc
theorem qt_nil (k : Nat) (acc : List UInt8) : qt [] k acc = bad 4 := by rw [qt, qtF]
theorem qt_cons (c : UInt8) (r : List UInt8) (k : Nat) (acc : List UInt8) : qt (c :: r) k acc =
    if c.toNat = 34 then (if acc.length > 40 then bad 1 else ⟨3, acc, k + 1, 0⟩)
    else if (unq (c :: r)).2 = 0 then bad 4
    else qt ((c :: r).drop (unq (c :: r)).2) (k + (unq (c :: r)).2) (acc ++ [(unq (c :: r)).1]) := by
  rw [qt, qtF]
  split
  · rfl
  · split
    · rfl
    · rename_i h0
      exact qtF_fuel _ _ _ _ _ (by rw [List.length_drop, List.length_cons]; omega) (by omega)
def quotedTok (l : List UInt8) : Tok := qt (l.drop 1) 1 []
def byteV (b : UInt8) : Value := .int .u8 b.toNat
end Lx
theorem free_of_block {w : World} {g : Nat} {cs : Array Value} {e : TypeId} (h : w.heap[g]? = some (.cells cs e (0, 0))) (j : Nat) : w.frozen? ⟨g, j, none⟩ = false := by simp [World.frozen?, h]
theorem cell_of_block {w : World} {g : Nat} {cs : Array Value} {e : TypeId} (h : w.heap[g]? = some (.cells cs e (0, 0))) (j : Nat) (u : Value) (hu : cs[j]? = some u) : w.cell? ⟨g, j, none⟩ = some u := by rw [cell_of_row w g j cs e (0, 0) h]; exact hu
theorem bl_rest (s : ByteArray) (k : Nat) : Lx.bl (s.extract k s.size) = (Lx.bl s).drop k := by
  rw [Lx.bl_extract, List.take_of_length_le (by simp [Lx.length_bl])]
theorem news_of {w : World} {g : Nat} {cs : Array Value} {e : TypeId} {fr : Nat × Nat} (h : w.heap[g]? = some (.cells cs e fr)) : ∀ j u, cs.toList[j]? = some u → w.cell? ((⟨g, 0, none⟩ : Addr).add j) = some u := by
  intro j u hu
  have hadd : (⟨g, 0, none⟩ : Addr).add j = ⟨g, j, none⟩ := by unfold Addr.add; split <;> simp_all
  rw [hadd, cell_of_row w g j cs e fr h]
  simpa using hu
theorem news_alloc (w : World) (cs : Array Value) (e : TypeId) (g : Nat) (h : w.heap.size = g) : ∀ j u, cs.toList[j]? = some u → (w.alloc (.cells cs e)).cell? ((⟨g, 0, none⟩ : Addr).add j) = some u := by
  subst h
  exact news_of (heap_alloc_new w _)
theorem info5 : (Try.prog.info? 5).map (fun i => (i.zero, i.size, i.bytes)) = some (some (.int .u8 0), 1, 1) := by kernel_rfl
theorem strOfNums_bytes (acc : List UInt8) : strOfNums (acc.map fun b => (b.toNat : Int)) = Lx.str acc := by
  unfold strOfNums Lx.str
  rw [List.map_map]
  have : ((fun n : Int => UInt8.ofNat n.toNat) ∘ fun b : UInt8 => (b.toNat : Int)) = id := by funext b; simp
  rw [this]; simp
theorem bytes_string {w : World} {base : Nat} {ao : Option Addr} {cap : Nat} {acc : List UInt8} (h : w.ownsRow base 5 1 (.slice ao acc.length cap) acc.length (acc.map Lx.byteV)) :
    (convert 44 9 (.slice ao acc.length cap)).run Try.prog w = .ok (.string (Lx.str acc)) w := by
  rcases h.2 with ⟨hv, h0⟩ | ⟨g, cap', cur, hv, _⟩
  · obtain rfl : acc = [] := List.length_eq_zero_iff.1 h0
    simp only [Value.slice.injEq] at hv
    obtain ⟨rfl, _, rfl⟩ := hv
    exact run_convert_bytes_nil w 44 5 Try.underlying44 Try.underlying5 _ _ 9 Try.underlying9
  · simp only [Value.slice.injEq] at hv
    obtain ⟨rfl, _, rfl⟩ := hv
    rw [run_convert_bytes_arg w 44 5 Try.underlying44 Try.underlying5 g 0 acc.length cap (acc.map fun b => (b.toNat : Int)) (by simp) ?_ 9 Try.underlying9, strOfNums_bytes]
    intro i hi
    rw [Nat.zero_add, h.cellAt i (by omega), List.getElem?_map, List.getElem?_eq_getElem hi]
    simp [Lx.byteV, List.getD, List.getElem?_eq_getElem hi]
theorem qrel {w wr w1 : World} {ao : Option Addr} {cap g cap' : Nat} {acc : List UInt8} {b : UInt8} {o o' : Obj}
    (hown : wr.ownsRow (w.heap.size + 1) 5 1 (.slice ao acc.length cap) acc.length (acc.map Lx.byteV))
    (hown1 : w1.ownsRow (w.heap.size + 1) 5 1 (.slice (some ⟨g, 0, none⟩) (acc.length + 1) cap') (acc.length + 1) (acc.map Lx.byteV ++ [Lx.byteV b]))
    (hgrow : (wr.alloc o).grownBy w1 (Value.slice ao acc.length cap).ownBlock)
    (hblk : wr.heap[w.heap.size]? = some o') (hbr : Below w.heap.size w wr) :
    w1.ownsRow (w.heap.size + 1) 5 1 (.slice (some ⟨g, 0, none⟩) (acc ++ [b]).length cap') (acc ++ [b]).length ((acc ++ [b]).map Lx.byteV) ∧
      w1.heap[w.heap.size]? = some o' ∧ Below w.heap.size w w1 := by
  refine ⟨by simpa using hown1, ?_, ?_⟩
  · have hlt : w.heap.size < wr.heap.size := (Array.getElem?_eq_some_iff.1 hblk).1
    rw [hgrow.block w.heap.size (by simp; omega) (fun e => by have := hown.lt _ e.symm; omega), heap_alloc_old wr o hlt, hblk]
  · exact (hbr.alloc hbr.size o).grown hgrow (by have := hbr.size; simp; omega) (fun k hk => by have := hown.lt _ hk; omega)
set_option maxRecDepth 100000 in
set_option maxHeartbeats 800000 in
theorem quoted_any (s : ByteArray) (w : World) (hs : s.size ≤ 1000000) (h0 : 0 < s.size) :
    Calls Try.prog 27 #[.string s] w fun e w' => e = .returned (Lx.tokV (Lx.quotedTok (Lx.bl s))) ∧ Below w.heap.size w w' := by
  obtain ⟨i0, hi, hz0, hz1, hz2⟩ := info_parts info5
  go_enter Try.func27, Try.ntmps27
  go_wp2_with fail
  go_loopw [5, 6, 7, 8] (fun v at' _ _ wr => ∃ (k : Nat) (acc : List UInt8) (ao : Option Addr) (cap : Nat), 1 ≤ k ∧ k ≤ s.size ∧ acc.length ≤ k ∧ at' = .int .i64 k ∧ v = .slice ao acc.length cap ∧
      wr.ownsRow (w.heap.size + 1) 5 1 (.slice ao acc.length cap) acc.length (acc.map Lx.byteV) ∧ Lx.quotedTok (Lx.bl s) = Lx.qt ((Lx.bl s).drop k) k acc ∧
      wr.heap[w.heap.size]? = some (.cells #[.int .i64 0, .int .i64 0, .string ⟨#[]⟩] 34 (0, 0)) ∧ Below w.heap.size w wr)
    (fun _ at' _ _ _ => s.size - (intOf at').toNat)
  case atStart => exact ⟨1, [], none, 0, by omega, by omega, by simp, rfl, rfl, World.ownsRow_nil _ _ _ _, rfl, heap_alloc_new _ _, (Below.refl _ _).alloc (Nat.le_refl _) _⟩
  case round =>
    obtain ⟨k, acc, ao, cap, hk1, hk, hak, rfl, rfl, hown, hq, hblk, hbr⟩ := hrel
    have c0 := cell_of_block hblk 0 (.int .i64 0) rfl
    have c1 := cell_of_block hblk 1 (.int .i64 0) rfl
    have c2 := cell_of_block hblk 2 (.string ⟨#[]⟩) rfl
    have f0 := free_of_block hblk 0
    have f1 := free_of_block hblk 1
    have f2 := free_of_block hblk 2
    by_cases hlt : k < s.size
    · have hd := Lx.bl_drop s k hlt
      have hq' := hq
      rw [hd, Lx.qt_cons, ← hd] at hq'
      by_cases h34 : s[k].toNat = 34
      · have g34 : ((s[k].toNat : Int) == 34) = true := by simp; omega
        rw [if_pos h34] at hq'
        have hcv := bytes_string hown
        by_cases h40 : acc.length > 40
        · have E : Hid (Lx.tokV (Lx.quotedTok (Lx.bl s)) = .tuple #[.agg #[.int .i64 0, .int .i64 0, .string ⟨#[]⟩], .int .i64 0, .iface 36 (.int .i64 1)]) := by
            show _ = _; rw [hq', if_pos h40]; rfl
          clear hq hq' hd h34 hblk
          go_wp2_with fail
          exact bodyPost_ret (v := .tuple #[.agg #[.int .i64 0, .int .i64 0, .string ⟨#[]⟩], .int .i64 0, .iface 36 (.int .i64 1)]) (by simp [results, Try.results27, go_sem, c0, c1, c2]) rfl ⟨congrArg Ending.returned E.out.symm, ((hbr.setCell (p := ⟨w.heap.size, 0, none⟩) (Nat.le_refl _) _).setCell (p := ⟨w.heap.size, 1, none⟩) (Nat.le_refl _) _).setCell (p := ⟨w.heap.size, 2, none⟩) (Nat.le_refl _) _⟩
        · have E : Hid (Lx.tokV (Lx.quotedTok (Lx.bl s)) = .tuple #[.agg #[.int .i64 3, .int .i64 0, .string (Lx.str acc)], .int .i64 (k + 1), .nilIface]) := by
            show _ = _; rw [hq', if_neg h40]; rfl
          clear hq hq' hd h34 hblk
          go_wp2_with fail
          exact bodyPost_ret (v := .tuple #[.agg #[.int .i64 3, .int .i64 0, .string (Lx.str acc)], .int .i64 (k + 1), .nilIface]) (by simp [results, Try.results27, go_sem, c0, c1, c2]) rfl ⟨congrArg Ending.returned E.out.symm, ((hbr.setCell (p := ⟨w.heap.size, 0, none⟩) (Nat.le_refl _) _).setCell (p := ⟨w.heap.size, 1, none⟩) (Nat.le_refl _) _).setCell (p := ⟨w.heap.size, 2, none⟩) (Nat.le_refl _) _⟩
      · have g34 : ((s[k].toNat : Int) == 34) = false := by simp; omega
        rw [if_neg h34] at hq'
        have hle := Lx.unq_le ((Lx.bl s).drop k) (by rw [hd]; simp)
        rw [List.length_drop, Lx.length_bl] at hle
        have hx := fun w => unquoted_any (s.extract k s.size) w (by simp; omega) (by simp; omega)
        rw [bl_rest] at hx
        generalize Lx.unq ((Lx.bl s).drop k) = u at *
        obtain ⟨b, n⟩ := u
        have HX : Hid _ := hx
        clear hx
        by_cases hn : n = 0
        · have E : Hid (Lx.tokV (Lx.quotedTok (Lx.bl s)) = .tuple #[.agg #[.int .i64 0, .int .i64 0, .string ⟨#[]⟩], .int .i64 0, .iface 36 (.int .i64 4)]) := by
            show _ = _; rw [hq', if_pos hn]; rfl
          subst hn
          clear hq hq' hd h34 hblk
          go_wp2_with (go_at_call 32; refine (HX.out _).mono ?_; rintro e w' ⟨rfl, rfl⟩)
          exact bodyPost_ret (v := .tuple #[.agg #[.int .i64 0, .int .i64 0, .string ⟨#[]⟩], .int .i64 0, .iface 36 (.int .i64 4)]) (by simp [results, Try.results27, go_sem, c0, c1, c2]) rfl ⟨congrArg Ending.returned E.out.symm, ((hbr.setCell (p := ⟨w.heap.size, 0, none⟩) (Nat.le_refl _) _).setCell (p := ⟨w.heap.size, 1, none⟩) (Nat.le_refl _) _).setCell (p := ⟨w.heap.size, 2, none⟩) (Nat.le_refl _) _⟩
        · have E : Hid (Lx.quotedTok (Lx.bl s) = Lx.qt ((Lx.bl s).drop (k + n)) (k + n) (acc ++ [b])) := by
            show _ = _; rw [hq', if_neg hn, List.drop_drop]
          have gn : ((n : Int) == 0) = false := by simp; omega
          simp only at hle
          have HB : Hid _ := hblk
          clear hq hq' hd h34 hblk c0 c1 c2 f0 f1 f2
          go_wp2_with (first
            | (go_at_call 32; refine (HX.out _).mono ?_; rintro e w' ⟨rfl, rfl⟩)
            | (at_builtin; go_must (refine wpList_append_lies _ rfl (.tmp 36) (.tmp 38) 44 rfl (w.heap.size + 1) 5 i0 (.int .u8 0) 1 1 Try.underlying44 hi hz0 hz1 hz2 rfl (by decide) _ acc.length (acc.map Lx.byteV) rfl (hown.alloc _) ⟨w'.heap.size, 0, none⟩ 1 1 [Lx.byteV b] rfl rfl (news_alloc _ _ _ _ rfl) (by simp [Lx.byteV, Value.oneCell']) (by decide) (by unfold maxLen; omega) (by omega) (by have := hbr.size; simp; omega) _ rfl ?_); intro g cap' w1 hown1 hgrow hat hlt1))
          have R := qrel hown hown1 hgrow HB.out hbr
          go_roundw
          case rel => exact ⟨k + n, acc ++ [b], some ⟨g, 0, none⟩, cap', by omega, by omega, by simp; omega, by go_num, by simp, R.1, E.out, R.2.1, R.2.2⟩
          case measure => simp [intOf]; omega
    · have E : Hid (Lx.tokV (Lx.quotedTok (Lx.bl s)) = .tuple #[.agg #[.int .i64 0, .int .i64 0, .string ⟨#[]⟩], .int .i64 0, .iface 36 (.int .i64 4)]) := by
        show _ = _; rw [hq, Lx.bl_drop_end s k hlt, Lx.qt_nil]; rfl
      clear hq hblk
      go_wp2_with fail
      exact bodyPost_ret (v := .tuple #[.agg #[.int .i64 0, .int .i64 0, .string ⟨#[]⟩], .int .i64 0, .iface 36 (.int .i64 4)]) (by simp [results, Try.results27, go_sem, c0, c1, c2]) rfl ⟨congrArg Ending.returned E.out.symm, ((hbr.setCell (p := ⟨w.heap.size, 0, none⟩) (Nat.le_refl _) _).setCell (p := ⟨w.heap.size, 1, none⟩) (Nat.le_refl _) _).setCell (p := ⟨w.heap.size, 2, none⟩) (Nat.le_refl _) _⟩
end Go.Proofs.Ytplhieahcajjeaa
