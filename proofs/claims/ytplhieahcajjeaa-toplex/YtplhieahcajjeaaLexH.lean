/- What lex.Tokens returns: the tokens, or what is wrong and where. -/
import Derived.Test.YtplhieahcajjeaaLexG
namespace Go.Proofs.Ytplhieahcajjeaa
open Go.RowKit
namespace Lx
/-- The tokens; or where something is wrong, and what. -/
abbrev LexR : Type := Except (Nat × Nat) (List (Nat × Nat × List UInt8))
def toks : Nat → List UInt8 → Nat → List (Nat × Nat × List UInt8) → LexR
  | 0, _, _, acc => .ok acc
  | n + 1, l, k, acc =>
    let a := k + gapLen false (l.drop k)
    let T := firstTok (l.drop a)
    if T.err ≠ 0 then .error (a, T.err) else if T.kind = 0 then .ok acc else toks n l (a + T.size) (acc ++ [(T.kind, a, T.text)])
def lexAll (l : List UInt8) : LexR := if l.length > 4000 then .error (0, 2) else toks (l.length + 1) l 0 []
def tokCells (t : Nat × Nat × List UInt8) : List Value := [.int .i64 t.1, .int .i64 t.2.1, .string (str t.2.2)]
/-- What Tokens hands back in a world. -/
def Handed (B : Nat) (w' : World) (e : Ending) : LexR → Prop
  | .ok l => ∃ ao cap, e = .returned (.tuple #[.slice ao l.length cap, .int .i64 0, .nilIface]) ∧ w'.ownsRow B 34 3 (.slice ao l.length cap) l.length (l.flatMap tokCells)
  | .error (a, f) => e = .returned (.tuple #[.slice none 0 0, .int .i64 a, .iface 36 (.int .i64 f)]) ∧ 0 < f
theorem plen_pos (p : UInt8 → Bool) (c : UInt8) (r : List UInt8) (h : p c = true) : 0 < plen p (c :: r) := by rw [plen, if_pos h]; omega
theorem qt_pos (l : List UInt8) (k : Nat) (acc : List UInt8) (h : (qt l k acc).kind ≠ 0) : 0 < (qt l k acc).size := by
  induction h' : l.length using Nat.strongRecOn generalizing l k acc with
  | ind n ih =>
    cases l with
    | nil => rw [qt_nil] at h; simp [bad] at h
    | cons c r =>
      rw [qt_cons] at h ⊢
      split at h
      · rename_i h34
        rw [if_pos h34]
        split at h
        · simp [bad] at h
        · rename_i h40; rw [if_neg h40]; simp
      · rename_i h34
        rw [if_neg h34]
        split at h
        · simp [bad] at h
        · rename_i hn
          rw [if_neg hn]
          exact ih _ (by rw [← h', List.length_drop]; simp only [List.length_cons]; omega) _ _ _ h rfl
theorem first_pos (l : List UInt8) (h : (firstTok l).kind ≠ 0) : 0 < (firstTok l).size := by
  cases l with
  | nil => exact absurd rfl h
  | cons c r =>
    rw [firstTok] at h ⊢
    cases hl : letter c
    · cases hd : digit c
      · rw [hl, hd] at h
        simp only [Bool.false_eq_true, if_false] at h ⊢
        by_cases hq : c.toNat = 34
        · rw [if_pos hq] at h ⊢; exact qt_pos _ _ _ h
        · rw [if_neg hq] at h ⊢
          rw [signTok] at h ⊢
          split at h
          · rename_i h1; rw [if_pos h1]; simp
          · rename_i h1; rw [if_neg h1]
            split at h
            · simp [bad] at h
            · rename_i h2; rw [if_neg h2]; simp
      · rw [hl, hd] at h
        simp only [Bool.false_eq_true, if_false, if_true] at h ⊢
        rw [digitsTok] at h ⊢
        split at h
        · simp [bad] at h
        · rename_i h1; rw [if_neg h1]; exact plen_pos _ _ _ hd
    · rw [hl] at h
      simp only [if_true] at h ⊢
      rw [wordTok] at h ⊢
      split at h
      · simp [bad] at h
      · rename_i h1; rw [if_neg h1]; exact plen_pos _ _ _ (by simp [wordy, hl])
end Lx
theorem owns_base {w : World} {b b' e n m : Nat} {v : Value} {xs : List Value} (h : w.ownsRow b e m v n xs) (hb : b' ≤ b) : w.ownsRow b' e m v n xs := by
  refine ⟨h.1, ?_⟩
  rcases h.2 with h2 | ⟨g, cap, cur, hv, hg, rest⟩
  · exact .inl h2
  · exact .inr ⟨g, cap, cur, hv, Nat.le_trans hb hg, rest⟩
theorem trel {w w3 w1 : World} {ao : Option Addr} {cap g cap' : Nat} {acc : List (Nat × Nat × List UInt8)} {t : Nat × Nat × List UInt8} {o o' oA oB : Obj}
    (hown3 : w3.ownsRow (w.heap.size + 2) 34 3 (.slice ao acc.length cap) acc.length (acc.flatMap Lx.tokCells))
    (hown1 : w1.ownsRow (w.heap.size + 2) 34 3 (.slice (some ⟨g, 0, none⟩) (acc.length + 1) cap') (acc.length + 1) (acc.flatMap Lx.tokCells ++ Lx.tokCells t))
    (hgrow : ((w3.alloc o).alloc o').grownBy w1 (Value.slice ao acc.length cap).ownBlock)
    (hA3 : w3.heap[w.heap.size + 1]? = some oA) (hB3 : w3.heap[w.heap.size]? = some oB) (hbr3 : Below w.heap.size w w3) :
    w1.ownsRow (w.heap.size + 2) 34 3 (.slice (some ⟨g, 0, none⟩) (acc ++ [t]).length cap') (acc ++ [t]).length ((acc ++ [t]).flatMap Lx.tokCells) ∧
      w1.heap[w.heap.size + 1]? = some oA ∧ w1.heap[w.heap.size]? = some oB ∧ Below w.heap.size w w1 := by
  have l1 : w.heap.size + 1 < w3.heap.size := (Array.getElem?_eq_some_iff.1 hA3).1
  have l2 : w.heap.size < w3.heap.size := (Array.getElem?_eq_some_iff.1 hB3).1
  refine ⟨by simpa using hown1, ?_, ?_, ?_⟩
  · rw [hgrow.block _ (by simp; omega) (fun e => by have := hown3.lt _ e.symm; omega), heap_alloc_old _ _ (by simp; omega), heap_alloc_old _ _ l1, hA3]
  · rw [hgrow.block _ (by simp; omega) (fun e => by have := hown3.lt _ e.symm; omega), heap_alloc_old _ _ (by simp; omega), heap_alloc_old _ _ l2, hB3]
  · exact ((hbr3.alloc hbr3.size o).alloc (by have := hbr3.size; simp; omega) o').grown hgrow (by have := hbr3.size; simp; omega) (fun k hk => by have := hown3.lt _ hk; omega)
theorem info34 : (Try.prog.info? 34).map (fun i => (i.zero, i.size, i.bytes)) = some (some (.agg #[.int .i64 0, .int .i64 0, .string ⟨#[]⟩]), 3, 32) := by kernel_rfl
set_option maxRecDepth 100000 in
set_option maxHeartbeats 400000 in
theorem finder_any (s : ByteArray) (w : World) :
    Calls Try.prog 11 #[.string s] w fun e w' => e = .returned (.func (.func 16) #[] #[.pointer (some ⟨w.heap.size + 1, 0, none⟩), .pointer (some ⟨w.heap.size, 0, none⟩)]) ∧ w' = (w.alloc (.cells #[.string s] 9)).alloc (.cells #[.int .i64 0] 3) := by
  go_enter Try.func11, Try.ntmps11
  go_wp2
  go_ret
  exact ⟨rfl, rfl⟩
set_option maxRecDepth 100000 in
set_option maxHeartbeats 800000 in
theorem tokens_any (s : ByteArray) (w : World) (hs : s.size ≤ 4000) :
    Calls Try.prog 6 #[.string s] w fun e w' => Lx.Handed w.heap.size w' e (Lx.lexAll (Lx.bl s)) ∧ Below w.heap.size w w' := by
  obtain ⟨i0, hi, hz0, hz1, hz2⟩ := info_parts info34
  go_enter Try.func6, Try.ntmps6
  go_wp2_with (go_at_call 11; refine (finder_any s _).mono ?_; rintro e w' ⟨rfl, rfl⟩)
  go_loopw [5, 7, 8] (fun v _ _ wr => ∃ (n k : Nat) (acc : List (Nat × Nat × List UInt8)) (ao : Option Addr) (cap : Nat), k ≤ s.size ∧ s.size < k + n ∧ acc.length ≤ k ∧ v = .slice ao acc.length cap ∧
      wr.ownsRow (w.heap.size + 2) 34 3 (.slice ao acc.length cap) acc.length (acc.flatMap Lx.tokCells) ∧ Lx.lexAll (Lx.bl s) = Lx.toks n (Lx.bl s) k acc ∧
      wr.heap[w.heap.size + 1]? = some (.cells #[.int .i64 k] 3 (0, 0)) ∧ wr.heap[w.heap.size]? = some (.cells #[.string s] 9 (0, 0)) ∧ Below w.heap.size w wr)
    (fun _ _ _ wr => s.size - (intOf ((wr.cell? ⟨w.heap.size + 1, 0, none⟩).getD undef)).toNat)
  case atStart => exact ⟨s.size + 1, 0, [], none, 0, Nat.zero_le _, by omega, by simp, rfl, World.ownsRow_nil _ _ _ _, by rw [Lx.lexAll, Lx.length_bl, if_neg (by omega)], heap_alloc2_new _ _ _, heap_alloc2_old _ _ _, ((Below.refl _ _).alloc (Nat.le_refl _) _).alloc (by simp) _⟩
  case round =>
    obtain ⟨n, k, acc, ao, cap, hk, hn, hak, rfl, hown, hq, hA, hB, hbr⟩ := hrel
    obtain ⟨n, rfl⟩ : ∃ n', n = n' + 1 := ⟨n - 1, by omega⟩
    rw [Lx.toks] at hq

    go_wp2_with fail
    refine (find_any s (w.heap.size + 1) w.heap.size k wr (by omega) hk (by omega) hA hB).mono ?_
    rintro e w3 ⟨a, T, ha, hT, rfl, hA3, hg3⟩
    have h1 := Lx.gap_le false ((Lx.bl s).drop k)
    have h2 := Lx.first_size ((Lx.bl s).drop a)
    have h3 := Lx.first_pos ((Lx.bl s).drop a)
    rw [← ha, ← hT] at hq
    rw [List.length_drop, Lx.length_bl] at h1 h2
    rw [← hT] at h2 h3
    have hka : k ≤ a := by omega
    have has : a + T.size ≤ s.size := by omega
    have lB : w.heap.size < wr.heap.size := (Array.getElem?_eq_some_iff.1 hB).1
    have hB3 := (hg3.block w.heap.size lB (by simp)).trans hB
    have hown3 := hown.kept hg3 (.inr (fun e => by have := hown.lt _ e; omega))
    have hbr3 := hbr.grown hg3 hbr.size (fun j hj => by have := Option.some.inj hj; omega)
    have HAr : Hid (wr.cell? ⟨w.heap.size + 1, 0, none⟩ = some (.int .i64 k)) := cell_of_block hA 0 (.int .i64 k) rfl
    clear ha hT h1 h2 hg3 hown hbr hB hA
    by_cases he : T.err = 0
    · have hev : Lx.errV T.err = .nilIface := by simp [Lx.errV, he]
      rw [hev]
      rw [if_neg (by omega)] at hq
      by_cases hkd : T.kind = 0
      · rw [if_pos hkd] at hq
        have gk : ((T.kind : Int) == 0) = true := by simp; omega
        have HQ : Hid _ := hq
        clear hq hev he hkd h3
        go_wp2_with fail
        go_ret3
        refine ⟨?_, hbr3.alloc hbr3.size _⟩
        rw [HQ.out]
        exact ⟨ao, cap, rfl, owns_base (hown3.alloc _) (by omega)⟩
      · rw [if_neg hkd] at hq
        have gk : ((T.kind : Int) == 0) = false := by simp; omega
        have hpos := h3 hkd
        have HQ : Hid _ := hq
        have HA3 : Hid _ := hA3
        have HB3 : Hid _ := hB3
        clear hq hev he hkd h3 hA3 hB3
        go_wp2_with (at_builtin; go_must (refine wpList_append_lies _ rfl (.tmp 29) (.tmp 31) 23 rfl (w.heap.size + 2) 34 i0 (.agg #[.int .i64 0, .int .i64 0, .string ⟨#[]⟩]) 3 32 Try.underlying23 hi hz0 hz1 hz2 rfl (by decide) (.slice ao acc.length cap) acc.length (acc.flatMap Lx.tokCells) rfl ((hown3.alloc _).alloc _) ⟨w3.heap.size + 1, 0, none⟩ 1 1 (Lx.tokCells (T.kind, a, T.text)) rfl rfl (news_alloc _ #[.int .i64 T.kind, .int .i64 a, .string (Lx.str T.text)] _ _ (by simp)) (by simp [Lx.tokCells, Value.oneCell']) (by decide) (by unfold maxLen; omega) (by omega) (by have := hbr3.size; simp; omega) _ rfl ?_); intro g cap' w1 hown1 hgrow hat hlt1)
        have R := trel hown3 hown1 hgrow HA3.out HB3.out hbr3
        go_roundw
        case rel => exact ⟨n, a + T.size, acc ++ [(T.kind, a, T.text)], some ⟨g, 0, none⟩, cap', by omega, by omega, by simp; omega, by simp, R.1, HQ.out, R.2.1, R.2.2.1, R.2.2.2⟩
        case measure =>
          rw [cell_of_block R.2.1 0 (.int .i64 (a + T.size : Nat)) rfl, HAr.out]
          simp only [Option.getD_some, intOf, Int.toNat_natCast]
          omega
    · have hev : Lx.errV T.err = .iface 36 (.int .i64 T.err) := by simp [Lx.errV, he]
      rw [hev]
      rw [if_pos he] at hq
      have HQ : Hid _ := hq
      clear hq hev h3
      go_wp2_with fail
      go_quiet (fail)
      go_wp2_with fail
      go_ret3
      refine ⟨?_, below_drewN (hbr3.alloc hbr3.size _) _⟩
      rw [HQ.out]
      exact ⟨rfl, by omega⟩
set_option maxRecDepth 100000 in
set_option maxHeartbeats 800000 in
theorem tokens_long (s : ByteArray) (w : World) (hs : 4000 < s.size) :
    Calls Try.prog 6 #[.string s] w fun e w' => Lx.Handed w.heap.size w' e (Lx.lexAll (Lx.bl s)) ∧ Below w.heap.size w w' := by
  have HQ : Hid (Lx.lexAll (Lx.bl s) = .error (0, 2)) := by show _ = _; rw [Lx.lexAll, Lx.length_bl, if_pos hs]
  go_enter Try.func6, Try.ntmps6
  go_wp2_with fail
  go_ret3
  refine ⟨?_, Below.refl _ _⟩
  rw [HQ.out]
  exact ⟨rfl, by omega⟩
theorem tokens_all (s : ByteArray) (w : World) :
    Calls Try.prog 6 #[.string s] w fun e w' => Lx.Handed w.heap.size w' e (Lx.lexAll (Lx.bl s)) ∧ Below w.heap.size w w' := by
  rcases Nat.lt_or_ge 4000 s.size with h | h
  · exact tokens_long s w h
  · exact tokens_any s w h
end Go.Proofs.Ytplhieahcajjeaa
