/- StateSays: LexH LexM TopC. -/
import Derived.Test.YtcekcfjabhlheaaGreatDoorLexG
set_option maxRecDepth 100000
set_option maxHeartbeats 800000
namespace Go.Proofs.YtcekcfjabhlheaaGreatDoor
open Go.RowKit
namespace Lx
abbrev LexR : Type := Except (Nat × Nat) (List (Nat × Nat × List UInt8))
def toks : Nat -> List UInt8 -> Nat -> List (Nat × Nat × List UInt8) -> LexR
 | 0, _, _, acc => .ok acc
 | n + 1, l, k, acc =>
  let a := k + gapLen false (l.drop k)
  let T := firstTok (l.drop a)
  if T.err ≠ 0 then .error (a, T.err) else if T.kind = 0 then .ok acc else toks n l (a + T.size) (acc ++ [(T.kind, a, T.text)])
def lexAll (l : List UInt8) : LexR := if l.length > 4000 then .error (0, 2) else toks (l.length + 1) l 0 []
def tokCells (t : Nat × Nat × List UInt8) : List Value := [.int .i64 t.1, .int .i64 t.2.1, .string (str t.2.2)]
def Handed (B : Nat) (w' : World) (e : Ending) : LexR -> Prop
 | .ok l => ∃ ao cap, e = .returned (.tuple #[.slice ao l.length cap, .int .i64 0, .nilIface]) /\ w'.ownsRow B 218 3 (.slice ao l.length cap) l.length (l.flatMap tokCells)
 | .error (a, f) => e = .returned (.tuple #[.slice none 0 0, .int .i64 a, .iface 54 (.int .i64 f)]) /\ 0 < f
theorem plen_pos (p : UInt8 -> Bool) (c : UInt8) (r : List UInt8) (h : p c = true) : 0 < plen p (c :: r) := by rw [plen, if_pos h]; omega
theorem qt_pos (l : List UInt8) (k : Nat) (acc : List UInt8) (h : (qt l k acc).kind ≠ 0) : 0 < (qt l k acc).size := by
 induction h' : l.length using Nat.strongRecOn generalizing l k acc with
 | ind n ih =>
  cases l with
  | nil => rw [qt_nil] at h; simp [bad] at h
  | cons c r =>
   rw [qt_cons] at h ⊢;split at h
   ·rename_i h34;rw [if_pos h34];split at h
    ·simp [bad] at h
    ·rename_i h40; rw [if_neg h40]; simp
   ·rename_i h34;rw [if_neg h34];split at h
    ·simp [bad] at h
    ·rename_i hn;rw [if_neg hn];exact ih _ (by rw [<- h', List.length_drop]; simp only [List.length_cons]; omega) _ _ _ h rfl
theorem first_pos (l : List UInt8) (h : (firstTok l).kind ≠ 0) : 0 < (firstTok l).size := by
 cases l with
 | nil => exact absurd rfl h
 | cons c r =>
  rw [firstTok] at h ⊢;cases hl : letter c
  ·cases hd : digit c
   ·rw [hl, hd] at h;simp only [Bool.false_eq_true, if_false] at h ⊢;by_cases hq : c.toNat = 34
    ·rw [if_pos hq] at h ⊢; exact qt_pos _ _ _ h
    ·rw [if_neg hq] at h ⊢;rw [signTok] at h ⊢;split at h
     ·rename_i h1; rw [if_pos h1]; simp
     ·rename_i h1; rw [if_neg h1];split at h
      ·simp [bad] at h
      ·rename_i h2; rw [if_neg h2]; simp
   ·rw [hl, hd] at h;simp only [Bool.false_eq_true, if_false, if_true] at h ⊢;rw [digitsTok] at h ⊢;split at h
    ·simp [bad] at h
    ·rename_i h1; rw [if_neg h1]; exact plen_pos _ _ _ hd
  ·rw [hl] at h;simp only [if_true] at h ⊢;rw [wordTok] at h ⊢;split at h
   ·simp [bad] at h
   ·rename_i h1; rw [if_neg h1]; exact plen_pos _ _ _ (by simp [wordy, hl])
end Lx
theorem owns_base {w : World} {b b' e n m : Nat} {v : Value} {xs : List Value} (h : w.ownsRow b e m v n xs) (hb : b' <= b) : w.ownsRow b' e m v n xs := by
 refine ⟨h.1, ?_⟩;rcases h.2 with h2 | ⟨g, cap, cur, hv, hg, rest⟩
 ·exact .inl h2
 ·exact .inr ⟨g, cap, cur, hv, Nat.le_trans hb hg, rest⟩
theorem trel {w w3 w1 : World} {ao : Option Addr} {cap g cap' : Nat} {acc : List (Nat × Nat × List UInt8)} {t : Nat × Nat × List UInt8} {o o' oA oB : Obj}
  (hown3 : w3.ownsRow (w.heap.size + 2) 218 3 (.slice ao acc.length cap) acc.length (acc.flatMap Lx.tokCells))
  (hown1 : w1.ownsRow (w.heap.size + 2) 218 3 (.slice (some ⟨g, 0, none⟩) (acc.length + 1) cap') (acc.length + 1) (acc.flatMap Lx.tokCells ++ Lx.tokCells t))
  (hgrow : ((w3.alloc o).alloc o').grownBy w1 (Value.slice ao acc.length cap).ownBlock)
  (hA3 : w3.heap[w.heap.size + 1]? = some oA) (hB3 : w3.heap[w.heap.size]? = some oB) (hbr3 : Below w.heap.size w w3) :
  w1.ownsRow (w.heap.size + 2) 218 3 (.slice (some ⟨g, 0, none⟩) (acc ++ [t]).length cap') (acc ++ [t]).length ((acc ++ [t]).flatMap Lx.tokCells) /\
   w1.heap[w.heap.size + 1]? = some oA /\ w1.heap[w.heap.size]? = some oB /\ Below w.heap.size w w1 := by
 have l1 : w.heap.size + 1 < w3.heap.size := (Array.getElem?_eq_some_iff.1 hA3).1;have l2 : w.heap.size < w3.heap.size := (Array.getElem?_eq_some_iff.1 hB3).1;refine ⟨by simpa using hown1, ?_, ?_, ?_⟩
 ·rw [hgrow.block _ (by simp; omega) (fun e => by have := hown3.lt _ e.symm; omega), heap_alloc_old _ _ (by simp; omega), heap_alloc_old _ _ l1, hA3]
 ·rw [hgrow.block _ (by simp; omega) (fun e => by have := hown3.lt _ e.symm; omega), heap_alloc_old _ _ (by simp; omega), heap_alloc_old _ _ l2, hB3]
 ·exact ((hbr3.alloc hbr3.size o).alloc (by have := hbr3.size; simp; omega) o').grown hgrow (by have := hbr3.size; simp; omega) (fun k hk => by have := hown3.lt _ hk; omega)
theorem info34 : (Tryz.prog.info? 218).map (fun i => (i.zero, i.size, i.bytes)) = some (some (.agg #[.int .i64 0, .int .i64 0, .string ⟨#[]⟩]), 3, 32) := by kernel_rfl
theorem finder_any (s : ByteArray) (w : World) :
  Calls Tryz.prog 171 #[.string s] w fun e w' => e = .returned (.func (.func 193) #[] #[.pointer (some ⟨w.heap.size + 1, 0, none⟩), .pointer (some ⟨w.heap.size, 0, none⟩)]) /\ w' = (w.alloc (.cells #[.string s] 9)).alloc (.cells #[.int .i64 0] 3) := by
 go_enter Tryz.func171, Tryz.ntmps171
 go_wp2
 go_ret;exact ⟨rfl, rfl⟩
theorem tokens_any (s : ByteArray) (w : World) (hs : s.size <= 4000) :
  Calls Tryz.prog 161 #[.string s] w fun e w' => Lx.Handed w.heap.size w' e (Lx.lexAll (Lx.bl s)) /\ Below w.heap.size w w' := by
 obtain ⟨i0, hi, hz0, hz1, hz2⟩ := info_parts info34;go_enter Tryz.func161, Tryz.ntmps161;go_wp2_with (go_at_call 171; refine (finder_any s _).mono ?_; rintro e w' ⟨rfl, rfl⟩);go_loopw [5, 7, 8] (fun v _ _ wr => ∃ (n k : Nat) (acc : List (Nat × Nat × List UInt8)) (ao : Option Addr) (cap : Nat), k <= s.size /\ s.size < k + n /\ acc.length <= k /\ v = .slice ao acc.length cap /\
   wr.ownsRow (w.heap.size + 2) 218 3 (.slice ao acc.length cap) acc.length (acc.flatMap Lx.tokCells) /\ Lx.lexAll (Lx.bl s) = Lx.toks n (Lx.bl s) k acc /\
   wr.heap[w.heap.size + 1]? = some (.cells #[.int .i64 k] 3 (0, 0)) /\ wr.heap[w.heap.size]? = some (.cells #[.string s] 9 (0, 0)) /\ Below w.heap.size w wr)
  (fun _ _ _ wr => s.size - (intOf ((wr.cell? ⟨w.heap.size + 1, 0, none⟩).getD undef)).toNat)
 case atStart => exact ⟨s.size + 1, 0, [], none, 0, Nat.zero_le _, by omega, by simp, rfl, World.ownsRow_nil _ _ _ _, by rw [Lx.lexAll, Lx.length_bl, if_neg (by omega)], heap_alloc2_new _ _ _, heap_alloc2_old _ _ _, ((Below.refl _ _).alloc (Nat.le_refl _) _).alloc (by simp) _⟩
 case round =>
  obtain ⟨n, k, acc, ao, cap, hk, hn, hak, rfl, hown, hq, hA, hB, hbr⟩ := hrel;obtain ⟨n, rfl⟩ : ∃ n', n = n' + 1 := ⟨n - 1, by omega⟩
  rw [Lx.toks] at hq;go_wp2_with fail;refine (find_any s (w.heap.size + 1) w.heap.size k wr (by omega) hk (by omega) hA hB).mono ?_;rintro e w3 ⟨a, T, ha, hT, rfl, hA3, hg3⟩;have h1 := Lx.gap_le false ((Lx.bl s).drop k);have h2 := Lx.first_size ((Lx.bl s).drop a);have h3 := Lx.first_pos ((Lx.bl s).drop a);rw [<- ha, <- hT] at hq;rw [List.length_drop, Lx.length_bl] at h1 h2;rw [<- hT] at h2 h3;have hka : k <= a := by omega
  have has : a + T.size <= s.size := by omega
  have lB : w.heap.size < wr.heap.size := (Array.getElem?_eq_some_iff.1 hB).1;have hB3 := (hg3.block w.heap.size lB (by simp)).trans hB;have hown3 := hown.kept hg3 (.inr (fun e => by have := hown.lt _ e; omega));have hbr3 := hbr.grown hg3 hbr.size (fun j hj => by have := Option.some.inj hj; omega);have HAr : Hid (wr.cell? ⟨w.heap.size + 1, 0, none⟩ = some (.int .i64 k)) := cell_of_block hA 0 (.int .i64 k) rfl;clear ha hT h1 h2 hg3 hown hbr hB hA;by_cases he : T.err = 0
  ·have hev : Lx.errV T.err = .nilIface := by simp [Lx.errV, he]
   rw [hev];rw [if_neg (by omega)] at hq;by_cases hkd : T.kind = 0
   ·rw [if_pos hkd] at hq;have gk : ((T.kind : Int) == 0) = true := by simp; omega
    have HQ : Hid _ := hq;clear hq hev he hkd h3;go_wp2_with fail
    go_ret3
    refine ⟨?_, hbr3.alloc hbr3.size _⟩;rw [HQ.out];exact ⟨ao, cap, rfl, owns_base (hown3.alloc _) (by omega)⟩
   ·rw [if_neg hkd] at hq;have gk : ((T.kind : Int) == 0) = false := by simp; omega
    have hpos := h3 hkd;have HQ : Hid _ := hq;have HA3 : Hid _ := hA3;have HB3 : Hid _ := hB3;clear hq hev he hkd h3 hA3 hB3;go_wp2_with (at_builtin; go_must (refine wpList_append_lies _ rfl (.tmp 29) (.tmp 31) 211 rfl (w.heap.size + 2) 218 i0 (.agg #[.int .i64 0, .int .i64 0, .string ⟨#[]⟩]) 3 32 Tryz.underlying211 hi hz0 hz1 hz2 rfl (by decide) (.slice ao acc.length cap) acc.length (acc.flatMap Lx.tokCells) rfl ((hown3.alloc _).alloc _) ⟨w3.heap.size + 1, 0, none⟩ 1 1 (Lx.tokCells (T.kind, a, T.text)) rfl rfl (news_alloc _ #[.int .i64 T.kind, .int .i64 a, .string (Lx.str T.text)] _ _ (by simp)) (by simp [Lx.tokCells, Value.oneCell']) (by decide) (by unfold maxLen; omega) (by omega) (by have := hbr3.size; simp; omega) _ rfl ?_); intro g cap' w1 hown1 hgrow hat hlt1);have R := trel hown3 hown1 hgrow HA3.out HB3.out hbr3;go_roundw
    case rel => exact ⟨n, a + T.size, acc ++ [(T.kind, a, T.text)], some ⟨g, 0, none⟩, cap', by omega, by omega, by simp; omega, by simp, R.1, HQ.out, R.2.1, R.2.2.1, R.2.2.2⟩
    case measure =>
     rw [cell_of_block R.2.1 0 (.int .i64 (a + T.size : Nat)) rfl, HAr.out];simp only [Option.getD_some, intOf, Int.toNat_natCast];omega
  ·have hev : Lx.errV T.err = .iface 54 (.int .i64 T.err) := by simp [Lx.errV, he]
   rw [hev];rw [if_pos he] at hq;have HQ : Hid _ := hq;clear hq hev h3;go_wp2_with fail;go_quiet (fail);go_wp2_with fail
   go_ret3
   refine ⟨?_, below_drewN (hbr3.alloc hbr3.size _) _⟩;rw [HQ.out];exact ⟨rfl, by omega⟩
theorem tokens_long (s : ByteArray) (w : World) (hs : 4000 < s.size) :
  Calls Tryz.prog 161 #[.string s] w fun e w' => Lx.Handed w.heap.size w' e (Lx.lexAll (Lx.bl s)) /\ Below w.heap.size w w' := by
 have HQ : Hid (Lx.lexAll (Lx.bl s) = .error (0, 2)) := by show _ = _; rw [Lx.lexAll, Lx.length_bl, if_pos hs]
 go_enter Tryz.func161, Tryz.ntmps161;go_wp2_with fail
 go_ret3
 refine ⟨?_, Below.refl _ _⟩;rw [HQ.out];exact ⟨rfl, by omega⟩
theorem tokens_all (s : ByteArray) (w : World) :
  Calls Tryz.prog 161 #[.string s] w fun e w' => Lx.Handed w.heap.size w' e (Lx.lexAll (Lx.bl s)) /\ Below w.heap.size w w' := by
 rcases Nat.lt_or_ge 4000 s.size with h | h
 ·exact tokens_long s w h
 ·exact tokens_any s w h
end Go.Proofs.YtcekcfjabhlheaaGreatDoor
namespace Go.Proofs.YtcekcfjabhlheaaGreatDoor
namespace Lx
theorem skips_false (b : UInt8) : skips false b = (decide (b.toNat = 35) || decide (b.toNat = 32) || decide (b.toNat = 10)) := by
 unfold skips nextR;by_cases h1 : b.toNat = 35
 ·simp [h1]
 ·by_cases h2 : b.toNat = 10
  ·simp [h2]
  ·simp [h1, h2]
theorem qt_kind (l : List UInt8) (k : Nat) (acc : List UInt8) (h : (qt l k acc).err = 0) : (qt l k acc).kind = 3 := by
 induction h' : l.length using Nat.strongRecOn generalizing l k acc with
 | ind n ih =>
  cases l with
  | nil => rw [qt_nil] at h; simp [bad] at h
  | cons c r =>
   rw [qt_cons] at h ⊢;split at h
   ·rename_i h34;rw [if_pos h34];split at h
    ·simp [bad] at h
    ·rename_i h40; rw [if_neg h40]
   ·rename_i h34;rw [if_neg h34];split at h
    ·simp [bad] at h
    ·rename_i hn;rw [if_neg hn];exact ih _ (by rw [<- h', List.length_drop]; simp only [List.length_cons]; omega) _ _ _ h rfl
end Lx
namespace Lx
def hexPair (c : UInt8) : List UInt8 := [hexes.getD (c.toNat / 16) 0, hexes.getD (c.toNat % 16) 0]
def quoteByte (c : UInt8) : List UInt8 :=
 if c.toNat = 34 \/ c.toNat = 92 then [92, c] else if c.toNat < 32 \/ 126 < c.toNat then [92, 120] ++ hexPair c else [c]
def quote (l : List UInt8) : List UInt8 := [34] ++ l.flatMap quoteByte ++ [34]
def rend (k : Nat) (t : List UInt8) : List UInt8 := if k = 3 then quote t else t
def Valid (k : Nat) (t : List UInt8) : Prop := k ≠ 0 /\ ∃ r n, firstTok r = ⟨k, t, n, 0⟩
theorem is_digit' (b : UInt8) (h : digit b = true) : 48 <= b.toNat /\ b.toNat <= 57 := by simpa [digit] using h
theorem is_letter' (b : UInt8) (h : letter b = true) : 97 <= b.toNat /\ b.toNat <= 122 := by simpa [letter] using h
theorem plen_all (p : UInt8 -> Bool) (u : List UInt8) (c : UInt8) (hc : p c = false) : ∀ l : List UInt8, (∀ b ∈ l, p b = true) -> plen p (l ++ c :: u) = l.length
 | [], _ => by simp [plen, hc]
 | b :: r, h => by
  rw [List.cons_append, plen, if_pos (h b (by simp)), plen_all p u c hc r (fun x hx => h x (by simp [hx]))]; rfl
theorem plen_take (p : UInt8 -> Bool) : ∀ l : List UInt8, ∀ b ∈ l.take (plen p l), p b = true
 | [], b, h => by simp [plen] at h
 | c :: r, b, h => by
  rw [plen] at h;split at h
  ·rename_i hc;rw [List.take_succ_cons, List.mem_cons] at h;rcases h with rfl | h
   ·exact hc
   ·exact plen_take p r b h
  ·simp at h
theorem length_take_plen (p : UInt8 -> Bool) (l : List UInt8) : (l.take (plen p l)).length = plen p l := by
 rw [List.length_take]; have := plen_le p l; omega
theorem word_again (c : UInt8) (r u : List UInt8) (hl : letter c = true) (h : ¬ plen wordy (c :: r) > 12) :
  firstTok ((c :: r).take (plen wordy (c :: r)) ++ 10 :: u) = ⟨1, (c :: r).take (plen wordy (c :: r)), ((c :: r).take (plen wordy (c :: r))).length, 0⟩ := by
 have hw : wordy c = true := by simp [wordy, hl]
 have hp : plen wordy (c :: r) = plen wordy r + 1 := by rw [plen, if_pos hw]
 have hall := plen_take wordy (c :: r);have hlen := length_take_plen wordy (c :: r);generalize ht : (c :: r).take (plen wordy (c :: r)) = t at *;obtain ⟨t', rfl⟩ : ∃ t', t = c :: t' := ⟨r.take (plen wordy r), by rw [<- ht, hp, List.take_succ_cons]⟩
 have hpl := plen_all wordy u 10 (by decide) (c :: t') hall;rw [List.cons_append, firstTok, if_pos hl, wordTok, <- List.cons_append, hpl, if_neg (by omega), List.take_left'];rfl
theorem digits_again (c : UInt8) (r u : List UInt8) (hl : letter c = false) (hd : digit c = true) (h : ¬ (plen digit (c :: r) > 10 \/ plen digit (c :: r) > 1 /\ c = 48)) :
  firstTok ((c :: r).take (plen digit (c :: r)) ++ 10 :: u) = ⟨2, (c :: r).take (plen digit (c :: r)), ((c :: r).take (plen digit (c :: r))).length, 0⟩ := by
 have hp : plen digit (c :: r) = plen digit r + 1 := by rw [plen, if_pos hd]
 have hall := plen_take digit (c :: r);have hlen := length_take_plen digit (c :: r);generalize ht : (c :: r).take (plen digit (c :: r)) = t at *;obtain ⟨t', rfl⟩ : ∃ t', t = c :: t' := ⟨r.take (plen digit r), by rw [<- ht, hp, List.take_succ_cons]⟩
 have hpl := plen_all digit u 10 (by decide) (c :: t') hall;rw [List.cons_append, firstTok, if_neg (by simp [hl]), if_pos hd, digitsTok, <- List.cons_append, hpl, if_neg (by rw [hlen]; exact h), List.take_left'];rfl
theorem sign_again (c : UInt8) (r u : List UInt8) (hl : letter c = false) (hd : digit c = false) (hq : ¬ c.toNat = 34) (T : Tok) (hT : signTok (c :: r) = T) (he : T.err = 0) :
  firstTok (T.text ++ 10 :: u) = ⟨T.kind, T.text, T.text.length, 0⟩ /\ T.kind = 4 /\ (∃ t', T.text = c :: t') /\ (¬ c.toNat = 32 /\ ¬ c.toNat = 10 /\ ¬ c.toNat = 35) /\ T.text.length <= 40 := by
 rw [signTok] at hT;by_cases h2 : (c :: r).take 2 = [61, 61]
 ·rw [if_pos h2, h2] at hT;subst hT;have hc : c = 61 := by
   cases r with
   | nil => simp at h2
   | cons d r' => simp at h2; exact h2.1
  subst hc;exact ⟨rfl, rfl, ⟨[61], rfl⟩, by decide, by decide⟩
 ·rw [if_neg h2] at hT;by_cases hi : Lib.indexByte signList ((c :: r).headD 0) < 0
  ·rw [if_pos hi] at hT; subst hT; simp [bad] at he
  ·rw [if_neg hi] at hT;subst hT;have hne : ∀ d : UInt8, Lib.indexByte signList d < 0 -> ¬ c = d := fun d hd e => hi (by rw [e]; exact hd)
   refine ⟨?_, rfl, ⟨[], rfl⟩, ⟨fun e => hne 32 (by decide) (UInt8.toNat_inj.1 e), fun e => hne 10 (by decide) (UInt8.toNat_inj.1 e), fun e => hne 35 (by decide) (UInt8.toNat_inj.1 e)⟩, by simp⟩;show firstTok ([c] ++ 10 :: u) = ⟨4, [c], 1, 0⟩;rw [List.cons_append, List.nil_append, firstTok, if_neg (by simp [hl]), if_neg (by simp [hd]), if_neg hq, signTok, if_neg (by simp), if_neg (show ¬ Lib.indexByte signList ((c :: 10 :: u).headD 0) < 0 from hi)];rfl
theorem hex_getD (n : Nat) (h : n < 16) : hex (hexes.getD n 0) = n := by
 match n, h with
 | 0, _ => rfl
 | 1, _ => rfl
 | 2, _ => rfl
 | 3, _ => rfl
 | 4, _ => rfl
 | 5, _ => rfl
 | 6, _ => rfl
 | 7, _ => rfl
 | 8, _ => rfl
 | 9, _ => rfl
 | 10, _ => rfl
 | 11, _ => rfl
 | 12, _ => rfl
 | 13, _ => rfl
 | 14, _ => rfl
 | 15, _ => rfl
 | n + 16, h => exact absurd h (by omega)
theorem hexByte_pair (c : UInt8) : hexByte (hexes.getD (c.toNat / 16) 0) (hexes.getD (c.toNat % 16) 0) = c := by
 have hc := c.toNat_lt;have h1 := hex_getD (c.toNat / 16) (by omega);have h2 := hex_getD (c.toNat % 16) (by omega);apply UInt8.toNat_inj.1;have := hexByte_toNat (hexes.getD (c.toNat / 16) 0) (hexes.getD (c.toNat % 16) 0) (by omega) (by omega);rw [h1, h2] at this;omega
theorem qt_one (c : UInt8) (v : List UInt8) (k : Nat) (acc : List UInt8) : qt (quoteByte c ++ v) k acc = qt v (k + (quoteByte c).length) (acc ++ [c]) := by
 rw [quoteByte];by_cases h1 : c.toNat = 34 \/ c.toNat = 92
 ·rw [if_pos h1];show qt (92 :: c :: v) k acc = qt v (k + 2) (acc ++ [c]);have hu : unq (92 :: c :: v) = (c, 2) := by
   rw [unq, show (92 :: c :: v).getD 0 0 = (92 : UInt8) from rfl, show (92 :: c :: v).getD 1 0 = c from rfl, if_neg (by decide), if_neg (by decide), if_pos ⟨by simp, h1⟩]
  rw [qt_cons, if_neg (by decide), hu, if_neg (by simp)];rfl
 ·rw [if_neg h1];by_cases h2 : c.toNat < 32 \/ 126 < c.toNat
  ·rw [if_pos h2];show qt (92 :: 120 :: hexes.getD (c.toNat / 16) 0 :: hexes.getD (c.toNat % 16) 0 :: v) k acc = qt v (k + 4) (acc ++ [c]);have hc := c.toNat_lt;have e1 := hex_getD (c.toNat / 16) (by omega);have e2 := hex_getD (c.toNat % 16) (by omega);have hp := hexByte_pair c;generalize hexes.getD (c.toNat / 16) 0 = x at *;generalize hexes.getD (c.toNat % 16) 0 = y at *;have hu : unq (92 :: 120 :: x :: y :: v) = (c, 4) := by
    rw [unq, show (92 :: 120 :: x :: y :: v).getD 0 0 = (92 : UInt8) from rfl, show (92 :: 120 :: x :: y :: v).getD 1 0 = (120 : UInt8) from rfl, show (92 :: 120 :: x :: y :: v).getD 2 0 = x from rfl, show (92 :: 120 :: x :: y :: v).getD 3 0 = y from rfl, if_neg (by decide), if_neg (by decide), if_neg (fun h => absurd h.2 (by decide)), if_pos ⟨by simp, by decide, by omega, by omega⟩, hp]
   rw [qt_cons, if_neg (by decide), hu, if_neg (by simp)];rfl
  ·rw [if_neg h2];show qt (c :: v) k acc = qt v (k + 1) (acc ++ [c]);have hu : unq (c :: v) = (c, 1) := by
    rw [unq, show (c :: v).getD 0 0 = c from rfl, if_neg h2, if_pos (by omega)]
   rw [qt_cons, if_neg (by omega), hu, if_neg (by simp)];rfl
theorem qt_flat : ∀ (t v : List UInt8) (k : Nat) (acc : List UInt8), (acc ++ t).length <= 40 -> qt (t.flatMap quoteByte ++ 34 :: v) k acc = ⟨3, acc ++ t, k + (t.flatMap quoteByte).length + 1, 0⟩
 | [], v, k, acc, h => by
  simp only [List.flatMap_nil, List.nil_append, List.append_nil, List.length_nil, Nat.add_zero] at *;rw [qt_cons, if_pos (by decide), if_neg (by omega)]
 | c :: t, v, k, acc, h => by
  rw [List.flatMap_cons, List.append_assoc, qt_one, qt_flat t v _ (acc ++ [c]) (by simpa using h)];simp only [List.append_assoc, List.cons_append, List.nil_append, List.length_append];congr 1;omega
theorem quote_again (t u : List UInt8) (h : t.length <= 40) : firstTok (quote t ++ 10 :: u) = ⟨3, t, (quote t).length, 0⟩ := by
 rw [quote];show firstTok (34 :: (t.flatMap quoteByte ++ [34] ++ 10 :: u)) = _;rw [firstTok, if_neg (by decide), if_neg (by decide), if_pos (by decide), quotedTok, List.drop_succ_cons, List.drop_zero, List.append_assoc];show qt (t.flatMap quoteByte ++ 34 :: 10 :: u) 1 [] = _;rw [qt_flat t _ 1 [] (by simpa using h)];simp only [List.nil_append, List.length_append, List.length_cons, List.length_nil]
theorem qt_short (l : List UInt8) (k : Nat) (acc : List UInt8) (h : (qt l k acc).err = 0) : (qt l k acc).text.length <= 40 := by
 induction h' : l.length using Nat.strongRecOn generalizing l k acc with
 | ind n ih =>
  cases l with
  | nil => rw [qt_nil] at h; simp [bad] at h
  | cons c r =>
   rw [qt_cons] at h ⊢;split at h
   ·rename_i h34;rw [if_pos h34];split at h
    ·simp [bad] at h
    ·rename_i h40; rw [if_neg h40]; show acc.length <= 40; omega
   ·rename_i h34;rw [if_neg h34];split at h
    ·simp [bad] at h
    ·rename_i hn;rw [if_neg hn];exact ih _ (by rw [<- h', List.length_drop]; simp only [List.length_cons]; omega) _ _ _ h rfl
theorem head_gap (c : UInt8) (x : List UInt8) (h1 : ¬ c.toNat = 32) (h2 : ¬ c.toNat = 10) (h3 : ¬ c.toNat = 35) : gapLen false (c :: x) = 0 := by
 rw [gapLen, if_neg];rw [skips_false]; simp [h1, h2, h3]
theorem again (k : Nat) (t u : List UInt8) (hv : Valid k t) : firstTok (rend k t ++ 10 :: u) = ⟨k, t, (rend k t).length, 0⟩ /\ gapLen false (rend k t ++ 10 :: u) = 0 /\ t.length <= 40 /\ rend k t ≠ [] := by
 obtain ⟨hk, r, n, hf⟩ := hv;cases r with
 | nil => exact absurd (congrArg Tok.kind hf).symm hk
 | cons c r =>
  rw [firstTok] at hf;cases hl : letter c
  ·cases hd : digit c
   ·rw [hl, hd] at hf;simp only [Bool.false_eq_true, if_false] at hf;by_cases hq : c.toNat = 34
    ·rw [if_pos hq, quotedTok] at hf;have he : (qt ((c :: r).drop 1) 1 []).err = 0 := by rw [hf]
     have h1 := qt_kind _ _ _ he;have h2 := qt_short _ _ _ he;rw [hf] at h1 h2;simp only at h1 h2;subst h1;refine ⟨quote_again t u h2, ?_, h2, by simp [rend, quote]⟩;rw [rend, if_pos rfl, quote];exact head_gap 34 _ (by decide) (by decide) (by decide)
    ·rw [if_neg hq] at hf;obtain ⟨h1, h2, ⟨t', h3⟩, hs, h4⟩ := sign_again c r u hl hd hq _ hf rfl;simp only at h1 h2 h3 h4;subst h2;rw [rend, if_neg (by decide)];refine ⟨h1, ?_, ?_, by rw [h3]; simp⟩
     ·rw [h3, List.cons_append]; exact head_gap c _ hs.1 hs.2.1 hs.2.2
     ·exact h4
   ·rw [hl, hd] at hf;simp only [Bool.false_eq_true, if_false, if_true] at hf;rw [digitsTok] at hf;by_cases hb : plen digit (c :: r) > 10 \/ plen digit (c :: r) > 1 /\ (c :: r).headD 0 = 48
    ·rw [if_pos hb] at hf; exact absurd (congrArg Tok.kind hf).symm hk
    ·rw [if_neg hb] at hf;have h1 := congrArg Tok.kind hf;have h2 := congrArg Tok.text hf;simp only at h1 h2;subst h1 h2;have hp : plen digit (c :: r) = plen digit r + 1 := by rw [plen, if_pos hd]
     have hdg := is_digit' c hd;rw [rend, if_neg (by decide)];refine ⟨digits_again c r u hl hd hb, ?_, ?_, by rw [hp]; simp⟩
     ·rw [hp, List.take_succ_cons, List.cons_append]; exact head_gap c _ (by omega) (by omega) (by omega)
     ·rw [length_take_plen]; omega
  ·rw [hl] at hf;simp only [if_true] at hf;rw [wordTok] at hf;by_cases hb : plen wordy (c :: r) > 12
   ·rw [if_pos hb] at hf; exact absurd (congrArg Tok.kind hf).symm hk
   ·rw [if_neg hb] at hf;have h1 := congrArg Tok.kind hf;have h2 := congrArg Tok.text hf;simp only at h1 h2;subst h1 h2;have hp : plen wordy (c :: r) = plen wordy r + 1 := by rw [plen, if_pos (by simp [wordy, hl])]
    have hlt := is_letter' c hl;rw [rend, if_neg (by decide)];refine ⟨word_again c r u hl hb, ?_, ?_, by rw [hp]; simp⟩
    ·rw [hp, List.take_succ_cons, List.cons_append]; exact head_gap c _ (by omega) (by omega) (by omega)
    ·rw [length_take_plen]; omega
def Good (m : Nat) : Nat -> List (Nat × Nat × List UInt8) -> Prop
 | _, [] => True
 | k, t :: r => k <= t.2.1 /\ t.2.1 < m /\ Valid t.1 t.2.2 /\ Good m (t.2.1 + 1) r
theorem good_mono (m : Nat) : ∀ (l : List (Nat × Nat × List UInt8)) (k j : Nat), j <= k -> Good m k l -> Good m j l
 | [], _, _, _, _ => trivial
 | _ :: _, _, _, h, ⟨h1, h2⟩ => ⟨Nat.le_trans h h1, h2⟩
theorem toks_good (s : List UInt8) (r : List (Nat × Nat × List UInt8)) : ∀ (n k : Nat) (acc : List (Nat × Nat × List UInt8)), toks n s k acc = .ok r -> ∃ ext, r = acc ++ ext /\ Good s.length k ext
 | 0, k, acc, h => by simp only [toks, Except.ok.injEq] at h; exact ⟨[], by simp [h], trivial⟩
 | n + 1, k, acc, h => by
  rw [toks] at h;generalize ha : k + gapLen false (s.drop k) = a at h;by_cases he : (firstTok (s.drop a)).err ≠ 0
  ·rw [if_pos he] at h; cases h
  ·rw [if_neg he] at h;by_cases hk : (firstTok (s.drop a)).kind = 0
   ·rw [if_pos hk] at h; cases h; exact ⟨[], by simp, trivial⟩
   ·rw [if_neg hk] at h;obtain ⟨ext, h1, h2⟩ := toks_good s r n _ _ h;have hlt : a < s.length := by
     rcases Nat.lt_or_ge a s.length with h' | h'
     ·exact h'
     ·rw [List.drop_of_length_le h'] at hk; exact absurd rfl hk
    have hpos := first_pos _ hk;refine ⟨((firstTok (s.drop a)).kind, a, (firstTok (s.drop a)).text) :: ext, by rw [h1]; simp, by show k <= a; omega, hlt, ⟨hk, s.drop a, (firstTok (s.drop a)).size, ?_⟩, good_mono _ _ _ _ (by show a + 1 <= _; omega) h2⟩;have he' : (firstTok (s.drop a)).err = 0 := by omega
    generalize firstTok (s.drop a) = T at *;obtain ⟨k', t', s', e'⟩ := T;simp only at he';subst he';rfl
theorem lexAll_good (s : List UInt8) (r : List (Nat × Nat × List UInt8)) (h : lexAll s = .ok r) : Good s.length 0 r := by
 rw [lexAll] at h;split at h
 ·cases h
 ·obtain ⟨ext, h1, h2⟩ := toks_good s r _ _ _ h;rw [h1]; exact h2
def face (t : Nat × Nat × List UInt8) : Nat × List UInt8 := (t.1, t.2.2)
end Lx
end Go.Proofs.YtcekcfjabhlheaaGreatDoor
