/- For TopPrint: textOf. -/
import Derived.Test.YtbdbpfcblppnbaaGreatDoorV5
import Derived.Test.YtbdbpfcblppnbaaGreatDoorPF
import Derived.Test.YtbdbpfcblppnbaaGreatDoorSB
namespace Go.Proofs.YtbdbpfcblppnbaaGreatDoor.Vx
open Go.RowKit
namespace P
theorem zip_take {α β : Type} : ∀ (N : List α) (T : List β), N.zip (T.take N.length) = N.zip T
 | [], _ => rfl
 | _ :: _, [] => rfl
 | a :: N, b :: T => by simp [zip_take N T]
theorem hex_two : ∀ n : Fin 16, V.hexd n.val = Lx.hexes.getD n.val 0 := by decide
theorem quote_byte (c : UInt8) : V.quoteB c = Lx.quoteByte c := by
 have h1 := hex_two ⟨c.toNat / 16, by have := c.toNat_lt; omega⟩
 have h2 := hex_two ⟨c.toNat % 16, by omega⟩
 unfold V.quoteB Lx.quoteByte Lx.hexPair
 by_cases h : c.toNat = 34 ∨ c.toNat = 92
 ·rw [if_pos h, if_pos h]
 ·rw [if_neg h, if_neg h]
  by_cases h3 : 32 ≤ c.toNat ∧ c.toNat ≤ 126
  ·rw [if_pos h3, if_neg (by omega)]
  ·rw [if_neg h3, if_pos (by omega), ← h1, ← h2]
   rfl
theorem quote_two (l : List UInt8) : V.quote l = Lx.quote l := by
 unfold V.quote Lx.quote
 rw [show V.quoteB = Lx.quoteByte from funext quote_byte]
 simp
theorem text_plain {v : Val} (h : Plain v) (m : Nat) : V.text (m + 1) v = textV v := by
 have e : ∀ w : Val, (w.kind = 0 ∨ w.kind = 1 ∨ w.kind = 2 ∨ w.kind = 3) → V.text (m + 1) w = textV w := fun w hw => by
  rw [V.text, textV, quote_two]
  rcases hw with hw | hw | hw | hw <;> simp [hw, V.nullB, kNull, V.trueB, V.falseB, kTrue, kFalse]
 rcases h with h | ⟨n, h, _, _⟩ | ⟨s, h, _⟩ | h | h <;> (rw [h]; exact e _ (by simp [V.zero]))
theorem plain_fault {v : Val} (h : Plain v) (m : Nat) : V.fault (m + 1) v = 0 := by
 have := (plain_iff m v).2 h
 unfold X.plain at this
 simp only [decide_eq_true_eq] at this
 exact this.2.2
theorem textV_len {v : Val} (h : Plain v) : (textV v).length ≤ 200 := by
 rcases h with h | ⟨n, h, h1, h2⟩ | ⟨s, h, h1⟩ | h | h
 ·rw [h]; decide
 ·rw [h]
  show (Lib.itoa n).length ≤ 200
  have := V.itoa_len n h1 h2
  omega
 ·rw [h]
  show (Lx.quote (V.bl s)).length ≤ 200
  rw [← quote_two]
  have := V.flat_le (V.bl s)
  rw [V.length_bl] at this
  omega
 ·rw [h]; decide
 ·rw [h]; decide
end P
set_option maxRecDepth 100000 in
set_option maxHeartbeats 1600000 in
theorem valueText_any (m : Nat) (w : World) (v : Val) (c0 c1 c2 c3 c4 : Value) (h : V.Mem (m + 1) w v [c0, c1, c2, c3, c4]) (hp : P.Plain v) (hbk : V.bulk (m + 1) v ≤ 2000000) (htab : Lib.TabIs Tryz.prog w "internal/strconv.uint64pow10" .u64 Lib.pow10Tab) :
  Calls Tryz.prog 37 #[.agg #[c0, c1, c2, c3, c4]] w fun e w' => e = .returned (.string (V.str (P.textV v))) ∧ Below w.heap.size w w' := by
 have hbL : Below w.heap.size w (w.alloc (.cells #[c0, c1, c2, c3, c4] 47)) := (Below.refl _ _).alloc (Nat.le_refl _) _
 have hT := text_any (m + 1) _ v c0 c1 c2 c3 c4 (V.Mem.kept _ h hbL) hbk (tab_below htab hbL)
 have e1 : V.textOr (m + 1) v = V.str (P.textV v) := by
  unfold V.textOr
  rw [if_pos (P.plain_fault hp m), P.text_plain hp m]
 rw [e1, P.plain_fault hp m] at hT
 have HT := hide hT
 have HB := hide hbL
 clear hT hbL h hp hbk htab e1
 go_enter Tryz.func37, Tryz.ntmps37
 go_wp2_with fail
 refine HT.out.mono ?_
 rintro e w1 ⟨rfl, hb1⟩
 have HB1 := hide (HB.out.trans (hb1.mono HB.out.size))
 clear hb1 HT HB
 go_wp2_with fail
 go_ret
 exact ⟨rfl, HB1.out⟩
/-- What textOf is to answer, d deep. -/
def P.TX (d : Nat) : Prop := ∀ (m : Nat) (w : World) (e : Ex) (d0 d1 d2 d3 d4 d5 d6 d7 d8 d9 : Value), X.Mem m w e [d0, d1, d2, d3, d4, d5, d6, d7, d8, d9] → P.Gd d e → X.bulk m e ≤ 2000000 → (P.textE d e).length ≤ 1000000000 → Lib.TabIs Tryz.prog w "internal/strconv.uint64pow10" .u64 Lib.pow10Tab →
   Calls Tryz.prog 39 #[.agg #[d0, d1, d2, d3, d4, d5, d6, d7, d8, d9]] w fun o w' => o = .returned (.string (V.str (P.textE d e))) ∧ Below w.heap.size w w'
set_option maxRecDepth 100000 in
set_option maxHeartbeats 1600000 in
theorem texts_of (d m : Nat) (IH : Hid (P.TX d)) (w : World) (lv : Value) (l : List Ex) (hl : V.Row w lv l.length 10 (fun i c => ∃ x, l[i]? = some x ∧ X.Mem m w x c)) (hg : ∀ x ∈ l, P.Gd d x) (hlen : ∀ x ∈ l, (P.textE d x).length ≤ 1000000000) (hbk : ∀ x ∈ l, X.bulk m x ≤ 2000000) (hll : l.length ≤ 2000000)
  (htab : Lib.TabIs Tryz.prog w "internal/strconv.uint64pow10" .u64 Lib.pow10Tab) :
  Calls Tryz.prog 56 #[lv] w fun e w' => (∃ ao cap, e = .returned (.slice ao l.length cap) ∧ w'.ownsRow w.heap.size 9 1 (.slice ao l.length cap) l.length (V.strsV (l.map (P.textE d)))) ∧ Below w.heap.size w w' := by
 obtain ⟨i0, hi, hz0, hz1, hz2⟩ := info_parts info9v
 obtain ⟨al, cl, rfl⟩ := hl.shape
 have HL : Hid _ := hl
 have HG : Hid _ := hg
 have HLEN : Hid _ := hlen
 have HBK : Hid _ := hbk
 have HTAB : Hid _ := htab
 clear hl hg hlen hbk htab
 go_enter Tryz.func56, Tryz.ntmps56
 go_wp2_with fail
 go_loopw [3, 5, 8] (fun vt _ vi wr => ∃ (k : Nat) (ao : Option Addr) (cap : Nat), k ≤ l.length ∧ vi = .int .i64 k ∧ vt = .slice ao k cap ∧ wr.ownsRow w.heap.size 9 1 (.slice ao k cap) k (V.strsV ((l.take k).map (P.textE d))) ∧ Below w.heap.size w wr)
  (fun _ _ vi _ => l.length - (intOf vi).toNat)
 case atStart => exact ⟨0, none, 0, Nat.zero_le _, rfl, rfl, World.ownsRow_nil _ _ _ _, Below.refl _ _⟩
 case round =>
  obtain ⟨k, ao, cap, hk, rfl, rfl, hown, hB⟩ := hrel
  by_cases hlt : k < l.length
  ·obtain ⟨b, off, cap2, x, d0, d1, d2, d3, d4, d5, d6, d7, d8, d9, e1, hx, hm, y0, y1, y2, y3, y4, y5, y6, y7, y8, y9⟩ := X.elemA (V.Row.kept HL.out hB (fun _ _ ⟨x, hx, hm⟩ => ⟨x, hx, X.Mem.kept m hm hB⟩)) k hlt
   simp only [Value.slice.injEq] at e1
   obtain ⟨rfl, _, rfl⟩ := e1
   obtain ⟨xal, xcl, xaf, xcf, xaa, xca, xan, xcn, rfl, rfl, rfl, rfl, rfl, rfl, rfl, rfl, rfl, rfl⟩ := X.Mem.form hm
   have HM : Hid _ := hm
   have HX : Hid _ := hx
   have hxm := List.mem_of_getElem? hx
   have hb2 : Below wr.heap.size wr (wr.alloc (.cells #[.int .i64 x.kind, .int .i64 x.v.kind, .int .i64 x.v.n, .string x.v.s, .slice xal x.v.l.length xcl, .slice xaf x.v.f.length xcf, .string x.s, .string x.t, .slice xaa x.a.length xca, .slice xan x.n.length xcn] 57)) := (Below.refl _ _).alloc (Nat.le_refl _) _
   have HC := hide (IH.out m _ x _ _ _ _ _ _ _ _ _ _ (X.Mem.kept m HM.out hb2) (HG.out x hxm) (HBK.out x hxm) (HLEN.out x hxm) (tab_below HTAB.out (hB.trans (hb2.mono hB.size))))
   have hown2 := owns_below hown hb2
   have hB2 := hB.trans (hb2.mono hB.size)
   have HOW2 := hide hown2
   have HB2 := hide hB2
   clear hm hx hxm hown hB hb2 hown2 hB2
   go_wp2_with fail
   refine HC.out.mono ?_
   rintro e w3 ⟨rfl, hb3⟩
   have hown3 := owns_below HOW2.out hb3
   have hB3 := HB2.out.trans (hb3.mono HB2.out.size)
   have hs3 := hB3.size
   generalize ht : V.str (P.textE d x) = t
   have HT : Hid _ := ht
   clear ht hb3 y0 y1 y2 y3 y4 y5 y6 y7 y8 y9 HC
   go_wp2_with (at_builtin; go_must (refine wpList_append_lies _ rfl (.tmp 12) (.tmp 15) 55 rfl w.heap.size 9 i0 (.string ⟨#[]⟩) 1 16 Tryz.underlying55 hi hz0 hz1 hz2 rfl (by decide) (.slice ao k cap) k (V.strsV ((l.take k).map (P.textE d))) rfl (hown3.alloc _) ⟨w3.heap.size, 0, none⟩ 1 1 [.string t] rfl rfl (news_alloc _ #[.string t] _ _ rfl) (by simp [Value.oneCell']) (by decide) (by unfold maxLen; omega) (by omega) (by simp; omega) _ rfl ?_); intro g cap' w4 hown4 hgrow hat hlt4)
   go_roundw
   case rel =>
    refine ⟨k + 1, some ⟨g, 0, none⟩, cap', by omega, by go_num, rfl, ?_, (hB3.alloc hs3 _).grown hgrow (by simp; omega) (fun k hk => (hown3.lt k hk).1)⟩
    have e2 : V.strsV ((l.take (k + 1)).map (P.textE d)) = V.strsV ((l.take k).map (P.textE d)) ++ [.string t] := by
     rw [List.take_add_one, HX.out, ← HT.out]; simp [V.strsV]
    rw [e2]; exact hown4
   case measure => simp [intOf]; omega
  ·have hkk : k = l.length := by omega
   subst hkk
   rw [List.take_length] at hown
   go_wp2_with fail
   go_ret
   exact ⟨⟨ao, cap, rfl, hown⟩, hB⟩
set_option maxRecDepth 100000 in
set_option maxHeartbeats 3200000 in
theorem named_any (w : World) (N : List ByteArray) (T : List (List UInt8)) (an : Option Addr) (capn : Nat) (ao : Option Addr) (cap : Nat) (hN : V.Row w (.slice an N.length capn) N.length 1 (fun i c => ∃ x, N[i]? = some x ∧ c = [.string x]))
  (hT : V.Row w (.slice ao N.length cap) N.length 1 (fun i c => ∃ x, T[i]? = some x ∧ c = [.string (V.str x)])) (hns : ∀ x ∈ N, x.size ≤ 2000000) (hts : ∀ t ∈ T, t.length ≤ 1000000000) (hl : N.length ≤ 2000000) :
  Calls Tryz.prog 57 #[.slice an N.length capn, .slice ao N.length cap] w fun r w' => (∃ ap cp, r = .returned (.slice ap N.length cp) ∧ w'.ownsRow w.heap.size 9 1 (.slice ap N.length cp) N.length (V.strsV ((N.zip T).map (fun p => V.bl p.1 ++ ([58, 32] ++ p.2))))) ∧ Below w.heap.size w w' := by
 obtain ⟨i0, hi0, hz0, hz1, hz2⟩ := info_parts info9v
 have hTl : N.length ≤ T.length := by
  rcases Nat.eq_zero_or_pos N.length with h0 | h0
  ·omega
  ·obtain ⟨_, _, _, h | ⟨b, off, _, h⟩⟩ := hT
   ·omega
   ·obtain ⟨_, _, _, x, hx, _⟩ := h (N.length - 1) (by omega)
    have := (List.getElem?_eq_some_iff.1 hx).1
    omega
 have HN := hide hN
 have HT := hide hT
 have HNS := hide hns
 have HTS := hide hts
 have HTL := hide hTl
 have HL := hide hl
 clear hN hT hns hts hl hTl
 go_enter Tryz.func57, Tryz.ntmps57
 go_wp2_with fail
 go_loopw [9, 5, 6] (fun vi v5 _ wr => ∃ (k : Nat) (ap : Option Addr) (cp : Nat), k ≤ N.length ∧ vi = .int .i64 k ∧ v5 = .slice ap k cp ∧ wr.ownsRow w.heap.size 9 1 (.slice ap k cp) k (V.strsV (((N.take k).zip (T.take k)).map (fun p => V.bl p.1 ++ ([58, 32] ++ p.2)))) ∧ Below w.heap.size w wr)
  (fun vi _ _ _ => N.length - (intOf vi).toNat)
 case atStart => exact ⟨0, none, 0, Nat.zero_le _, rfl, rfl, World.ownsRow_nil _ _ _ _, Below.refl _ _⟩
 case round =>
  obtain ⟨k, ap, cp, hk, rfl, rfl, hO, hB⟩ := hrel
  have hl := HL.out
  by_cases hlt : k < N.length
  ·obtain ⟨a1, c1, e1, h | ⟨bn, on, rfl, hn⟩⟩ := HN.out
   ·omega
   obtain ⟨a2, c2, e2, h | ⟨bl, ol, rfl, hc⟩⟩ := HT.out
   ·omega
   simp only [Value.slice.injEq, true_and] at e1 e2
   obtain ⟨rfl, rfl⟩ := e1
   obtain ⟨rfl, rfl⟩ := e2
   obtain ⟨cs1, _, q1, x, hx, rfl⟩ := hn k hlt
   obtain ⟨cs2, _, q2, y, hy, rfl⟩ := hc k hlt
   have hxs := HNS.out x (List.mem_of_getElem? hx)
   have hys := HTS.out y (List.mem_of_getElem? hy)
   have n0 : wr.cell? ⟨bn, on + k, none⟩ = some (.string x) := by
    have := q1 0 (by decide)
    rw [Nat.mul_one, Nat.add_zero] at this
    exact kept_cell hB this
   have t0 : wr.cell? ⟨bl, ol + k, none⟩ = some (.string (V.str y)) := by
    have := q2 0 (by decide)
    rw [Nat.mul_one, Nat.add_zero] at this
    exact kept_cell hB this
   have HX : Hid (V.strsV (((N.take (k + 1)).zip (T.take (k + 1))).map (fun p => V.bl p.1 ++ ([58, 32] ++ p.2))) = V.strsV (((N.take k).zip (T.take k)).map (fun p => V.bl p.1 ++ ([58, 32] ++ p.2))) ++ [.string (x ++ ⟨#[58, 32]⟩ ++ V.str y)]) := by
    show _ = _
    have h1 : N.take (k + 1) = N.take k ++ [x] := by rw [List.take_add_one, hx]; rfl
    have h2 : T.take (k + 1) = T.take k ++ [y] := by rw [List.take_add_one, hy]; rfl
    have h3 : (N.take k).length = (T.take k).length := by
     have := HTL.out
     simp only [List.length_take]
     omega
    have h4 : x ++ (⟨#[58, 32]⟩ : ByteArray) ++ V.str y = V.str (V.bl x ++ ([58, 32] ++ y)) := by
     rw [← V.str_append, ← V.str_append, V.str_bl, ByteArray.append_assoc]
     rfl
    rw [h1, h2, List.zip_append h3, List.map_append, h4]
    simp [V.strsV]
   have hyz : (V.str y).size ≤ 1000000000 := by rw [str_size]; exact hys
   have hxs2 : (x ++ (⟨#[58, 32]⟩ : ByteArray)).size = x.size + 2 := by rw [ByteArray.size_append]; rfl
   have hg1 : ¬ 9223372036854775807 < x.size + 2 := by omega
   have hg2 : ¬ 9223372036854775807 < x.size + 2 + (V.str y).size := by omega
   generalize V.str y = s at *
   have HOW := hide hO
   have HB := hide hB
   have HSZ : Hid (w.heap.size ≤ wr.heap.size) := hB.size
   clear hO hB q1 q2 hn hc hy hx HN HT HNS HTS hys
   go_wp2_with fail
   go_region_law
    (first
     | (refine step_append_lies _ ?_ (.tmp 12) (.tmp 23) 55 ?_ w.heap.size 9 i0 (.string ⟨#[]⟩) 1 16 Tryz.underlying55 hi0 hz0 hz1 hz2 rfl Nat.one_pos (.slice ap k cp) k (V.strsV (((N.take k).zip (T.take k)).map (fun p => V.bl p.1 ++ ([58, 32] ++ p.2)))) ?_ ?_ ⟨wr.heap.size, 0, none⟩ 1 1 [.string (x ++ ⟨#[58, 32]⟩ ++ s)] ?_ rfl ?_ ?_ Nat.one_pos ?_ ?_ ?_ _ rfl ?_; rfl; rfl; rfl; exact (HOW.out.alloc _).drew; rfl; exact news_alloc_drew wr #[.string (x ++ ⟨#[58, 32]⟩ ++ s)] 9 _ rfl; simp [Value.oneCell']; (unfold maxLen; omega); omega; (have := HSZ.out; simp; omega); intro g4 cap4 w4 hown4 hgrow hat hlt4))
   all_goals
    have HOW4 : Hid (w4.ownsRow w.heap.size 9 1 (.slice (some ⟨g4, 0, none⟩) (k + 1) cap4) (k + 1) (V.strsV (((N.take (k + 1)).zip (T.take (k + 1))).map (fun p => V.bl p.1 ++ ([58, 32] ++ p.2))))) := by
     show World.ownsRow _ _ _ _ _ _ _
     rw [HX.out]
     exact hown4
    have HB4 : Hid (Below w.heap.size w w4) := by
     have hg := P.grown_alloc_drew hgrow
     exact HB.out.trans ⟨hg.os, hg.tape, hg.output, hg.size, fun c hc => hg.block c (by have := HSZ.out; omega) (fun e => by have := (HOW.out.lt c e.symm).1; omega)⟩
    clear hown4 hgrow hat hlt4
    go_wp2_with fail
    go_roundw
    case rel => exact ⟨k + 1, _, _, by omega, by go_num, rfl, HOW4.out, HB4.out⟩
    case measure => simp [intOf]; omega
  ·have e : k = N.length := by omega
   subst e
   have HO : Hid (wr.ownsRow w.heap.size 9 1 (.slice ap N.length cp) N.length (V.strsV ((N.zip T).map (fun p => V.bl p.1 ++ ([58, 32] ++ p.2))))) := by
    have h1 : (N.take N.length).zip (T.take N.length) = N.zip T := by
     rw [List.take_of_length_le (Nat.le_refl _)]
     exact P.zip_take N T
    rw [h1] at hO
    exact hO
   have HB := hide hB
   clear hO hB
   go_wp2_with fail
   go_ret
   exact ⟨⟨_, _, rfl, HO.out⟩, HB.out⟩
end Go.Proofs.YtbdbpfcblppnbaaGreatDoor.Vx
namespace Go.Proofs.YtbdbpfcblppnbaaGreatDoor.Vx
open Go.RowKit
namespace P
theorem Gd.kids {d : Nat} {e : Ex} (h : Gd (d + 1) e) : ∀ x ∈ e.a, Gd d x := by
 rcases h with ⟨v, rfl, hp⟩ | ⟨s, rfl, h1⟩ | ⟨k, s, t, rfl, hk, h1, h2⟩ | ⟨k, x, y, rfl, hk, h1, h2⟩ | ⟨x, y, z, rfl, h1, h2, h3⟩ | ⟨l, rfl, h1⟩ | ⟨l, rfl, hl, hr, h1⟩ | ⟨s, x, rfl, h1, h2⟩
 ·exact fun _ h => absurd h (by simp)
 ·exact fun _ h => absurd h (by simp)
 ·exact fun _ h => absurd h (by simp)
 ·intro a ha
  rcases List.mem_cons.1 ha with rfl | ha
  ·exact h1
  ·rw [List.mem_singleton] at ha; subst ha; exact h2
 ·intro a ha
  rcases List.mem_cons.1 ha with rfl | ha
  ·exact h1
  ·rcases List.mem_cons.1 ha with rfl | ha
   ·exact h2
   ·rw [List.mem_singleton] at ha; subst ha; exact h3
 ·exact h1
 ·intro a ha
  obtain ⟨x, hx, rfl⟩ := List.mem_map.1 ha
  exact h1 x hx
 ·intro a ha
  rw [List.mem_singleton] at ha; subst ha; exact h2
theorem join_mem (sep : List UInt8) : ∀ (l : List (List UInt8)) (x : List UInt8), x ∈ l → x.length ≤ (Lib.join l sep).length
 | [], _, h => absurd h (by simp)
 | [a], x, h => by rw [List.mem_singleton] at h; subst h; rw [Lib.join_one]; exact Nat.le_refl _
 | a :: b :: l, x, h => by
  rw [join_two, List.length_append, List.length_append]
  rcases List.mem_cons.1 h with rfl | h
  ·omega
  ·have := join_mem sep (b :: l) x h
   omega
theorem zip_mem (f : Ex → List UInt8) : ∀ (l : List (ByteArray × Ex)) (x : ByteArray × Ex), x ∈ l → (x.1, f x.2) ∈ (l.map (·.1)).zip ((l.map (·.2)).map f)
 | [], _, h => absurd h (by simp)
 | a :: l, x, h => by
  simp only [List.map_cons, List.zip_cons_cons]
  rcases List.mem_cons.1 h with rfl | h
  ·exact List.mem_cons_self
  ·exact List.mem_cons_of_mem _ (zip_mem f l x h)
theorem kid_len {d : Nat} {e : Ex} (h : Gd (d + 1) e) : ∀ x ∈ e.a, (textE d x).length ≤ (textE (d + 1) e).length := by
 rcases h with ⟨v, rfl, hp⟩ | ⟨s, rfl, h1⟩ | ⟨k, s, t, rfl, hk, h1, h2⟩ | ⟨k, x, y, rfl, hk, h1, h2⟩ | ⟨x, y, z, rfl, h1, h2, h3⟩ | ⟨l, rfl, h1⟩ | ⟨l, rfl, hl, hr, h1⟩ | ⟨s, x, rfl, h1, h2⟩
 ·exact fun _ h => absurd h (by simp)
 ·exact fun _ h => absurd h (by simp)
 ·exact fun _ h => absurd h (by simp)
 ·intro a ha
  rcases hk with rfl | rfl
  all_goals
   simp only [List.mem_cons, List.not_mem_nil, or_false] at ha
   rcases ha with rfl | rfl
   all_goals
    simp [textE, at1]
    omega
 ·intro a ha
  simp only [List.mem_cons, List.not_mem_nil, or_false] at ha
  rcases ha with rfl | rfl | rfl
  all_goals
   simp [textE, at1]
   omega
 ·intro a ha
  have := join_mem [44, 32] (l.map (textE d)) (textE d a) (List.mem_map.2 ⟨a, ha, rfl⟩)
  simp [textE]
  omega
 ·intro a ha
  obtain ⟨x, hx, rfl⟩ := List.mem_map.1 ha
  have := join_mem [44, 32] (((l.map (·.1)).zip ((l.map (·.2)).map (textE d))).map (fun p => V.bl p.1 ++ ([58, 32] ++ p.2))) (V.bl x.1 ++ ([58, 32] ++ textE d x.2)) (by
   exact List.mem_map.2 ⟨(x.1, textE d x.2), zip_mem (textE d) l x hx, rfl⟩)
  have e1 : (textE (d + 1) ⟨9, V.zero, ⟨#[]⟩, ⟨#[]⟩, l.map (·.2), l.map (·.1)⟩) = [123] ++ (Lib.join (((l.map (·.1)).zip ((l.map (·.2)).map (textE d))).map (fun p => V.bl p.1 ++ ([58, 32] ++ p.2))) [44, 32] ++ [125]) := rfl
  rw [e1]
  simp only [List.length_append] at this ⊢
  omega
 ·intro a ha
  rw [List.mem_singleton] at ha; subst ha
  simp [textE, at1]
  omega
theorem strs_cells {w : World} {base n cap : Nat} {ao : Option Addr} {L : List (List UInt8)} (h : w.ownsRow base 9 1 (.slice ao n cap) n (V.strsV L)) (hl : L.length = n) (h0 : 0 < n) :
  ∃ g, ao = some ⟨g, 0, none⟩ ∧ ∀ (j : Nat) (x : List UInt8), L[j]? = some x → w.cell? ⟨g, j, none⟩ = some (.string (V.str x)) := by
 rcases h.2 with ⟨hv, hn⟩ | ⟨g, cap', cur, hv, hr⟩
 ·omega
 ·simp only [Value.slice.injEq] at hv
  obtain ⟨rfl, _, rfl⟩ := hv
  refine ⟨g, rfl, fun j x hx => ?_⟩
  have := h.cellAt j (by rw [Nat.mul_one, ← hl]; exact (List.getElem?_eq_some_iff.1 hx).1)
  rw [this]
  unfold V.strsV
  rw [List.getElem?_map, hx]
  rfl
theorem strs_row {w : World} {base n cap : Nat} {ao : Option Addr} {L : List (List UInt8)} (h : w.ownsRow base 9 1 (.slice ao n cap) n (V.strsV L)) (hl : L.length = n) : V.Row w (.slice ao n cap) n 1 (fun i c => ∃ x, L[i]? = some x ∧ c = [.string (V.str x)]) := by
 rcases Nat.eq_zero_or_pos n with h0 | h0
 ·subst h0
  exact ⟨ao, cap, rfl, .inl rfl⟩
 ·obtain ⟨g, rfl, hc⟩ := strs_cells h hl h0
  refine ⟨_, cap, rfl, .inr ⟨g, 0, rfl, fun i hi => ?_⟩⟩
  have hx : L[i]? = some L[i] := List.getElem?_eq_getElem (by omega)
  refine ⟨[.string (V.str L[i])], rfl, fun j hj => ?_, L[i], hx, rfl⟩
  have : j = 0 := by omega
  subst this
  rw [Nat.mul_one, Nat.add_zero, Nat.zero_add]
  exact hc i _ hx
end P
set_option maxRecDepth 100000 in
set_option maxHeartbeats 2000000 in
theorem textOf_succ (d : Nat) (ih : P.TX d) : P.TX (d + 1) := by
 intro m w e d0 d1 d2 d3 d4 d5 d6 d7 d8 d9 h hg hbk hlen htab
 cases m with
 | zero => exact h.elim
 | succ m =>
 have IH := hide ih
 obtain ⟨al, cl, af, cf, aa, ca, an, cn, rfl, rfl, rfl, rfl, rfl, rfl, rfl, rfl, rfl, rfl⟩ := h.form
 obtain ⟨c0, c1, c2, c3, c4, av, nv, hcs, hv, ha, hn⟩ := h
 simp only [List.cons.injEq, and_true, true_and] at hcs
 obtain ⟨rfl, rfl, rfl, rfl, rfl, rfl, rfl⟩ := hcs
 have hbL : Below w.heap.size w (w.alloc (.cells #[.int .i64 e.kind, .int .i64 e.v.kind, .int .i64 e.v.n, .string e.v.s, .slice al e.v.l.length cl, .slice af e.v.f.length cf, .string e.s, .string e.t, .slice aa e.a.length ca, .slice an e.n.length cn] 57)) := (Below.refl _ _).alloc (Nat.le_refl _) _
 have hB0 : (w.alloc (.cells #[.int .i64 e.kind, .int .i64 e.v.kind, .int .i64 e.v.n, .string e.v.s, .slice al e.v.l.length cl, .slice af e.v.f.length cf, .string e.s, .string e.t, .slice aa e.a.length ca, .slice an e.n.length cn] 57)).heap[w.heap.size]? = some (.cells #[.int .i64 e.kind, .int .i64 e.v.kind, .int .i64 e.v.n, .string e.v.s, .slice al e.v.l.length cl, .slice af e.v.f.length cf, .string e.s, .string e.t, .slice aa e.a.length ca, .slice an e.n.length cn] 57 (0, 0)) := heap_alloc_new _ _
 have hll : e.a.length ≤ 2000000 := by rw [X.bulk] at hbk; omega
 have hss : e.s.size ≤ 2000000 ∧ e.t.size ≤ 2000000 ∧ V.bulk (m + 1) e.v ≤ 2000000 ∧ e.n.length ≤ 2000000 := by rw [X.bulk] at hbk; omega
 have hnn : ∀ x ∈ e.n, x.size ≤ 2000000 := fun x hx => X.bulk_n m e x hx _ hbk
 have hkl := P.kid_len hg
 have HCT := hide (texts_of d m IH (w.alloc (.cells #[.int .i64 e.kind, .int .i64 e.v.kind, .int .i64 e.v.n, .string e.v.s, .slice al e.v.l.length cl, .slice af e.v.f.length cf, .string e.s, .string e.t, .slice aa e.a.length ca, .slice an e.n.length cn] 57)) (.slice aa e.a.length ca) e.a (V.Row.kept ha hbL (fun _ _ ⟨x, hx, hm⟩ => ⟨x, hx, X.Mem.kept m hm hbL⟩)) hg.kids (fun x hx => Nat.le_trans (hkl x hx) hlen) (fun x hx => X.bulk_a m e x hx _ hbk) hll (tab_below htab hbL))
 have HV := hide hv
 have HNR := hide hn
 have HB0 := hide hB0
 have HBL := hide hbL
 have HTAB := hide htab
 have HKL := hide hkl
 have HNN := hide hnn
 clear hv ha hn hB0 htab hbk ih hbL hkl hnn IH
 obtain ⟨hs1, hs2, hs3, hs4⟩ := hss
 have go1 : ∀ w2 : World, Below (w.alloc (.cells #[.int .i64 e.kind, .int .i64 e.v.kind, .int .i64 e.v.n, .string e.v.s, .slice al e.v.l.length cl, .slice af e.v.f.length cf, .string e.s, .string e.t, .slice aa e.a.length ca, .slice an e.n.length cn] 57)).heap.size (w.alloc (.cells #[.int .i64 e.kind, .int .i64 e.v.kind, .int .i64 e.v.n, .string e.v.s, .slice al e.v.l.length cl, .slice af e.v.f.length cf, .string e.s, .string e.t, .slice aa e.a.length ca, .slice an e.n.length cn] 57)) w2 → w2.heap[w.heap.size]? = some (.cells #[.int .i64 e.kind, .int .i64 e.v.kind, .int .i64 e.v.n, .string e.v.s, .slice al e.v.l.length cl, .slice af e.v.f.length cf, .string e.s, .string e.t, .slice aa e.a.length ca, .slice an e.n.length cn] 57 (0, 0)) ∧ Below w.heap.size w w2 := fun w2 hb => ⟨(hb.block w.heap.size (blt HB0.out)).trans HB0.out, HBL.out.trans (hb.mono HBL.out.size)⟩
 have GO1 := hide go1
 clear go1
 rcases hg with ⟨v, he, hp⟩ | ⟨s, he, h1⟩ | ⟨k, s, t, he, hk34, h1, h2⟩ | ⟨k, x, y, he, hk56, h1, h2⟩ | ⟨x, y, z, he, h1, h2, h3⟩ | ⟨l, he, h1⟩ | ⟨l, he, hl60, hr, h1⟩ | ⟨s, x, he, h1, h2⟩
 ·have hk : e.kind = 1 := by rw [he]
  have hev : e.v = v := by rw [he]
  have HE : Hid (P.textE (d + 1) e = P.textV e.v) := by
   show _ = _
   simp [P.textE, hk]
  have g2 : (e.kind == 2) = false := by simp [hk]
  have g3 : (e.kind == 3) = false := by simp [hk]
  have g4 : (e.kind == 4) = false := by simp [hk]
  have g5 : (e.kind == 5) = false := by simp [hk]
  have g6 : (e.kind == 6) = false := by simp [hk]
  have g7 : (e.kind == 7) = false := by simp [hk]
  have g8 : (e.kind == 8) = false := by simp [hk]
  have g9 : (e.kind == 9) = false := by simp [hk]
  have g10 : (e.kind == 10) = false := by simp [hk]
  clear hk he
  have hpv : P.Plain e.v := by rw [hev]; exact hp
  clear hev hp
  go_enter Tryz.func39, Tryz.ntmps39
  go_wp2_with fail
  refine HCT.out.mono ?_
  rintro r w2 ⟨⟨ao, cap, rfl, hown⟩, hb2⟩
  obtain ⟨hB2, hB2'⟩ := GO1.out w2 hb2
  have HB2 := hide hB2'
  obtain ⟨z0, z1, z2, z3, z4, z5, z6, z7, z8, z9⟩ := cl10 hB2
  clear hB2 hB2' hb2 hown GO1 HCT
  have HVT := hide (valueText_any m w2 e.v _ _ _ _ _ (V.Mem.kept _ HV.out HB2.out) hpv hs3 (tab_below HTAB.out HB2.out))
  clear hpv
  go_wp2_with fail
  refine HVT.out.mono ?_
  rintro r w3 ⟨rfl, hb3⟩
  have HB3 := hide (HB2.out.trans (hb3.mono HB2.out.size))
  clear hb3 HVT
  go_wp2_with fail
  go_ret
  exact ⟨by rw [HE.out]; rfl, HB3.out⟩
 ·have hk : e.kind = 2 := by rw [he]
  have HE : Hid (P.textE (d + 1) e = [105, 110, 46] ++ V.bl e.s) := by
   show _ = _
   simp [P.textE, hk]
  have g2 : (e.kind == 2) = true := by simp [hk]
  clear hk he
  clear h1
  go_enter Tryz.func39, Tryz.ntmps39
  go_wp2_with fail
  refine HCT.out.mono ?_
  rintro r w2 ⟨⟨ao, cap, rfl, hown⟩, hb2⟩
  obtain ⟨hB2, hB2'⟩ := GO1.out w2 hb2
  have HB2 := hide hB2'
  obtain ⟨z0, z1, z2, z3, z4, z5, z6, z7, z8, z9⟩ := cl10 hB2
  clear hB2 hB2' hb2 hown GO1 HCT
  go_wp2_with fail
  go_ret
  refine ⟨ret_val (congrArg Value.string ?_), HB2.out⟩
  rw [HE.out]
  show V.str [105, 110, 46] ++ e.s = _
  simp only [← V.str_append, V.str_bl]
 ·rcases hk34 with rfl | rfl
  ·have hk : e.kind = 3 := by rw [he]
   have HE : Hid (P.textE (d + 1) e = [114, 101, 115, 46] ++ (V.bl e.s ++ ([46] ++ V.bl e.t))) := by
    show _ = _
    simp [P.textE, hk]
   have g2 : (e.kind == 2) = false := by simp [hk]
   have g3 : (e.kind == 3) = true := by simp [hk]
   clear hk he
   clear h1 h2
   go_enter Tryz.func39, Tryz.ntmps39
   go_wp2_with fail
   refine HCT.out.mono ?_
   rintro r w2 ⟨⟨ao, cap, rfl, hown⟩, hb2⟩
   obtain ⟨hB2, hB2'⟩ := GO1.out w2 hb2
   have HB2 := hide hB2'
   obtain ⟨z0, z1, z2, z3, z4, z5, z6, z7, z8, z9⟩ := cl10 hB2
   clear hB2 hB2' hb2 hown GO1 HCT
   go_wp2_with fail
   go_ret
   refine ⟨ret_val (congrArg Value.string ?_), HB2.out⟩
   rw [HE.out]
   show V.str [114, 101, 115, 46] ++ e.s ++ V.str [46] ++ e.t = _
   simp only [← V.str_append, V.str_bl, ByteArray.append_assoc]
  ·have hk : e.kind = 4 := by rw [he]
   have HE : Hid (P.textE (d + 1) e = [115, 116, 97, 99, 107, 46] ++ (V.bl e.s ++ ([46] ++ V.bl e.t))) := by
    show _ = _
    simp [P.textE, hk]
   have g2 : (e.kind == 2) = false := by simp [hk]
   have g3 : (e.kind == 3) = false := by simp [hk]
   have g4 : (e.kind == 4) = true := by simp [hk]
   clear hk he
   clear h1 h2
   go_enter Tryz.func39, Tryz.ntmps39
   go_wp2_with fail
   refine HCT.out.mono ?_
   rintro r w2 ⟨⟨ao, cap, rfl, hown⟩, hb2⟩
   obtain ⟨hB2, hB2'⟩ := GO1.out w2 hb2
   have HB2 := hide hB2'
   obtain ⟨z0, z1, z2, z3, z4, z5, z6, z7, z8, z9⟩ := cl10 hB2
   clear hB2 hB2' hb2 hown GO1 HCT
   go_wp2_with fail
   go_ret
   refine ⟨ret_val (congrArg Value.string ?_), HB2.out⟩
   rw [HE.out]
   show V.str [115, 116, 97, 99, 107, 46] ++ e.s ++ V.str [46] ++ e.t = _
   simp only [← V.str_append, V.str_bl, ByteArray.append_assoc]
 ·rcases hk56 with rfl | rfl
  ·have hk : e.kind = 5 := by rw [he]
   have hea : e.a = [x, y] := by rw [he]
   have HE : Hid (P.textE (d + 1) e = [40] ++ (P.textE d x ++ ([32, 43, 32] ++ (P.textE d y ++ [41])))) := by
    show _ = _
    simp [P.textE, hk, hea, P.at1]
   have g2 : (e.kind == 2) = false := by simp [hk]
   have g3 : (e.kind == 3) = false := by simp [hk]
   have g4 : (e.kind == 4) = false := by simp [hk]
   have g5 : (e.kind == 5) = true := by simp [hk]
   have HC2 : Hid (Calls Tryz.prog 56 #[.slice aa e.a.length ca] (w.alloc (.cells #[.int .i64 e.kind, .int .i64 e.v.kind, .int .i64 e.v.n, .string e.v.s, .slice al e.v.l.length cl, .slice af e.v.f.length cf, .string e.s, .string e.t, .slice aa e.a.length ca, .slice an e.n.length cn] 57)) fun r w' => (∃ g cap, r = .returned (.slice (some ⟨g, 0, none⟩) 2 cap) ∧ w'.cell? ⟨g, 0, none⟩ = some (.string (V.str (P.textE d x))) ∧ w'.cell? ⟨g, 1, none⟩ = some (.string (V.str (P.textE d y)))) ∧ Below (w.alloc (.cells #[.int .i64 e.kind, .int .i64 e.v.kind, .int .i64 e.v.n, .string e.v.s, .slice al e.v.l.length cl, .slice af e.v.f.length cf, .string e.s, .string e.t, .slice aa e.a.length ca, .slice an e.n.length cn] 57)).heap.size (w.alloc (.cells #[.int .i64 e.kind, .int .i64 e.v.kind, .int .i64 e.v.n, .string e.v.s, .slice al e.v.l.length cl, .slice af e.v.f.length cf, .string e.s, .string e.t, .slice aa e.a.length ca, .slice an e.n.length cn] 57)) w') := by
    refine HCT.out.mono ?_
    rintro r w' ⟨⟨ao, cap, rfl, ho⟩, hb⟩
    rw [hea] at ho
    obtain ⟨g, rfl, hc⟩ := P.strs_cells ho (by simp) (by simp)
    exact ⟨⟨g, cap, by rw [hea]; rfl, hc 0 _ rfl, hc 1 _ rfl⟩, hb⟩
   have hz0 : (V.str (P.textE d x)).size ≤ 1000000000 := by rw [str_size]; exact Nat.le_trans (HKL.out x (by rw [hea]; simp)) hlen
   have hz1 : (V.str (P.textE d y)).size ≤ 1000000000 := by rw [str_size]; exact Nat.le_trans (HKL.out y (by rw [hea]; simp)) hlen
   clear hk he hea h1 h2
   go_enter Tryz.func39, Tryz.ntmps39
   go_wp2_with fail
   refine HC2.out.mono ?_
   rintro r w2 ⟨⟨g, cap, rfl, q0, q1⟩, hb2⟩
   obtain ⟨hB2, hB2'⟩ := GO1.out w2 hb2
   have HB2 := hide hB2'
   obtain ⟨z0, z1, z2, z3, z4, z5, z6, z7, z8, z9⟩ := cl10 hB2
   clear hB2 hB2' hb2 GO1 HCT HC2 hlen HKL HNN HNR HV HTAB
   generalize hs0_ : V.str (P.textE d x) = s0 at *
   have HS0 := hide hs0_
   clear hs0_
   generalize hs1_ : V.str (P.textE d y) = s1 at *
   have HS1 := hide hs1_
   clear hs1_
   go_wp2_with fail
   go_quiet (fail)
   all_goals
    go_wp2_with fail
    go_ret
    refine ⟨ret_val (congrArg Value.string ?_), below_drewN HB2.out _⟩
    rw [HE.out]
    show V.str [40] ++ s0 ++ V.str [32, 43, 32] ++ s1 ++ V.str [41] = _
    rw [← HS0.out, ← HS1.out]
    simp only [← V.str_append, ByteArray.append_assoc]
  ·have hk : e.kind = 6 := by rw [he]
   have hea : e.a = [x, y] := by rw [he]
   have HE : Hid (P.textE (d + 1) e = [40] ++ (P.textE d x ++ ([32, 61, 61, 32] ++ (P.textE d y ++ [41])))) := by
    show _ = _
    simp [P.textE, hk, hea, P.at1]
   have g2 : (e.kind == 2) = false := by simp [hk]
   have g3 : (e.kind == 3) = false := by simp [hk]
   have g4 : (e.kind == 4) = false := by simp [hk]
   have g5 : (e.kind == 5) = false := by simp [hk]
   have g6 : (e.kind == 6) = true := by simp [hk]
   have HC2 : Hid (Calls Tryz.prog 56 #[.slice aa e.a.length ca] (w.alloc (.cells #[.int .i64 e.kind, .int .i64 e.v.kind, .int .i64 e.v.n, .string e.v.s, .slice al e.v.l.length cl, .slice af e.v.f.length cf, .string e.s, .string e.t, .slice aa e.a.length ca, .slice an e.n.length cn] 57)) fun r w' => (∃ g cap, r = .returned (.slice (some ⟨g, 0, none⟩) 2 cap) ∧ w'.cell? ⟨g, 0, none⟩ = some (.string (V.str (P.textE d x))) ∧ w'.cell? ⟨g, 1, none⟩ = some (.string (V.str (P.textE d y)))) ∧ Below (w.alloc (.cells #[.int .i64 e.kind, .int .i64 e.v.kind, .int .i64 e.v.n, .string e.v.s, .slice al e.v.l.length cl, .slice af e.v.f.length cf, .string e.s, .string e.t, .slice aa e.a.length ca, .slice an e.n.length cn] 57)).heap.size (w.alloc (.cells #[.int .i64 e.kind, .int .i64 e.v.kind, .int .i64 e.v.n, .string e.v.s, .slice al e.v.l.length cl, .slice af e.v.f.length cf, .string e.s, .string e.t, .slice aa e.a.length ca, .slice an e.n.length cn] 57)) w') := by
    refine HCT.out.mono ?_
    rintro r w' ⟨⟨ao, cap, rfl, ho⟩, hb⟩
    rw [hea] at ho
    obtain ⟨g, rfl, hc⟩ := P.strs_cells ho (by simp) (by simp)
    exact ⟨⟨g, cap, by rw [hea]; rfl, hc 0 _ rfl, hc 1 _ rfl⟩, hb⟩
   have hz0 : (V.str (P.textE d x)).size ≤ 1000000000 := by rw [str_size]; exact Nat.le_trans (HKL.out x (by rw [hea]; simp)) hlen
   have hz1 : (V.str (P.textE d y)).size ≤ 1000000000 := by rw [str_size]; exact Nat.le_trans (HKL.out y (by rw [hea]; simp)) hlen
   clear hk he hea h1 h2
   go_enter Tryz.func39, Tryz.ntmps39
   go_wp2_with fail
   refine HC2.out.mono ?_
   rintro r w2 ⟨⟨g, cap, rfl, q0, q1⟩, hb2⟩
   obtain ⟨hB2, hB2'⟩ := GO1.out w2 hb2
   have HB2 := hide hB2'
   obtain ⟨z0, z1, z2, z3, z4, z5, z6, z7, z8, z9⟩ := cl10 hB2
   clear hB2 hB2' hb2 GO1 HCT HC2 hlen HKL HNN HNR HV HTAB
   generalize hs0_ : V.str (P.textE d x) = s0 at *
   have HS0 := hide hs0_
   clear hs0_
   generalize hs1_ : V.str (P.textE d y) = s1 at *
   have HS1 := hide hs1_
   clear hs1_
   go_wp2_with fail
   go_quiet (fail)
   all_goals
    go_wp2_with fail
    go_ret
    refine ⟨ret_val (congrArg Value.string ?_), below_drewN HB2.out _⟩
    rw [HE.out]
    show V.str [40] ++ s0 ++ V.str [32, 61, 61, 32] ++ s1 ++ V.str [41] = _
    rw [← HS0.out, ← HS1.out]
    simp only [← V.str_append, ByteArray.append_assoc]
 ·have hk : e.kind = 7 := by rw [he]
  have hea : e.a = [x, y, z] := by rw [he]
  have HE : Hid (P.textE (d + 1) e = [40] ++ (P.textE d x ++ ([32, 63, 32] ++ (P.textE d y ++ ([32, 58, 32] ++ (P.textE d z ++ [41])))))) := by
   show _ = _
   simp [P.textE, hk, hea, P.at1]
  have g2 : (e.kind == 2) = false := by simp [hk]
  have g3 : (e.kind == 3) = false := by simp [hk]
  have g4 : (e.kind == 4) = false := by simp [hk]
  have g5 : (e.kind == 5) = false := by simp [hk]
  have g6 : (e.kind == 6) = false := by simp [hk]
  have g7 : (e.kind == 7) = true := by simp [hk]
  have HC2 : Hid (Calls Tryz.prog 56 #[.slice aa e.a.length ca] (w.alloc (.cells #[.int .i64 e.kind, .int .i64 e.v.kind, .int .i64 e.v.n, .string e.v.s, .slice al e.v.l.length cl, .slice af e.v.f.length cf, .string e.s, .string e.t, .slice aa e.a.length ca, .slice an e.n.length cn] 57)) fun r w' => (∃ g cap, r = .returned (.slice (some ⟨g, 0, none⟩) 3 cap) ∧ w'.cell? ⟨g, 0, none⟩ = some (.string (V.str (P.textE d x))) ∧ w'.cell? ⟨g, 1, none⟩ = some (.string (V.str (P.textE d y))) ∧ w'.cell? ⟨g, 2, none⟩ = some (.string (V.str (P.textE d z)))) ∧ Below (w.alloc (.cells #[.int .i64 e.kind, .int .i64 e.v.kind, .int .i64 e.v.n, .string e.v.s, .slice al e.v.l.length cl, .slice af e.v.f.length cf, .string e.s, .string e.t, .slice aa e.a.length ca, .slice an e.n.length cn] 57)).heap.size (w.alloc (.cells #[.int .i64 e.kind, .int .i64 e.v.kind, .int .i64 e.v.n, .string e.v.s, .slice al e.v.l.length cl, .slice af e.v.f.length cf, .string e.s, .string e.t, .slice aa e.a.length ca, .slice an e.n.length cn] 57)) w') := by
   refine HCT.out.mono ?_
   rintro r w' ⟨⟨ao, cap, rfl, ho⟩, hb⟩
   rw [hea] at ho
   obtain ⟨g, rfl, hc⟩ := P.strs_cells ho (by simp) (by simp)
   exact ⟨⟨g, cap, by rw [hea]; rfl, hc 0 _ rfl, hc 1 _ rfl, hc 2 _ rfl⟩, hb⟩
  have hz0 : (V.str (P.textE d x)).size ≤ 1000000000 := by rw [str_size]; exact Nat.le_trans (HKL.out x (by rw [hea]; simp)) hlen
  have hz1 : (V.str (P.textE d y)).size ≤ 1000000000 := by rw [str_size]; exact Nat.le_trans (HKL.out y (by rw [hea]; simp)) hlen
  have hz2 : (V.str (P.textE d z)).size ≤ 1000000000 := by rw [str_size]; exact Nat.le_trans (HKL.out z (by rw [hea]; simp)) hlen
  clear hk he hea h1 h2 h3
  go_enter Tryz.func39, Tryz.ntmps39
  go_wp2_with fail
  refine HC2.out.mono ?_
  rintro r w2 ⟨⟨g, cap, rfl, q0, q1, q2⟩, hb2⟩
  obtain ⟨hB2, hB2'⟩ := GO1.out w2 hb2
  have HB2 := hide hB2'
  obtain ⟨z0, z1, z2, z3, z4, z5, z6, z7, z8, z9⟩ := cl10 hB2
  clear hB2 hB2' hb2 GO1 HCT HC2 hlen HKL HNN HNR HV HTAB
  generalize hs0_ : V.str (P.textE d x) = s0 at *
  have HS0 := hide hs0_
  clear hs0_
  generalize hs1_ : V.str (P.textE d y) = s1 at *
  have HS1 := hide hs1_
  clear hs1_
  generalize hs2_ : V.str (P.textE d z) = s2 at *
  have HS2 := hide hs2_
  clear hs2_
  go_wp2_with fail
  go_quiet (fail)
  all_goals
   go_wp2_with fail
   go_ret
   refine ⟨ret_val (congrArg Value.string ?_), below_drewN HB2.out _⟩
   rw [HE.out]
   show V.str [40] ++ s0 ++ V.str [32, 63, 32] ++ s1 ++ V.str [32, 58, 32] ++ s2 ++ V.str [41] = _
   rw [← HS0.out, ← HS1.out, ← HS2.out]
   simp only [← V.str_append, ByteArray.append_assoc]
 ·have hk : e.kind = 8 := by rw [he]
  have hE : P.textE (d + 1) e = [91] ++ (Lib.join (e.a.map (P.textE d)) [44, 32] ++ [93]) := by simp [P.textE, hk]
  have HE := hide hE
  rw [hE] at hlen
  simp only [List.length_append, List.length_cons, List.length_nil] at hlen
  have g2 : (e.kind == 2) = false := by simp [hk]
  have g3 : (e.kind == 3) = false := by simp [hk]
  have g4 : (e.kind == 4) = false := by simp [hk]
  have g5 : (e.kind == 5) = false := by simp [hk]
  have g6 : (e.kind == 6) = false := by simp [hk]
  have g7 : (e.kind == 7) = false := by simp [hk]
  have g8 : (e.kind == 8) = true := by simp [hk]
  clear hk he h1 hE
  go_enter Tryz.func39, Tryz.ntmps39
  go_wp2_with fail
  refine HCT.out.mono ?_
  rintro r w2 ⟨⟨ao, cap, rfl, hown⟩, hb2⟩
  obtain ⟨hB2, hB2'⟩ := GO1.out w2 hb2
  have HB2 := hide hB2'
  obtain ⟨z0, z1, z2, z3, z4, z5, z6, z7, z8, z9⟩ := cl10 hB2
  have hj := join_own w2 _ ao cap (e.a.map (P.textE d)) ⟨#[44, 32]⟩ (by rw [List.length_map]; exact hown) (by show (Lib.join _ [44, 32]).length ≤ _; omega) (by rw [List.length_map]; omega)
  rw [List.length_map] at hj
  have HJ := hide hj
  clear hB2 hB2' hb2 hown GO1 HCT hj
  go_wp2_with fail
  refine HJ.out.mono ?_
  rintro r w3 ⟨rfl, hb3⟩
  have HB3 := hide (HB2.out.trans (hb3.mono HB2.out.size))
  have htz : (V.str (Lib.join (e.a.map (P.textE d)) (V.bl ⟨#[44, 32]⟩))).size ≤ 1000000000 := by rw [str_size]; show (Lib.join _ [44, 32]).length ≤ _; omega
  generalize hj2 : V.str (Lib.join (e.a.map (P.textE d)) (V.bl ⟨#[44, 32]⟩)) = t at *
  have HJ2 := hide hj2
  clear hb3 HJ hj2 z0 z1 z2 z3 z4 z5 z6 z7 z8 z9
  go_wp2_with fail
  go_ret
  refine ⟨ret_val (congrArg Value.string ?_), HB3.out⟩
  rw [HE.out, ← HJ2.out]
  show V.str [91] ++ V.str _ ++ V.str [93] = _
  rw [V.str_append, V.str_append]
  rfl
 ·have hk : e.kind = 9 := by rw [he]
  have HNL : Hid (e.a.length = e.n.length) := by
   show _ = _
   rw [he]
   simp
  have hE : P.textE (d + 1) e = [123] ++ (Lib.join ((e.n.zip (e.a.map (P.textE d))).map (fun p => V.bl p.1 ++ ([58, 32] ++ p.2))) [44, 32] ++ [125]) := by simp [P.textE, hk]
  have HE := hide hE
  have HTS : Hid (∀ t ∈ e.a.map (P.textE d), t.length ≤ 1000000000) := by
   intro t ht
   obtain ⟨x, hx, rfl⟩ := List.mem_map.1 ht
   exact Nat.le_trans (HKL.out x hx) hlen
  rw [hE] at hlen
  simp only [List.length_append, List.length_cons, List.length_nil] at hlen
  have g2 : (e.kind == 2) = false := by simp [hk]
  have g3 : (e.kind == 3) = false := by simp [hk]
  have g4 : (e.kind == 4) = false := by simp [hk]
  have g5 : (e.kind == 5) = false := by simp [hk]
  have g6 : (e.kind == 6) = false := by simp [hk]
  have g7 : (e.kind == 7) = false := by simp [hk]
  have g8 : (e.kind == 8) = false := by simp [hk]
  have g9 : (e.kind == 9) = true := by simp [hk]
  clear hk he h1 hE hr hl60
  go_enter Tryz.func39, Tryz.ntmps39
  go_wp2_with fail
  refine HCT.out.mono ?_
  rintro r w2 ⟨⟨ao, cap, rfl, hown⟩, hb2⟩
  obtain ⟨hB2, hB2'⟩ := GO1.out w2 hb2
  have HB2 := hide hB2'
  obtain ⟨z0, z1, z2, z3, z4, z5, z6, z7, z8, z9⟩ := cl10 hB2
  have HNM : Hid (Calls Tryz.prog 57 #[.slice an e.n.length cn, .slice ao e.a.length cap] w2 fun r w' => (∃ ap cp, r = .returned (.slice ap e.n.length cp) ∧ w'.ownsRow w2.heap.size 9 1 (.slice ap e.n.length cp) e.n.length (V.strsV ((e.n.zip (e.a.map (P.textE d))).map (fun p => V.bl p.1 ++ ([58, 32] ++ p.2))))) ∧ Below w2.heap.size w2 w') := by
   rw [HNL.out] at hown ⊢
   exact named_any w2 e.n (e.a.map (P.textE d)) an cn ao cap (HNR.out.kept HB2.out (fun _ _ h => h)) (P.strs_row hown (by rw [List.length_map, HNL.out])) HNN.out HTS.out hs4
  clear hB2 hB2' hb2 hown GO1 HCT HNR HNN HTS
  go_wp2_with fail
  refine HNM.out.mono ?_
  rintro r w3 ⟨⟨ap, cp, rfl, hown⟩, hb3⟩
  have HB3 := hide (HB2.out.trans (hb3.mono HB2.out.size))
  have hzl : ((e.n.zip (e.a.map (P.textE d))).map (fun p => V.bl p.1 ++ ([58, 32] ++ p.2))).length = e.n.length := by rw [List.length_map, List.length_zip, List.length_map, HNL.out, Nat.min_self]
  have hj := join_own w3 w2.heap.size ap cp ((e.n.zip (e.a.map (P.textE d))).map (fun p => V.bl p.1 ++ ([58, 32] ++ p.2))) ⟨#[44, 32]⟩ (by rw [hzl]; exact hown) (by show (Lib.join _ [44, 32]).length ≤ _; omega) (by rw [hzl]; omega)
  rw [hzl] at hj
  have HJ := hide hj
  clear hb3 HNM hown hj hzl z0 z1 z2 z3 z4 z5 z6 z7 z8 z9
  go_wp2_with fail
  refine HJ.out.mono ?_
  rintro r w4 ⟨rfl, hb4⟩
  have HB4 := hide (HB3.out.trans (hb4.mono HB3.out.size))
  have htz : (V.str (Lib.join ((e.n.zip (e.a.map (P.textE d))).map (fun p => V.bl p.1 ++ ([58, 32] ++ p.2))) (V.bl ⟨#[44, 32]⟩))).size ≤ 1000000000 := by rw [str_size]; show (Lib.join _ [44, 32]).length ≤ _; omega
  generalize hj2 : V.str (Lib.join ((e.n.zip (e.a.map (P.textE d))).map (fun p => V.bl p.1 ++ ([58, 32] ++ p.2))) (V.bl ⟨#[44, 32]⟩)) = t at *
  have HJ2 := hide hj2
  clear hb4 HJ hj2
  go_wp2_with fail
  go_ret
  refine ⟨ret_val (congrArg Value.string ?_), HB4.out⟩
  rw [HE.out, ← HJ2.out]
  show V.str [123] ++ V.str _ ++ V.str [125] = _
  rw [V.str_append, V.str_append]
  rfl
 ·have hk : e.kind = 10 := by rw [he]
  have hea : e.a = [x] := by rw [he]
  have HE : Hid (P.textE (d + 1) e = [103, 101, 116, 32] ++ (P.textE d x ++ ([32] ++ V.bl e.s))) := by
   show _ = _
   simp [P.textE, hk, hea, P.at1]
  have g2 : (e.kind == 2) = false := by simp [hk]
  have g3 : (e.kind == 3) = false := by simp [hk]
  have g4 : (e.kind == 4) = false := by simp [hk]
  have g5 : (e.kind == 5) = false := by simp [hk]
  have g6 : (e.kind == 6) = false := by simp [hk]
  have g7 : (e.kind == 7) = false := by simp [hk]
  have g8 : (e.kind == 8) = false := by simp [hk]
  have g9 : (e.kind == 9) = false := by simp [hk]
  have g10 : (e.kind == 10) = true := by simp [hk]
  have HC2 : Hid (Calls Tryz.prog 56 #[.slice aa e.a.length ca] (w.alloc (.cells #[.int .i64 e.kind, .int .i64 e.v.kind, .int .i64 e.v.n, .string e.v.s, .slice al e.v.l.length cl, .slice af e.v.f.length cf, .string e.s, .string e.t, .slice aa e.a.length ca, .slice an e.n.length cn] 57)) fun r w' => (∃ g cap, r = .returned (.slice (some ⟨g, 0, none⟩) 1 cap) ∧ w'.cell? ⟨g, 0, none⟩ = some (.string (V.str (P.textE d x)))) ∧ Below (w.alloc (.cells #[.int .i64 e.kind, .int .i64 e.v.kind, .int .i64 e.v.n, .string e.v.s, .slice al e.v.l.length cl, .slice af e.v.f.length cf, .string e.s, .string e.t, .slice aa e.a.length ca, .slice an e.n.length cn] 57)).heap.size (w.alloc (.cells #[.int .i64 e.kind, .int .i64 e.v.kind, .int .i64 e.v.n, .string e.v.s, .slice al e.v.l.length cl, .slice af e.v.f.length cf, .string e.s, .string e.t, .slice aa e.a.length ca, .slice an e.n.length cn] 57)) w') := by
   refine HCT.out.mono ?_
   rintro r w' ⟨⟨ao, cap, rfl, ho⟩, hb⟩
   rw [hea] at ho
   obtain ⟨g, rfl, hc⟩ := P.strs_cells ho (by simp) (by simp)
   exact ⟨⟨g, cap, by rw [hea]; rfl, hc 0 _ rfl⟩, hb⟩
  have hz0 : (V.str (P.textE d x)).size ≤ 1000000000 := by rw [str_size]; exact Nat.le_trans (HKL.out x (by rw [hea]; simp)) hlen
  clear hk he hea h1 h2
  go_enter Tryz.func39, Tryz.ntmps39
  go_wp2_with fail
  refine HC2.out.mono ?_
  rintro r w2 ⟨⟨g, cap, rfl, q0⟩, hb2⟩
  obtain ⟨hB2, hB2'⟩ := GO1.out w2 hb2
  have HB2 := hide hB2'
  obtain ⟨z0, z1, z2, z3, z4, z5, z6, z7, z8, z9⟩ := cl10 hB2
  clear hB2 hB2' hb2 GO1 HCT HC2 hlen HKL HNN HNR HV HTAB
  generalize hs0_ : V.str (P.textE d x) = s0 at *
  have HS0 := hide hs0_
  clear hs0_
  go_wp2_with fail
  go_quiet (fail)
  all_goals
   go_wp2_with fail
   go_ret
   refine ⟨ret_val (congrArg Value.string ?_), below_drewN HB2.out _⟩
   rw [HE.out]
   show V.str [103, 101, 116, 32] ++ s0 ++ V.str [32] ++ e.s = _
   rw [← HS0.out]
   simp only [← V.str_append, V.str_bl, ByteArray.append_assoc]
theorem textOf_all : ∀ d, P.TX d
 | 0 => fun _ _ _ _ _ _ _ _ _ _ _ _ _ _ h => h.elim
 | d + 1 => textOf_succ d (textOf_all d)
end Go.Proofs.YtbdbpfcblppnbaaGreatDoor.Vx
