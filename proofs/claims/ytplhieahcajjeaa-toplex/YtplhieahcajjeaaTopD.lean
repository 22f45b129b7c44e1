/- TopLex: whatever the text, the call returns true. -/
import Derived.Test.YtplhieahcajjeaaLexP
import Derived.Test.YtplhieahcajjeaaTopB
import Derived.Test.YtplhieahcajjeaaTopC
namespace Go.Proofs.Ytplhieahcajjeaa
open Go.RowKit
theorem Lx.ab_lex : Lx.lexAll [97, 98] = .ok [(1, 0, [97, 98])] := by
  show Lx.toks 3 [97, 98] 0 [] = _
  rw [Lx.toks]
  show Lx.toks 2 [97, 98] 2 [(1, 0, [97, 98])] = _
  rw [Lx.toks]
  rfl
theorem Lx.face_eq {a b : Nat × Nat × List UInt8} (h : Lx.face a = Lx.face b) : a.1 = b.1 ∧ a.2.2 = b.2.2 := by simpa [Lx.face] using h
theorem Lx.bl_append (a b : ByteArray) : Lx.bl (a ++ b) = Lx.bl a ++ Lx.bl b := by simp [Lx.bl]
theorem Lx.rend_snoc (l : List (Nat × Nat × List UInt8)) (i : Nat) (t : Nat × Nat × List UInt8) (h : l[i]? = some t) : Lx.rendAll (l.take (i + 1)) = Lx.rendAll (l.take i) ++ Lx.rend t.1 t.2.2 ++ [10] := by
  rw [List.take_add_one, h, Lx.rendAll, Lx.rendAll, List.flatMap_append]
  simp
theorem Lx.good_take (m : Nat) : ∀ (l : List (Nat × Nat × List UInt8)) (i k : Nat), Lx.Good m k l → Lx.Good m k (l.take i)
  | [], _, _, _ => by simp [Lx.Good]
  | _ :: _, 0, _, _ => trivial
  | _ :: l, i + 1, _, ⟨h1, h2, h3, h4⟩ => ⟨h1, h2, h3, Lx.good_take m l i _ h4⟩
/-- The cells of one token of a list. -/
theorem tok_cells {w : World} {B g c : Nat} {l : List (Nat × Nat × List UInt8)} (h : w.ownsRow B 34 3 (.slice (some ⟨g, 0, none⟩) l.length c) l.length (l.flatMap Lx.tokCells)) (i : Nat) (hi : i < l.length) (t : Nat × Nat × List UInt8) (ht : l[i]? = some t) :
    w.cell? ⟨g, i * 3, none⟩ = some (.int .i64 t.1) ∧ w.cell? ⟨g, i * 3 + 1, none⟩ = some (.int .i64 t.2.1) ∧ w.cell? ⟨g, i * 3 + 2, none⟩ = some (.string (Lx.str t.2.2)) := by
  have f := flat_get l i t ht
  exact ⟨by rw [h.cellAt _ (by omega)]; exact f 0 (by omega), by rw [h.cellAt _ (by omega)]; exact f 1 (by omega), by rw [h.cellAt _ (by omega)]; exact f 2 (by omega)⟩
set_option maxRecDepth 100000 in
set_option maxHeartbeats 1600000 in
theorem topLex_short (s : ByteArray) (w : World) (hs : s.size ≤ 1500) :
    Calls Try.prog 4 #[.string s] w fun e w' => e = .returned (.bool true) ∧ Below w.heap.size w w' := by
  have ha := tokens_all ⟨#[97, 98]⟩
  rw [show Lx.bl ⟨#[97, 98]⟩ = [97, 98] from rfl, Lx.ab_lex] at ha
  have HA : Hid _ := ha
  clear ha
  have hx := tokens_all s
  have hl := lexAll_len (Lx.bl s)
  have hg := Lx.lexAll_good (Lx.bl s)
  have hre := Lx.relexAll (Lx.bl s)
  rw [Lx.length_bl] at hg
  cases hr : Lx.lexAll (Lx.bl s) with
  | error q =>
    obtain ⟨a, f⟩ := q
    rw [hr] at hx
    have HX : Hid _ := hx
    clear hx hl hg hre hr
    go_enter Try.func4, Try.ntmps4
    go_wp2_with fail
    refine (HA.out _).mono ?_
    rintro e w1 ⟨⟨ao, cap, rfl, hown⟩, hb1⟩
    go_wp2_with fail
    refine (HX.out _).mono ?_
    rintro e w2 ⟨⟨rfl, _⟩, hb2⟩
    go_wp2_with fail
    go_ret
    exact ⟨rfl, hb1.trans (hb2.mono hb1.size)⟩
  | ok l =>
    have hl := hl l hr
    have hg := hg l hr
    have hre := hre l hr
    rw [hr] at hx
    have HX : Hid _ := hx
    have HRE : Hid _ := hre
    have HG : Hid _ := hg
    clear hx hr hre hg
    go_enter Try.func4, Try.ntmps4
    go_wp2_with fail
    refine (HA.out _).mono ?_
    rintro e w1 ⟨⟨ao, cap, rfl, hown⟩, hb1⟩
    clear hown
    go_wp2_with fail
    refine (HX.out _).mono ?_
    rintro e w2 ⟨⟨a2, c2, rfl, hown2⟩, hb2⟩
    have hB2 := hb1.trans (hb2.mono hb1.size)
    clear hb1 hb2 HA HX
    go_wp2_with fail
    go_loopw [8, 9, 10] (fun v8 v9 v10 wr => ∃ (i k : Nat) (t8 : ByteArray), i ≤ l.length ∧ v10 = .int .i64 i ∧ v9 = .int .i64 ((k : Int) - 1) ∧ k ≤ 1500 ∧ v8 = .string t8 ∧ Lx.bl t8 = Lx.rendAll (l.take i) ∧ Lx.Good s.size k (l.drop i) ∧
        wr.ownsRow w1.heap.size 34 3 (.slice a2 l.length c2) l.length (l.flatMap Lx.tokCells) ∧ Below w.heap.size w wr)
      (fun _ _ v10 _ => l.length - (intOf v10).toNat)
    case atStart => exact ⟨0, 0, ⟨#[]⟩, Nat.zero_le _, rfl, rfl, by omega, rfl, rfl, by simpa using HG.out, hown2, hB2⟩
    case round =>
      obtain ⟨i, k, t8, hi, rfl, rfl, hk, rfl, ht8, hgd, hown, hB⟩ := hrel
      clear hown2 hB2
      have hlen := Lx.rend_len (l.take i) _ _ (Lx.good_take _ l i 0 HG.out)
      rw [← ht8, Lx.length_bl, List.length_take] at hlen
      have ht8s : t8.size ≤ 810000 := by omega
      have HT8 : Hid _ := ht8
      clear ht8 hlen
      by_cases hlt : i < l.length
      · obtain ⟨g, cap', e1, _, _⟩ := hown.form (by omega)
        simp only [Value.slice.injEq] at e1
        obtain ⟨rfl, _, rfl⟩ := e1
        have hgi := List.getElem?_eq_getElem hlt
        rw [List.drop_eq_getElem_cons hlt] at hgd
        generalize l[i] = t at *
        obtain ⟨g1, g2, g3, g4⟩ := hgd
        obtain ⟨x0, x1, x2⟩ := tok_cells hown i hlt t hgi
        have h40 := (Lx.again t.1 t.2.2 [] g3).2.2.1
        have hsn := Lx.rend_snoc l i t hgi
        have HSN : Hid _ := hsn
        have HG4 : Hid _ := g4
        have hi0 : (0 : Int) ≤ (i : Int) := by omega
        have hi1 : (i : Int) < (l.length : Int) := by omega
        have htl : (Lx.str t.2.2).size ≤ 40 := by rw [← Lx.length_bl, Lx.bl_str]; exact h40
        clear hsn g3 g4 hgi h40
        by_cases h3 : t.1 = 3
        · have gk : ((t.1 : Int) == 3) = true := by simp; omega
          have hqx := fun w => quote_any (Lx.str t.2.2) w (by omega)
          rw [Lx.bl_str] at hqx
          have hql : (Lx.str (Lx.quote t.2.2)).size ≤ 170 := by
            rw [← Lx.length_bl, Lx.bl_str, Lx.quote]
            have := Lx.flat_le t.2.2
            rw [← Lx.length_bl, Lx.bl_str] at htl
            simp only [List.length_append, List.length_cons, List.length_nil]; omega
          have HQX : Hid _ := hqx
          clear hqx
          go_wp2_with (go_at_call 10; refine (HQX.out _).mono ?_; rintro e w3 ⟨rfl, hb3⟩)
          go_roundw
          case rel => exact ⟨i + 1, t.2.1 + 1, t8 ++ Lx.str (Lx.quote t.2.2) ++ ⟨#[10]⟩, by omega, by go_num, by rw [show (((t.2.1 + 1 : Nat) : Int) - 1) = (t.2.1 : Int) by omega], by omega, rfl, by rw [Lx.bl_append, Lx.bl_append, HT8.out, Lx.bl_str, HSN.out, Lx.rend, if_pos h3]; rfl, HG4.out, owns_below hown hb3, hB.trans (hb3.mono hB.size)⟩
          case measure => simp [intOf]; omega
        · have gk : ((t.1 : Int) == 3) = false := by simp; omega
          go_wp2_with fail
          go_roundw
          case rel => exact ⟨i + 1, t.2.1 + 1, t8 ++ Lx.str t.2.2 ++ ⟨#[10]⟩, by omega, by go_num, by rw [show (((t.2.1 + 1 : Nat) : Int) - 1) = (t.2.1 : Int) by omega], by omega, rfl, by rw [Lx.bl_append, Lx.bl_append, HT8.out, Lx.bl_str, HSN.out, Lx.rend, if_neg h3]; rfl, HG4.out, hown, hB⟩
          case measure => simp [intOf]; omega
      · have ht : Lx.bl t8 = Lx.rendAll l := by rw [HT8.out, List.take_of_length_le (by omega)]
        by_cases h4 : 4000 < t8.size
        · go_wp2_with fail
          go_ret
          exact ⟨rfl, hB⟩
        · obtain ⟨r, hr1, hr2⟩ := HRE.out (by rw [← ht, Lx.length_bl]; omega)
          have hrl : r.length = l.length := by simpa using congrArg List.length hr2
          have hx : ∀ w, Calls Try.prog 6 #[.string t8] w fun e w' => (∃ ao cap, e = .returned (.tuple #[.slice ao l.length cap, .int .i64 0, .nilIface]) ∧ w'.ownsRow w.heap.size 34 3 (.slice ao l.length cap) l.length (r.flatMap Lx.tokCells)) ∧ Below w.heap.size w w' := by
            intro w
            have := tokens_all t8 w
            rw [ht, hr1] at this
            refine this.mono ?_
            rintro e w' ⟨⟨ao, cap, h1, h2⟩, hb⟩
            rw [hrl] at h1 h2
            exact ⟨⟨ao, cap, h1, h2⟩, hb⟩
          have HX : Hid _ := hx
          have HR2 : Hid _ := hr2
          have HRL : Hid _ := hrl
          clear hx hr1 hr2 hrl ht HT8 HRE HG hgd
          go_wp2_with fail
          refine (HX.out _).mono ?_
          rintro e w3 ⟨⟨a3, c3, rfl, hown3⟩, hb3⟩
          have hown1 := owns_below hown hb3
          have hB3 := hB.trans (hb3.mono hB.size)
          clear hown hb3 hB HX
          go_wp2_with fail
          go_loopw [13] (fun v wx => ∃ j : Nat, j ≤ l.length ∧ v = .int .i64 j ∧ ∃ m, wx = w3.drewN m) (fun v _ => l.length - (intOf v).toNat)
          case atStart => exact ⟨0, Nat.zero_le _, rfl, 0, rfl⟩
          case round =>
            obtain ⟨j, hj, rfl, m, rfl⟩ := hrel
            by_cases hjl : j < l.length
            · have hrl' := HRL.out
              rw [← hrl'] at hown3
              obtain ⟨ga, ca, e1, _, _⟩ := hown1.form (by omega)
              obtain ⟨gb, cb, e2, _, _⟩ := hown3.form (by omega)
              simp only [Value.slice.injEq] at e1 e2
              obtain ⟨rfl, _, rfl⟩ := e1
              obtain ⟨rfl, _, rfl⟩ := e2
              have g1 := List.getElem?_eq_getElem hjl
              have hjr : j < r.length := by omega
              have g2 := List.getElem?_eq_getElem hjr
              obtain ⟨x0, _, x2⟩ := tok_cells hown1 j hjl _ g1
              obtain ⟨y0, _, y2⟩ := tok_cells hown3 j hjr _ g2
              have hf : Lx.face r[j] = Lx.face l[j] := by
                have := congrArg (fun z => z[j]?) HR2.out
                simp only [List.getElem?_map, g1, g2, Option.map_some] at this
                exact Option.some.inj this
              have f1 := (Lx.face_eq hf).1
              have f2 := (Lx.face_eq hf).2
              rw [f1] at y0
              rw [f2] at y2
              generalize l[j] = t at *
              have hi0 : (0 : Int) ≤ (j : Int) := by omega
              have hi1 : (j : Int) < (l.length : Int) := by omega
              clear f1 f2 hf g1 g2 hown1 hown3 hrl'
              go_wp2_with fail
              go_quiet (fail)
              go_wp2_with fail
              go_roundw
              case rel => exact ⟨j + 1, by omega, by go_num, _, rfl⟩
              case measure => simp [intOf]; omega
            · go_wp2_with fail
              go_ret
              exact ⟨rfl, below_drewN hB3 _⟩
set_option maxRecDepth 100000 in
set_option maxHeartbeats 800000 in
theorem topLex_long (s : ByteArray) (w : World) (hs : 1500 < s.size) (hm : s.size ≤ maxLen) :
    Calls Try.prog 4 #[.string s] w fun e w' => e = .returned (.bool true) ∧ Below w.heap.size w w' := by
  unfold maxLen at hm
  have ha := tokens_all ⟨#[97, 98]⟩
  rw [show Lx.bl ⟨#[97, 98]⟩ = [97, 98] from rfl, Lx.ab_lex] at ha
  have HA : Hid _ := ha
  clear ha
  go_enter Try.func4, Try.ntmps4
  go_wp2_with fail
  refine (HA.out _).mono ?_
  rintro e w1 ⟨⟨ao, cap, rfl, hown⟩, hb1⟩
  go_wp2_with fail
  go_ret
  exact ⟨rfl, hb1⟩
theorem topLex_true (s : ByteArray) (w : World) (hm : s.size ≤ maxLen) :
    Calls Try.prog 4 #[.string s] w fun e w' => e = .returned (.bool true) ∧ Below w.heap.size w w' := by
  rcases Nat.lt_or_ge 1500 s.size with h | h
  · exact topLex_long s w h hm
  · exact topLex_short s w h
end Go.Proofs.Ytplhieahcajjeaa
