/- The document's own answer: quoted. -/
import Derived.Test.YtplhieahcajjeaaLexI
import Derived.Deep.RegionLaw
import Derived.Deep.RegionHeld3
namespace Go.Proofs.Ytplhieahcajjeaa
open Go.RowKit
theorem wrap_small {n : Int} (h0 : -9223372036854775808 ≤ n) (h1 : n ≤ 9223372036854775807) : IntKind.i64.wrap n = n := by
  rw [IntKind.wrap]; simp [IntKind.signed, IntKind.bits]; omega
theorem wrap8_small {n : Int} (h0 : 0 ≤ n) (h1 : n ≤ 255) : IntKind.u8.wrap n = n := by
  rw [IntKind.wrap]; simp [IntKind.signed, IntKind.bits]; omega
theorem news_alloc_drew (w : World) (cs : Array Value) (e : TypeId) (g : Nat) (h : w.heap.size = g) : ∀ j u, cs.toList[j]? = some u → (w.alloc (.cells cs e)).drew.cell? ((⟨g, 0, none⟩ : Addr).add j) = some u := news_alloc w cs e g h
theorem hexV (x y : UInt8) (h1 : 0 ≤ Lx.hex x) (h2 : 0 ≤ Lx.hex y) : Value.int .u8 (IntKind.u8.wrap (IntKind.i64.wrap (IntKind.i64.wrap (16 * Lx.hex x) + Lx.hex y))) = Lx.byteV (Lx.hexByte x y) := by
  have a := Lx.hex_bd x
  have b := Lx.hex_bd y
  rw [wrap_small (n := 16 * Lx.hex x) (by omega) (by omega), wrap_small (by omega) (by omega), wrap8_small (by omega) (by omega), Lx.byteV, Lx.hexByte_toNat x y h1 h2]
theorem at_same (s : ByteArray) (a b : Nat) (ha : a < s.size) (hb : b < s.size) (h : a = b) : s[a] = s[b] := by subst h; rfl
theorem rest_getD (s : ByteArray) (k j : Nat) (h : k + j < s.size) : ((Lx.bl s).drop k).getD j 0 = s[k + j] := by
  rw [List.getD_eq_getElem?_getD, List.getElem?_drop, Lx.bl_get s (k + j) h]; rfl
theorem rqrel {w wr w1 : World} {ao : Option Addr} {cap g cap' : Nat} {acc : List UInt8} {b : UInt8} {o : Obj}
    (hown : wr.ownsRow w.heap.size 5 1 (.slice ao acc.length cap) acc.length (acc.map Lx.byteV))
    (hown1 : w1.ownsRow w.heap.size 5 1 (.slice (some ⟨g, 0, none⟩) (acc.length + 1) cap') (acc.length + 1) (acc.map Lx.byteV ++ [Lx.byteV b]))
    (hgrow : (wr.alloc o).grownBy w1 (Value.slice ao acc.length cap).ownBlock) (hbr : Below w.heap.size w wr) :
    w1.ownsRow w.heap.size 5 1 (.slice (some ⟨g, 0, none⟩) (acc ++ [b]).length cap') (acc ++ [b]).length ((acc ++ [b]).map Lx.byteV) ∧ Below w.heap.size w w1 :=
  ⟨by simpa using hown1, (hbr.alloc hbr.size o).grown hgrow (by have := hbr.size; simp; omega) (fun k hk => (hown.lt _ hk).1)⟩
set_option maxRecDepth 100000 in
set_option maxHeartbeats 1600000 in
theorem rquoted_any (s : ByteArray) (p : Nat) (w : World) (hs : s.size ≤ 1000000) (hp : p < s.size) :
    Calls Try.prog 19 #[.string s, .int .i64 p] w fun e w' => e = .returned (Lx.oneV p (Lx.quotedTok ((Lx.bl s).drop p))) ∧ Below w.heap.size w w' := by
  obtain ⟨i0, hi, hz0, hz1, hz2⟩ := info_parts info5
  go_enter Try.func19, Try.ntmps19
  go_wp2_with fail
  go_loopw [8, 9, 10] (fun v i _ wr => ∃ (k : Nat) (acc : List UInt8) (ao : Option Addr) (cap : Nat), 1 ≤ k ∧ p + k ≤ s.size ∧ acc.length ≤ k ∧ i = .int .i64 (p + k : Nat) ∧ v = .slice ao acc.length cap ∧
      wr.ownsRow w.heap.size 5 1 (.slice ao acc.length cap) acc.length (acc.map Lx.byteV) ∧ Lx.quotedTok ((Lx.bl s).drop p) = Lx.qt ((Lx.bl s).drop (p + k)) k acc ∧ Below w.heap.size w wr)
    (fun _ i _ _ => s.size - (intOf i).toNat)
  case atStart => exact ⟨1, [], none, 0, by omega, by omega, by simp, by go_num, rfl, World.ownsRow_nil _ _ _ _, by rw [Lx.quotedTok, List.drop_drop], Below.refl _ _⟩
  case round =>
    obtain ⟨k, acc, ao, cap, hk1, hk, hak, rfl, rfl, hown, hq, hbr⟩ := hrel
    by_cases hlt : p + k < s.size
    · have hd := Lx.bl_drop s (p + k) hlt
      have hq' := hq
      rw [hd, Lx.qt_cons, ← hd] at hq'
      by_cases h34 : s[p + k].toNat = 34
      · have g34 : ((s[p + k].toNat : Int) == 34) = true := by simp; omega
        rw [if_pos h34] at hq'
        have hcv := fun n => bytes_string (w := wr.drewN n) (show (wr.drewN n).ownsRow _ _ _ _ _ _ from hown)
        by_cases h40 : acc.length > 40
        · have E : Hid (Lx.oneV p (Lx.quotedTok ((Lx.bl s).drop p)) = .tuple #[.int .i64 0, .string ⟨#[]⟩, .int .i64 0, .int .i64 1]) := by
            show _ = _; rw [hq', if_pos h40]; exact Lx.oneV_bad _ 1 (by omega)
          clear hq hq' hd h34
          go_wp2_with fail
          exact bodyPost_ret (v := .tuple #[.int .i64 0, .string ⟨#[]⟩, .int .i64 0, .int .i64 1]) (by simp [results, Try.results19, go_sem]) rfl ⟨congrArg Ending.returned E.out.symm, hbr⟩
        · have E : Hid (Lx.oneV p (Lx.quotedTok ((Lx.bl s).drop p)) = .tuple #[.int .i64 3, .string (Lx.str acc), .int .i64 ((p : Int) + (k : Int) + 1), .int .i64 0]) := by
            show _ = _; rw [hq', if_neg h40, Lx.oneV_ok p 3 (k + 1) acc _ rfl, show ((p : Int) + ((k + 1 : Nat) : Int)) = (p : Int) + (k : Int) + 1 by omega]; rfl
          clear hq hq' hd h34
          go_wp2_with fail
          go_quiet (fail)
          go_wp2_with fail
          exact bodyPost_ret (v := .tuple #[.int .i64 3, .string (Lx.str acc), .int .i64 ((p : Int) + (k : Int) + 1), .int .i64 0]) (by simp [results, Try.results19, go_sem]) rfl ⟨congrArg Ending.returned E.out.symm, below_drewN hbr _⟩
      · have g34 : ((s[p + k].toNat : Int) == 34) = false := by simp; omega
        rw [if_neg h34] at hq'
        have d0 := rest_getD s (p + k) 0 (by omega)
        simp only [Nat.add_zero] at d0
        have dl : ((Lx.bl s).drop (p + k)).length = s.size - (p + k) := by rw [List.length_drop, Lx.length_bl]
        clear hq hd h34
        by_cases hc : s[p + k].toNat < 32 ∨ 126 < s[p + k].toNat
        · have E : Hid (Lx.oneV p (Lx.quotedTok ((Lx.bl s).drop p)) = .tuple #[.int .i64 0, .string ⟨#[]⟩, .int .i64 0, .int .i64 4]) := by
            show _ = _; rw [hq', Lx.unq, d0, if_pos hc, if_pos rfl]; exact Lx.oneV_bad _ 4 (by omega)
          clear hq' d0 dl
          by_cases hc1 : s[p + k].toNat < 32
          · clear hc
            go_wp2_with fail
            exact bodyPost_ret (v := .tuple #[.int .i64 0, .string ⟨#[]⟩, .int .i64 0, .int .i64 4]) (by simp [results, Try.results19, go_sem]) rfl ⟨congrArg Ending.returned E.out.symm, hbr⟩
          · have hc2 : 126 < s[p + k].toNat := by omega
            clear hc
            go_wp2_with fail
            exact bodyPost_ret (v := .tuple #[.int .i64 0, .string ⟨#[]⟩, .int .i64 0, .int .i64 4]) (by simp [results, Try.results19, go_sem]) rfl ⟨congrArg Ending.returned E.out.symm, hbr⟩
        have hc1 : 32 ≤ s[p + k].toNat := by omega
        have hc2 : s[p + k].toNat ≤ 126 := by omega
        by_cases h92 : s[p + k].toNat = 92
        · have g92 : ((s[p + k].toNat : Int) != 92) = false := by simp; omega
          by_cases hs1 : p + k + 1 < s.size
          · have d1 := rest_getD s (p + k) 1 hs1
            by_cases hq1 : s[p + k + 1].toNat = 34 ∨ s[p + k + 1].toNat = 92
            · have E : Hid (Lx.quotedTok ((Lx.bl s).drop p) = Lx.qt ((Lx.bl s).drop (p + (k + 2))) (k + 2) (acc ++ [s[p + k + 1]])) := by
                show _ = _
                have hu : Lx.unq ((Lx.bl s).drop (p + k)) = (s[p + k + 1], 2) := by rw [Lx.unq, d0, if_neg hc, if_neg (fun h => h h92), dl, d1, if_pos ⟨by omega, hq1⟩]
                rw [hq', hu, if_neg (by simp), List.drop_drop]; rfl
              clear hq' d0 d1 dl hc h92
              by_cases h34 : s[p + k + 1].toNat = 34
              · have g34' : ((s[p + k + 1].toNat : Int) == 34) = true := by simp; omega
                clear hq1 h34
                go_wp2_with (at_builtin; go_must (refine wpList_append_lies _ rfl (.tmp 62) (.tmp 67) 44 rfl w.heap.size 5 i0 (.int .u8 0) 1 1 Try.underlying44 hi hz0 hz1 hz2 rfl (by decide) _ acc.length (acc.map Lx.byteV) rfl (hown.alloc _) ⟨wr.heap.size, 0, none⟩ 1 1 [Lx.byteV s[p + k + 1]] rfl rfl (news_alloc _ _ _ _ rfl) (by simp [Lx.byteV, Value.oneCell']) (by decide) (by unfold maxLen; omega) (by omega) (by have := hbr.size; simp; omega) _ rfl ?_); intro g cap' w1 hown1 hgrow hat hlt1)
                have R := rqrel hown hown1 hgrow hbr
                go_roundw
                case rel => exact ⟨k + 2, acc ++ [s[p + k + 1]], some ⟨g, 0, none⟩, cap', by omega, by omega, by simp; omega, by go_num, by simp, R.1, E.out, R.2⟩
                case measure => simp [intOf]; omega
              · have g34' : ((s[p + k + 1].toNat : Int) == 34) = false := by simp; omega
                have g92' : ((s[p + k + 1].toNat : Int) == 92) = true := by simp; omega
                clear hq1 h34
                go_wp2_with (at_builtin; go_must (refine wpList_append_lies _ rfl (.tmp 62) (.tmp 67) 44 rfl w.heap.size 5 i0 (.int .u8 0) 1 1 Try.underlying44 hi hz0 hz1 hz2 rfl (by decide) _ acc.length (acc.map Lx.byteV) rfl (hown.alloc _) ⟨wr.heap.size, 0, none⟩ 1 1 [Lx.byteV s[p + k + 1]] rfl rfl (news_alloc _ _ _ _ rfl) (by simp [Lx.byteV, Value.oneCell']) (by decide) (by unfold maxLen; omega) (by omega) (by have := hbr.size; simp; omega) _ rfl ?_); intro g cap' w1 hown1 hgrow hat hlt1)
                have R := rqrel hown hown1 hgrow hbr
                go_roundw
                case rel => exact ⟨k + 2, acc ++ [s[p + k + 1]], some ⟨g, 0, none⟩, cap', by omega, by omega, by simp; omega, by go_num, by simp, R.1, E.out, R.2⟩
                case measure => simp [intOf]; omega
            · have g34' : ((s[p + k + 1].toNat : Int) == 34) = false := by simp; omega
              have g92' : ((s[p + k + 1].toNat : Int) == 92) = false := by simp; omega
              by_cases hs3 : p + k + 3 < s.size
              · have d2 := rest_getD s (p + k) 2 (by omega)
                have d3 := rest_getD s (p + k) 3 hs3
                have a := Lx.hex_bd s[p + k + 2]
                have b := Lx.hex_bd s[p + k + 3]
                by_cases hx : s[p + k + 1].toNat = 120
                · have g120 : ((s[p + k + 1].toNat : Int) == 120) = true := by simp; omega
                  by_cases x2 : 0 ≤ Lx.hex s[p + k + 2]
                  · by_cases x3 : 0 ≤ Lx.hex s[p + k + 3]
                    · have E : Hid (Lx.quotedTok ((Lx.bl s).drop p) = Lx.qt ((Lx.bl s).drop (p + (k + 4))) (k + 4) (acc ++ [Lx.hexByte s[p + k + 2] s[p + k + 3]])) := by
                        show _ = _
                        have hu : Lx.unq ((Lx.bl s).drop (p + k)) = (Lx.hexByte s[p + k + 2] s[p + k + 3], 4) := by rw [Lx.unq, d0, if_neg hc, if_neg (fun h => h h92), dl, d1, d2, d3, if_neg (fun h => hq1 h.2), if_pos ⟨by omega, hx, x2, x3⟩]
                        rw [hq', hu, if_neg (by simp), List.drop_drop]; rfl
                      have E2 : Hid (((Lx.hexByte s[p + k + 2] s[p + k + 3]).toNat : Int) = 16 * Lx.hex s[p + k + 2] + Lx.hex s[p + k + 3]) := Lx.hexByte_toNat _ _ x2 x3
                      clear hq' d0 d1 d2 d3 dl hc h92 hq1 hx
                      go_wp2_with fail
                      refine (digitOf_any s[p + k + 2] _).mono ?_
                      rintro e w'' ⟨rfl, hw⟩; rw [hw]; clear hw w''
                      go_wp2_with fail
                      refine (digitOf_any s[p + k + 3] _).mono ?_
                      rintro e w'' ⟨rfl, hw⟩; rw [hw]; clear hw w''
                      go_wp2_with fail
                      have i2a : (0 : Int) ≤ (p : Int) + (k : Int) + 2 := by omega
                      have i2b : (p : Int) + (k : Int) + 2 < (s.size : Int) := by omega
                      have i3a : (0 : Int) ≤ (p : Int) + (k : Int) + 3 := by omega
                      have i3b : (p : Int) + (k : Int) + 3 < (s.size : Int) := by omega
                      have w2 : IntKind.i64.wrap ((p : Int) + (k : Int) + 2) = (p : Int) + (k : Int) + 2 := wrap_small (by omega) (by omega)
                      have w3 : IntKind.i64.wrap ((p : Int) + (k : Int) + 3) = (p : Int) + (k : Int) + 3 := wrap_small (by omega) (by omega)
                      have hi2 : ((p : Int) + (k : Int) + 2).toNat < s.size := by omega
                      have hi3 : ((p : Int) + (k : Int) + 3).toNat < s.size := by omega
                      go_region_held3 (fun _ => True) (trivial) (first | (go_at_call 29; refine (digitOf_any _ _).mono ?_; rintro e w'' ⟨rfl, hw⟩; rw [hw]; clear hw w'') | (refine step_append_lies _ ?_ (.tmp 99) (.tmp 113) 44 ?_ w.heap.size 5 i0 (.int .u8 0) 1 1 Try.underlying44 hi hz0 hz1 hz2 rfl Nat.one_pos (.slice ao acc.length cap) acc.length (acc.map Lx.byteV) ?_ ?_ ⟨wr.heap.size, 0, none⟩ 1 1 [Value.int .u8 (IntKind.u8.wrap (IntKind.i64.wrap (IntKind.i64.wrap (16 * Lx.hex (s[((p : Int) + (k : Int) + 2).toNat]'hi2)) + Lx.hex (s[((p : Int) + (k : Int) + 3).toNat]'hi3))))] ?_ rfl ?_ ?_ Nat.one_pos ?_ ?_ ?_ _ rfl ?_; rfl; rfl; rfl; exact (hown.alloc _).drew; rfl; exact news_alloc_drew wr #[Value.int .u8 (IntKind.u8.wrap (IntKind.i64.wrap (IntKind.i64.wrap (16 * Lx.hex (s[((p : Int) + (k : Int) + 2).toNat]'hi2)) + Lx.hex (s[((p : Int) + (k : Int) + 3).toNat]'hi3))))] 5 _ rfl; simp [Value.oneCell']; (unfold maxLen; omega); omega; (have := hbr.size; simp; omega); intro g cap' w1 hown1 hgrow hat hlt1))
                      all_goals
                        rw [at_same s ((p : Int) + (k : Int) + 2).toNat (p + k + 2) hi2 (by omega) (by omega), at_same s ((p : Int) + (k : Int) + 3).toNat (p + k + 3) hi3 (by omega) (by omega), hexV _ _ x2 x3] at hown1
                        have R := rqrel (b := Lx.hexByte s[p + k + 2] s[p + k + 3]) (show (wr.drew).ownsRow _ _ _ _ _ _ from hown) hown1 hgrow hbr.drew
                        clear hown1 hgrow hat w2 w3 i2a i2b i3a i3b
                        go_wp2_with fail
                        go_roundw
                        case rel => exact ⟨k + 4, acc ++ [Lx.hexByte s[p + k + 2] s[p + k + 3]], some ⟨g, 0, none⟩, cap', by omega, by omega, by simp; omega, by go_num, by simp, R.1, E.out, R.2⟩
                        case measure => simp [intOf]; omega
                    · have E : Hid (Lx.oneV p (Lx.quotedTok ((Lx.bl s).drop p)) = .tuple #[.int .i64 0, .string ⟨#[]⟩, .int .i64 0, .int .i64 4]) := by
                        show _ = _
                        have hu : Lx.unq ((Lx.bl s).drop (p + k)) = (0, 0) := by rw [Lx.unq, d0, if_neg hc, if_neg (fun h => h h92), dl, d1, d2, d3, if_neg (fun h => hq1 h.2), if_neg (fun h => x3 h.2.2.2)]
                        rw [hq', hu, if_pos rfl]; exact Lx.oneV_bad _ 4 (by omega)
                      clear hq' d0 d1 d2 d3 dl hc h92 hq1 hx
                      go_wp2_with fail
                      refine (digitOf_any s[p + k + 2] _).mono ?_
                      rintro e w'' ⟨rfl, hw⟩; rw [hw]; clear hw w''
                      go_wp2_with fail
                      refine (digitOf_any s[p + k + 3] _).mono ?_
                      rintro e w'' ⟨rfl, hw⟩; rw [hw]; clear hw w''
                      go_wp2_with fail
                      exact bodyPost_ret (v := .tuple #[.int .i64 0, .string ⟨#[]⟩, .int .i64 0, .int .i64 4]) (by simp [results, Try.results19, go_sem]) rfl ⟨congrArg Ending.returned E.out.symm, hbr⟩
                  · have E : Hid (Lx.oneV p (Lx.quotedTok ((Lx.bl s).drop p)) = .tuple #[.int .i64 0, .string ⟨#[]⟩, .int .i64 0, .int .i64 4]) := by
                      show _ = _
                      have hu : Lx.unq ((Lx.bl s).drop (p + k)) = (0, 0) := by rw [Lx.unq, d0, if_neg hc, if_neg (fun h => h h92), dl, d1, d2, d3, if_neg (fun h => hq1 h.2), if_neg (fun h => x2 h.2.2.1)]
                      rw [hq', hu, if_pos rfl]; exact Lx.oneV_bad _ 4 (by omega)
                    clear hq' d0 d1 d2 d3 dl hc h92 hq1 hx
                    go_wp2_with fail
                    refine (digitOf_any s[p + k + 2] _).mono ?_
                    rintro e w'' ⟨rfl, hw⟩; rw [hw]; clear hw w''
                    go_wp2_with fail
                    exact bodyPost_ret (v := .tuple #[.int .i64 0, .string ⟨#[]⟩, .int .i64 0, .int .i64 4]) (by simp [results, Try.results19, go_sem]) rfl ⟨congrArg Ending.returned E.out.symm, hbr⟩
                · have g120 : ((s[p + k + 1].toNat : Int) == 120) = false := by simp; omega
                  have E : Hid (Lx.oneV p (Lx.quotedTok ((Lx.bl s).drop p)) = .tuple #[.int .i64 0, .string ⟨#[]⟩, .int .i64 0, .int .i64 4]) := by
                    show _ = _
                    have hu : Lx.unq ((Lx.bl s).drop (p + k)) = (0, 0) := by rw [Lx.unq, d0, if_neg hc, if_neg (fun h => h h92), dl, d1, d2, d3, if_neg (fun h => hq1 h.2), if_neg (fun h => hx h.2.1)]
                    rw [hq', hu, if_pos rfl]; exact Lx.oneV_bad _ 4 (by omega)
                  clear hq' d0 d1 d2 d3 dl hc h92 hq1 hx
                  go_wp2_with fail
                  exact bodyPost_ret (v := .tuple #[.int .i64 0, .string ⟨#[]⟩, .int .i64 0, .int .i64 4]) (by simp [results, Try.results19, go_sem]) rfl ⟨congrArg Ending.returned E.out.symm, hbr⟩
              · have E : Hid (Lx.oneV p (Lx.quotedTok ((Lx.bl s).drop p)) = .tuple #[.int .i64 0, .string ⟨#[]⟩, .int .i64 0, .int .i64 4]) := by
                  show _ = _
                  have hu : Lx.unq ((Lx.bl s).drop (p + k)) = (0, 0) := by rw [Lx.unq, d0, if_neg hc, if_neg (fun h => h h92), dl, d1, if_neg (fun h => hq1 h.2), if_neg (by omega)]
                  rw [hq', hu, if_pos rfl]; exact Lx.oneV_bad _ 4 (by omega)
                clear hq' d0 d1 dl hc h92 hq1
                go_wp2_with fail
                exact bodyPost_ret (v := .tuple #[.int .i64 0, .string ⟨#[]⟩, .int .i64 0, .int .i64 4]) (by simp [results, Try.results19, go_sem]) rfl ⟨congrArg Ending.returned E.out.symm, hbr⟩
          · have E : Hid (Lx.oneV p (Lx.quotedTok ((Lx.bl s).drop p)) = .tuple #[.int .i64 0, .string ⟨#[]⟩, .int .i64 0, .int .i64 4]) := by
              show _ = _
              have hu : Lx.unq ((Lx.bl s).drop (p + k)) = (0, 0) := by rw [Lx.unq, d0, if_neg hc, if_neg (fun h => h h92), dl, if_neg (by omega), if_neg (by omega)]
              rw [hq', hu, if_pos rfl]; exact Lx.oneV_bad _ 4 (by omega)
            clear hq' d0 dl hc h92
            go_wp2_with fail
            exact bodyPost_ret (v := .tuple #[.int .i64 0, .string ⟨#[]⟩, .int .i64 0, .int .i64 4]) (by simp [results, Try.results19, go_sem]) rfl ⟨congrArg Ending.returned E.out.symm, hbr⟩
        · have g92 : ((s[p + k].toNat : Int) != 92) = true := by simp; omega
          have E : Hid (Lx.quotedTok ((Lx.bl s).drop p) = Lx.qt ((Lx.bl s).drop (p + (k + 1))) (k + 1) (acc ++ [s[p + k]])) := by
            show _ = _
            have hu : Lx.unq ((Lx.bl s).drop (p + k)) = (s[p + k], 1) := by rw [Lx.unq, d0, if_neg hc, if_pos h92]
            rw [hq', hu, if_neg (by simp), List.drop_drop]; rfl
          clear hq' d0 dl hc h92
          go_wp2_with (at_builtin; go_must (refine wpList_append_lies _ rfl (.tmp 37) (.tmp 39) 44 rfl w.heap.size 5 i0 (.int .u8 0) 1 1 Try.underlying44 hi hz0 hz1 hz2 rfl (by decide) _ acc.length (acc.map Lx.byteV) rfl (hown.alloc _) ⟨wr.heap.size, 0, none⟩ 1 1 [Lx.byteV s[p + k]] rfl rfl (news_alloc _ _ _ _ rfl) (by simp [Lx.byteV, Value.oneCell']) (by decide) (by unfold maxLen; omega) (by omega) (by have := hbr.size; simp; omega) _ rfl ?_); intro g cap' w1 hown1 hgrow hat hlt1)
          have R := rqrel hown hown1 hgrow hbr
          go_roundw
          case rel => exact ⟨k + 1, acc ++ [s[p + k]], some ⟨g, 0, none⟩, cap', by omega, by omega, by simp; omega, by go_num, by simp, R.1, E.out, R.2⟩
          case measure => simp [intOf]; omega
    · have E : Hid (Lx.oneV p (Lx.quotedTok ((Lx.bl s).drop p)) = .tuple #[.int .i64 0, .string ⟨#[]⟩, .int .i64 0, .int .i64 4]) := by
        show _ = _; rw [hq, Lx.bl_drop_end s (p + k) hlt, Lx.qt_nil]; exact Lx.oneV_bad _ 4 (by omega)
      clear hq
      go_wp2_with fail
      exact bodyPost_ret (v := .tuple #[.int .i64 0, .string ⟨#[]⟩, .int .i64 0, .int .i64 4]) (by simp [results, Try.results19, go_sem]) rfl ⟨congrArg Ending.returned E.out.symm, hbr⟩
end Go.Proofs.Ytplhieahcajjeaa
