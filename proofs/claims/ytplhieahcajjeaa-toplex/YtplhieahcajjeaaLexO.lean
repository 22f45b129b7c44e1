/- The document's own answer: Tokens. -/
import Derived.Test.YtplhieahcajjeaaLexM
import Derived.Test.YtplhieahcajjeaaLexN
namespace Go.Proofs.Ytplhieahcajjeaa
open Go.RowKit
/-- What the document's answer hands back. -/
def Lx.HandedR (B : Nat) (w' : World) (e : Ending) : Lx.LexR → Prop
  | .ok l => ∃ ao cap, e = .returned (.tuple #[.slice ao l.length cap, .int .i64 0, .int .i64 0]) ∧ w'.ownsRow B 34 3 (.slice ao l.length cap) l.length (l.flatMap Lx.tokCells)
  | .error (a, f) => e = .returned (.tuple #[.slice none 0 0, .int .i64 a, .int .i64 f]) ∧ 0 < f
theorem owns_below {w w1 : World} {b e n m : Nat} {v : Value} {xs : List Value} (h : w.ownsRow b e m v n xs) (hb : Below w.heap.size w w1) : w1.ownsRow b e m v n xs :=
  h.kept (⟨hb.os, hb.tape, hb.output, hb.size, fun j hj _ => hb.block j hj⟩ : w.grownBy w1 none) (by cases v.ownBlock <;> simp)
theorem rtrel {w w3 w1 : World} {ao : Option Addr} {cap g cap' : Nat} {acc : List (Nat × Nat × List UInt8)} {t : Nat × Nat × List UInt8} {o : Obj}
    (hown3 : w3.ownsRow w.heap.size 34 3 (.slice ao acc.length cap) acc.length (acc.flatMap Lx.tokCells))
    (hown1 : w1.ownsRow w.heap.size 34 3 (.slice (some ⟨g, 0, none⟩) (acc.length + 1) cap') (acc.length + 1) (acc.flatMap Lx.tokCells ++ Lx.tokCells t))
    (hgrow : (w3.alloc o).grownBy w1 (Value.slice ao acc.length cap).ownBlock) (hbr3 : Below w.heap.size w w3) :
    w1.ownsRow w.heap.size 34 3 (.slice (some ⟨g, 0, none⟩) (acc ++ [t]).length cap') (acc ++ [t]).length ((acc ++ [t]).flatMap Lx.tokCells) ∧ Below w.heap.size w w1 :=
  ⟨by simpa using hown1, (hbr3.alloc hbr3.size o).grown hgrow (by have := hbr3.size; simp; omega) (fun k hk => (hown3.lt _ hk).1)⟩
set_option maxRecDepth 100000 in
set_option maxHeartbeats 1600000 in
theorem rtokens_any (s : ByteArray) (w : World) (hs : s.size ≤ 4000) :
    Calls Try.prog 7 #[.string s] w fun e w' => Lx.HandedR w.heap.size w' e (Lx.lexAll (Lx.bl s)) ∧ Below w.heap.size w w' := by
  obtain ⟨i0, hi, hz0, hz1, hz2⟩ := info_parts info34
  go_enter Try.func7, Try.ntmps7
  go_wp2_with fail
  go_loopw [5, 6, 7, 8, 9, 10, 11] (fun v i _ _ _ _ _ wr => ∃ (n k : Nat) (acc : List (Nat × Nat × List UInt8)) (ao : Option Addr) (cap : Nat), k ≤ s.size ∧ s.size < k + n ∧ acc.length ≤ k ∧ i = .int .i64 k ∧ v = .slice ao acc.length cap ∧
      wr.ownsRow w.heap.size 34 3 (.slice ao acc.length cap) acc.length (acc.flatMap Lx.tokCells) ∧ Lx.lexAll (Lx.bl s) = Lx.toks n (Lx.bl s) k acc ∧ Below w.heap.size w wr)
    (fun _ i _ _ _ _ _ _ => s.size - (intOf i).toNat)
  case atStart => exact ⟨s.size + 1, 0, [], none, 0, Nat.zero_le _, by omega, by simp, rfl, rfl, World.ownsRow_nil _ _ _ _, by rw [Lx.lexAll, Lx.length_bl, if_neg (by omega)], Below.refl _ _⟩
  case round =>
    obtain ⟨n, k, acc, ao, cap, hk, hn, hak, rfl, rfl, hown, hq, hbr⟩ := hrel
    obtain ⟨n, rfl⟩ : ∃ n', n = n' + 1 := ⟨n - 1, by omega⟩
    by_cases hlt : k < s.size
    · have hd := Lx.bl_drop s k hlt
      by_cases hb : s[k].toNat = 32 ∨ s[k].toNat = 10
      · have E : Hid (Lx.lexAll (Lx.bl s) = Lx.toks (n + 1) (Lx.bl s) (k + 1) acc) := by show _ = _; rw [hq]; exact Lx.toks_blank _ _ _ _ _ _ hd rfl hb
        clear hq hd
        by_cases h32 : s[k].toNat = 32
        · have g32 : ((s[k].toNat : Int) == 32) = true := by simp; omega
          clear hb h32
          go_wp2_with fail
          go_roundw
          case rel => exact ⟨n + 1, k + 1, acc, ao, cap, by omega, by omega, by omega, by go_num, rfl, hown, E.out, hbr⟩
          case measure => simp [intOf]; omega
        · have g32 : ((s[k].toNat : Int) == 32) = false := by simp; omega
          have g10 : ((s[k].toNat : Int) == 10) = true := by simp; omega
          clear hb h32
          go_wp2_with fail
          go_roundw
          case rel => exact ⟨n + 1, k + 1, acc, ao, cap, by omega, by omega, by omega, by go_num, rfl, hown, E.out, hbr⟩
          case measure => simp [intOf]; omega
      · have g32 : ((s[k].toNat : Int) == 32) = false := by simp; omega
        have g10 : ((s[k].toNat : Int) == 10) = false := by simp; omega
        by_cases h35 : s[k].toNat = 35
        · have g35 : ((s[k].toNat : Int) == 35) = true := by simp; omega
          have fin : ∀ e, k ≤ e → e ≤ s.size → (∀ j, k ≤ j → j < e → ∃ b, (Lx.bl s)[j]? = some b ∧ b.toNat ≠ 10) → ((Lx.bl s).drop e = [] ∨ ∃ r', (Lx.bl s).drop e = (10 : UInt8) :: r') →
              k < e ∧ Lx.lexAll (Lx.bl s) = Lx.toks (n + 1) (Lx.bl s) e acc := by
            intro e h1 _ h3 h4
            have hke : k < e := by
              rcases Nat.lt_or_ge k e with h | h
              · exact h
              · obtain rfl : e = k := by omega
                rcases h4 with h4 | ⟨r', h4⟩
                · rw [hd] at h4; simp at h4
                · rw [hd] at h4
                  have := (List.cons.inj h4).1
                  rw [this] at h35; simp at h35
            exact ⟨hke, by rw [hq]; exact Lx.toks_remark _ _ _ _ _ _ _ hd h35 hke h3 h4⟩
          have FIN : Hid _ := fin
          clear fin hq hd hb h35
          go_wp2_with fail
          go_loop [6] (fun i => ∃ e : Nat, k ≤ e ∧ e ≤ s.size ∧ i = .int .i64 e ∧ ∀ j, k ≤ j → j < e → ∃ b, (Lx.bl s)[j]? = some b ∧ b.toNat ≠ 10) (fun i => s.size - (intOf i).toNat)
          case atStart => exact ⟨k, Nat.le_refl _, by omega, rfl, fun j h1 h2 => absurd h2 (by omega)⟩
          case round =>
            obtain ⟨e, he1, he2, rfl, hm⟩ := hrel
            have HM : Hid _ := hm
            clear hm
            by_cases hle : e < s.size
            · by_cases h10 : s[e].toNat = 10
              · have g10' : ((s[e].toNat : Int) != 10) = false := by simp; omega
                have F := FIN.out e he1 he2 HM.out (.inr ⟨_, by rw [Lx.bl_drop s e hle, UInt8.toNat_inj.1 (show s[e].toNat = (10 : UInt8).toNat from h10)]⟩)
                have F1 := F.1
                have F2 : Hid _ := F.2
                clear F h10
                go_wp2_with fail
                go_roundw
                case rel => exact ⟨n + 1, e, acc, ao, cap, by omega, by omega, by omega, by go_num, rfl, hown, F2.out, hbr⟩
                case measure => simp [intOf]; omega
              · have g10' : ((s[e].toNat : Int) != 10) = true := by simp; omega
                have hme : ∀ j, k ≤ j → j < e + 1 → ∃ b, (Lx.bl s)[j]? = some b ∧ b.toNat ≠ 10 := by
                  intro j h1 h2
                  rcases Nat.lt_or_ge j e with h | h
                  · exact HM.out j h1 h
                  · obtain rfl : j = e := by omega
                    exact ⟨_, Lx.bl_get s j hle, h10⟩
                have HME : Hid _ := hme
                clear hme h10
                go_wp2_with fail
                go_round
                case rel => exact ⟨e + 1, by omega, by omega, by go_num, HME.out⟩
                case measure => simp [intOf]; omega
            · have F := FIN.out e he1 he2 HM.out (.inl (Lx.bl_drop_end s e hle))
              have F1 := F.1
              have F2 : Hid _ := F.2
              clear F
              go_wp2_with fail
              go_roundw
              case rel => exact ⟨n + 1, e, acc, ao, cap, by omega, by omega, by omega, by go_num, rfl, hown, F2.out, hbr⟩
              case measure => simp [intOf]; omega
        · have g35 : ((s[k].toNat : Int) == 35) = false := by simp; omega
          have hq2 := hq
          rw [Lx.toks_step _ n k acc _ _ hd (by omega) (by omega) h35] at hq2
          have hx := fun w => one_any s k w (by omega) hlt
          have h2 := Lx.first_size ((Lx.bl s).drop k)
          have h3 := Lx.first_pos ((Lx.bl s).drop k)
          have h4 : (Lx.firstTok ((Lx.bl s).drop k)).err = 0 → (Lx.firstTok ((Lx.bl s).drop k)).kind ≠ 0 := by rw [hd]; exact Lx.first_kind _ _
          rw [List.length_drop, Lx.length_bl] at h2
          generalize Lx.firstTok ((Lx.bl s).drop k) = T at *
          simp only [Lx.oneV] at hx
          by_cases he : T.err = 0
          · have hkd := h4 he
            have hpos := h3 hkd
            rw [if_neg (by omega), if_neg hkd] at hq2
            rw [he, if_pos rfl] at hx
            have HX : Hid _ := hx
            have HQ : Hid _ := hq2
            clear hq hq2 hx hd h3 h4 hb h35 hkd he
            go_wp2_with (first
              | (go_at_call 12; refine (HX.out _).mono ?_; rintro e w3 ⟨rfl, hb3⟩; have hown3 := owns_below hown hb3; have hbr3 := hbr.trans (hb3.mono hbr.size))
              | (at_builtin; go_must (refine wpList_append_lies _ rfl (.tmp 56) (.tmp 61) 23 rfl w.heap.size 34 i0 (.agg #[.int .i64 0, .int .i64 0, .string ⟨#[]⟩]) 3 32 Try.underlying23 hi hz0 hz1 hz2 rfl (by decide) (.slice ao acc.length cap) acc.length (acc.flatMap Lx.tokCells) rfl (hown3.alloc _) ⟨w3.heap.size, 0, none⟩ 1 1 (Lx.tokCells (T.kind, k, T.text)) rfl rfl (news_alloc _ #[.int .i64 T.kind, .int .i64 k, .string (Lx.str T.text)] _ _ rfl) (by simp [Lx.tokCells, Value.oneCell']) (by decide) (by unfold maxLen; omega) (by omega) (by have := hbr3.size; simp; omega) _ rfl ?_); intro g cap' w1 hown1 hgrow hat hlt1))
            have R := rtrel hown3 hown1 hgrow hbr3
            go_roundw
            case rel => exact ⟨n, k + T.size, acc ++ [(T.kind, k, T.text)], some ⟨g, 0, none⟩, cap', by omega, by omega, by simp; omega, by go_num, by simp, R.1, HQ.out, R.2⟩
            case measure => simp [intOf]; omega
          · rw [if_pos he] at hq2
            have ge : 0 < T.err := by omega
            have HX : Hid _ := hx
            have HQ : Hid _ := hq2
            clear hq hq2 hx hd h3 h4 hb h35 he
            go_wp2_with (go_at_call 12; refine (HX.out _).mono ?_; rintro e w3 ⟨rfl, hb3⟩)
            go_ret3
            refine ⟨?_, hbr.trans (hb3.mono hbr.size)⟩
            rw [HQ.out]
            exact ⟨rfl, ge⟩
    · have E : Hid (Lx.lexAll (Lx.bl s) = .ok acc) := by show _ = _; rw [hq, Lx.toks_end _ _ _ _ (Lx.bl_drop_end s k hlt)]
      clear hq
      go_wp2_with fail
      go_ret3
      refine ⟨?_, hbr⟩
      rw [E.out]
      exact ⟨ao, cap, rfl, hown⟩
set_option maxRecDepth 100000 in
set_option maxHeartbeats 800000 in
theorem rtokens_long (s : ByteArray) (w : World) (hs : 4000 < s.size) :
    Calls Try.prog 7 #[.string s] w fun e w' => Lx.HandedR w.heap.size w' e (Lx.lexAll (Lx.bl s)) ∧ Below w.heap.size w w' := by
  have HQ : Hid (Lx.lexAll (Lx.bl s) = .error (0, 2)) := by show _ = _; rw [Lx.lexAll, Lx.length_bl, if_pos hs]
  go_enter Try.func7, Try.ntmps7
  go_wp2_with fail
  go_ret3
  refine ⟨?_, Below.refl _ _⟩
  rw [HQ.out]
  exact ⟨rfl, by omega⟩
theorem rtokens_all (s : ByteArray) (w : World) :
    Calls Try.prog 7 #[.string s] w fun e w' => Lx.HandedR w.heap.size w' e (Lx.lexAll (Lx.bl s)) ∧ Below w.heap.size w w' := by
  rcases Nat.lt_or_ge 4000 s.size with h | h
  · exact rtokens_long s w h
  · exact rtokens_any s w h
end Go.Proofs.Ytplhieahcajjeaa
