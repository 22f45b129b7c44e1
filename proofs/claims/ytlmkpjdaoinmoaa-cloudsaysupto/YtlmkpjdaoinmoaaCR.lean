/- For TopToken and CloudSays: acts in memory, and LightActs. -/
import Derived.Test.YtlmkpjdaoinmoaaCP
namespace Go.Proofs.Ytlmkpjdaoinmoaa
open Go.RowKit
attribute [local go_sem ↓] Go.wp_at_zero Go.wp_at_succ
/-- An act, as far as the laws of disk and log ask for it. -/
structure Ac where
  kind : ByteArray
  s : ByteArray
  t : ByteArray
  a : Int
  b : Int
  v : Val
  nn : Nat
  ra : -9223372036854775808 ≤ a ∧ a ≤ 9223372036854775807
  rb : -9223372036854775808 ≤ b ∧ b ≤ 9223372036854775807
namespace A
def Act (m : Nat) (w : World) (x : Ac) (cs : List Value) : Prop :=
  ∃ c5 c6 c7 c8 c9 nv, cs = [.string x.kind, .string x.s, .string x.t, .int .i64 x.a, .int .i64 x.b, c5, c6, c7, c8, c9, nv] ∧ x.kind.size ≤ maxLen ∧ x.s.size ≤ maxLen ∧ x.t.size ≤ maxLen ∧ V.Mem m w x.v [c5, c6, c7, c8, c9] ∧ V.bulk m x.v ≤ 2000000 ∧ x.nn ≤ maxLen ∧
    V.Row w nv x.nn 1 (fun _ c => ∃ y, c = [.string y] ∧ y.size ≤ maxLen)
def Acts (m : Nat) (w : World) (v : Value) (L : List Ac) : Prop := L.length ≤ maxLen ∧ V.Row w v L.length 11 (fun i c => ∃ x, L[i]? = some x ∧ Act m w x c)
theorem Act.kept {m : Nat} {w w' : World} {x : Ac} {cs : List Value} (h : Act m w x cs) (hb : Below w.heap.size w w') : Act m w' x cs := by
  obtain ⟨c5, c6, c7, c8, c9, nv, h1, h2, h3, h4, h5, h5b, h6, h7⟩ := h
  exact ⟨c5, c6, c7, c8, c9, nv, h1, h2, h3, h4, V.Mem.kept m h5 hb, h5b, h6, h7.kept hb (fun _ _ h => h)⟩
theorem Acts.kept {m : Nat} {w w' : World} {v : Value} {L : List Ac} (h : Acts m w v L) (hb : Below w.heap.size w w') : Acts m w' v L := ⟨h.1, h.2.kept hb (fun _ _ ⟨x, hx, ha⟩ => ⟨x, hx, ha.kept hb⟩)⟩
theorem Acts.shape {m : Nat} {w : World} {v : Value} {L : List Ac} (h : Acts m w v L) : ∃ ao cap, v = .slice ao L.length cap := h.2.shape
theorem Acts.at {m : Nat} {w : World} {v : Value} {L : List Ac} (h : Acts m w v L) (i : Nat) (hi : i < L.length) :
    ∃ b off cap x c5 c6 c7 c8 c9 an cn, v = .slice (some ⟨b, off, none⟩) L.length cap ∧ L[i]? = some x ∧ x.kind.size ≤ maxLen ∧ x.s.size ≤ maxLen ∧ x.t.size ≤ maxLen ∧ V.Mem m w x.v [c5, c6, c7, c8, c9] ∧ V.bulk m x.v ≤ 2000000 ∧ x.nn ≤ maxLen ∧ V.Row w (.slice an x.nn cn) x.nn 1 (fun _ c => ∃ y, c = [.string y] ∧ y.size ≤ maxLen) ∧
      w.cell? ⟨b, off + i * 11, none⟩ = some (.string x.kind) ∧ w.cell? ⟨b, off + i * 11 + 1, none⟩ = some (.string x.s) ∧ w.cell? ⟨b, off + i * 11 + 2, none⟩ = some (.string x.t) ∧ w.cell? ⟨b, off + i * 11 + 3, none⟩ = some (.int .i64 x.a) ∧ w.cell? ⟨b, off + i * 11 + 4, none⟩ = some (.int .i64 x.b) ∧
      w.cell? ⟨b, off + i * 11 + 5, none⟩ = some c5 ∧ w.cell? ⟨b, off + i * 11 + 6, none⟩ = some c6 ∧ w.cell? ⟨b, off + i * 11 + 7, none⟩ = some c7 ∧ w.cell? ⟨b, off + i * 11 + 8, none⟩ = some c8 ∧ w.cell? ⟨b, off + i * 11 + 9, none⟩ = some c9 ∧ w.cell? ⟨b, off + i * 11 + 10, none⟩ = some (.slice an x.nn cn) := by
  obtain ⟨_, ao, cap, rfl, h | ⟨b, off, rfl, h⟩⟩ := h
  · omega
  · obtain ⟨cs, h1, h2, x, hx, c5, c6, c7, c8, c9, nv, rfl, g1, g2, g3, g4, g4b, g5, g6⟩ := h i hi
    obtain ⟨an, cn, rfl⟩ := g6.shape
    exact ⟨b, off, cap, x, c5, c6, c7, c8, c9, an, cn, rfl, hx, g1, g2, g3, g4, g4b, g5, g6, h2 0 (by omega), h2 1 (by omega), h2 2 (by omega), h2 3 (by omega), h2 4 (by omega), h2 5 (by omega), h2 6 (by omega), h2 7 (by omega), h2 8 (by omega), h2 9 (by omega), h2 10 (by omega)⟩
theorem elemN {w : World} {v : Value} {n : Nat} (h : V.Row w v n 1 (fun _ c => ∃ y, c = [.string y] ∧ y.size ≤ maxLen)) (i : Nat) (hi : i < n) :
    ∃ b off cap y, v = .slice (some ⟨b, off, none⟩) n cap ∧ y.size ≤ maxLen ∧ w.cell? ⟨b, off + i, none⟩ = some (.string y) := by
  obtain ⟨ao, cap, rfl, h | ⟨b, off, rfl, h⟩⟩ := h
  · omega
  · obtain ⟨cs, h1, h2, y, rfl, hy⟩ := h i hi
    have := h2 0 (by omega)
    rw [Nat.mul_one, Nat.add_zero] at this
    exact ⟨b, off, cap, y, rfl, hy, this⟩
end A
/-- What LightActs answers: if it says yes, there are not more than so many. -/
def LightSays (L : List Ac) (most : Int) (o : Ending) : Prop := ∃ b : Bool, o = .returned (.bool b) ∧ (b = true → (L.length : Int) ≤ most)
set_option maxRecDepth 100000 in
set_option maxHeartbeats 1600000 in
theorem lightActs_any (most sz : Int) (m : Nat) (w : World) (v : Value) (L : List Ac) (h : A.Acts m w v L) :
    Calls Try.prog 6 #[v, .int .i64 most, .int .i64 sz] w fun e w' => LightSays L most e ∧ Below w.heap.size w w' := by
  obtain ⟨ao, cap, rfl⟩ := h.shape
  have hL := h.1
  unfold maxLen at hL
  have HA := hide h
  clear h
  by_cases hmo : most < (L.length : Int)
  · clear HA
    go_enter Try.func6, Try.ntmps6
    go_wp2_with fail
    go_ret
    exact ⟨⟨_, rfl, fun e => by cases e⟩, Below.refl _ _⟩
  · have hle : (L.length : Int) ≤ most := by omega
    have HLE := hide hle
    clear hle
    go_enter Try.func6, Try.ntmps6
    go_wp2_with fail
    go_loopw [7, 8, 9] (fun vn vi _ wr => ∃ k : Nat, k ≤ L.length ∧ vi = .int .i64 k ∧ (∃ n : Int, vn = .int .i64 n) ∧ Below w.heap.size w wr) (fun _ vi _ _ => L.length - (intOf vi).toNat)
    case atStart => exact ⟨0, Nat.zero_le _, rfl, ⟨_, rfl⟩, Below.refl _ _⟩
    case round =>
      obtain ⟨k, hk, rfl, ⟨n, rfl⟩, hB⟩ := hrel
      by_cases hlt : k < L.length
      · obtain ⟨b, off, cap2, x, c5, c6, c7, c8, c9, an, cn, e1, hx, g1, g2, g3, g4, g4b, g5, g6, y0, y1, y2, y3, y4, y5, y6, y7, y8, y9, y10⟩ := (HA.out.kept hB).at k hlt
        simp only [Value.slice.injEq] at e1
        obtain ⟨rfl, _, rfl⟩ := e1
        unfold maxLen at g2 g3 g5
        clear g1 y0 y3 y4 hx
        have HG6 := hide g6
        clear g6
        have hI : ∀ w', (w'.cell? ⟨b, off + k * 11 + 1, none⟩ = some (.string x.s) ∧ w'.cell? ⟨b, off + k * 11 + 2, none⟩ = some (.string x.t) ∧ w'.cell? ⟨b, off + k * 11 + 5, none⟩ = some c5 ∧ w'.cell? ⟨b, off + k * 11 + 6, none⟩ = some c6 ∧ w'.cell? ⟨b, off + k * 11 + 7, none⟩ = some c7 ∧ w'.cell? ⟨b, off + k * 11 + 8, none⟩ = some c8 ∧ w'.cell? ⟨b, off + k * 11 + 9, none⟩ = some c9 ∧ Below wr.heap.size wr w') → Calls Try.prog 31 #[.agg #[c5, c6, c7, c8, c9], .int .i64 sz] w' fun e w'' => (∃ n : Int, e = .returned (.int .i64 n)) ∧ w''.cell? ⟨b, off + k * 11 + 1, none⟩ = some (.string x.s) ∧ w''.cell? ⟨b, off + k * 11 + 2, none⟩ = some (.string x.t) ∧ w''.cell? ⟨b, off + k * 11 + 5, none⟩ = some c5 ∧ w''.cell? ⟨b, off + k * 11 + 6, none⟩ = some c6 ∧ w''.cell? ⟨b, off + k * 11 + 7, none⟩ = some c7 ∧ w''.cell? ⟨b, off + k * 11 + 8, none⟩ = some c8 ∧ w''.cell? ⟨b, off + k * 11 + 9, none⟩ = some c9 ∧ Below wr.heap.size wr w'' := by
          intro w' ⟨t1, t2, t3, t4, t5, t6, t7, t8⟩
          refine (weight_any sz m w' x.v c5 c6 c7 c8 c9 (V.Mem.kept m g4 t8) g4b).mono ?_
          rintro e w'' ⟨he, hb⟩
          exact ⟨he, kept_cell hb t1, kept_cell hb t2, kept_cell hb t3, kept_cell hb t4, kept_cell hb t5, kept_cell hb t6, kept_cell hb t7, t8.trans (hb.mono t8.size)⟩
        have HI : Hid _ := hI
        have hB0 : Below wr.heap.size wr wr.drew := below_drewN (Below.refl _ _) 1
        clear hI g4 g4b
        go_wp2_with fail
        go_region_held3 (fun w' => w'.cell? ⟨b, off + k * 11 + 1, none⟩ = some (.string x.s) ∧ w'.cell? ⟨b, off + k * 11 + 2, none⟩ = some (.string x.t) ∧ w'.cell? ⟨b, off + k * 11 + 5, none⟩ = some c5 ∧ w'.cell? ⟨b, off + k * 11 + 6, none⟩ = some c6 ∧ w'.cell? ⟨b, off + k * 11 + 7, none⟩ = some c7 ∧ w'.cell? ⟨b, off + k * 11 + 8, none⟩ = some c8 ∧ w'.cell? ⟨b, off + k * 11 + 9, none⟩ = some c9 ∧ Below wr.heap.size wr w') (go_keep)
          (first | (go_at_call 31; refine (HI.out _ ?_).mono ?_; exact ⟨‹_›, ‹_›, ‹_›, ‹_›, ‹_›, ‹_›, ‹_›, ‹_›⟩; rintro e w3 ⟨⟨n2, rfl⟩, t1, t2, t3, t4, t5, t6, t7, t8⟩))
        all_goals
          have z10 := (t8.cell (World.block_lt_of_cell? _ _ y10)).trans y10
          have HBW := hide (hB.trans (t8.mono hB.size))
          have HNM := hide (HG6.out.kept t8 (fun _ _ h => h))
          clear t1 t2 t3 t4 t5 t6 t7 t8 y1 y2 y5 y6 y7 y8 y9 y10 HI hB0 HG6 hB
          generalize IntKind.i64.wrap (IntKind.i64.wrap (IntKind.i64.wrap (n + ↑x.s.size) + ↑x.t.size) + n2) = NN
          generalize IntKind.i64.wrap (IntKind.i64.wrap (n + ↑x.s.size) + ↑x.t.size) = N1
          generalize IntKind.i64.wrap (n + ↑x.s.size) = N2
          by_cases hN : sz < NN
          · go_wp2_with fail
            go_ret
            exact ⟨⟨_, rfl, fun e => by cases e⟩, HBW.out⟩
          · have hNd : decide (sz < NN) = false := decide_eq_false hN
            by_cases h12 : 12 < x.nn
            · have h12i : (12 : Int) < x.nn := by omega
              go_wp2_with fail
              go_ret
              exact ⟨⟨_, rfl, fun e => by cases e⟩, HBW.out⟩
            · have h12i : ¬ (12 : Int) < x.nn := by omega
              go_wp2_with fail
              go_loopw [7, 9] (fun vn vj wq => ∃ j : Nat, j ≤ x.nn ∧ vj = .int .i64 j ∧ (∃ n : Int, vn = .int .i64 n) ∧ wq = w3) (fun _ vj _ => x.nn - (intOf vj).toNat)
              case atStart => exact ⟨0, Nat.zero_le _, rfl, ⟨_, rfl⟩, rfl⟩
              case round =>
                obtain ⟨j, hj, rfl, ⟨n3, rfl⟩, rfl⟩ := hrel
                by_cases hjl : j < x.nn
                · obtain ⟨b2, off2, cap3, y, e2, hy, z11⟩ := A.elemN HNM.out j hjl
                  simp only [Value.slice.injEq] at e2
                  obtain ⟨rfl, _, rfl⟩ := e2
                  unfold maxLen at hy
                  go_wp2_with fail
                  go_roundw
                  case rel => exact ⟨j + 1, by omega, by go_num, ⟨_, rfl⟩, trivial⟩
                  case measure => simp [intOf]; omega
                · go_wp2_with fail
                  go_roundw
                  case rel => exact ⟨k + 1, by omega, by go_num, ⟨_, rfl⟩, HBW.out⟩
                  case measure => simp [intOf]; omega
      · have hkk : k = L.length := by omega
        subst hkk
        clear hlt
        by_cases hn : n ≤ sz
        · go_wp2_with fail
          go_ret
          exact ⟨⟨_, rfl, fun _ => HLE.out⟩, hB⟩
        · have hn2 : sz < n := by omega
          go_wp2_with fail
          go_ret
          exact ⟨⟨_, rfl, fun _ => HLE.out⟩, hB⟩
end Go.Proofs.Ytlmkpjdaoinmoaa
