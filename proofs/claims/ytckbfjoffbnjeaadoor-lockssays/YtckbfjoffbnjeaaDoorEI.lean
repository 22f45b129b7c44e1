/- From the reading of an argument to the acts that its cells hold. -/
import Derived.Test.YtckbfjoffbnjeaaDoorEH
import Derived.Test.YtckbfjoffbnjeaaDoorDZ
namespace Go.Proofs.YtckbfjoffbnjeaaDoor
open Go.RowKit
namespace A
theorem i64_range {n : Int} (h : (Lit.int .i64 n).wf = true) : -9223372036854775808 ≤ n ∧ n ≤ 9223372036854775807 := by
  simp [Lit.wf] at h
  have e : IntKind.i64.min = -9223372036854775808 := by decide
  rw [e] at h; exact h
theorem list2 {α : Type} : ∀ l : List α, l.length = 2 → ∃ a b, l = [a, b]
  | [a, b], _ => ⟨a, b, rfl⟩
theorem list5 {α : Type} : ∀ l : List α, l.length = 5 → ∃ a b c d e, l = [a, b, c, d, e]
  | [a, b, c, d, e], _ => ⟨a, b, c, d, e, rfl⟩
theorem list6 {α : Type} : ∀ l : List α, l.length = 6 → ∃ a b c d e f, l = [a, b, c, d, e, f]
  | [a, b, c, d, e, f], _ => ⟨a, b, c, d, e, f, rfl⟩
theorem list7 {α : Type} : ∀ l : List α, l.length = 7 → ∃ a b c d e f g, l = [a, b, c, d, e, f, g]
  | [a, b, c, d, e, f, g], _ => ⟨a, b, c, d, e, f, g, rfl⟩
theorem list11 {α : Type} : ∀ l : List α, l.length = 11 → ∃ a b c d e f g h i j k, l = [a, b, c, d, e, f, g, h, i, j, k]
  | [a, b, c, d, e, f, g, h, i, j, k], _ => ⟨a, b, c, d, e, f, g, h, i, j, k, rfl⟩
theorem uVal : Tryd.prog.underlying 32 = some (.struct #[{ name := "Kind", type := 3, offset := 0, embedded := false, tag := "", pkgPath := "", byteOffset := 0 }, { name := "N", type := 3, offset := 1, embedded := false, tag := "", pkgPath := "", byteOffset := 8 }, { name := "S", type := 9, offset := 2, embedded := false, tag := "", pkgPath := "", byteOffset := 16 }, { name := "L", type := 29, offset := 3, embedded := false, tag := "", pkgPath := "", byteOffset := 32 }, { name := "F", type := 30, offset := 4, embedded := false, tag := "", pkgPath := "", byteOffset := 56 }]) := by kernel_rfl
theorem uFld : Tryd.prog.underlying 76 = some (.struct #[{ name := "Name", type := 9, offset := 0, embedded := false, tag := "", pkgPath := "", byteOffset := 0 }, { name := "V", type := 32, offset := 1, embedded := false, tag := "", pkgPath := "", byteOffset := 16 }]) := by kernel_rfl
theorem uAct : Tryd.prog.underlying 35 = some (.struct #[{ name := "Kind", type := 9, offset := 0, embedded := false, tag := "", pkgPath := "", byteOffset := 0 }, { name := "S", type := 9, offset := 1, embedded := false, tag := "", pkgPath := "", byteOffset := 16 }, { name := "T", type := 9, offset := 2, embedded := false, tag := "", pkgPath := "", byteOffset := 32 }, { name := "A", type := 3, offset := 3, embedded := false, tag := "", pkgPath := "", byteOffset := 48 }, { name := "B", type := 3, offset := 4, embedded := false, tag := "", pkgPath := "", byteOffset := 56 }, { name := "V", type := 32, offset := 5, embedded := false, tag := "", pkgPath := "", byteOffset := 64 }, { name := "Names", type := 33, offset := 10, embedded := false, tag := "", pkgPath := "", byteOffset := 144 }]) := by kernel_rfl
theorem uVL : Tryd.prog.underlying 29 = some (.slice 32) := by kernel_rfl
theorem uVF : Tryd.prog.underlying 30 = some (.slice 76) := by kernel_rfl
theorem uActs : Tryd.prog.underlying 22 = some (.slice 35) := by kernel_rfl
theorem cVal : Tryd.prog.cellsOf 32 = 5 := by kernel_rfl
theorem cFld : Tryd.prog.cellsOf 76 = 6 := by kernel_rfl
theorem cAct : Tryd.prog.cellsOf 35 = 11 := by kernel_rfl
theorem c3 : Tryd.prog.cellsOf 3 = 1 := by kernel_rfl
theorem c27 : Tryd.prog.cellsOf 33 = 1 := by kernel_rfl
theorem cVL : Tryd.prog.cellsOf 29 = 1 := by kernel_rfl
theorem cVF : Tryd.prog.cellsOf 30 = 1 := by kernel_rfl
section
variable {H : Type} {enc : TypeId × Value → H} {w : World} {base : Nat} {sp : Nat → Bool} {held : Bool}
set_option maxRecDepth 100000 in
theorem row_of_trod {fuel : Nat} {t e : TypeId} {cs : List Value} {x : DataW H × List MemPlace} (sz : Nat) (ht : Tryd.prog.underlying t = some (.slice e)) (hc : Tryd.prog.cellsOf e = sz) (h0 : 0 < sz)
    (h : DataW.trod enc Tryd.prog w base sp held fuel t cs = some x) :
    ∃ (v : Value) (n k : Nat), cs = [v] ∧ k + 1 ≤ fuel ∧ n ≤ maxLen ∧ Row w v n sz (fun _ c => ∃ y, DataW.trod enc Tryd.prog w base sp held k e c = some y) := by
  rcases DataW.trod_slice ht h with ⟨rfl, rfl⟩ | ⟨a, len, cap, elems, rest, n, rfl, rfl, rfl, _, hlc, hcm, hlen, hel, _⟩
  · refine ⟨_, 0, 0, rfl, ?_, Nat.zero_le _, ⟨none, 0, rfl, .inl rfl⟩⟩
    cases fuel with
    | zero => simp [DataW.trod] at h
    | succ n => omega
  · refine ⟨_, len, n, rfl, Nat.le_refl _, Nat.le_trans hlc hcm, ?_⟩
    · refine ⟨some a, cap, rfl, ?_⟩
      by_cases hz : len = 0
      · exact .inl hz
      · have key : ∀ i, i < len → ∃ cs : List Value, cs.length = sz ∧ (∀ j, j < sz → w.cell? ((a.add (i * sz)).add j) = cs[j]?) ∧ ∃ y, DataW.trod enc Tryd.prog w base sp held n e cs = some y := by
          intro i hi
          have hE := hel i hi
          rw [hc, List.getElem?_eq_getElem (by omega), Option.bind_eq_some_iff] at hE
          obtain ⟨c1, h1, h2⟩ := hE
          obtain ⟨_, g1, g2⟩ := World.cells?_some h1
          exact ⟨c1, g1, g2, _, h2⟩
        have hs : a.spot = none := by
          obtain ⟨c1, g1, g2, _⟩ := key 0 (by omega)
          have := g2 0 h0
          rw [List.getElem?_eq_getElem (by omega)] at this
          have := World.cell?_spot this
          simpa [Addr.add] using this
        obtain ⟨b, off, s⟩ := a
        have hs' : s = none := hs
        subst hs'
        refine .inr ⟨b, off, rfl, fun i hi => ?_⟩
        obtain ⟨c1, g1, g2, g3⟩ := key i hi
        refine ⟨c1, g1, fun j hj => ?_, g3⟩
        rw [← g2 j hj]
        congr 1
        simp only [Addr.add]
        split <;> split <;> simp_all
theorem Row.turn {v : Value} {n sz : Nat} {P Q : Nat → List Value → Prop} (h : Row w v n sz P) (hPQ : ∀ i c, c.length = sz → P i c → Q i c) : Row w v n sz Q := by
  obtain ⟨ao, cap, rfl, h⟩ := h
  refine ⟨ao, cap, rfl, ?_⟩
  rcases h with h | ⟨b, off, rfl, h⟩
  · exact .inl h
  · refine .inr ⟨b, off, rfl, fun i hi => ?_⟩
    obtain ⟨cs, h1, h2, h3⟩ := h i hi
    exact ⟨cs, h1, h2, hPQ i cs h1 h3⟩
set_option maxRecDepth 100000 in
theorem mem_of_trod : ∀ (m fuel : Nat) (cs : List Value) (x : DataW H × List MemPlace), fuel ≤ 2 * m → DataW.trod enc Tryd.prog w base sp held fuel 32 cs = some x → Mem m w cs := by
  intro m
  induction m with
  | zero =>
    intro fuel cs x hf h
    have : fuel = 0 := by omega
    subst this
    simp [DataW.trod] at h
  | succ m ih =>
    intro fuel cs x hfu h
    obtain ⟨xs, n, rfl, rfl, hl, hx, hf⟩ := DataW.trod_struct uVal h
    rw [cVal] at hl
    have hx5 : xs.length = 5 := hx
    obtain ⟨v0, v1, v2, v3, v4, rfl⟩ := list5 cs hl
    obtain ⟨x0, x1, x2, x3, x4, rfl⟩ := list5 xs hx5
    · skip
      have a0 : DataW.trod enc Tryd.prog w base sp held n 3 [v0] = some x0 := by
        have := hf 0 { name := "Kind", type := 3, offset := 0, embedded := false, tag := "", pkgPath := "", byteOffset := 0 } rfl
        rw [c3] at this
        exact this
      have a1 : DataW.trod enc Tryd.prog w base sp held n 3 [v1] = some x1 := by
        have := hf 1 { name := "N", type := 3, offset := 1, embedded := false, tag := "", pkgPath := "", byteOffset := 8 } rfl
        rw [c3] at this
        exact this
      have a2 : DataW.trod enc Tryd.prog w base sp held n 9 [v2] = some x2 := by
        have := hf 2 { name := "S", type := 9, offset := 2, embedded := false, tag := "", pkgPath := "", byteOffset := 16 } rfl
        rw [c9] at this
        exact this
      have a3 : DataW.trod enc Tryd.prog w base sp held n 29 [v3] = some x3 := by
        have := hf 3 { name := "L", type := 29, offset := 3, embedded := false, tag := "", pkgPath := "", byteOffset := 32 } rfl
        rw [cVL] at this
        exact this
      have a4 : DataW.trod enc Tryd.prog w base sp held n 30 [v4] = some x4 := by
        have := hf 4 { name := "F", type := 30, offset := 4, embedded := false, tag := "", pkgPath := "", byteOffset := 56 } rfl
        rw [cVF] at this
        exact this
      obtain ⟨k0, e0, rfl, _⟩ := DataW.trod_int u3 a0
      obtain ⟨k1, e1, rfl, _⟩ := DataW.trod_int u3 a1
      obtain ⟨k2, e2, rfl, hk2⟩ := DataW.trod_string u9 a2
      obtain ⟨lv, nl, kl, e3, hkl, hnl, hL⟩ := row_of_trod 5 uVL cVal (by omega) a3
      obtain ⟨fv, nf, kf, e4, hkf, hnf, hF⟩ := row_of_trod 6 uVF cFld (by omega) a4
      simp only [List.cons.injEq, and_true] at e0 e1 e2 e3 e4
      subst e0 e1 e2 e3 e4
      refine ⟨k0, k1, k2, _, _, nl, nf, rfl, hk2, hnl, hnf, hL.turn (fun i c _ ⟨y, hy⟩ => ih kl c y (by omega) hy), hF.turn (fun i c hc ⟨y, hy⟩ => ?_)⟩
      obtain ⟨ys, n', rfl, rfl, _, hy2, hg⟩ := DataW.trod_struct uFld hy
      have hy3 : ys.length = 2 := hy2
      obtain ⟨w0, w1, w2, w3, w4, w5, rfl⟩ := list6 c hc
      obtain ⟨y0, y1, rfl⟩ := list2 ys hy3
      · skip
        have b0 : DataW.trod enc Tryd.prog w base sp held n' 9 [w0] = some y0 := by
          have := hg 0 { name := "Name", type := 9, offset := 0, embedded := false, tag := "", pkgPath := "", byteOffset := 0 } rfl
          rw [c9] at this
          exact this
        have b1 : DataW.trod enc Tryd.prog w base sp held n' 32 [w1, w2, w3, w4, w5] = some y1 := by
          have := hg 1 { name := "V", type := 32, offset := 1, embedded := false, tag := "", pkgPath := "", byteOffset := 16 } rfl
          rw [cVal] at this
          exact this
        obtain ⟨s, e0, rfl, hs⟩ := DataW.trod_string u9 b0
        simp only [List.cons.injEq, and_true] at e0
        subst e0
        exact ⟨s, _, rfl, hs, ih n' _ y1 (by omega) b1⟩
set_option maxRecDepth 100000 in
theorem act_of_trod (m fuel : Nat) (cs : List Value) (x : DataW H × List MemPlace) (hfu : fuel ≤ 2 * m) (h : DataW.trod enc Tryd.prog w base sp held fuel 35 cs = some x) : ∃ a, Act m w a cs := by
  obtain ⟨xs, n, rfl, rfl, hl, hx, hf⟩ := DataW.trod_struct uAct h
  rw [cAct] at hl
  have hx7 : xs.length = 7 := hx
  obtain ⟨v0, v1, v2, v3, v4, v5, v6, v7, v8, v9, v10, rfl⟩ := list11 cs hl
  obtain ⟨x0, x1, x2, x3, x4, x5, x6, rfl⟩ := list7 xs hx7
  · skip
    have a0 : DataW.trod enc Tryd.prog w base sp held n 9 [v0] = some x0 := by
      have := hf 0 { name := "Kind", type := 9, offset := 0, embedded := false, tag := "", pkgPath := "", byteOffset := 0 } rfl
      rw [c9] at this
      exact this
    have a1 : DataW.trod enc Tryd.prog w base sp held n 9 [v1] = some x1 := by
      have := hf 1 { name := "S", type := 9, offset := 1, embedded := false, tag := "", pkgPath := "", byteOffset := 16 } rfl
      rw [c9] at this
      exact this
    have a2 : DataW.trod enc Tryd.prog w base sp held n 9 [v2] = some x2 := by
      have := hf 2 { name := "T", type := 9, offset := 2, embedded := false, tag := "", pkgPath := "", byteOffset := 32 } rfl
      rw [c9] at this
      exact this
    have a3 : DataW.trod enc Tryd.prog w base sp held n 3 [v3] = some x3 := by
      have := hf 3 { name := "A", type := 3, offset := 3, embedded := false, tag := "", pkgPath := "", byteOffset := 48 } rfl
      rw [c3] at this
      exact this
    have a4 : DataW.trod enc Tryd.prog w base sp held n 3 [v4] = some x4 := by
      have := hf 4 { name := "B", type := 3, offset := 4, embedded := false, tag := "", pkgPath := "", byteOffset := 56 } rfl
      rw [c3] at this
      exact this
    have a5 : DataW.trod enc Tryd.prog w base sp held n 32 [v5, v6, v7, v8, v9] = some x5 := by
      have := hf 5 { name := "V", type := 32, offset := 5, embedded := false, tag := "", pkgPath := "", byteOffset := 64 } rfl
      rw [cVal] at this
      exact this
    have a6 : DataW.trod enc Tryd.prog w base sp held n 33 [v10] = some x6 := by
      have := hf 6 { name := "Names", type := 33, offset := 10, embedded := false, tag := "", pkgPath := "", byteOffset := 144 } rfl
      rw [c27] at this
      exact this
    obtain ⟨s0, e0, rfl, h0⟩ := DataW.trod_string u9 a0
    obtain ⟨s1, e1, rfl, h1⟩ := DataW.trod_string u9 a1
    obtain ⟨s2, e2, rfl, h2⟩ := DataW.trod_string u9 a2
    obtain ⟨k3, e3, rfl, w3⟩ := DataW.trod_int u3 a3
    obtain ⟨k4, e4, rfl, w4⟩ := DataW.trod_int u3 a4
    obtain ⟨nv, nn, kn, e6, _, hnn, hN⟩ := row_of_trod 1 u27 c9 (by omega) a6
    simp only [List.cons.injEq, and_true] at e0 e1 e2 e3 e4 e6
    subst e0 e1 e2 e3 e4 e6
    refine ⟨⟨s0, s1, s2, k3, k4, nn, i64_range w3, i64_range w4⟩, _, _, _, _, _, _, rfl, h0, h1, h2, mem_of_trod m n _ x5 (by omega) a5, hnn, hN.turn (fun i c hc ⟨y, hy⟩ => ?_)⟩
    obtain ⟨s, e0, _, hs⟩ := DataW.trod_string u9 hy
    exact ⟨s, e0, hs⟩
theorem acts_of_trod {fuel : Nat} {cs : List Value} {x : DataW H × List MemPlace} (h : DataW.trod enc Tryd.prog w base sp held fuel 22 cs = some x) : ∃ v L, cs = [v] ∧ Acts fuel w v L := by
  obtain ⟨v, n, k, rfl, hk, hn, hR⟩ := row_of_trod 11 uActs cAct (by omega) h
  have hR2 := hR.turn (Q := fun _ c => ∃ a, Act fuel w a c) (fun i c _ ⟨y, hy⟩ => act_of_trod fuel k c y (by omega) hy)
  obtain ⟨ao, cap, rfl, h0 | ⟨b, off, rfl, hb⟩⟩ := hR2
  · exact ⟨_, [], rfl, Nat.zero_le _, ao, cap, by rw [h0]; rfl, .inl rfl⟩
  · obtain ⟨l, h1, h2⟩ := list_for n (fun i (z : Ac) => ∃ cs : List Value, cs.length = 11 ∧ (∀ j, j < 11 → w.cell? ⟨b, off + i * 11 + j, none⟩ = cs[j]?) ∧ Act fuel w z cs) (fun i hi => by
      obtain ⟨cs, g1, g2, a, g3⟩ := hb i hi
      exact ⟨a, cs, g1, g2, g3⟩)
    subst h1
    refine ⟨_, l, rfl, hn, some ⟨b, off, none⟩, cap, rfl, .inr ⟨b, off, rfl, fun i hi => ?_⟩⟩
    obtain ⟨cs, g1, g2, g3⟩ := h2 i l[i] (List.getElem?_eq_getElem hi)
    exact ⟨cs, g1, g2, _, List.getElem?_eq_getElem hi, g3⟩
end
end A
end Go.Proofs.YtckbfjoffbnjeaaDoor
