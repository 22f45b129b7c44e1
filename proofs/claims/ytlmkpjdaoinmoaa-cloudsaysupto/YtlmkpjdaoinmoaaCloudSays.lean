/- CloudSays holds where what is read is of the bulk that the second form names: for all quotas and all acts, the cloud answers as the plain cloud of the reference does, call for call. No condition of our own. -/
import Derived.Test.YtlmkpjdaoinmoaaKP
import Derived.Test.YtlmkpjdaoinmoaaCQ
import Derived.ProofKit
import Derived.OpenShut
import Derived.ShutString
import Derived.ReadAgain
import Derived.Carry
import Derived.ChangeReads
import Derived.ChangeOld
import Derived.RowKit3
import Derived.LaidMore
import Derived.JoinedCond
import Derived.Test.YtlmkpjdaoinmoaaCR
import Derived.Test.YtlmkpjdaoinmoaaRows
import Derived.ChangeArms
import Derived.DataReads
namespace Go.Proofs.Ytlmkpjdaoinmoaa
open Go.RowKit
open _root_.Go.Proofs.Ytlmkpjdaoinmoaa.Rows (uptoBulk uptoBulkAll)
namespace V
theorem uVal : Try.prog.underlying 40 = some (.struct #[{ name := "Kind", type := 3, offset := 0, embedded := false, tag := "", pkgPath := "", byteOffset := 0 }, { name := "N", type := 3, offset := 1, embedded := false, tag := "", pkgPath := "", byteOffset := 8 }, { name := "S", type := 9, offset := 2, embedded := false, tag := "", pkgPath := "", byteOffset := 16 }, { name := "L", type := 37, offset := 3, embedded := false, tag := "", pkgPath := "", byteOffset := 32 }, { name := "F", type := 38, offset := 4, embedded := false, tag := "", pkgPath := "", byteOffset := 56 }]) := by kernel_rfl
theorem uFld : Try.prog.underlying 110 = some (.struct #[{ name := "Name", type := 9, offset := 0, embedded := false, tag := "", pkgPath := "", byteOffset := 0 }, { name := "V", type := 40, offset := 1, embedded := false, tag := "", pkgPath := "", byteOffset := 16 }]) := by kernel_rfl
theorem uVL : Try.prog.underlying 37 = some (.slice 40) := by kernel_rfl
theorem uVF : Try.prog.underlying 38 = some (.slice 110) := by kernel_rfl
theorem u3 : Try.prog.underlying 3 = some (.int .i64) := by kernel_rfl
theorem u9 : Try.prog.underlying 9 = some .string := by kernel_rfl
theorem cVal : Try.prog.cellsOf 40 = 5 := by kernel_rfl
theorem cFld : Try.prog.cellsOf 110 = 6 := by kernel_rfl
theorem c3 : Try.prog.cellsOf 3 = 1 := by kernel_rfl
theorem c9 : Try.prog.cellsOf 9 = 1 := by kernel_rfl
theorem cVL : Try.prog.cellsOf 37 = 1 := by kernel_rfl
theorem cVF : Try.prog.cellsOf 38 = 1 := by kernel_rfl
theorem list5 {α : Type} : ∀ l : List α, l.length = 5 → ∃ a b c d e, l = [a, b, c, d, e]
  | [a, b, c, d, e], _ => ⟨a, b, c, d, e, rfl⟩
theorem list6 {α : Type} : ∀ l : List α, l.length = 6 → ∃ a b c d e f, l = [a, b, c, d, e, f]
  | [a, b, c, d, e, f], _ => ⟨a, b, c, d, e, f, rfl⟩
theorem list2 {α : Type} : ∀ l : List α, l.length = 2 → ∃ a b, l = [a, b]
  | [a, b], _ => ⟨a, b, rfl⟩
theorem bulkAll_sum {H : Type} : ∀ l : List (DataW H), uptoBulkAll l = (l.map uptoBulk).sum
  | [] => by simp [uptoBulkAll]
  | a :: l => by rw [uptoBulkAll, bulkAll_sum l]; simp
theorem list_of {α β : Type} (f : α → Nat) (g : β → Nat) : ∀ (l : List α) (R : Nat → β → Prop), (∀ i a, l[i]? = some a → ∃ b, R i b ∧ g b + 1 ≤ f a) →
    ∃ l' : List β, l'.length = l.length ∧ (∀ i, i < l.length → ∃ b, l'[i]? = some b ∧ R i b) ∧ (l'.map g).sum + l'.length ≤ (l.map f).sum
  | [], _, _ => ⟨[], rfl, fun i h => by simp at h, by simp⟩
  | a :: l, R, h => by
    obtain ⟨b, hb, hg⟩ := h 0 a rfl
    obtain ⟨l', h1, h2, h3⟩ := list_of f g l (fun i => R (i + 1)) (fun i a' ha => h (i + 1) a' (by simpa using ha))
    refine ⟨b :: l', by simp [h1], fun i hi => ?_, by simp only [List.map_cons, List.sum_cons, List.length_cons]; omega⟩
    cases i with
    | zero => exact ⟨b, rfl, hb⟩
    | succ i => obtain ⟨b', e1, e2⟩ := h2 i (by simpa using hi); exact ⟨b', by simpa using e1, e2⟩
section
variable {H : Type} {enc : TypeId × Value → H} {w : World} {base : Nat} {sp : Nat → Bool} {held : Bool}
set_option maxRecDepth 100000 in
theorem row_of_trod {fuel : Nat} {t e : TypeId} {cs : List Value} {x : DataW H × List MemPlace} (sz : Nat) (ht : Try.prog.underlying t = some (.slice e)) (hc : Try.prog.cellsOf e = sz) (h0 : 0 < sz)
    (h : DataW.trod enc Try.prog w base sp held fuel t cs = some x) :
    ∃ (v : Value) (elems : List (DataW H × List MemPlace)) (k : Nat), cs = [v] ∧ k + 1 ≤ fuel ∧ V.Row w v elems.length sz (fun i c => ∃ y, elems[i]? = some y ∧ DataW.trod enc Try.prog w base sp held k e c = some y) ∧
      ((elems.map (·.1)).map uptoBulk).sum + 1 ≤ uptoBulk x.1 := by
  rcases DataW.trod_slice ht h with ⟨rfl, rfl⟩ | ⟨a, len, cap, elems, rest, n, rfl, rfl, rfl, _, _, _, hlen, hel, _⟩
  · refine ⟨_, [], 0, rfl, ?_, ⟨none, 0, rfl, .inl rfl⟩, by simp [uptoBulk]⟩
    cases fuel with
    | zero => simp [DataW.trod] at h
    | succ n => omega
  · refine ⟨_, elems, n, rfl, Nat.le_refl _, ?_, ?_⟩
    · subst hlen
      refine ⟨some a, cap, rfl, ?_⟩
      by_cases hz : elems.length = 0
      · exact .inl hz
      · have key : ∀ i, i < elems.length → ∃ cs : List Value, cs.length = sz ∧ (∀ j, j < sz → w.cell? ((a.add (i * sz)).add j) = cs[j]?) ∧ ∃ y, elems[i]? = some y ∧ DataW.trod enc Try.prog w base sp held n e cs = some y := by
          intro i hi
          have hE := hel i hi
          rw [hc, List.getElem?_eq_getElem hi, Option.bind_eq_some_iff] at hE
          obtain ⟨c1, h1, h2⟩ := hE
          obtain ⟨_, g1, g2⟩ := World.cells?_some h1
          exact ⟨c1, g1, g2, _, List.getElem?_eq_getElem hi, h2⟩
        have hs : a.spot = none := by
          obtain ⟨c1, g1, g2, _⟩ := key 0 (by omega)
          have := g2 0 h0
          rw [List.getElem?_eq_getElem (by omega)] at this
          have := World.cell?_spot this
          simpa [Addr.add] using this
        obtain ⟨b, off, s⟩ := a
        have hs' : s = none := hs
        subst hs'
        refine .inr ⟨b, off, rfl, fun i hi => ?_⟩
        obtain ⟨c1, g1, g2, g3⟩ := key i hi
        refine ⟨c1, g1, fun j hj => ?_, g3⟩
        rw [← g2 j hj]
        congr 1
        simp only [Addr.add]
        split <;> split <;> simp_all
    · simp only [uptoBulk, bulkAll_sum]; omega
set_option maxRecDepth 100000 in
theorem mem_of_trod : ∀ (m fuel : Nat) (cs : List Value) (x : DataW H × List MemPlace), fuel ≤ 2 * m → DataW.trod enc Try.prog w base sp held fuel 40 cs = some x →
    ∃ v, V.Mem m w v cs ∧ V.bulk m v + 1 ≤ uptoBulk x.1 := by
  intro m
  induction m with
  | zero =>
    intro fuel cs x hf h
    have : fuel = 0 := by omega
    subst this
    simp [DataW.trod] at h
  | succ m ih =>
    intro fuel cs x hfu h
    obtain ⟨xs, n, rfl, rfl, hl, hx, hf⟩ := DataW.trod_struct uVal h
    rw [cVal] at hl
    have hx5 : xs.length = 5 := hx
    obtain ⟨v0, v1, v2, v3, v4, rfl⟩ := list5 cs hl
    obtain ⟨x0, x1, x2, x3, x4, rfl⟩ := list5 xs hx5
    · skip
      have a0 : DataW.trod enc Try.prog w base sp held n 3 [v0] = some x0 := by
        have := hf 0 { name := "Kind", type := 3, offset := 0, embedded := false, tag := "", pkgPath := "", byteOffset := 0 } rfl
        rw [c3] at this
        exact this
      have a1 : DataW.trod enc Try.prog w base sp held n 3 [v1] = some x1 := by
        have := hf 1 { name := "N", type := 3, offset := 1, embedded := false, tag := "", pkgPath := "", byteOffset := 8 } rfl
        rw [c3] at this
        exact this
      have a2 : DataW.trod enc Try.prog w base sp held n 9 [v2] = some x2 := by
        have := hf 2 { name := "S", type := 9, offset := 2, embedded := false, tag := "", pkgPath := "", byteOffset := 16 } rfl
        rw [c9] at this
        exact this
      have a3 : DataW.trod enc Try.prog w base sp held n 37 [v3] = some x3 := by
        have := hf 3 { name := "L", type := 37, offset := 3, embedded := false, tag := "", pkgPath := "", byteOffset := 32 } rfl
        rw [cVL] at this
        exact this
      have a4 : DataW.trod enc Try.prog w base sp held n 38 [v4] = some x4 := by
        have := hf 4 { name := "F", type := 38, offset := 4, embedded := false, tag := "", pkgPath := "", byteOffset := 56 } rfl
        rw [cVF] at this
        exact this
      obtain ⟨k0, e0, rfl, _⟩ := DataW.trod_int u3 a0
      obtain ⟨k1, e1, rfl, _⟩ := DataW.trod_int u3 a1
      obtain ⟨k2, e2, rfl, _⟩ := DataW.trod_string u9 a2
      obtain ⟨lv, le, kl, e3, hkl, hL, hLb⟩ := row_of_trod 5 uVL cVal (by omega) a3
      obtain ⟨fv, fe, kf, e4, hkf, hF, hFb⟩ := row_of_trod 6 uVF cFld (by omega) a4
      simp only [List.cons.injEq, and_true] at e0 e1 e2 e3 e4
      subst e0 e1 e2 e3 e4
      have hl2 : ∃ l : List Val, V.Row w v3 l.length 5 (fun i c => ∃ y, l[i]? = some y ∧ V.Mem m w y c) ∧ V.sumL (V.bulk m) l + l.length + 1 ≤ uptoBulk x3.1 := by
        obtain ⟨ao, cap, rfl, hR⟩ := hL
        rcases hR with h0 | ⟨b, off, rfl, hR⟩
        · exact ⟨[], ⟨ao, cap, by rw [h0]; rfl, .inl rfl⟩, by simp [V.sumL]; omega⟩
        · obtain ⟨l', g1, g2, g3⟩ := list_of (fun y : DataW H × List MemPlace => uptoBulk y.1) (V.bulk m) le
            (fun i b' => ∃ cs : List Value, cs.length = 5 ∧ (∀ j, j < 5 → w.cell? ⟨b, off + i * 5 + j, none⟩ = cs[j]?) ∧ V.Mem m w b' cs) (fun i a ha => by
              obtain ⟨cs, q1, q2, y, q3, q4⟩ := hR i (List.getElem?_eq_some_iff.1 ha).1
              rw [q3] at ha
              obtain rfl := Option.some.inj ha
              obtain ⟨v, q5, q6⟩ := ih kl cs y (by omega) q4
              exact ⟨v, ⟨cs, q1, q2, q5⟩, q6⟩)
          refine ⟨l', ⟨some ⟨b, off, none⟩, cap, by rw [g1], .inr ⟨b, off, rfl, fun i hi => ?_⟩⟩, ?_⟩
          · obtain ⟨b', q1, cs, q2, q3, q4⟩ := g2 i (by omega)
            exact ⟨cs, q2, q3, b', q1, q4⟩
          · rw [List.map_map] at hLb
            have : (fun y : DataW H × List MemPlace => uptoBulk y.1) = uptoBulk ∘ (fun x => x.1) := rfl
            rw [this] at g3
            unfold V.sumL
            omega
      have hf2 : ∃ l : List (ByteArray × Val), V.Row w v4 l.length 6 (fun i c => ∃ y c', l[i]? = some y ∧ c = .string y.1 :: c' ∧ V.Mem m w y.2 c') ∧ V.sumF (fun x => x.1.size + V.bulk m x.2) l + l.length + 1 ≤ uptoBulk x4.1 := by
        obtain ⟨ao, cap, rfl, hR⟩ := hF
        rcases hR with h0 | ⟨b, off, rfl, hR⟩
        · exact ⟨[], ⟨ao, cap, by rw [h0]; rfl, .inl rfl⟩, by simp [V.sumF]; omega⟩
        · obtain ⟨l', g1, g2, g3⟩ := list_of (fun y : DataW H × List MemPlace => uptoBulk y.1) (fun x : ByteArray × Val => x.1.size + V.bulk m x.2) fe
            (fun i b' => ∃ cs c' : List Value, cs.length = 6 ∧ (∀ j, j < 6 → w.cell? ⟨b, off + i * 6 + j, none⟩ = cs[j]?) ∧ cs = .string b'.1 :: c' ∧ V.Mem m w b'.2 c') (fun i a ha => by
              obtain ⟨cs, q1, q2, y, q3, q4⟩ := hR i (List.getElem?_eq_some_iff.1 ha).1
              rw [q3] at ha
              obtain rfl := Option.some.inj ha
              obtain ⟨ys, n', rfl, rfl, _, hy, hg⟩ := DataW.trod_struct uFld q4
              have hy2 : ys.length = 2 := hy
              obtain ⟨w0, w1, w2, w3, w4, w5, rfl⟩ := list6 cs q1
              obtain ⟨y0, y1, rfl⟩ := list2 ys hy2
              · skip
                have b0 : DataW.trod enc Try.prog w base sp held n' 9 [w0] = some y0 := by
                  have := hg 0 { name := "Name", type := 9, offset := 0, embedded := false, tag := "", pkgPath := "", byteOffset := 0 } rfl
                  rw [c9] at this
                  exact this
                have b1 : DataW.trod enc Try.prog w base sp held n' 40 [w1, w2, w3, w4, w5] = some y1 := by
                  have := hg 1 { name := "V", type := 40, offset := 1, embedded := false, tag := "", pkgPath := "", byteOffset := 16 } rfl
                  rw [cVal] at this
                  exact this
                obtain ⟨s, e0, rfl, _⟩ := DataW.trod_string u9 b0
                simp only [List.cons.injEq, and_true] at e0
                subst e0
                obtain ⟨v, q5, q6⟩ := ih n' _ y1 (by omega) b1
                refine ⟨(s, v), ⟨_, _, q1, q2, rfl, q5⟩, ?_⟩
                have hsz : s.data.toList.length = s.size := rfl
                simp only [List.map_cons, List.map_nil, uptoBulk, uptoBulkAll, hsz]
                omega)
          refine ⟨l', ⟨some ⟨b, off, none⟩, cap, by rw [g1], .inr ⟨b, off, rfl, fun i hi => ?_⟩⟩, ?_⟩
          · obtain ⟨b', q1, cs, c', q2, q3, q4, q5⟩ := g2 i (by omega)
            exact ⟨cs, q2, q3, b', c', q1, q4, q5⟩
          · rw [List.map_map] at hFb
            have : (fun y : DataW H × List MemPlace => uptoBulk y.1) = uptoBulk ∘ (fun x => x.1) := rfl
            rw [this] at g3
            unfold V.sumF
            omega
      obtain ⟨l, hl1, hlb⟩ := hl2
      obtain ⟨f, hf1, hfb⟩ := hf2
      refine ⟨⟨k0, k1, k2, l, f⟩, ⟨_, _, rfl, hl1, hf1⟩, ?_⟩
      have hsz : k2.data.toList.length = k2.size := rfl
      simp only [V.bulk, List.map_cons, List.map_nil, uptoBulk, uptoBulkAll, hsz]
      omega
theorem uAct : Try.prog.underlying 43 = some (.struct #[{ name := "Kind", type := 9, offset := 0, embedded := false, tag := "", pkgPath := "", byteOffset := 0 }, { name := "S", type := 9, offset := 1, embedded := false, tag := "", pkgPath := "", byteOffset := 16 }, { name := "T", type := 9, offset := 2, embedded := false, tag := "", pkgPath := "", byteOffset := 32 }, { name := "A", type := 3, offset := 3, embedded := false, tag := "", pkgPath := "", byteOffset := 48 }, { name := "B", type := 3, offset := 4, embedded := false, tag := "", pkgPath := "", byteOffset := 56 }, { name := "V", type := 40, offset := 5, embedded := false, tag := "", pkgPath := "", byteOffset := 64 }, { name := "Names", type := 41, offset := 10, embedded := false, tag := "", pkgPath := "", byteOffset := 144 }]) := by kernel_rfl
theorem uNames : Try.prog.underlying 41 = some (.slice 9) := by kernel_rfl
theorem uActs : Try.prog.underlying 22 = some (.slice 43) := by kernel_rfl
theorem cAct : Try.prog.cellsOf 43 = 11 := by kernel_rfl
theorem cNames : Try.prog.cellsOf 41 = 1 := by kernel_rfl
theorem i64_range {n : Int} (h : (Lit.int .i64 n).wf = true) : -9223372036854775808 ≤ n ∧ n ≤ 9223372036854775807 := by
  simp [Lit.wf] at h
  have e : IntKind.i64.min = -9223372036854775808 := by decide
  rw [e] at h; exact h
theorem list7 {α : Type} : ∀ l : List α, l.length = 7 → ∃ a b c d e f g, l = [a, b, c, d, e, f, g]
  | [a, b, c, d, e, f, g], _ => ⟨a, b, c, d, e, f, g, rfl⟩
theorem list11 {α : Type} : ∀ l : List α, l.length = 11 → ∃ a b c d e f g h i j k, l = [a, b, c, d, e, f, g, h, i, j, k]
  | [a, b, c, d, e, f, g, h, i, j, k], _ => ⟨a, b, c, d, e, f, g, h, i, j, k, rfl⟩
theorem Row.turn {w : World} {v : Value} {n sz : Nat} {P Q : Nat → List Value → Prop} (h : V.Row w v n sz P) (hPQ : ∀ i c, c.length = sz → P i c → Q i c) : V.Row w v n sz Q := by
  obtain ⟨ao, cap, rfl, h⟩ := h
  refine ⟨ao, cap, rfl, ?_⟩
  rcases h with h | ⟨b, off, rfl, h⟩
  · exact .inl h
  · refine .inr ⟨b, off, rfl, fun i hi => ?_⟩
    obtain ⟨cs, h1, h2, h3⟩ := h i hi
    exact ⟨cs, h1, h2, hPQ i cs h1 h3⟩
theorem single_le : ∀ {l : List Nat} {x : Nat}, x ∈ l → x ≤ l.sum
  | y :: l, x, h => by
    rw [List.sum_cons]
    rcases List.mem_cons.1 h with rfl | h
    · omega
    · have := single_le h; omega
theorem list_for {β : Type} : ∀ (n : Nat) (R : Nat → β → Prop), (∀ i, i < n → ∃ b, R i b) → ∃ l : List β, l.length = n ∧ ∀ i b, l[i]? = some b → R i b
  | 0, _, _ => ⟨[], rfl, fun i b h => by simp at h⟩
  | n + 1, R, h => by
    obtain ⟨b, hb⟩ := h 0 (by omega)
    obtain ⟨l, h1, h2⟩ := list_for n (fun i => R (i + 1)) (fun i hi => h (i + 1) (by omega))
    refine ⟨b :: l, by simp [h1], fun i x hx => ?_⟩
    cases i with
    | zero => cases hx; exact hb
    | succ i => exact h2 i x (by simpa using hx)
set_option maxRecDepth 100000 in
theorem rowN_of_trod {fuel : Nat} {t e : TypeId} {cs : List Value} {x : DataW H × List MemPlace} (sz : Nat) (ht : Try.prog.underlying t = some (.slice e)) (hc : Try.prog.cellsOf e = sz) (h0 : 0 < sz)
    (h : DataW.trod enc Try.prog w base sp held fuel t cs = some x) :
    ∃ (v : Value) (n k : Nat), cs = [v] ∧ k + 1 ≤ fuel ∧ n ≤ maxLen ∧ V.Row w v n sz (fun _ c => ∃ y, DataW.trod enc Try.prog w base sp held k e c = some y) := by
  rcases DataW.trod_slice ht h with ⟨rfl, rfl⟩ | ⟨a, len, cap, elems, rest, n, rfl, rfl, rfl, _, hlc, hcm, hlen, hel, _⟩
  · refine ⟨_, 0, 0, rfl, ?_, Nat.zero_le _, ⟨none, 0, rfl, .inl rfl⟩⟩
    cases fuel with
    | zero => simp [DataW.trod] at h
    | succ n => omega
  · refine ⟨_, len, n, rfl, Nat.le_refl _, Nat.le_trans hlc hcm, ?_⟩
    · refine ⟨some a, cap, rfl, ?_⟩
      by_cases hz : len = 0
      · exact .inl hz
      · have key : ∀ i, i < len → ∃ cs : List Value, cs.length = sz ∧ (∀ j, j < sz → w.cell? ((a.add (i * sz)).add j) = cs[j]?) ∧ ∃ y, DataW.trod enc Try.prog w base sp held n e cs = some y := by
          intro i hi
          have hE := hel i hi
          rw [hc, List.getElem?_eq_getElem (by omega), Option.bind_eq_some_iff] at hE
          obtain ⟨c1, h1, h2⟩ := hE
          obtain ⟨_, g1, g2⟩ := World.cells?_some h1
          exact ⟨c1, g1, g2, _, h2⟩
        have hs : a.spot = none := by
          obtain ⟨c1, g1, g2, _⟩ := key 0 (by omega)
          have := g2 0 h0
          rw [List.getElem?_eq_getElem (by omega)] at this
          have := World.cell?_spot this
          simpa [Addr.add] using this
        obtain ⟨b, off, s⟩ := a
        have hs' : s = none := hs
        subst hs'
        refine .inr ⟨b, off, rfl, fun i hi => ?_⟩
        obtain ⟨c1, g1, g2, g3⟩ := key i hi
        refine ⟨c1, g1, fun j hj => ?_, g3⟩
        rw [← g2 j hj]
        congr 1
        simp only [Addr.add]
        split <;> split <;> simp_all
set_option maxRecDepth 100000 in
theorem act_of_trod (m fuel : Nat) (cs : List Value) (x : DataW H × List MemPlace) (hfu : fuel ≤ 2 * m) (hB : uptoBulk x.1 ≤ 1048576) (h : DataW.trod enc Try.prog w base sp held fuel 43 cs = some x) : ∃ a, A.Act m w a cs := by
  obtain ⟨xs, n, rfl, rfl, hl, hx, hf⟩ := DataW.trod_struct uAct h
  rw [cAct] at hl
  have hx7 : xs.length = 7 := hx
  obtain ⟨v0, v1, v2, v3, v4, v5, v6, v7, v8, v9, v10, rfl⟩ := list11 cs hl
  obtain ⟨x0, x1, x2, x3, x4, x5, x6, rfl⟩ := list7 xs hx7
  · skip
    have a0 : DataW.trod enc Try.prog w base sp held n 9 [v0] = some x0 := by
      have := hf 0 { name := "Kind", type := 9, offset := 0, embedded := false, tag := "", pkgPath := "", byteOffset := 0 } rfl
      rw [c9] at this
      exact this
    have a1 : DataW.trod enc Try.prog w base sp held n 9 [v1] = some x1 := by
      have := hf 1 { name := "S", type := 9, offset := 1, embedded := false, tag := "", pkgPath := "", byteOffset := 16 } rfl
      rw [c9] at this
      exact this
    have a2 : DataW.trod enc Try.prog w base sp held n 9 [v2] = some x2 := by
      have := hf 2 { name := "T", type := 9, offset := 2, embedded := false, tag := "", pkgPath := "", byteOffset := 32 } rfl
      rw [c9] at this
      exact this
    have a3 : DataW.trod enc Try.prog w base sp held n 3 [v3] = some x3 := by
      have := hf 3 { name := "A", type := 3, offset := 3, embedded := false, tag := "", pkgPath := "", byteOffset := 48 } rfl
      rw [c3] at this
      exact this
    have a4 : DataW.trod enc Try.prog w base sp held n 3 [v4] = some x4 := by
      have := hf 4 { name := "B", type := 3, offset := 4, embedded := false, tag := "", pkgPath := "", byteOffset := 56 } rfl
      rw [c3] at this
      exact this
    have a5 : DataW.trod enc Try.prog w base sp held n 40 [v5, v6, v7, v8, v9] = some x5 := by
      have := hf 5 { name := "V", type := 40, offset := 5, embedded := false, tag := "", pkgPath := "", byteOffset := 64 } rfl
      rw [cVal] at this
      exact this
    have a6 : DataW.trod enc Try.prog w base sp held n 41 [v10] = some x6 := by
      have := hf 6 { name := "Names", type := 41, offset := 10, embedded := false, tag := "", pkgPath := "", byteOffset := 144 } rfl
      rw [cNames] at this
      exact this
    obtain ⟨s0, e0, rfl, h0⟩ := DataW.trod_string u9 a0
    obtain ⟨s1, e1, rfl, h1⟩ := DataW.trod_string u9 a1
    obtain ⟨s2, e2, rfl, h2⟩ := DataW.trod_string u9 a2
    obtain ⟨k3, e3, rfl, w3⟩ := DataW.trod_int u3 a3
    obtain ⟨k4, e4, rfl, w4⟩ := DataW.trod_int u3 a4
    obtain ⟨nv, nn, kn, e6, _, hnn, hN⟩ := rowN_of_trod 1 uNames c9 (by omega) a6
    obtain ⟨tv, hm5, hb5⟩ := mem_of_trod m n _ x5 (by omega) a5
    simp only [List.cons.injEq, and_true] at e0 e1 e2 e3 e4 e6
    subst e0 e1 e2 e3 e4 e6
    simp only [List.map_cons, List.map_nil, uptoBulk, uptoBulkAll] at hB
    refine ⟨⟨s0, s1, s2, k3, k4, tv, nn, i64_range w3, i64_range w4⟩, ⟨_, _, _, _, _, _, rfl, h0, h1, h2, hm5, by show V.bulk m tv ≤ 2000000; omega, hnn, Row.turn hN (fun i c hc ⟨y, hy⟩ => ?_)⟩⟩
    obtain ⟨s, e0, _, hs⟩ := DataW.trod_string u9 hy
    exact ⟨s, e0, hs⟩
theorem acts_of_trod {fuel : Nat} {cs : List Value} {x : DataW H × List MemPlace} (hB : uptoBulk x.1 ≤ 1048576) (h : DataW.trod enc Try.prog w base sp held fuel 22 cs = some x) : ∃ v L, cs = [v] ∧ A.Acts (fuel + 1) w v L := by
  obtain ⟨_, _, _, e0, _, hn, ⟨ao0, cap0, e1, _⟩⟩ := rowN_of_trod 11 uActs cAct (by omega) h
  obtain ⟨v, el, k, rfl, hk, hR, hsum⟩ := row_of_trod 11 uActs cAct (by omega) h
  have hR2 := Row.turn (Q := fun _ c => ∃ a, A.Act (fuel + 1) w a c) hR (fun i c _ ⟨y, hy1, hy⟩ => act_of_trod (fuel + 1) k c y (by omega) (by
    have : uptoBulk y.1 ≤ ((el.map (·.1)).map uptoBulk).sum := single_le (List.mem_map.2 ⟨y.1, List.mem_map.2 ⟨y, List.mem_of_getElem? hy1, rfl⟩, rfl⟩)
    omega) hy)
  obtain ⟨ao, cap, rfl, h0 | ⟨b, off, rfl, hb⟩⟩ := hR2
  · exact ⟨_, [], rfl, Nat.zero_le _, ao, cap, by rw [h0]; rfl, .inl rfl⟩
  · obtain ⟨l, h1, h2⟩ := list_for el.length (fun i (z : Ac) => ∃ cs : List Value, cs.length = 11 ∧ (∀ j, j < 11 → w.cell? ⟨b, off + i * 11 + j, none⟩ = cs[j]?) ∧ A.Act (fuel + 1) w z cs) (fun i hi => by
      obtain ⟨cs, g1, g2, a, g3⟩ := hb i hi
      exact ⟨a, cs, g1, g2, g3⟩)
    have hel : el.length ≤ maxLen := by
      simp only [List.cons.injEq, and_true] at e0
      rw [e1] at e0
      have := (Value.slice.injEq ..  ▸ e0).2.1
      omega
    rw [← h1] at hel
    refine ⟨_, l, rfl, hel, some ⟨b, off, none⟩, cap, by rw [h1], .inr ⟨b, off, rfl, fun i hi => ?_⟩⟩
    obtain ⟨cs, g1, g2, g3⟩ := h2 i l[i] (List.getElem?_eq_getElem hi)
    exact ⟨cs, g1, g2, _, List.getElem?_eq_getElem hi, g3⟩
end
end V
end Go.Proofs.Ytlmkpjdaoinmoaa
namespace Go.Proofs.Ytlmkpjdaoinmoaa
open Go.ChangeShapes Go.WideShapes Go.ChangeAt Go.WideMaps Go.WideElems Go.RowKit
open _root_.Go.Proofs.Ytlmkpjdaoinmoaa.Rows (uptoBulk uptoBulkAll)
theorem trodAll_kept2 {H : Type} {enc : TypeId × Value → H} {w w' : World} {base : Nat} {sp : Nat → Bool} {held : Bool} (hb : Below w.heap.size w w') : ∀ {ts : List TypeId} {vs : List Value} {ds : List (DataW H)} {ps : List MemPlace},
    DataW.TrodAll enc Try.prog w base sp held ts vs ds ps → DataW.TrodAll enc Try.prog w' base sp held ts vs ds ps
  | [], [], [], _, h => h
  | _ :: _, _ :: _, _ :: _, _, ⟨p, q, ⟨n, hn⟩, h2, h3⟩ => ⟨p, q, ⟨n, DataW.trod_carry n _ _ _ hn (fun x hx => hb.same (DataW.trod_lt n _ _ _ hn x hx))⟩, trodAll_kept2 hb h2, h3⟩
theorem cloudOwn : ownKnob Try.prog.godebug = none := by kernel_rfl
theorem cloudKids : Kids Try.prog (· < Try.prog.types.size) := kids_rows (by kernel_rfl) (by kernel_rfl)
theorem cloudFull : ∀ t e, t < Try.prog.types.size → Try.prog.underlying t = some (.slice e) → 0 < Try.prog.cellsOf e := slices_full_of Try.prog (by kernel_rfl)
set_option maxRecDepth 100000 in
theorem cloudSays_lifted (os : Os) (started : os.Started) (H : Type) (enc : TypeId × Value → H) (F : Stop.Interp) :
    ReturnsInHanded {} Try.checked os 3 .any ((Rows.OpenSpec.upto Rows.cloudSaysSpec).pre6 enc Try.prog Try.f3 Rows.cloudSaysUptoRow.domain false) (((Rows.OpenSpec.upto Rows.cloudSaysSpec).at F).post enc Try.prog Try.f3 false true false false) := by
  refine returnsInHanded_of_cond (C := Try.checked) (s := Rows.OpenSpec.upto Rows.cloudSaysSpec) (k := Rows.uptoSmall) rfl cloudOwn started (by kernel_rfl) Try.func3
    (OpenSpec.witness (enc := enc) (C := Try.checked) (s := Rows.OpenSpec.upto Rows.cloudSaysSpec) (k := Rows.uptoSmall) rfl false ⟨#[], #[.int .i64 0, .slice none 0 0], []⟩ 8 (by kernel_rfl) (by kernel_rfl) (by kernel_rfl)
      (x := ([.lit (.int .i64 0), .nil], [], [])) (by kernel_rfl) rfl (by kernel_rfl)) ?_
  intro W base args ds gs before hval0 hW _ hk _
  have hW' := hW
  obtain ⟨p, q, hA0, hV, rfl, hfz, hnd⟩ := hW
  have hA : DataW.TrodAll enc Try.prog W 0 (fun _ => true) true Try.f3.params.toList args.toList ds p := hA0
  have hAk := hA
  have hval : ∀ (j : Nat) t v, Try.f3.params[j]? = some t → args[j]? = some v → Value.okWide Try.prog W .any base t v := hval0
  rw [Try.params3] at hA hval
  obtain ⟨v0, vs0, d0, ds0, p0, q0, hargs, rfl, rfl, h0, r0⟩ := trodAll_cons hA
  obtain ⟨v1, vs1, d1, ds1, p1, q1, hargs1, rfl, rfl, h1, r1⟩ := trodAll_cons r0
  obtain ⟨rfl, rfl, rfl⟩ := trodAll_nil r1
  obtain rfl : args = #[v0, v1] := by cases args; simp_all
  obtain ⟨rfl, rfl⟩ := trodVars_none hV
  obtain ⟨f1, h1⟩ := h1
  have hk2 : uptoBulkAll ([d0, d1] ++ []) ≤ 1048576 := of_decide_eq_true hk
  simp only [List.append_nil, uptoBulkAll] at hk2
  obtain ⟨v, l, e0, hL⟩ := V.acts_of_trod (by show uptoBulk d1 ≤ 1048576; omega) h1
  obtain ⟨n0, rfl⟩ := okWide_int V.u3 (hval 0 3 v0 rfl rfl)
  obtain ⟨a3, n3, k3, rfl⟩ := okWide_slice V.uActs (hval 1 22 v1 rfl rfl)
  have hv : Value.slice a3 n3 k3 = v := by simpa [Value.cells] using e0
  subst hv
  have hlt := hAk.lt
  refine (cloudSays_any sortC_holds f1 W n0 _ l hL).mono fun e W' ⟨he, hb⟩ => ?_
  subst he
  exact ⟨_, rfl, _, _, _, [], _, [], hW', trodAll_cons_mk (shut_bool Try.underlying4 _) trodAll_mk0, trodAll_kept2 hb (DataW.TrodAll.respare cloudKids cloudFull (by rw [Try.params3]; decide +kernel) hAk (fun x hx => decide_eq_true (hlt x hx))), rfl, hb.frame _, fun h => by cases h⟩
theorem cloudSays_holds : Rows.CloudSaysUptoSaid :=
  OpenClaim.holds_of_cond 3 Try.f3 rfl rfl rfl rfl rfl rfl rfl ⟨rfl, rfl, rfl, rfl, rfl⟩ rfl rfl rfl rfl rfl (by kernel_rfl) Try.func3 (by kernel_rfl)
    (of_decide_eq_true (by kernel_rfl)) (by unfold Func.isWrapper; first | (rw [if_pos (by decide +kernel)]; kernel_rfl) | (rw [if_neg (by decide +kernel)]; exact ⟨rfl, rfl⟩))
    (fun os started H enc _ F => cloudSays_lifted os started H enc F)
end Go.Proofs.Ytlmkpjdaoinmoaa
