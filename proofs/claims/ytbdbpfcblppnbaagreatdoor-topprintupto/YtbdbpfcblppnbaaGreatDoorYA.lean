/- From the reading of an argument to the stacks that its cells hold. -/
import Derived.Test.YtbdbpfcblppnbaaGreatDoorX3
import Derived.Test.YtbdbpfcblppnbaaGreatDoorRows
import Derived.ChangeArms
import Derived.DataReads
namespace Go.Proofs.YtbdbpfcblppnbaaGreatDoor.Vx
open Go.RowKit
open _root_.Go.Proofs.YtbdbpfcblppnbaaGreatDoor.Rows (uptoBulk uptoBulkAll)
namespace Rd
theorem u99 : Tryz.prog.underlying 47 = some (.struct #[{ name := "Kind", type := 3, offset := 0, embedded := false, tag := "", pkgPath := "", byteOffset := 0 }, { name := "N", type := 3, offset := 1, embedded := false, tag := "", pkgPath := "", byteOffset := 8 }, { name := "S", type := 9, offset := 2, embedded := false, tag := "", pkgPath := "", byteOffset := 16 }, { name := "L", type := 44, offset := 3, embedded := false, tag := "", pkgPath := "", byteOffset := 32 }, { name := "F", type := 45, offset := 4, embedded := false, tag := "", pkgPath := "", byteOffset := 56 }]) := by kernel_rfl
theorem u138 : Tryz.prog.underlying 95 = some (.struct #[{ name := "Name", type := 9, offset := 0, embedded := false, tag := "", pkgPath := "", byteOffset := 0 }, { name := "V", type := 47, offset := 1, embedded := false, tag := "", pkgPath := "", byteOffset := 16 }]) := by kernel_rfl
theorem u101 : Tryz.prog.underlying 49 = some (.struct #[{ name := "Name", type := 9, offset := 0, embedded := false, tag := "", pkgPath := "", byteOffset := 0 }, { name := "V", type := 47, offset := 1, embedded := false, tag := "", pkgPath := "", byteOffset := 16 }]) := by kernel_rfl
theorem u109 : Tryz.prog.underlying 57 = some (.struct #[{ name := "Kind", type := 3, offset := 0, embedded := false, tag := "", pkgPath := "", byteOffset := 0 }, { name := "V", type := 47, offset := 1, embedded := false, tag := "", pkgPath := "", byteOffset := 8 }, { name := "S", type := 9, offset := 6, embedded := false, tag := "", pkgPath := "", byteOffset := 88 }, { name := "T", type := 9, offset := 7, embedded := false, tag := "", pkgPath := "", byteOffset := 104 }, { name := "A", type := 54, offset := 8, embedded := false, tag := "", pkgPath := "", byteOffset := 120 }, { name := "N", type := 55, offset := 9, embedded := false, tag := "", pkgPath := "", byteOffset := 144 }]) := by kernel_rfl
theorem u111 : Tryz.prog.underlying 59 = some (.struct #[{ name := "Name", type := 9, offset := 0, embedded := false, tag := "", pkgPath := "", byteOffset := 0 }, { name := "E", type := 57, offset := 1, embedded := false, tag := "", pkgPath := "", byteOffset := 16 }]) := by kernel_rfl
theorem u113 : Tryz.prog.underlying 61 = some (.struct #[{ name := "Name", type := 9, offset := 0, embedded := false, tag := "", pkgPath := "", byteOffset := 0 }, { name := "E", type := 57, offset := 1, embedded := false, tag := "", pkgPath := "", byteOffset := 16 }]) := by kernel_rfl
theorem u105 : Tryz.prog.underlying 53 = some (.struct #[{ name := "Kind", type := 9, offset := 0, embedded := false, tag := "", pkgPath := "", byteOffset := 0 }, { name := "Name", type := 9, offset := 1, embedded := false, tag := "", pkgPath := "", byteOffset := 16 }, { name := "Parts", type := 51, offset := 2, embedded := false, tag := "", pkgPath := "", byteOffset := 32 }]) := by kernel_rfl
theorem u66 : Tryz.prog.underlying 41 = some (.struct #[{ name := "Name", type := 9, offset := 0, embedded := false, tag := "", pkgPath := "", byteOffset := 0 }, { name := "Inputs", type := 37, offset := 1, embedded := false, tag := "", pkgPath := "", byteOffset := 16 }, { name := "Resources", type := 38, offset := 2, embedded := false, tag := "", pkgPath := "", byteOffset := 40 }, { name := "Outputs", type := 39, offset := 3, embedded := false, tag := "", pkgPath := "", byteOffset := 64 }]) := by kernel_rfl
theorem u96 : Tryz.prog.underlying 44 = some (.slice 47) := by kernel_rfl
theorem u97 : Tryz.prog.underlying 45 = some (.slice 95) := by kernel_rfl
theorem u106 : Tryz.prog.underlying 54 = some (.slice 57) := by kernel_rfl
theorem u107 : Tryz.prog.underlying 55 = some (.slice 9) := by kernel_rfl
theorem u103 : Tryz.prog.underlying 51 = some (.slice 59) := by kernel_rfl
theorem u64 : Tryz.prog.underlying 39 = some (.slice 61) := by kernel_rfl
theorem u63 : Tryz.prog.underlying 38 = some (.slice 53) := by kernel_rfl
theorem u62 : Tryz.prog.underlying 37 = some (.slice 49) := by kernel_rfl
theorem u57 : Tryz.prog.underlying 22 = some (.slice 41) := by kernel_rfl
theorem u3 : Tryz.prog.underlying 3 = some (.int .i64) := by kernel_rfl
theorem u9 : Tryz.prog.underlying 9 = some .string := by kernel_rfl
theorem c3 : Tryz.prog.cellsOf 3 = 1 := by kernel_rfl
theorem c9 : Tryz.prog.cellsOf 9 = 1 := by kernel_rfl
theorem c96 : Tryz.prog.cellsOf 44 = 1 := by kernel_rfl
theorem c97 : Tryz.prog.cellsOf 45 = 1 := by kernel_rfl
theorem c99 : Tryz.prog.cellsOf 47 = 5 := by kernel_rfl
theorem c138 : Tryz.prog.cellsOf 95 = 6 := by kernel_rfl
theorem c101 : Tryz.prog.cellsOf 49 = 6 := by kernel_rfl
theorem c106 : Tryz.prog.cellsOf 54 = 1 := by kernel_rfl
theorem c107 : Tryz.prog.cellsOf 55 = 1 := by kernel_rfl
theorem c109 : Tryz.prog.cellsOf 57 = 10 := by kernel_rfl
theorem c111 : Tryz.prog.cellsOf 59 = 11 := by kernel_rfl
theorem c113 : Tryz.prog.cellsOf 61 = 11 := by kernel_rfl
theorem c103 : Tryz.prog.cellsOf 51 = 1 := by kernel_rfl
theorem c64 : Tryz.prog.cellsOf 39 = 1 := by kernel_rfl
theorem c63 : Tryz.prog.cellsOf 38 = 1 := by kernel_rfl
theorem c62 : Tryz.prog.cellsOf 37 = 1 := by kernel_rfl
theorem c105 : Tryz.prog.cellsOf 53 = 3 := by kernel_rfl
theorem c66 : Tryz.prog.cellsOf 41 = 4 := by kernel_rfl
theorem list2 {α : Type} : ∀ l : List α, l.length = 2 → ∃ x0 x1, l = [x0, x1]
 | [x0, x1], _ => ⟨x0, x1, rfl⟩
theorem list3 {α : Type} : ∀ l : List α, l.length = 3 → ∃ x0 x1 x2, l = [x0, x1, x2]
 | [x0, x1, x2], _ => ⟨x0, x1, x2, rfl⟩
theorem list4 {α : Type} : ∀ l : List α, l.length = 4 → ∃ x0 x1 x2 x3, l = [x0, x1, x2, x3]
 | [x0, x1, x2, x3], _ => ⟨x0, x1, x2, x3, rfl⟩
theorem list5 {α : Type} : ∀ l : List α, l.length = 5 → ∃ x0 x1 x2 x3 x4, l = [x0, x1, x2, x3, x4]
 | [x0, x1, x2, x3, x4], _ => ⟨x0, x1, x2, x3, x4, rfl⟩
theorem list6 {α : Type} : ∀ l : List α, l.length = 6 → ∃ x0 x1 x2 x3 x4 x5, l = [x0, x1, x2, x3, x4, x5]
 | [x0, x1, x2, x3, x4, x5], _ => ⟨x0, x1, x2, x3, x4, x5, rfl⟩
theorem list10 {α : Type} : ∀ l : List α, l.length = 10 → ∃ x0 x1 x2 x3 x4 x5 x6 x7 x8 x9, l = [x0, x1, x2, x3, x4, x5, x6, x7, x8, x9]
 | [x0, x1, x2, x3, x4, x5, x6, x7, x8, x9], _ => ⟨x0, x1, x2, x3, x4, x5, x6, x7, x8, x9, rfl⟩
theorem list11 {α : Type} : ∀ l : List α, l.length = 11 → ∃ x0 x1 x2 x3 x4 x5 x6 x7 x8 x9 x10, l = [x0, x1, x2, x3, x4, x5, x6, x7, x8, x9, x10]
 | [x0, x1, x2, x3, x4, x5, x6, x7, x8, x9, x10], _ => ⟨x0, x1, x2, x3, x4, x5, x6, x7, x8, x9, x10, rfl⟩
theorem bulkAll_sum {H : Type} : ∀ l : List (DataW H), uptoBulkAll l = (l.map uptoBulk).sum
 | [] => by simp [uptoBulkAll]
 | a :: l => by rw [uptoBulkAll, bulkAll_sum l]; simp
theorem list_of {α β : Type} (f : α → Nat) (g : β → Nat) : ∀ (l : List α) (R : Nat → β → Prop), (∀ i a, l[i]? = some a → ∃ b, R i b ∧ g b + 1 ≤ f a) →
  ∃ l' : List β, l'.length = l.length ∧ (∀ i, i < l.length → ∃ b, l'[i]? = some b ∧ R i b) ∧ (l'.map g).sum + l'.length ≤ (l.map f).sum
 | [], _, _ => ⟨[], rfl, fun i h => by simp at h, by simp⟩
 | a :: l, R, h => by
  obtain ⟨b, hb, hg⟩ := h 0 a rfl
  obtain ⟨l', h1, h2, h3⟩ := list_of f g l (fun i => R (i + 1)) (fun i a' ha => h (i + 1) a' (by simpa using ha))
  refine ⟨b :: l', by simp [h1], fun i hi => ?_, by simp only [List.map_cons, List.sum_cons, List.length_cons]; omega⟩
  cases i with
  | zero => exact ⟨b, rfl, hb⟩
  | succ i => obtain ⟨b', e1, e2⟩ := h2 i (by simpa using hi); exact ⟨b', by simpa using e1, e2⟩
section
variable {H : Type} {enc : TypeId × Value → H} {w : World} {base : Nat} {sp : Nat → Bool} {held : Bool}
set_option maxRecDepth 100000 in
theorem row_of_trod {fuel : Nat} {t e : TypeId} {cs : List Value} {x : DataW H × List MemPlace} (sz : Nat) (ht : Tryz.prog.underlying t = some (.slice e)) (hc : Tryz.prog.cellsOf e = sz) (h0 : 0 < sz)
  (h : DataW.trod enc Tryz.prog w base sp held fuel t cs = some x) :
  ∃ (v : Value) (elems : List (DataW H × List MemPlace)) (k : Nat), cs = [v] ∧ k + 1 ≤ fuel ∧ V.Row w v elems.length sz (fun i c => ∃ y, elems[i]? = some y ∧ DataW.trod enc Tryz.prog w base sp held k e c = some y) ∧
   ((elems.map (·.1)).map uptoBulk).sum + 1 ≤ uptoBulk x.1 := by
 rcases DataW.trod_slice ht h with ⟨rfl, rfl⟩ | ⟨a, len, cap, elems, rest, n, rfl, rfl, rfl, _, _, _, hlen, hel, _⟩
 ·refine ⟨_, [], 0, rfl, ?_, ⟨none, 0, rfl, .inl rfl⟩, by simp [uptoBulk]⟩
  cases fuel with
  | zero => simp [DataW.trod] at h
  | succ n => omega
 ·refine ⟨_, elems, n, rfl, Nat.le_refl _, ?_, ?_⟩
  ·subst hlen
   refine ⟨some a, cap, rfl, ?_⟩
   by_cases hz : elems.length = 0
   ·exact .inl hz
   ·have key : ∀ i, i < elems.length → ∃ cs : List Value, cs.length = sz ∧ (∀ j, j < sz → w.cell? ((a.add (i * sz)).add j) = cs[j]?) ∧ ∃ y, elems[i]? = some y ∧ DataW.trod enc Tryz.prog w base sp held n e cs = some y := by
     intro i hi
     have hE := hel i hi
     rw [hc, List.getElem?_eq_getElem hi, Option.bind_eq_some_iff] at hE
     obtain ⟨c1, h1, h2⟩ := hE
     obtain ⟨_, g1, g2⟩ := World.cells?_some h1
     exact ⟨c1, g1, g2, _, List.getElem?_eq_getElem hi, h2⟩
    have hs : a.spot = none := by
     obtain ⟨c1, g1, g2, _⟩ := key 0 (by omega)
     have := g2 0 h0
     rw [List.getElem?_eq_getElem (by omega)] at this
     have := World.cell?_spot this
     simpa [Addr.add] using this
    obtain ⟨b, off, s⟩ := a
    have hs' : s = none := hs
    subst hs'
    refine .inr ⟨b, off, rfl, fun i hi => ?_⟩
    obtain ⟨c1, g1, g2, g3⟩ := key i hi
    refine ⟨c1, g1, fun j hj => ?_, g3⟩
    rw [← g2 j hj]
    congr 1
    simp only [Addr.add]
    split <;> split <;> simp_all
  ·simp only [uptoBulk, bulkAll_sum]; omega
/-- A row of things, each of which is read. -/
theorem rows_of {β : Type} {fuel : Nat} {t e : TypeId} {cs : List Value} {x : DataW H × List MemPlace} (sz : Nat) (ht : Tryz.prog.underlying t = some (.slice e)) (hc : Tryz.prog.cellsOf e = sz) (h0 : 0 < sz) (g : β → Nat) (P : List β → Nat → List Value → Prop) (Q : β → List Value → Prop)
  (hP : ∀ (l : List β) (i : Nat) (c : List Value) (y : β), l[i]? = some y → Q y c → P l i c)
  (hQ : ∀ (k : Nat) (c : List Value) (y : DataW H × List MemPlace), k + 1 ≤ fuel → c.length = sz → DataW.trod enc Tryz.prog w base sp held k e c = some y → ∃ b, Q b c ∧ g b + 1 ≤ uptoBulk y.1)
  (h : DataW.trod enc Tryz.prog w base sp held fuel t cs = some x) : ∃ v, cs = [v] ∧ ∃ l : List β, V.Row w v l.length sz (P l) ∧ (l.map g).sum + l.length + 1 ≤ uptoBulk x.1 := by
 obtain ⟨v4, fe, kf, e4, hkf, hF, hFb⟩ := row_of_trod sz ht hc h0 h
 refine ⟨v4, e4, ?_⟩
 obtain ⟨ao, cap, rfl, hR⟩ := hF
 rcases hR with h0 | ⟨b, off, rfl, hR⟩
 ·exact ⟨[], ⟨ao, cap, by rw [h0]; rfl, .inl rfl⟩, by simp; omega⟩
 ·obtain ⟨l', g1, g2, g3⟩ := list_of (fun y : DataW H × List MemPlace => uptoBulk y.1) g fe
   (fun i b' => ∃ cs : List Value, cs.length = sz ∧ (∀ j, j < sz → w.cell? ⟨b, off + i * sz + j, none⟩ = cs[j]?) ∧ Q b' cs) (fun i a ha => by
    obtain ⟨cs, q1, q2, y, q3, q4⟩ := hR i (List.getElem?_eq_some_iff.1 ha).1
    rw [q3] at ha
    obtain rfl := Option.some.inj ha
    obtain ⟨v, q5, q6⟩ := hQ kf cs y hkf q1 q4
    exact ⟨v, ⟨cs, q1, q2, q5⟩, q6⟩)
  refine ⟨l', ⟨some ⟨b, off, none⟩, cap, by rw [g1], .inr ⟨b, off, rfl, fun i hi => ?_⟩⟩, ?_⟩
  ·obtain ⟨b', q1, cs, q2, q3, q4⟩ := g2 i (by omega)
   exact ⟨cs, q2, q3, hP l' i cs b' q1 q4⟩
  ·rw [List.map_map] at hFb
   have : (fun y : DataW H × List MemPlace => uptoBulk y.1) = uptoBulk ∘ (fun x => x.1) := rfl
   rw [this] at g3
   omega
set_option maxRecDepth 100000 in
theorem field_of {k m : Nat} {c : List Value} {y : DataW H × List MemPlace} (hl : c.length = 6) (ih : ∀ (n : Nat) (cs : List Value) (x : DataW H × List MemPlace), n + 1 ≤ k → DataW.trod enc Tryz.prog w base sp held n 47 cs = some x → ∃ v, V.Mem m w v cs ∧ V.bulk m v + 1 ≤ uptoBulk x.1) (h : DataW.trod enc Tryz.prog w base sp held k 95 c = some y) :
  ∃ b : ByteArray × Val, (∃ c', c = .string b.1 :: c' ∧ V.Mem m w b.2 c') ∧ (b.1.size + V.bulk m b.2) + 1 ≤ uptoBulk y.1 := by
 obtain ⟨ys, n, rfl, rfl, _, hy, hg⟩ := DataW.trod_struct u138 h
 have hy2 : ys.length = 2 := hy
 obtain ⟨w0, w1, w2, w3, w4, w5, rfl⟩ := list6 c hl
 obtain ⟨y0, y1, rfl⟩ := list2 ys hy2
 have a0 : DataW.trod enc Tryz.prog w base sp held n 9 [w0] = some y0 := by
  have := hg 0 { name := "Name", type := 9, offset := 0, embedded := false, tag := "", pkgPath := "", byteOffset := 0 } rfl
  rw [c9] at this
  exact this
 have a1 : DataW.trod enc Tryz.prog w base sp held n 47 [w1, w2, w3, w4, w5] = some y1 := by
  have := hg 1 { name := "V", type := 47, offset := 1, embedded := false, tag := "", pkgPath := "", byteOffset := 16 } rfl
  rw [c99] at this
  exact this
 obtain ⟨s, e0, rfl, _⟩ := DataW.trod_string u9 a0
 simp only [List.cons.injEq, and_true] at e0
 subst e0
 obtain ⟨v, q5, q6⟩ := ih n _ y1 (Nat.le_refl _) a1
 refine ⟨(s, v), ⟨_, rfl, q5⟩, ?_⟩
 have hsz : s.data.toList.length = s.size := rfl
 simp only [List.map_cons, List.map_nil, uptoBulk, uptoBulkAll, hsz]
 omega
set_option maxRecDepth 100000 in
theorem input_of {k m : Nat} {c : List Value} {y : DataW H × List MemPlace} (hl : c.length = 6) (ih : ∀ (n : Nat) (cs : List Value) (x : DataW H × List MemPlace), n + 1 ≤ k → DataW.trod enc Tryz.prog w base sp held n 47 cs = some x → ∃ v, V.Mem m w v cs ∧ V.bulk m v + 1 ≤ uptoBulk x.1) (h : DataW.trod enc Tryz.prog w base sp held k 49 c = some y) :
  ∃ b : ByteArray × Val, (∃ c', c = .string b.1 :: c' ∧ V.Mem m w b.2 c') ∧ (b.1.size + V.bulk m b.2) + 1 ≤ uptoBulk y.1 := by
 obtain ⟨ys, n, rfl, rfl, _, hy, hg⟩ := DataW.trod_struct u101 h
 have hy2 : ys.length = 2 := hy
 obtain ⟨w0, w1, w2, w3, w4, w5, rfl⟩ := list6 c hl
 obtain ⟨y0, y1, rfl⟩ := list2 ys hy2
 have a0 : DataW.trod enc Tryz.prog w base sp held n 9 [w0] = some y0 := by
  have := hg 0 { name := "Name", type := 9, offset := 0, embedded := false, tag := "", pkgPath := "", byteOffset := 0 } rfl
  rw [c9] at this
  exact this
 have a1 : DataW.trod enc Tryz.prog w base sp held n 47 [w1, w2, w3, w4, w5] = some y1 := by
  have := hg 1 { name := "V", type := 47, offset := 1, embedded := false, tag := "", pkgPath := "", byteOffset := 16 } rfl
  rw [c99] at this
  exact this
 obtain ⟨s, e0, rfl, _⟩ := DataW.trod_string u9 a0
 simp only [List.cons.injEq, and_true] at e0
 subst e0
 obtain ⟨v, q5, q6⟩ := ih n _ y1 (Nat.le_refl _) a1
 refine ⟨(s, v), ⟨_, rfl, q5⟩, ?_⟩
 have hsz : s.data.toList.length = s.size := rfl
 simp only [List.map_cons, List.map_nil, uptoBulk, uptoBulkAll, hsz]
 omega
set_option maxRecDepth 100000 in
theorem val_of : ∀ (m fuel : Nat) (cs : List Value) (x : DataW H × List MemPlace), fuel ≤ 2 * m → DataW.trod enc Tryz.prog w base sp held fuel 47 cs = some x →
  ∃ v, V.Mem m w v cs ∧ V.bulk m v + 1 ≤ uptoBulk x.1 := by
 intro m
 induction m with
 | zero =>
  intro fuel cs x hf h
  have : fuel = 0 := by omega
  subst this
  simp [DataW.trod] at h
 | succ m ih =>
  intro fuel cs x hfu h
  obtain ⟨xs, n, rfl, rfl, hl, hx, hf⟩ := DataW.trod_struct u99 h
  rw [c99] at hl
  have hx5 : xs.length = 5 := hx
  obtain ⟨v0, v1, v2, v3, v4, rfl⟩ := list5 cs hl
  obtain ⟨x0, x1, x2, x3, x4, rfl⟩ := list5 xs hx5
  have a0 : DataW.trod enc Tryz.prog w base sp held n 3 [v0] = some x0 := by
   have := hf 0 { name := "Kind", type := 3, offset := 0, embedded := false, tag := "", pkgPath := "", byteOffset := 0 } rfl
   rw [c3] at this
   exact this
  have a1 : DataW.trod enc Tryz.prog w base sp held n 3 [v1] = some x1 := by
   have := hf 1 { name := "N", type := 3, offset := 1, embedded := false, tag := "", pkgPath := "", byteOffset := 8 } rfl
   rw [c3] at this
   exact this
  have a2 : DataW.trod enc Tryz.prog w base sp held n 9 [v2] = some x2 := by
   have := hf 2 { name := "S", type := 9, offset := 2, embedded := false, tag := "", pkgPath := "", byteOffset := 16 } rfl
   rw [c9] at this
   exact this
  have a3 : DataW.trod enc Tryz.prog w base sp held n 44 [v3] = some x3 := by
   have := hf 3 { name := "L", type := 44, offset := 3, embedded := false, tag := "", pkgPath := "", byteOffset := 32 } rfl
   rw [c96] at this
   exact this
  have a4 : DataW.trod enc Tryz.prog w base sp held n 45 [v4] = some x4 := by
   have := hf 4 { name := "F", type := 45, offset := 4, embedded := false, tag := "", pkgPath := "", byteOffset := 56 } rfl
   rw [c97] at this
   exact this
  obtain ⟨k0, e0, rfl, _⟩ := DataW.trod_int u3 a0
  obtain ⟨k1, e1, rfl, _⟩ := DataW.trod_int u3 a1
  obtain ⟨k2, e2, rfl, _⟩ := DataW.trod_string u9 a2
  obtain ⟨lv, e3, l, hl1, hlb⟩ := rows_of 5 u96 c99 (by omega) (V.bulk m) (fun l i c => ∃ y, l[i]? = some y ∧ V.Mem m w y c) (V.Mem m w) (fun l i c y h1 h2 => ⟨y, h1, h2⟩) (fun k c y hk _ hy => ih k c y (by omega) hy) a3
  obtain ⟨fv, e4, f, hf1, hfb⟩ := rows_of 6 u97 c138 (by omega) (fun x : ByteArray × Val => x.1.size + V.bulk m x.2) (fun l i c => ∃ y c', l[i]? = some y ∧ c = .string y.1 :: c' ∧ V.Mem m w y.2 c') (fun y c => ∃ c', c = .string y.1 :: c' ∧ V.Mem m w y.2 c') (fun l i c y h1 ⟨c', h2, h3⟩ => ⟨y, c', h1, h2, h3⟩) (fun k c y hk hcl hy => field_of hcl (fun n cs x hn hx => ih n cs x (by omega) hx) hy) a4
  simp only [List.cons.injEq, and_true] at e0 e1 e2 e3 e4
  subst e0 e1 e2 e3 e4
  refine ⟨⟨k0, k1, k2, l, f⟩, ⟨_, _, rfl, hl1, hf1⟩, ?_⟩
  have hsz : k2.data.toList.length = k2.size := rfl
  simp only [V.bulk, V.sumL, V.sumF, List.map_cons, List.map_nil, uptoBulk, uptoBulkAll, hsz]
  omega
set_option maxRecDepth 100000 in
theorem expr_of : ∀ (m fuel : Nat) (cs : List Value) (x : DataW H × List MemPlace), fuel ≤ 2 * m → DataW.trod enc Tryz.prog w base sp held fuel 57 cs = some x →
  ∃ v, X.Mem m w v cs ∧ X.bulk m v + 1 ≤ uptoBulk x.1 := by
 intro m
 induction m with
 | zero =>
  intro fuel cs x hf h
  have : fuel = 0 := by omega
  subst this
  simp [DataW.trod] at h
 | succ m ih =>
  intro fuel cs x hfu h
  obtain ⟨xs, n, rfl, rfl, hl, hx, hf⟩ := DataW.trod_struct u109 h
  rw [c109] at hl
  have hx6 : xs.length = 6 := hx
  obtain ⟨v0, v1, v2, v3, v4, v5, v6, v7, v8, v9, rfl⟩ := list10 cs hl
  obtain ⟨x0, x1, x2, x3, x4, x5, rfl⟩ := list6 xs hx6
  have a0 : DataW.trod enc Tryz.prog w base sp held n 3 [v0] = some x0 := by
   have := hf 0 { name := "Kind", type := 3, offset := 0, embedded := false, tag := "", pkgPath := "", byteOffset := 0 } rfl
   rw [c3] at this
   exact this
  have a1 : DataW.trod enc Tryz.prog w base sp held n 47 [v1, v2, v3, v4, v5] = some x1 := by
   have := hf 1 { name := "V", type := 47, offset := 1, embedded := false, tag := "", pkgPath := "", byteOffset := 8 } rfl
   rw [c99] at this
   exact this
  have a2 : DataW.trod enc Tryz.prog w base sp held n 9 [v6] = some x2 := by
   have := hf 2 { name := "S", type := 9, offset := 6, embedded := false, tag := "", pkgPath := "", byteOffset := 88 } rfl
   rw [c9] at this
   exact this
  have a3 : DataW.trod enc Tryz.prog w base sp held n 9 [v7] = some x3 := by
   have := hf 3 { name := "T", type := 9, offset := 7, embedded := false, tag := "", pkgPath := "", byteOffset := 104 } rfl
   rw [c9] at this
   exact this
  have a4 : DataW.trod enc Tryz.prog w base sp held n 54 [v8] = some x4 := by
   have := hf 4 { name := "A", type := 54, offset := 8, embedded := false, tag := "", pkgPath := "", byteOffset := 120 } rfl
   rw [c106] at this
   exact this
  have a5 : DataW.trod enc Tryz.prog w base sp held n 55 [v9] = some x5 := by
   have := hf 5 { name := "N", type := 55, offset := 9, embedded := false, tag := "", pkgPath := "", byteOffset := 144 } rfl
   rw [c107] at this
   exact this
  obtain ⟨k0, e0, rfl, _⟩ := DataW.trod_int u3 a0
  obtain ⟨vv, hv1, hvb⟩ := val_of (m + 1) n _ x1 (by omega) a1
  obtain ⟨k2, e2, rfl, _⟩ := DataW.trod_string u9 a2
  obtain ⟨k3, e3, rfl, _⟩ := DataW.trod_string u9 a3
  obtain ⟨lv, e4, l, hl1, hlb⟩ := rows_of 10 u106 c109 (by omega) (X.bulk m) (fun l i c => ∃ y, l[i]? = some y ∧ X.Mem m w y c) (X.Mem m w) (fun l i c y h1 h2 => ⟨y, h1, h2⟩) (fun k c y hk _ hy => ih k c y (by omega) hy) a4
  obtain ⟨fv, e5, f, hf1, hfb⟩ := rows_of 1 u107 c9 (by omega) ByteArray.size (fun l i c => ∃ y, l[i]? = some y ∧ c = [.string y]) (fun y c => c = [.string y]) (fun l i c y h1 h2 => ⟨y, h1, h2⟩) (fun k c y hk hcl hy => by
   obtain ⟨s, e, rfl, _⟩ := DataW.trod_string u9 hy
   refine ⟨s, e, ?_⟩
   have hsz : s.data.toList.length = s.size := rfl
   simp only [uptoBulk, hsz]
   omega) a5
  simp only [List.cons.injEq, and_true] at e0 e2 e3 e4 e5
  subst e0 e2 e3 e4 e5
  refine ⟨⟨k0, vv, k2, k3, l, f⟩, ⟨_, _, _, _, _, _, _, rfl, hv1, hl1, hf1⟩, ?_⟩
  have hsz : k2.data.toList.length = k2.size := rfl
  have hsz3 : k3.data.toList.length = k3.size := rfl
  rw [X.bulk]
  simp only [X.sumA, X.sumN, List.map_cons, List.map_nil, uptoBulk, uptoBulkAll, hsz, hsz3]
  omega
set_option maxRecDepth 100000 in
theorem part_of {k m : Nat} {c : List Value} {y : DataW H × List MemPlace} (hl : c.length = 11) (ih : ∀ (n : Nat) (cs : List Value) (x : DataW H × List MemPlace), n + 1 ≤ k → DataW.trod enc Tryz.prog w base sp held n 57 cs = some x → ∃ v, X.Mem m w v cs ∧ X.bulk m v + 1 ≤ uptoBulk x.1) (h : DataW.trod enc Tryz.prog w base sp held k 59 c = some y) :
  ∃ b : ByteArray × Ex, (∃ c', c = .string b.1 :: c' ∧ X.Mem m w b.2 c') ∧ (b.1.size + X.bulk m b.2) + 1 ≤ uptoBulk y.1 := by
 obtain ⟨ys, n, rfl, rfl, _, hy, hg⟩ := DataW.trod_struct u111 h
 have hy2 : ys.length = 2 := hy
 obtain ⟨w0, w1, w2, w3, w4, w5, w6, w7, w8, w9, w10, rfl⟩ := list11 c hl
 obtain ⟨y0, y1, rfl⟩ := list2 ys hy2
 have a0 : DataW.trod enc Tryz.prog w base sp held n 9 [w0] = some y0 := by
  have := hg 0 { name := "Name", type := 9, offset := 0, embedded := false, tag := "", pkgPath := "", byteOffset := 0 } rfl
  rw [c9] at this
  exact this
 have a1 : DataW.trod enc Tryz.prog w base sp held n 57 [w1, w2, w3, w4, w5, w6, w7, w8, w9, w10] = some y1 := by
  have := hg 1 { name := "E", type := 57, offset := 1, embedded := false, tag := "", pkgPath := "", byteOffset := 16 } rfl
  rw [c109] at this
  exact this
 obtain ⟨s, e0, rfl, _⟩ := DataW.trod_string u9 a0
 simp only [List.cons.injEq, and_true] at e0
 subst e0
 obtain ⟨v, q5, q6⟩ := ih n _ y1 (Nat.le_refl _) a1
 refine ⟨(s, v), ⟨_, rfl, q5⟩, ?_⟩
 have hsz : s.data.toList.length = s.size := rfl
 simp only [List.map_cons, List.map_nil, uptoBulk, uptoBulkAll, hsz]
 omega
set_option maxRecDepth 100000 in
theorem output_of {k m : Nat} {c : List Value} {y : DataW H × List MemPlace} (hl : c.length = 11) (ih : ∀ (n : Nat) (cs : List Value) (x : DataW H × List MemPlace), n + 1 ≤ k → DataW.trod enc Tryz.prog w base sp held n 57 cs = some x → ∃ v, X.Mem m w v cs ∧ X.bulk m v + 1 ≤ uptoBulk x.1) (h : DataW.trod enc Tryz.prog w base sp held k 61 c = some y) :
  ∃ b : ByteArray × Ex, (∃ c', c = .string b.1 :: c' ∧ X.Mem m w b.2 c') ∧ (b.1.size + X.bulk m b.2) + 1 ≤ uptoBulk y.1 := by
 obtain ⟨ys, n, rfl, rfl, _, hy, hg⟩ := DataW.trod_struct u113 h
 have hy2 : ys.length = 2 := hy
 obtain ⟨w0, w1, w2, w3, w4, w5, w6, w7, w8, w9, w10, rfl⟩ := list11 c hl
 obtain ⟨y0, y1, rfl⟩ := list2 ys hy2
 have a0 : DataW.trod enc Tryz.prog w base sp held n 9 [w0] = some y0 := by
  have := hg 0 { name := "Name", type := 9, offset := 0, embedded := false, tag := "", pkgPath := "", byteOffset := 0 } rfl
  rw [c9] at this
  exact this
 have a1 : DataW.trod enc Tryz.prog w base sp held n 57 [w1, w2, w3, w4, w5, w6, w7, w8, w9, w10] = some y1 := by
  have := hg 1 { name := "E", type := 57, offset := 1, embedded := false, tag := "", pkgPath := "", byteOffset := 16 } rfl
  rw [c109] at this
  exact this
 obtain ⟨s, e0, rfl, _⟩ := DataW.trod_string u9 a0
 simp only [List.cons.injEq, and_true] at e0
 subst e0
 obtain ⟨v, q5, q6⟩ := ih n _ y1 (Nat.le_refl _) a1
 refine ⟨(s, v), ⟨_, rfl, q5⟩, ?_⟩
 have hsz : s.data.toList.length = s.size := rfl
 simp only [List.map_cons, List.map_nil, uptoBulk, uptoBulkAll, hsz]
 omega
set_option maxRecDepth 100000 in
theorem res_of {m k : Nat} {c : List Value} {y : DataW H × List MemPlace} (hm : k ≤ 2 * m) (hl : c.length = 3) (h : DataW.trod enc Tryz.prog w base sp held k 53 c = some y) :
  ∃ b : Rs, (∃ pv, c = [.string b.kind, .string b.name, pv] ∧ X.Named m w pv b.parts) ∧ (b.kind.size + b.name.size + X.sumP m b.parts) + 1 ≤ uptoBulk y.1 := by
 obtain ⟨ys, n, rfl, rfl, _, hy, hg⟩ := DataW.trod_struct u105 h
 have hy2 : ys.length = 3 := hy
 obtain ⟨v0, v1, v2, rfl⟩ := list3 c hl
 obtain ⟨y0, y1, y2, rfl⟩ := list3 ys hy2
 have a0 : DataW.trod enc Tryz.prog w base sp held n 9 [v0] = some y0 := by
  have := hg 0 { name := "Kind", type := 9, offset := 0, embedded := false, tag := "", pkgPath := "", byteOffset := 0 } rfl
  rw [c9] at this
  exact this
 have a1 : DataW.trod enc Tryz.prog w base sp held n 9 [v1] = some y1 := by
  have := hg 1 { name := "Name", type := 9, offset := 1, embedded := false, tag := "", pkgPath := "", byteOffset := 16 } rfl
  rw [c9] at this
  exact this
 have a2 : DataW.trod enc Tryz.prog w base sp held n 51 [v2] = some y2 := by
  have := hg 2 { name := "Parts", type := 51, offset := 2, embedded := false, tag := "", pkgPath := "", byteOffset := 32 } rfl
  rw [c103] at this
  exact this
 obtain ⟨k0, e0, rfl, _⟩ := DataW.trod_string u9 a0
 obtain ⟨k1, e1, rfl, _⟩ := DataW.trod_string u9 a1
 obtain ⟨fv, e2, f, hf1, hfb⟩ := rows_of 11 u103 c111 (by omega) (fun x : ByteArray × Ex => x.1.size + X.bulk m x.2) (fun l i c => ∃ y c', l[i]? = some y ∧ c = .string y.1 :: c' ∧ X.Mem m w y.2 c') (fun y c => ∃ c', c = .string y.1 :: c' ∧ X.Mem m w y.2 c') (fun l i c y h1 ⟨c', h2, h3⟩ => ⟨y, c', h1, h2, h3⟩) (fun k c y hk hcl hy => part_of hcl (fun n cs x hn hx => expr_of m n cs x (by omega) hx) hy) a2
 simp only [List.cons.injEq, and_true] at e0 e1 e2
 subst e0 e1 e2
 refine ⟨⟨k0, k1, f⟩, ⟨_, rfl, hf1⟩, ?_⟩
 have hsz : k0.data.toList.length = k0.size := rfl
 have hsz1 : k1.data.toList.length = k1.size := rfl
 simp only [X.sumP, List.map_cons, List.map_nil, uptoBulk, uptoBulkAll, hsz, hsz1]
 omega
set_option maxRecDepth 100000 in
theorem stack_of {m k : Nat} {c : List Value} {y : DataW H × List MemPlace} (hm : k ≤ 2 * m) (hl : c.length = 4) (h : DataW.trod enc Tryz.prog w base sp held k 41 c = some y) :
  ∃ b : Sk, X.SMem m w b c ∧ X.bulkS m b + 1 ≤ uptoBulk y.1 := by
 obtain ⟨ys, n, rfl, rfl, _, hy, hg⟩ := DataW.trod_struct u66 h
 have hy2 : ys.length = 4 := hy
 obtain ⟨v0, v1, v2, v3, rfl⟩ := list4 c hl
 obtain ⟨y0, y1, y2, y3, rfl⟩ := list4 ys hy2
 have a0 : DataW.trod enc Tryz.prog w base sp held n 9 [v0] = some y0 := by
  have := hg 0 { name := "Name", type := 9, offset := 0, embedded := false, tag := "", pkgPath := "", byteOffset := 0 } rfl
  rw [c9] at this
  exact this
 have a1 : DataW.trod enc Tryz.prog w base sp held n 37 [v1] = some y1 := by
  have := hg 1 { name := "Inputs", type := 37, offset := 1, embedded := false, tag := "", pkgPath := "", byteOffset := 16 } rfl
  rw [c62] at this
  exact this
 have a2 : DataW.trod enc Tryz.prog w base sp held n 38 [v2] = some y2 := by
  have := hg 2 { name := "Resources", type := 38, offset := 2, embedded := false, tag := "", pkgPath := "", byteOffset := 40 } rfl
  rw [c63] at this
  exact this
 have a3 : DataW.trod enc Tryz.prog w base sp held n 39 [v3] = some y3 := by
  have := hg 3 { name := "Outputs", type := 39, offset := 3, embedded := false, tag := "", pkgPath := "", byteOffset := 64 } rfl
  rw [c64] at this
  exact this
 obtain ⟨k0, e0, rfl, _⟩ := DataW.trod_string u9 a0
 obtain ⟨iv, e1, i, hi1, hib⟩ := rows_of 6 u62 c101 (by omega) (fun x : ByteArray × Val => x.1.size + V.bulk m x.2) (fun l i c => ∃ y c', l[i]? = some y ∧ c = .string y.1 :: c' ∧ V.Mem m w y.2 c') (fun y c => ∃ c', c = .string y.1 :: c' ∧ V.Mem m w y.2 c') (fun l i c y h1 ⟨c', h2, h3⟩ => ⟨y, c', h1, h2, h3⟩) (fun k c y hk hcl hy => input_of hcl (fun n cs x hn hx => val_of m n cs x (by omega) hx) hy) a1
 obtain ⟨rv, e2, r, hr1, hrb⟩ := rows_of 3 u63 c105 (by omega) (fun b : Rs => b.kind.size + b.name.size + X.sumP m b.parts) (fun l i c => ∃ x pv, l[i]? = some x ∧ c = [.string x.kind, .string x.name, pv] ∧ X.Named m w pv x.parts) (fun b c => ∃ pv, c = [.string b.kind, .string b.name, pv] ∧ X.Named m w pv b.parts) (fun l i c y h1 ⟨c', h2, h3⟩ => ⟨y, c', h1, h2, h3⟩) (fun k c y hk hcl hy => res_of (by omega) hcl hy) a2
 obtain ⟨ov, e3, f, hf1, hfb⟩ := rows_of 11 u64 c113 (by omega) (fun x : ByteArray × Ex => x.1.size + X.bulk m x.2) (fun l i c => ∃ y c', l[i]? = some y ∧ c = .string y.1 :: c' ∧ X.Mem m w y.2 c') (fun y c => ∃ c', c = .string y.1 :: c' ∧ X.Mem m w y.2 c') (fun l i c y h1 ⟨c', h2, h3⟩ => ⟨y, c', h1, h2, h3⟩) (fun k c y hk hcl hy => output_of hcl (fun n cs x hn hx => expr_of m n cs x (by omega) hx) hy) a3
 simp only [List.cons.injEq, and_true] at e0 e1 e2 e3
 subst e0 e1 e2 e3
 refine ⟨⟨k0, i, r, f⟩, ⟨_, _, _, rfl, hi1, hr1, hf1⟩, ?_⟩
 have hsz : k0.data.toList.length = k0.size := rfl
 simp only [X.bulkS, X.sumI, X.sumR, X.sumP, List.map_cons, List.map_nil, uptoBulk, uptoBulkAll, hsz] at hib hrb hfb ⊢
 omega
theorem stacks_of {m fuel : Nat} {cs : List Value} {x : DataW H × List MemPlace} (hm : fuel ≤ 2 * m) (h : DataW.trod enc Tryz.prog w base sp held fuel 22 cs = some x) :
  ∃ v, cs = [v] ∧ ∃ l : List Sk, X.Stks m w v l ∧ X.sumS m l + l.length + 1 ≤ uptoBulk x.1 :=
 rows_of 4 u57 c66 (by omega) (X.bulkS m) (fun l i c => ∃ x, l[i]? = some x ∧ X.SMem m w x c) (X.SMem m w) (fun l i c y h1 h2 => ⟨y, h1, h2⟩) (fun k c y hk hcl hy => stack_of (by omega) hcl hy) h
end
end Rd
end Go.Proofs.YtbdbpfcblppnbaaGreatDoor.Vx
