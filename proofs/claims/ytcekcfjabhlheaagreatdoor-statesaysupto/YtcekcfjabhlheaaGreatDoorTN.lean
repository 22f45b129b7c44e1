/- StateSays: SM TN. -/
import Derived.Test.YtcekcfjabhlheaaGreatDoorUV
import Derived.Test.YtcekcfjabhlheaaGreatDoorRows
import Derived.ChangeArms
import Derived.DataReads
import Derived.Test.YtcekcfjabhlheaaGreatDoorTM
import Derived.Test.YtcekcfjabhlheaaGreatDoorCards
import Derived.Test.YtcekcfjabhlheaaGreatDoorTie
import Derived.Lib.LaidU8
import Derived.Lib.LaidTab
import Derived.ChangeReads
import Derived.ChangeOld
import Derived.ProofKit
import Derived.LaidMore
import Derived.OpenShut
import Derived.Stop.Joined
import Derived.JoinedCond
import Derived.RowKit3
import Derived.ReadAgain
import Derived.Carry
import Derived.Lay
import Derived.MakeChecks
set_option maxRecDepth 100000
namespace Go.Proofs.YtcekcfjabhlheaaGreatDoor.Vx
open Go.RowKit
open _root_.Go.Proofs.YtcekcfjabhlheaaGreatDoor.Rows (uptoBulk uptoBulkAll)
namespace Rd
theorem u26 : Tryz.prog.underlying 26 = some (.struct #[{ name := "Serial", type := 3, offset := 0, embedded := false, tag := "", pkgPath := "", byteOffset := 0 }, { name := "Held", type := 22, offset := 1, embedded := false, tag := "", pkgPath := "", byteOffset := 8 }, { name := "Intents", type := 23, offset := 2, embedded := false, tag := "", pkgPath := "", byteOffset := 32 }, { name := "Outs", type := 24, offset := 3, embedded := false, tag := "", pkgPath := "", byteOffset := 56 }]) := by kernel_rfl
theorem u63 : Tryz.prog.underlying 63 = some (.struct #[{ name := "Name", type := 9, offset := 0, embedded := false, tag := "", pkgPath := "", byteOffset := 0 }, { name := "Kind", type := 9, offset := 1, embedded := false, tag := "", pkgPath := "", byteOffset := 16 }, { name := "ID", type := 3, offset := 2, embedded := false, tag := "", pkgPath := "", byteOffset := 32 }, { name := "Attrs", type := 61, offset := 3, embedded := false, tag := "", pkgPath := "", byteOffset := 40 }]) := by kernel_rfl
theorem u66 : Tryz.prog.underlying 66 = some (.struct #[{ name := "Op", type := 3, offset := 0, embedded := false, tag := "", pkgPath := "", byteOffset := 0 }, { name := "Held", type := 63, offset := 1, embedded := false, tag := "", pkgPath := "", byteOffset := 8 }, { name := "Token", type := 9, offset := 9, embedded := false, tag := "", pkgPath := "", byteOffset := 128 }]) := by kernel_rfl
theorem u68 : Tryz.prog.underlying 68 = some (.struct #[{ name := "Name", type := 9, offset := 0, embedded := false, tag := "", pkgPath := "", byteOffset := 0 }, { name := "V", type := 61, offset := 1, embedded := false, tag := "", pkgPath := "", byteOffset := 16 }]) := by kernel_rfl
theorem u61 : Tryz.prog.underlying 61 = some (.struct #[{ name := "Kind", type := 3, offset := 0, embedded := false, tag := "", pkgPath := "", byteOffset := 0 }, { name := "N", type := 3, offset := 1, embedded := false, tag := "", pkgPath := "", byteOffset := 8 }, { name := "S", type := 9, offset := 2, embedded := false, tag := "", pkgPath := "", byteOffset := 16 }, { name := "L", type := 59, offset := 3, embedded := false, tag := "", pkgPath := "", byteOffset := 32 }, { name := "F", type := 24, offset := 4, embedded := false, tag := "", pkgPath := "", byteOffset := 56 }]) := by kernel_rfl
theorem u59 : Tryz.prog.underlying 59 = some (.slice 61) := by kernel_rfl
theorem u24 : Tryz.prog.underlying 24 = some (.slice 68) := by kernel_rfl
theorem u22 : Tryz.prog.underlying 22 = some (.slice 63) := by kernel_rfl
theorem u23 : Tryz.prog.underlying 23 = some (.slice 66) := by kernel_rfl
theorem u3 : Tryz.prog.underlying 3 = some (.int .i64) := by kernel_rfl
theorem u9 : Tryz.prog.underlying 9 = some .string := by kernel_rfl
theorem c3 : Tryz.prog.cellsOf 3 = 1 := by kernel_rfl
theorem c9 : Tryz.prog.cellsOf 9 = 1 := by kernel_rfl
theorem c22 : Tryz.prog.cellsOf 22 = 1 := by kernel_rfl
theorem c23 : Tryz.prog.cellsOf 23 = 1 := by kernel_rfl
theorem c24 : Tryz.prog.cellsOf 24 = 1 := by kernel_rfl
theorem c59 : Tryz.prog.cellsOf 59 = 1 := by kernel_rfl
theorem c61 : Tryz.prog.cellsOf 61 = 5 := by kernel_rfl
theorem c68 : Tryz.prog.cellsOf 68 = 6 := by kernel_rfl
theorem c63 : Tryz.prog.cellsOf 63 = 8 := by kernel_rfl
theorem c66 : Tryz.prog.cellsOf 66 = 10 := by kernel_rfl
theorem c26 : Tryz.prog.cellsOf 26 = 4 := by kernel_rfl
theorem list2 {α : Type} : ∀ l : List α, l.length = 2 -> ∃ x0 x1, l = [x0, x1]
 | [x0, x1], _ => ⟨x0, x1, rfl⟩
theorem list3 {α : Type} : ∀ l : List α, l.length = 3 -> ∃ x0 x1 x2, l = [x0, x1, x2]
 | [x0, x1, x2], _ => ⟨x0, x1, x2, rfl⟩
theorem list4 {α : Type} : ∀ l : List α, l.length = 4 -> ∃ x0 x1 x2 x3, l = [x0, x1, x2, x3]
 | [x0, x1, x2, x3], _ => ⟨x0, x1, x2, x3, rfl⟩
theorem list5 {α : Type} : ∀ l : List α, l.length = 5 -> ∃ x0 x1 x2 x3 x4, l = [x0, x1, x2, x3, x4]
 | [x0, x1, x2, x3, x4], _ => ⟨x0, x1, x2, x3, x4, rfl⟩
theorem list6 {α : Type} : ∀ l : List α, l.length = 6 -> ∃ x0 x1 x2 x3 x4 x5, l = [x0, x1, x2, x3, x4, x5]
 | [x0, x1, x2, x3, x4, x5], _ => ⟨x0, x1, x2, x3, x4, x5, rfl⟩
theorem list8 {α : Type} : ∀ l : List α, l.length = 8 -> ∃ x0 x1 x2 x3 x4 x5 x6 x7, l = [x0, x1, x2, x3, x4, x5, x6, x7]
 | [x0, x1, x2, x3, x4, x5, x6, x7], _ => ⟨x0, x1, x2, x3, x4, x5, x6, x7, rfl⟩
theorem list10 {α : Type} : ∀ l : List α, l.length = 10 -> ∃ x0 x1 x2 x3 x4 x5 x6 x7 x8 x9, l = [x0, x1, x2, x3, x4, x5, x6, x7, x8, x9]
 | [x0, x1, x2, x3, x4, x5, x6, x7, x8, x9], _ => ⟨x0, x1, x2, x3, x4, x5, x6, x7, x8, x9, rfl⟩
theorem bulkAll_sum {H : Type} : ∀ l : List (DataW H), uptoBulkAll l = (l.map uptoBulk).sum
 | [] => by simp [uptoBulkAll]
 | a :: l => by rw [uptoBulkAll, bulkAll_sum l]; simp
theorem list_of {α β : Type} (f : α -> Nat) (g : β -> Nat) : ∀ (l : List α) (R : Nat -> β -> Prop), (∀ i a, l[i]? = some a -> ∃ b, R i b /\ g b + 1 <= f a) ->
  ∃ l' : List β, l'.length = l.length /\ (∀ i, i < l.length -> ∃ b, l'[i]? = some b /\ R i b) /\ (l'.map g).sum + l'.length <= (l.map f).sum
 | [], _, _ => ⟨[], rfl, fun i h => by simp at h, by simp⟩
 | a :: l, R, h => by
  obtain ⟨b, hb, hg⟩ := h 0 a rfl;obtain ⟨l', h1, h2, h3⟩ := list_of f g l (fun i => R (i + 1)) (fun i a' ha => h (i + 1) a' (by simpa using ha));refine ⟨b :: l', by simp [h1], fun i hi => ?_, by simp only [List.map_cons, List.sum_cons, List.length_cons]; omega⟩;cases i with
  | zero => exact ⟨b, rfl, hb⟩
  | succ i => obtain ⟨b', e1, e2⟩ := h2 i (by simpa using hi); exact ⟨b', by simpa using e1, e2⟩
section
variable {H : Type} {enc : TypeId × Value -> H} {w : World} {base : Nat} {sp : Nat -> Bool} {held : Bool}
theorem row_of_trod {fuel : Nat} {t e : TypeId} {cs : List Value} {x : DataW H × List MemPlace} (sz : Nat) (ht : Tryz.prog.underlying t = some (.slice e)) (hc : Tryz.prog.cellsOf e = sz) (h0 : 0 < sz)
  (h : DataW.trod enc Tryz.prog w base sp held fuel t cs = some x) :
  ∃ (v : Value) (elems : List (DataW H × List MemPlace)) (k : Nat), cs = [v] /\ k + 1 <= fuel /\ V.Row w v elems.length sz (fun i c => ∃ y, elems[i]? = some y /\ DataW.trod enc Tryz.prog w base sp held k e c = some y) /\
   ((elems.map (·.1)).map uptoBulk).sum + 1 <= uptoBulk x.1 := by
 rcases DataW.trod_slice ht h with ⟨rfl, rfl⟩ | ⟨a, len, cap, elems, rest, n, rfl, rfl, rfl, _, _, _, hlen, hel, _⟩
 ·refine ⟨_, [], 0, rfl, ?_, ⟨none, 0, rfl, .inl rfl⟩, by simp [uptoBulk]⟩;cases fuel with
  | zero => simp [DataW.trod] at h
  | succ n => omega
 ·refine ⟨_, elems, n, rfl, Nat.le_refl _, ?_, ?_⟩
  ·subst hlen;refine ⟨some a, cap, rfl, ?_⟩;by_cases hz : elems.length = 0
   ·exact .inl hz
   ·have key : ∀ i, i < elems.length -> ∃ cs : List Value, cs.length = sz /\ (∀ j, j < sz -> w.cell? ((a.add (i * sz)).add j) = cs[j]?) /\ ∃ y, elems[i]? = some y /\ DataW.trod enc Tryz.prog w base sp held n e cs = some y := by
     intro i hi;have hE := hel i hi;rw [hc, List.getElem?_eq_getElem hi, Option.bind_eq_some_iff] at hE;obtain ⟨c1, h1, h2⟩ := hE;obtain ⟨_, g1, g2⟩ := World.cells?_some h1;exact ⟨c1, g1, g2, _, List.getElem?_eq_getElem hi, h2⟩
    have hs : a.spot = none := by
     obtain ⟨c1, g1, g2, _⟩ := key 0 (by omega);have := g2 0 h0;rw [List.getElem?_eq_getElem (by omega)] at this;have := World.cell?_spot this;simpa [Addr.add] using this
    obtain ⟨b, off, s⟩ := a;have hs' : s = none := hs;subst hs';refine .inr ⟨b, off, rfl, fun i hi => ?_⟩;obtain ⟨c1, g1, g2, g3⟩ := key i hi;refine ⟨c1, g1, fun j hj => ?_, g3⟩;rw [<- g2 j hj];congr 1;simp only [Addr.add];split <;> split <;> simp_all
  ·simp only [uptoBulk, bulkAll_sum]; omega
theorem rows_of {β : Type} {fuel : Nat} {t e : TypeId} {cs : List Value} {x : DataW H × List MemPlace} (sz : Nat) (ht : Tryz.prog.underlying t = some (.slice e)) (hc : Tryz.prog.cellsOf e = sz) (h0 : 0 < sz) (g : β -> Nat) (P : List β -> Nat -> List Value -> Prop) (Q : β -> List Value -> Prop)
  (hP : ∀ (l : List β) (i : Nat) (c : List Value) (y : β), l[i]? = some y -> Q y c -> P l i c)
  (hQ : ∀ (k : Nat) (c : List Value) (y : DataW H × List MemPlace), k + 1 <= fuel -> c.length = sz -> DataW.trod enc Tryz.prog w base sp held k e c = some y -> ∃ b, Q b c /\ g b + 1 <= uptoBulk y.1)
  (h : DataW.trod enc Tryz.prog w base sp held fuel t cs = some x) : ∃ v, cs = [v] /\ ∃ l : List β, V.Row w v l.length sz (P l) /\ (l.map g).sum + l.length + 1 <= uptoBulk x.1 := by
 obtain ⟨v4, fe, kf, e4, hkf, hF, hFb⟩ := row_of_trod sz ht hc h0 h;refine ⟨v4, e4, ?_⟩;obtain ⟨ao, cap, rfl, hR⟩ := hF;rcases hR with h0 | ⟨b, off, rfl, hR⟩
 ·exact ⟨[], ⟨ao, cap, by rw [h0]; rfl, .inl rfl⟩, by simp; omega⟩
 ·obtain ⟨l', g1, g2, g3⟩ := list_of (fun y : DataW H × List MemPlace => uptoBulk y.1) g fe
   (fun i b' => ∃ cs : List Value, cs.length = sz /\ (∀ j, j < sz -> w.cell? ⟨b, off + i * sz + j, none⟩ = cs[j]?) /\ Q b' cs) (fun i a ha => by
    obtain ⟨cs, q1, q2, y, q3, q4⟩ := hR i (List.getElem?_eq_some_iff.1 ha).1;rw [q3] at ha;obtain rfl := Option.some.inj ha;obtain ⟨v, q5, q6⟩ := hQ kf cs y hkf q1 q4;exact ⟨v, ⟨cs, q1, q2, q5⟩, q6⟩)
  refine ⟨l', ⟨some ⟨b, off, none⟩, cap, by rw [g1], .inr ⟨b, off, rfl, fun i hi => ?_⟩⟩, ?_⟩
  ·obtain ⟨b', q1, cs, q2, q3, q4⟩ := g2 i (by omega);exact ⟨cs, q2, q3, hP l' i cs b' q1 q4⟩
  ·rw [List.map_map] at hFb;have : (fun y : DataW H × List MemPlace => uptoBulk y.1) = uptoBulk ∘ (fun x => x.1) := rfl;rw [this] at g3;omega
theorem field_of {k m : Nat} {c : List Value} {y : DataW H × List MemPlace} (hl : c.length = 6) (ih : ∀ (n : Nat) (cs : List Value) (x : DataW H × List MemPlace), n + 1 <= k -> DataW.trod enc Tryz.prog w base sp held n 61 cs = some x -> ∃ v, V.Mem m w v cs /\ V.bulk m v + 1 <= uptoBulk x.1) (h : DataW.trod enc Tryz.prog w base sp held k 68 c = some y) :
  ∃ b : ByteArray × Val, (∃ c', c = .string b.1 :: c' /\ V.Mem m w b.2 c') /\ (b.1.size + V.bulk m b.2) + 1 <= uptoBulk y.1 := by
 obtain ⟨ys, n, rfl, rfl, _, hy, hg⟩ := DataW.trod_struct u68 h;have hy2 : ys.length = 2 := hy;obtain ⟨w0, w1, w2, w3, w4, w5, rfl⟩ := list6 c hl;obtain ⟨y0, y1, rfl⟩ := list2 ys hy2;have a0 : DataW.trod enc Tryz.prog w base sp held n 9 [w0] = some y0 := by
  have := hg 0 { name := "Name", type := 9, offset := 0, embedded := false, tag := "", pkgPath := "", byteOffset := 0 } rfl;rw [c9] at this;exact this
 have a1 : DataW.trod enc Tryz.prog w base sp held n 61 [w1, w2, w3, w4, w5] = some y1 := by
  have := hg 1 { name := "V", type := 61, offset := 1, embedded := false, tag := "", pkgPath := "", byteOffset := 16 } rfl;rw [c61] at this;exact this
 obtain ⟨s, e0, rfl, _⟩ := DataW.trod_string u9 a0;simp only [List.cons.injEq, and_true] at e0;subst e0;obtain ⟨v, q5, q6⟩ := ih n _ y1 (Nat.le_refl _) a1;refine ⟨(s, v), ⟨_, rfl, q5⟩, ?_⟩;have hsz : s.data.toList.length = s.size := rfl;simp only [List.map_cons, List.map_nil, uptoBulk, uptoBulkAll, hsz];omega
theorem val_of : ∀ (m fuel : Nat) (cs : List Value) (x : DataW H × List MemPlace), fuel <= 2 * m -> DataW.trod enc Tryz.prog w base sp held fuel 61 cs = some x ->
  ∃ v, V.Mem m w v cs /\ V.bulk m v + 1 <= uptoBulk x.1 := by
 intro m;induction m with
 | zero =>
  intro fuel cs x hf h;have : fuel = 0 := by omega
  subst this;simp [DataW.trod] at h
 | succ m ih =>
  intro fuel cs x hfu h;obtain ⟨xs, n, rfl, rfl, hl, hx, hf⟩ := DataW.trod_struct u61 h;rw [c61] at hl;have hx5 : xs.length = 5 := hx;obtain ⟨v0, v1, v2, v3, v4, rfl⟩ := list5 cs hl;obtain ⟨x0, x1, x2, x3, x4, rfl⟩ := list5 xs hx5;have a0 : DataW.trod enc Tryz.prog w base sp held n 3 [v0] = some x0 := by
   have := hf 0 { name := "Kind", type := 3, offset := 0, embedded := false, tag := "", pkgPath := "", byteOffset := 0 } rfl;rw [c3] at this;exact this
  have a1 : DataW.trod enc Tryz.prog w base sp held n 3 [v1] = some x1 := by
   have := hf 1 { name := "N", type := 3, offset := 1, embedded := false, tag := "", pkgPath := "", byteOffset := 8 } rfl;rw [c3] at this;exact this
  have a2 : DataW.trod enc Tryz.prog w base sp held n 9 [v2] = some x2 := by
   have := hf 2 { name := "S", type := 9, offset := 2, embedded := false, tag := "", pkgPath := "", byteOffset := 16 } rfl;rw [c9] at this;exact this
  have a3 : DataW.trod enc Tryz.prog w base sp held n 59 [v3] = some x3 := by
   have := hf 3 { name := "L", type := 59, offset := 3, embedded := false, tag := "", pkgPath := "", byteOffset := 32 } rfl;rw [c59] at this;exact this
  have a4 : DataW.trod enc Tryz.prog w base sp held n 24 [v4] = some x4 := by
   have := hf 4 { name := "F", type := 24, offset := 4, embedded := false, tag := "", pkgPath := "", byteOffset := 56 } rfl;rw [c24] at this;exact this
  obtain ⟨k0, e0, rfl, _⟩ := DataW.trod_int u3 a0;obtain ⟨k1, e1, rfl, _⟩ := DataW.trod_int u3 a1;obtain ⟨k2, e2, rfl, _⟩ := DataW.trod_string u9 a2;obtain ⟨lv, e3, l, hl1, hlb⟩ := rows_of 5 u59 c61 (by omega) (V.bulk m) (fun l i c => ∃ y, l[i]? = some y /\ V.Mem m w y c) (V.Mem m w) (fun l i c y h1 h2 => ⟨y, h1, h2⟩) (fun k c y hk _ hy => ih k c y (by omega) hy) a3;obtain ⟨fv, e4, f, hf1, hfb⟩ := rows_of 6 u24 c68 (by omega) (fun x : ByteArray × Val => x.1.size + V.bulk m x.2) (fun l i c => ∃ y c', l[i]? = some y /\ c = .string y.1 :: c' /\ V.Mem m w y.2 c') (fun y c => ∃ c', c = .string y.1 :: c' /\ V.Mem m w y.2 c') (fun l i c y h1 ⟨c', h2, h3⟩ => ⟨y, c', h1, h2, h3⟩) (fun k c y hk hcl hy => field_of hcl (fun n cs x hn hx => ih n cs x (by omega) hx) hy) a4;simp only [List.cons.injEq, and_true] at e0 e1 e2 e3 e4;subst e0 e1 e2 e3 e4;refine ⟨⟨k0, k1, k2, l, f⟩, ⟨_, _, rfl, hl1, hf1⟩, ?_⟩;have hsz : k2.data.toList.length = k2.size := rfl;simp only [V.bulk, V.sumL, V.sumF, List.map_cons, List.map_nil, uptoBulk, uptoBulkAll, hsz];omega
theorem in64_of {n : Int} (h : (Lit.int .i64 n).wf = true) : S.in64 n := by
 have h1 : IntKind.i64.min = -9223372036854775808 := by decide
 have h2 : IntKind.i64.max = 9223372036854775807 := by decide
 simp only [Lit.wf, Bool.and_eq_true, decide_eq_true_eq] at h;exact ⟨by omega, by omega⟩
theorem held_of {m k : Nat} {c : List Value} {y : DataW H × List MemPlace} (hm : k <= 2 * m) (hl : c.length = 8) (h : DataW.trod enc Tryz.prog w base sp held k 63 c = some y) :
  ∃ b : Hd, S.HB m w b c /\ S.bulkH m b + 1 <= uptoBulk y.1 := by
 obtain ⟨ys, n, rfl, rfl, _, hy, hg⟩ := DataW.trod_struct u63 h;have hy2 : ys.length = 4 := hy;obtain ⟨v0, v1, v2, v3, v4, v5, v6, v7, rfl⟩ := list8 c hl;obtain ⟨y0, y1, y2, y3, rfl⟩ := list4 ys hy2;have a0 : DataW.trod enc Tryz.prog w base sp held n 9 [v0] = some y0 := by
  have := hg 0 { name := "Name", type := 9, offset := 0, embedded := false, tag := "", pkgPath := "", byteOffset := 0 } rfl;rw [c9] at this;exact this
 have a1 : DataW.trod enc Tryz.prog w base sp held n 9 [v1] = some y1 := by
  have := hg 1 { name := "Kind", type := 9, offset := 1, embedded := false, tag := "", pkgPath := "", byteOffset := 16 } rfl;rw [c9] at this;exact this
 have a2 : DataW.trod enc Tryz.prog w base sp held n 3 [v2] = some y2 := by
  have := hg 2 { name := "ID", type := 3, offset := 2, embedded := false, tag := "", pkgPath := "", byteOffset := 32 } rfl;rw [c3] at this;exact this
 have a3 : DataW.trod enc Tryz.prog w base sp held n 61 [v3, v4, v5, v6, v7] = some y3 := by
  have := hg 3 { name := "Attrs", type := 61, offset := 3, embedded := false, tag := "", pkgPath := "", byteOffset := 40 } rfl;rw [c61] at this;exact this
 obtain ⟨k0, e0, rfl, _⟩ := DataW.trod_string u9 a0;obtain ⟨k1, e1, rfl, _⟩ := DataW.trod_string u9 a1;obtain ⟨k2, e2, rfl, hw2⟩ := DataW.trod_int u3 a2;obtain ⟨v, q5, q6⟩ := val_of m n _ y3 (by omega) a3;simp only [List.cons.injEq, and_true] at e0 e1 e2;subst e0 e1 e2;refine ⟨⟨k0, k1, k2, v⟩, ⟨_, _, _, _, _, rfl, q5, in64_of hw2⟩, ?_⟩;have hsz : k0.data.toList.length = k0.size := rfl;have hsz1 : k1.data.toList.length = k1.size := rfl;simp only [S.bulkH, List.map_cons, List.map_nil, uptoBulk, uptoBulkAll, hsz, hsz1];omega
theorem intent_of {m k : Nat} {c : List Value} {y : DataW H × List MemPlace} (hm : k <= 2 * m) (hl : c.length = 10) (h : DataW.trod enc Tryz.prog w base sp held k 66 c = some y) :
  ∃ b : It, S.IB m w b c /\ S.bulkI m b + 1 <= uptoBulk y.1 := by
 obtain ⟨ys, n, rfl, rfl, _, hy, hg⟩ := DataW.trod_struct u66 h;have hy2 : ys.length = 3 := hy;obtain ⟨v0, v1, v2, v3, v4, v5, v6, v7, v8, v9, rfl⟩ := list10 c hl;obtain ⟨y0, y1, y2, rfl⟩ := list3 ys hy2;have a0 : DataW.trod enc Tryz.prog w base sp held n 3 [v0] = some y0 := by
  have := hg 0 { name := "Op", type := 3, offset := 0, embedded := false, tag := "", pkgPath := "", byteOffset := 0 } rfl;rw [c3] at this;exact this
 have a1 : DataW.trod enc Tryz.prog w base sp held n 63 [v1, v2, v3, v4, v5, v6, v7, v8] = some y1 := by
  have := hg 1 { name := "Held", type := 63, offset := 1, embedded := false, tag := "", pkgPath := "", byteOffset := 8 } rfl;rw [c63] at this;exact this
 have a2 : DataW.trod enc Tryz.prog w base sp held n 9 [v9] = some y2 := by
  have := hg 2 { name := "Token", type := 9, offset := 9, embedded := false, tag := "", pkgPath := "", byteOffset := 128 } rfl;rw [c9] at this;exact this
 obtain ⟨k0, e0, rfl, hw0⟩ := DataW.trod_int u3 a0;obtain ⟨b, ⟨b0, b1, b2, b3, b4, e1, hb, hid⟩, hbb⟩ := held_of (m := m) (by omega) rfl a1;obtain ⟨k2, e2, rfl, _⟩ := DataW.trod_string u9 a2;simp only [List.cons.injEq, and_true] at e0 e1 e2;obtain ⟨rfl, rfl, rfl, rfl, rfl, rfl, rfl, rfl⟩ := e1;subst e0 e2;refine ⟨⟨k0, b, k2⟩, ⟨_, _, _, _, _, rfl, hb, hid, in64_of hw0⟩, ?_⟩;have hsz : k2.data.toList.length = k2.size := rfl;simp only [S.bulkI, List.map_cons, List.map_nil, uptoBulk, uptoBulkAll, hsz];omega
theorem state_of {m k : Nat} {c : List Value} {y : DataW H × List MemPlace} (hm : k <= 2 * m) (hl : c.length = 4) (h : DataW.trod enc Tryz.prog w base sp held k 26 c = some y) :
  ∃ b : St, S.Mem m w b c /\ S.bulk m b + 1 <= uptoBulk y.1 := by
 obtain ⟨ys, n, rfl, rfl, _, hy, hg⟩ := DataW.trod_struct u26 h;have hy2 : ys.length = 4 := hy;obtain ⟨v0, v1, v2, v3, rfl⟩ := list4 c hl;obtain ⟨y0, y1, y2, y3, rfl⟩ := list4 ys hy2;have a0 : DataW.trod enc Tryz.prog w base sp held n 3 [v0] = some y0 := by
  have := hg 0 { name := "Serial", type := 3, offset := 0, embedded := false, tag := "", pkgPath := "", byteOffset := 0 } rfl;rw [c3] at this;exact this
 have a1 : DataW.trod enc Tryz.prog w base sp held n 22 [v1] = some y1 := by
  have := hg 1 { name := "Held", type := 22, offset := 1, embedded := false, tag := "", pkgPath := "", byteOffset := 8 } rfl;rw [c22] at this;exact this
 have a2 : DataW.trod enc Tryz.prog w base sp held n 23 [v2] = some y2 := by
  have := hg 2 { name := "Intents", type := 23, offset := 2, embedded := false, tag := "", pkgPath := "", byteOffset := 32 } rfl;rw [c23] at this;exact this
 have a3 : DataW.trod enc Tryz.prog w base sp held n 24 [v3] = some y3 := by
  have := hg 3 { name := "Outs", type := 24, offset := 3, embedded := false, tag := "", pkgPath := "", byteOffset := 56 } rfl;rw [c24] at this;exact this
 obtain ⟨k0, e0, rfl, hw0⟩ := DataW.trod_int u3 a0;obtain ⟨hv, e1, lh, hh1, hhb⟩ := rows_of 8 u22 c63 (by omega) (S.bulkH m) (fun l i c => ∃ x, l[i]? = some x /\ S.HB m w x c) (S.HB m w) (fun l i c y h1 h2 => ⟨y, h1, h2⟩) (fun k c y hk hcl hy => held_of (by omega) hcl hy) a1;obtain ⟨iv, e2, li, hi1, hib⟩ := rows_of 10 u23 c66 (by omega) (S.bulkI m) (fun l i c => ∃ x, l[i]? = some x /\ S.IB m w x c) (S.IB m w) (fun l i c y h1 h2 => ⟨y, h1, h2⟩) (fun k c y hk hcl hy => intent_of (by omega) hcl hy) a2;obtain ⟨ov, e3, lo, ho1, hob⟩ := rows_of 6 u24 c68 (by omega) (fun x : ByteArray × Val => x.1.size + V.bulk m x.2) (fun l i c => ∃ y c', l[i]? = some y /\ c = .string y.1 :: c' /\ V.Mem m w y.2 c') (fun y c => ∃ c', c = .string y.1 :: c' /\ V.Mem m w y.2 c') (fun l i c y h1 ⟨c', h2, h3⟩ => ⟨y, c', h1, h2, h3⟩) (fun k c y hk hcl hy => field_of hcl (fun n cs x hn hx => val_of m n cs x (by omega) hx) hy) a3;simp only [List.cons.injEq, and_true] at e0 e1 e2 e3;subst e0 e1 e2 e3;refine ⟨⟨k0, lh, li, lo⟩, ⟨_, _, _, rfl, hh1, hi1, ho1, in64_of hw0⟩, ?_⟩;have eo : (lo.map (S.bulkO m)).sum = (lo.map (fun x : ByteArray × Val => x.1.size + V.bulk m x.2)).sum + lo.length := by
  clear ho1 hob;induction lo with
  | nil => rfl
  | cons a l ih =>
   simp only [List.map_cons, List.sum_cons, List.length_cons, S.bulkO] at ih ⊢;omega
 simp only [S.bulk, eo, List.map_cons, List.map_nil, uptoBulk, uptoBulkAll] at hhb hib hob ⊢;omega
end
end Rd
end Go.Proofs.YtcekcfjabhlheaaGreatDoor.Vx
namespace Go.Proofs.YtcekcfjabhlheaaGreatDoor
open Go.ChangeShapes Go.WideShapes Go.ChangeAt Go.WideMaps Go.WideElems Go.RowKit
namespace Vx
theorem g10 : Tryz.prog.globalNamed "internal/strconv.uint64pow10" = some 1 := by kernel_rfl
theorem t10 : (Tryz.prog.globals[1]?).map (·.type) = some 156 := by kernel_rfl
theorem u156 : Tryz.prog.underlying 156 = some (.array 20 86) := by kernel_rfl
theorem u86 : Tryz.prog.underlying 86 = some (.int .u64) := by kernel_rfl
theorem c86 : Tryz.prog.cellsOf 86 = 1 := by kernel_rfl
theorem c156 : Tryz.prog.cellsOf 156 = 20 := by kernel_rfl
theorem tab_data : (Rows.laid_internal_strconv_uint64pow10 : DataW Unit) = Lib.tabData .u64 Lib.pow10Tab := by rfl
theorem tab_of_laid {W : World} (h : laidMetH Tryz.prog Rows.stateSaysUptoRow.laid W) : Lib.TabIs Tryz.prog W "internal/strconv.uint64pow10" .u64 Lib.pow10Tab := by
 have h1 : laidMet Tryz.prog [("math/bits.deBruijn32tab", Rows.laid_math_bits_deBruijn32tab), ("math/bits.deBruijn64tab", Rows.laid_math_bits_deBruijn64tab), ("internal/strconv.uint64pow10", Rows.laid_internal_strconv_uint64pow10), ("unicode/utf8.acceptRanges", Rows.laid_unicode_utf8_acceptRanges), ("strconv.ErrRange", Rows.laid_strconv_ErrRange), ("strconv.ErrSyntax", Rows.laid_strconv_ErrSyntax), ("unicode/utf8.first", Rows.laid_unicode_utf8_first)] W := h;obtain ⟨g, t, cs, fuel, p, hg, ht, hv, hd⟩ := Lib.laidMet.reads h1 (.tail _ (.tail _ (.head _)));obtain rfl := Option.some.inj (g10.symm.trans hg);obtain rfl := Option.some.inj (t10.symm.trans ht);unfold Lib.TabIs;rw [tab_data] at hd;rw [hv, <- Lib.cells_of_tab u156 u86 c86 c156 hd]
theorem trodAll_kept {H : Type} {enc : TypeId × Value -> H} {w w' : World} {base : Nat} {sp : Nat -> Bool} {held : Bool} (hb : Below w.heap.size w w') : ∀ {ts : List TypeId} {vs : List Value} {ds : List (DataW H)} {ps : List MemPlace},
  DataW.TrodAll enc Tryz.prog w base sp held ts vs ds ps -> DataW.TrodAll enc Tryz.prog w' base sp held ts vs ds ps
 | [], [], [], _, h => h
 | _ :: _, _ :: _, _ :: _, _, ⟨p, q, ⟨n, hn⟩, h2, h3⟩ => ⟨p, q, ⟨n, DataW.trod_carry n _ _ _ hn (fun x hx => hb.same (DataW.trod_lt n _ _ _ hn x hx))⟩, trodAll_kept hb h2, h3⟩
theorem ownK : ownKnob Tryz.prog.godebug = none := by kernel_rfl
theorem kids : Kids Tryz.prog (· < Tryz.prog.types.size) := kids_rows (by kernel_rfl) (by kernel_rfl)
theorem full : ∀ t e, t < Tryz.prog.types.size -> Tryz.prog.underlying t = some (.slice e) -> 0 < Tryz.prog.cellsOf e := slices_full_of Tryz.prog (by kernel_rfl)
theorem laid_met (os : Os) (args : Array Value) : laidMetH Tryz.prog Rows.stateSaysUptoRow.laid ((World.laidAll Tryz.prog os Rows.stateSaysUptoRow.laid).forCall (fun _ _ => 0) ⟨#[], args, []⟩).memory := by
 rw [MakeChecks.laidMetH_plain _ _ _ (by kernel_rfl)];exact laidMet_laidAll _ (by kernel_rfl) (by kernel_rfl)
end Vx
end Go.Proofs.YtcekcfjabhlheaaGreatDoor
