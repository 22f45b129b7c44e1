/- check.find, check.twice, check.nameTwice: names. -/
import Derived.Test.YtienhelohfhhfaaXE
namespace Go.Proofs.Ytienhelohfhhfaa.Vx
open Go.RowKit
namespace X
/-- A row of stacks. -/
def Stks (m : Nat) (w : World) (v : Value) (l : List Sk) : Prop := V.Row w v l.length 4 (fun i c => ∃ x, l[i]? = some x ∧ SMem m w x c)
theorem Stks.kept {m : Nat} {w w' : World} {v : Value} {l : List Sk} (h : Stks m w v l) (hb : Below w.heap.size w w') : Stks m w' v l :=
  V.Row.kept h hb (fun _ _ ⟨x, hx, hm⟩ => ⟨x, hx, hm.kept hb⟩)
theorem elemS {m : Nat} {w : World} {v : Value} {l : List Sk} (h : Stks m w v l) (i : Nat) (hi : i < l.length) :
    ∃ b off cap x ai ci ar cr ao co, v = .slice (some ⟨b, off, none⟩) l.length cap ∧ l[i]? = some x ∧ Vals m w (.slice ai x.ins.length ci) x.ins ∧ Ress m w (.slice ar x.res.length cr) x.res ∧ Named m w (.slice ao x.outs.length co) x.outs ∧
      w.cell? ⟨b, off + i * 4, none⟩ = some (.string x.name) ∧ w.cell? ⟨b, off + i * 4 + 1, none⟩ = some (.slice ai x.ins.length ci) ∧ w.cell? ⟨b, off + i * 4 + 2, none⟩ = some (.slice ar x.res.length cr) ∧ w.cell? ⟨b, off + i * 4 + 3, none⟩ = some (.slice ao x.outs.length co) := by
  obtain ⟨ao, cap, rfl, h | ⟨b, off, rfl, h⟩⟩ := h
  · omega
  · obtain ⟨cs, h1, h2, x, hx, iv, rv, ov, rfl, hI, hR, hO⟩ := h i hi
    obtain ⟨ai, ci, rfl⟩ := V.Row.shape hI
    obtain ⟨ar, cr, rfl⟩ := V.Row.shape hR
    obtain ⟨ao2, co, rfl⟩ := V.Row.shape hO
    exact ⟨b, off, cap, x, ai, ci, ar, cr, ao2, co, rfl, hx, hI, hR, hO, h2 0 (by omega), h2 1 (by omega), h2 2 (by omega), h2 3 (by omega)⟩
/-- Where a name stands first. -/
def pos (ns : List ByteArray) (s : ByteArray) : Option Nat := ns.findIdx? (fun x => x.toList == s.toList)
/-- .. as a number; -1: nowhere. -/
def posI (ns : List ByteArray) (s : ByteArray) : Int := match pos ns s with | some k => k | none => -1
theorem pos_at : ∀ {ns : List ByteArray} {s : ByteArray} {k : Nat} {x : ByteArray}, (∀ j y, j < k → ns[j]? = some y → (y.toList == s.toList) = false) → ns[k]? = some x → (x.toList == s.toList) = true → pos ns s = some k := by
  intro ns
  induction ns with
  | nil => intro s k x _ hx; simp at hx
  | cons a t ih =>
    intro s k x h hx he
    unfold pos
    cases k with
    | zero => cases hx; rw [List.findIdx?_cons, he]; rfl
    | succ k =>
      have h0 := h 0 a (by omega) rfl
      rw [List.findIdx?_cons, h0]
      have := ih (k := k) (fun j y hj hy => h (j + 1) y (by omega) (by simpa using hy)) (by simpa using hx) he
      unfold pos at this
      rw [this]; rfl
theorem pos_none {ns : List ByteArray} {s : ByteArray} (h : ∀ (j : Nat) y, ns[j]? = some y → (y.toList == s.toList) = false) : pos ns s = none := by
  unfold pos
  rw [List.findIdx?_eq_none_iff]
  intro x hx
  obtain ⟨j, hj, e⟩ := List.getElem_of_mem hx
  exact h j x (by rw [List.getElem?_eq_getElem hj, e])
theorem posI_at {ns : List ByteArray} {s : ByteArray} {k : Nat} {x : ByteArray} (h : ∀ j y, j < k → ns[j]? = some y → (y.toList == s.toList) = false) (hx : ns[k]? = some x) (he : (x.toList == s.toList) = true) : posI ns s = k := by
  unfold posI; rw [pos_at h hx he]
theorem posI_none {ns : List ByteArray} {s : ByteArray} (h : ∀ (j : Nat) y, ns[j]? = some y → (y.toList == s.toList) = false) : posI ns s = -1 := by
  unfold posI; rw [pos_none h]
/-- Has one of these names stood ahead? -/
def twice (ns : List ByteArray) : Bool := (List.range ns.length).any (fun i => decide (posI ns (ns.getD i ⟨#[]⟩) < i))
theorem twice_true {ns : List ByteArray} {i : Nat} {x : ByteArray} (hx : ns[i]? = some x) (h : posI ns x < i) : twice ns = true := by
  unfold twice
  rw [List.any_eq_true]
  refine ⟨i, List.mem_range.2 (List.getElem?_eq_some_iff.1 hx).1, ?_⟩
  rw [List.getD_eq_getElem?_getD, hx]
  exact decide_eq_true h
theorem twice_false {ns : List ByteArray} (h : ∀ (i : Nat) x, ns[i]? = some x → ¬ posI ns x < i) : twice ns = false := by
  unfold twice
  rw [List.any_eq_false]
  intro i hi
  rw [List.mem_range] at hi
  rw [List.getD_eq_getElem?_getD, List.getElem?_eq_getElem hi]
  simpa using h i _ (List.getElem?_eq_getElem hi)
end X
set_option maxRecDepth 100000 in
theorem nameI_any (w : World) (x : ByteArray × Val) (al af : Option Addr) (cl cf : Nat) :
    Calls Try.prog 59 #[.agg #[.string x.1, .int .i64 x.2.kind, .int .i64 x.2.n, .string x.2.s, .slice al x.2.l.length cl, .slice af x.2.f.length cf]] w fun o w' => o = .returned (.string x.1) ∧ Below w.heap.size w w' := by
  go_enter Try.func59, Try.ntmps59
  go_wp2_with fail
  go_ret
  exact ⟨rfl, (Below.refl _ _).alloc (Nat.le_refl _) _⟩
set_option maxRecDepth 100000 in
set_option maxHeartbeats 1600000 in
theorem findI_any (m : Nat) (w : World) (v : Value) (l : List (ByteArray × Val)) (h : X.Vals m w v l) (s : ByteArray) (hl : l.length ≤ 2000000) :
    Calls Try.prog 86 #[v, .func (.func 59) #[] #[], .string s] w fun o w' => o = .returned (.int .i64 (X.posI (l.map (·.1)) s)) ∧ Below w.heap.size w w' := by
  obtain ⟨ah, ch, rfl⟩ := V.Row.shape h
  have H := hide h
  clear h
  go_enter Try.func86, Try.ntmps86
  go_wp2_with fail
  go_loopw [10, 7] (fun vi _ wr => ∃ k : Nat, k ≤ l.length ∧ vi = .int .i64 k ∧ (∀ j y, j < k → (l.map (·.1))[j]? = some y → (y.toList == s.toList) = false) ∧ Below w.heap.size w wr) (fun vi _ _ => l.length - (intOf vi).toNat)
  case atStart => exact ⟨0, Nat.zero_le _, rfl, fun j y hj => absurd hj (by omega), Below.refl _ _⟩
  case round =>
    obtain ⟨k, hk, rfl, hok, hB⟩ := hrel
    have HOK := hide hok
    have HB := hide hB
    clear hok
    by_cases hlt : k < l.length
    · obtain ⟨b, off, cap, x, al, cl, af, cf, e1, hx, hm, y0, y1, y2, y3, y4, y5⟩ := X.elemI (H.out.kept hB) k hlt
      simp only [Value.slice.injEq] at e1
      obtain ⟨rfl, _, rfl⟩ := e1
      have hxm : (l.map (·.1))[k]? = some x.1 := X.map_get hx
      have HX := hide hxm
      clear hx hm hB hxm
      have HNM := hide (nameI_any wr x al af cl cf)
      cases hq : (x.1.toList == s.toList)
      · have HQ := hide hq
        go_wp2_with (go_at_call 59; refine HNM.out.mono ?_; rintro o w2 ⟨rfl, hb2⟩)
        go_roundw
        case rel =>
          refine ⟨k + 1, by omega, by go_num, fun j y hj hy => ?_, HB.out.trans (hb2.mono HB.out.size)⟩
          by_cases e : j = k
          · subst e; rw [HX.out] at hy; cases hy; exact HQ.out
          · exact HOK.out j y (by omega) hy
        case measure => simp [intOf]; omega
      · have E := hide (X.posI_at HOK.out HX.out hq)
        go_wp2_with (go_at_call 59; refine HNM.out.mono ?_; rintro o w2 ⟨rfl, hb2⟩)
        go_ret
        exact ⟨ret_int E.out.symm, HB.out.trans (hb2.mono HB.out.size)⟩
    · have E := hide (X.posI_none (ns := l.map (·.1)) (s := s) (fun j y hy => HOK.out j y (by have := V.lt_of_get hy; simp at this; omega) hy))
      clear hB
      go_wp2_with fail
      go_ret
      exact ⟨ret_int E.out.symm, HB.out⟩
set_option maxRecDepth 100000 in
set_option maxHeartbeats 1600000 in
theorem twiceI_any (m : Nat) (w : World) (v : Value) (l : List (ByteArray × Val)) (h : X.Vals m w v l) (hl : l.length ≤ 2000000) :
    Calls Try.prog 58 #[v, .func (.func 59) #[] #[]] w fun o w' => o = .returned (.bool (X.twice (l.map (·.1)))) ∧ Below w.heap.size w w' := by
  obtain ⟨ah, ch, rfl⟩ := V.Row.shape h
  have H := hide h
  clear h
  go_enter Try.func58, Try.ntmps58
  go_wp2_with fail
  go_loopw [8, 5] (fun vi _ wr => ∃ k : Nat, k ≤ l.length ∧ vi = .int .i64 k ∧ (∀ j y, j < k → (l.map (·.1))[j]? = some y → ¬ X.posI (l.map (·.1)) y < j) ∧ Below w.heap.size w wr) (fun vi _ _ => l.length - (intOf vi).toNat)
  case atStart => exact ⟨0, Nat.zero_le _, rfl, fun j y hj => absurd hj (by omega), Below.refl _ _⟩
  case round =>
    obtain ⟨k, hk, rfl, hok, hB⟩ := hrel
    have HOK := hide hok
    have HB := hide hB
    clear hok
    by_cases hlt : k < l.length
    · obtain ⟨b, off, cap, x, al, cl, af, cf, e1, hx, hm, y0, y1, y2, y3, y4, y5⟩ := X.elemI (H.out.kept hB) k hlt
      simp only [Value.slice.injEq] at e1
      obtain ⟨rfl, _, rfl⟩ := e1
      have hxm : (l.map (·.1))[k]? = some x.1 := X.map_get hx
      have HX := hide hxm
      clear hx hm hB hxm
      have HNM := hide (nameI_any wr x al af cl cf)
      have HFI := hide (fun w2 (hb2 : Below wr.heap.size wr w2) => findI_any m w2 _ l (H.out.kept (HB.out.trans (hb2.mono HB.out.size))) x.1 hl)
      generalize hp : X.posI (l.map (·.1)) x.1 = p at *
      have HP := hide hp
      clear hp
      by_cases hlp : p < k
      · have E := hide (X.twice_true HX.out (by rw [HP.out]; exact hlp))
        go_wp2_with (first | (go_at_call 59; refine HNM.out.mono ?_; rintro o w2 ⟨rfl, hb2⟩) | (go_at_call 86; refine (HFI.out _ hb2).mono ?_; rintro o w3 ⟨rfl, hb3⟩))
        go_ret
        exact ⟨ret_bool E.out.symm, HB.out.trans ((hb2.trans (hb3.mono hb2.size)).mono HB.out.size)⟩
      · go_wp2_with (first | (go_at_call 59; refine HNM.out.mono ?_; rintro o w2 ⟨rfl, hb2⟩) | (go_at_call 86; refine (HFI.out _ hb2).mono ?_; rintro o w3 ⟨rfl, hb3⟩))
        go_roundw
        case rel =>
          refine ⟨k + 1, by omega, by go_num, fun j y hj hy => ?_, HB.out.trans ((hb2.trans (hb3.mono hb2.size)).mono HB.out.size)⟩
          by_cases e : j = k
          · subst e; rw [HX.out] at hy; cases hy; rw [HP.out]; omega
          · have := HOK.out j y (by omega) hy; omega
        case measure => simp [intOf]; omega
    · have E := hide (X.twice_false (ns := l.map (·.1)) (fun j y hy => by have h9 := HOK.out j y (by have := V.lt_of_get hy; simp at this; omega) hy; omega))
      clear hB
      go_wp2_with fail
      go_ret
      exact ⟨ret_bool E.out.symm, HB.out⟩
set_option maxRecDepth 100000 in
theorem nameR_any (w : World) (x : Rs) (ap : Option Addr) (cp : Nat) :
    Calls Try.prog 61 #[.agg #[.string x.kind, .string x.name, .slice ap x.parts.length cp]] w fun o w' => o = .returned (.string x.name) ∧ Below w.heap.size w w' := by
  go_enter Try.func61, Try.ntmps61
  go_wp2_with fail
  go_ret
  exact ⟨rfl, (Below.refl _ _).alloc (Nat.le_refl _) _⟩
set_option maxRecDepth 100000 in
set_option maxHeartbeats 1600000 in
theorem findR_any (m : Nat) (w : World) (v : Value) (l : List Rs) (h : X.Ress m w v l) (s : ByteArray) (hl : l.length ≤ 2000000) :
    Calls Try.prog 87 #[v, .func (.func 61) #[] #[], .string s] w fun o w' => o = .returned (.int .i64 (X.posI (l.map (·.name)) s)) ∧ Below w.heap.size w w' := by
  obtain ⟨ah, ch, rfl⟩ := V.Row.shape h
  have H := hide h
  clear h
  go_enter Try.func87, Try.ntmps87
  go_wp2_with fail
  go_loopw [10, 7] (fun vi _ wr => ∃ k : Nat, k ≤ l.length ∧ vi = .int .i64 k ∧ (∀ j y, j < k → (l.map (·.name))[j]? = some y → (y.toList == s.toList) = false) ∧ Below w.heap.size w wr) (fun vi _ _ => l.length - (intOf vi).toNat)
  case atStart => exact ⟨0, Nat.zero_le _, rfl, fun j y hj => absurd hj (by omega), Below.refl _ _⟩
  case round =>
    obtain ⟨k, hk, rfl, hok, hB⟩ := hrel
    have HOK := hide hok
    have HB := hide hB
    clear hok
    by_cases hlt : k < l.length
    · obtain ⟨b, off, cap, x, ap, cp, e1, hx, hm, y0, y1, y2⟩ := X.elemR (H.out.kept hB) k hlt
      simp only [Value.slice.injEq] at e1
      obtain ⟨rfl, _, rfl⟩ := e1
      have hxm : (l.map (·.name))[k]? = some x.name := X.map_get hx
      have HX := hide hxm
      clear hx hm hB hxm
      have HNM := hide (nameR_any wr x ap cp)
      cases hq : (x.name.toList == s.toList)
      · have HQ := hide hq
        go_wp2_with (go_at_call 61; refine HNM.out.mono ?_; rintro o w2 ⟨rfl, hb2⟩)
        go_roundw
        case rel =>
          refine ⟨k + 1, by omega, by go_num, fun j y hj hy => ?_, HB.out.trans (hb2.mono HB.out.size)⟩
          by_cases e : j = k
          · subst e; rw [HX.out] at hy; cases hy; exact HQ.out
          · exact HOK.out j y (by omega) hy
        case measure => simp [intOf]; omega
      · have E := hide (X.posI_at HOK.out HX.out hq)
        go_wp2_with (go_at_call 61; refine HNM.out.mono ?_; rintro o w2 ⟨rfl, hb2⟩)
        go_ret
        exact ⟨ret_int E.out.symm, HB.out.trans (hb2.mono HB.out.size)⟩
    · have E := hide (X.posI_none (ns := l.map (·.name)) (s := s) (fun j y hy => HOK.out j y (by have := V.lt_of_get hy; simp at this; omega) hy))
      clear hB
      go_wp2_with fail
      go_ret
      exact ⟨ret_int E.out.symm, HB.out⟩
set_option maxRecDepth 100000 in
set_option maxHeartbeats 1600000 in
theorem twiceR_any (m : Nat) (w : World) (v : Value) (l : List Rs) (h : X.Ress m w v l) (hl : l.length ≤ 2000000) :
    Calls Try.prog 60 #[v, .func (.func 61) #[] #[]] w fun o w' => o = .returned (.bool (X.twice (l.map (·.name)))) ∧ Below w.heap.size w w' := by
  obtain ⟨ah, ch, rfl⟩ := V.Row.shape h
  have H := hide h
  clear h
  go_enter Try.func60, Try.ntmps60
  go_wp2_with fail
  go_loopw [8, 5] (fun vi _ wr => ∃ k : Nat, k ≤ l.length ∧ vi = .int .i64 k ∧ (∀ j y, j < k → (l.map (·.name))[j]? = some y → ¬ X.posI (l.map (·.name)) y < j) ∧ Below w.heap.size w wr) (fun vi _ _ => l.length - (intOf vi).toNat)
  case atStart => exact ⟨0, Nat.zero_le _, rfl, fun j y hj => absurd hj (by omega), Below.refl _ _⟩
  case round =>
    obtain ⟨k, hk, rfl, hok, hB⟩ := hrel
    have HOK := hide hok
    have HB := hide hB
    clear hok
    by_cases hlt : k < l.length
    · obtain ⟨b, off, cap, x, ap, cp, e1, hx, hm, y0, y1, y2⟩ := X.elemR (H.out.kept hB) k hlt
      simp only [Value.slice.injEq] at e1
      obtain ⟨rfl, _, rfl⟩ := e1
      have hxm : (l.map (·.name))[k]? = some x.name := X.map_get hx
      have HX := hide hxm
      clear hx hm hB hxm
      have HNM := hide (nameR_any wr x ap cp)
      have HFI := hide (fun w2 (hb2 : Below wr.heap.size wr w2) => findR_any m w2 _ l (H.out.kept (HB.out.trans (hb2.mono HB.out.size))) x.name hl)
      generalize hp : X.posI (l.map (·.name)) x.name = p at *
      have HP := hide hp
      clear hp
      by_cases hlp : p < k
      · have E := hide (X.twice_true HX.out (by rw [HP.out]; exact hlp))
        go_wp2_with (first | (go_at_call 61; refine HNM.out.mono ?_; rintro o w2 ⟨rfl, hb2⟩) | (go_at_call 87; refine (HFI.out _ hb2).mono ?_; rintro o w3 ⟨rfl, hb3⟩))
        go_ret
        exact ⟨ret_bool E.out.symm, HB.out.trans ((hb2.trans (hb3.mono hb2.size)).mono HB.out.size)⟩
      · go_wp2_with (first | (go_at_call 61; refine HNM.out.mono ?_; rintro o w2 ⟨rfl, hb2⟩) | (go_at_call 87; refine (HFI.out _ hb2).mono ?_; rintro o w3 ⟨rfl, hb3⟩))
        go_roundw
        case rel =>
          refine ⟨k + 1, by omega, by go_num, fun j y hj hy => ?_, HB.out.trans ((hb2.trans (hb3.mono hb2.size)).mono HB.out.size)⟩
          by_cases e : j = k
          · subst e; rw [HX.out] at hy; cases hy; rw [HP.out]; omega
          · have := HOK.out j y (by omega) hy; omega
        case measure => simp [intOf]; omega
    · have E := hide (X.twice_false (ns := l.map (·.name)) (fun j y hy => by have h9 := HOK.out j y (by have := V.lt_of_get hy; simp at this; omega) hy; omega))
      clear hB
      go_wp2_with fail
      go_ret
      exact ⟨ret_bool E.out.symm, HB.out⟩
set_option maxRecDepth 100000 in
theorem nameO_any (w : World) (x : ByteArray × Ex) (al af aa an : Option Addr) (cl cf ca cn : Nat) :
    Calls Try.prog 63 #[.agg #[.string x.1, .int .i64 x.2.kind, .int .i64 x.2.v.kind, .int .i64 x.2.v.n, .string x.2.v.s, .slice al x.2.v.l.length cl, .slice af x.2.v.f.length cf, .string x.2.s, .string x.2.t, .slice aa x.2.a.length ca, .slice an x.2.n.length cn]] w fun o w' => o = .returned (.string x.1) ∧ Below w.heap.size w w' := by
  go_enter Try.func63, Try.ntmps63
  go_wp2_with fail
  go_ret
  exact ⟨rfl, (Below.refl _ _).alloc (Nat.le_refl _) _⟩
set_option maxRecDepth 100000 in
set_option maxHeartbeats 1600000 in
theorem findO_any (m : Nat) (w : World) (v : Value) (l : List (ByteArray × Ex)) (h : X.Named m w v l) (s : ByteArray) (hl : l.length ≤ 2000000) :
    Calls Try.prog 88 #[v, .func (.func 63) #[] #[], .string s] w fun o w' => o = .returned (.int .i64 (X.posI (l.map (·.1)) s)) ∧ Below w.heap.size w w' := by
  obtain ⟨ah, ch, rfl⟩ := V.Row.shape h
  have H := hide h
  clear h
  go_enter Try.func88, Try.ntmps88
  go_wp2_with fail
  go_loopw [10, 7] (fun vi _ wr => ∃ k : Nat, k ≤ l.length ∧ vi = .int .i64 k ∧ (∀ j y, j < k → (l.map (·.1))[j]? = some y → (y.toList == s.toList) = false) ∧ Below w.heap.size w wr) (fun vi _ _ => l.length - (intOf vi).toNat)
  case atStart => exact ⟨0, Nat.zero_le _, rfl, fun j y hj => absurd hj (by omega), Below.refl _ _⟩
  case round =>
    obtain ⟨k, hk, rfl, hok, hB⟩ := hrel
    have HOK := hide hok
    have HB := hide hB
    clear hok
    by_cases hlt : k < l.length
    · obtain ⟨b, off, cap, x, al, cl, af, cf, aa, ca, an, cn, e1, hx, hm, y0, y1, y2, y3, y4, y5, y6, y7, y8, y9, y10⟩ := X.elemE (H.out.kept hB) k hlt
      simp only [Value.slice.injEq] at e1
      obtain ⟨rfl, _, rfl⟩ := e1
      have hxm : (l.map (·.1))[k]? = some x.1 := X.map_get hx
      have HX := hide hxm
      clear hx hm hB hxm
      have HNM := hide (nameO_any wr x al af aa an cl cf ca cn)
      cases hq : (x.1.toList == s.toList)
      · have HQ := hide hq
        go_wp2_with (go_at_call 63; refine HNM.out.mono ?_; rintro o w2 ⟨rfl, hb2⟩)
        go_roundw
        case rel =>
          refine ⟨k + 1, by omega, by go_num, fun j y hj hy => ?_, HB.out.trans (hb2.mono HB.out.size)⟩
          by_cases e : j = k
          · subst e; rw [HX.out] at hy; cases hy; exact HQ.out
          · exact HOK.out j y (by omega) hy
        case measure => simp [intOf]; omega
      · have E := hide (X.posI_at HOK.out HX.out hq)
        go_wp2_with (go_at_call 63; refine HNM.out.mono ?_; rintro o w2 ⟨rfl, hb2⟩)
        go_ret
        exact ⟨ret_int E.out.symm, HB.out.trans (hb2.mono HB.out.size)⟩
    · have E := hide (X.posI_none (ns := l.map (·.1)) (s := s) (fun j y hy => HOK.out j y (by have := V.lt_of_get hy; simp at this; omega) hy))
      clear hB
      go_wp2_with fail
      go_ret
      exact ⟨ret_int E.out.symm, HB.out⟩
set_option maxRecDepth 100000 in
set_option maxHeartbeats 1600000 in
theorem twiceO_any (m : Nat) (w : World) (v : Value) (l : List (ByteArray × Ex)) (h : X.Named m w v l) (hl : l.length ≤ 2000000) :
    Calls Try.prog 62 #[v, .func (.func 63) #[] #[]] w fun o w' => o = .returned (.bool (X.twice (l.map (·.1)))) ∧ Below w.heap.size w w' := by
  obtain ⟨ah, ch, rfl⟩ := V.Row.shape h
  have H := hide h
  clear h
  go_enter Try.func62, Try.ntmps62
  go_wp2_with fail
  go_loopw [8, 5] (fun vi _ wr => ∃ k : Nat, k ≤ l.length ∧ vi = .int .i64 k ∧ (∀ j y, j < k → (l.map (·.1))[j]? = some y → ¬ X.posI (l.map (·.1)) y < j) ∧ Below w.heap.size w wr) (fun vi _ _ => l.length - (intOf vi).toNat)
  case atStart => exact ⟨0, Nat.zero_le _, rfl, fun j y hj => absurd hj (by omega), Below.refl _ _⟩
  case round =>
    obtain ⟨k, hk, rfl, hok, hB⟩ := hrel
    have HOK := hide hok
    have HB := hide hB
    clear hok
    by_cases hlt : k < l.length
    · obtain ⟨b, off, cap, x, al, cl, af, cf, aa, ca, an, cn, e1, hx, hm, y0, y1, y2, y3, y4, y5, y6, y7, y8, y9, y10⟩ := X.elemE (H.out.kept hB) k hlt
      simp only [Value.slice.injEq] at e1
      obtain ⟨rfl, _, rfl⟩ := e1
      have hxm : (l.map (·.1))[k]? = some x.1 := X.map_get hx
      have HX := hide hxm
      clear hx hm hB hxm
      have HNM := hide (nameO_any wr x al af aa an cl cf ca cn)
      have HFI := hide (fun w2 (hb2 : Below wr.heap.size wr w2) => findO_any m w2 _ l (H.out.kept (HB.out.trans (hb2.mono HB.out.size))) x.1 hl)
      generalize hp : X.posI (l.map (·.1)) x.1 = p at *
      have HP := hide hp
      clear hp
      by_cases hlp : p < k
      · have E := hide (X.twice_true HX.out (by rw [HP.out]; exact hlp))
        go_wp2_with (first | (go_at_call 63; refine HNM.out.mono ?_; rintro o w2 ⟨rfl, hb2⟩) | (go_at_call 88; refine (HFI.out _ hb2).mono ?_; rintro o w3 ⟨rfl, hb3⟩))
        go_ret
        exact ⟨ret_bool E.out.symm, HB.out.trans ((hb2.trans (hb3.mono hb2.size)).mono HB.out.size)⟩
      · go_wp2_with (first | (go_at_call 63; refine HNM.out.mono ?_; rintro o w2 ⟨rfl, hb2⟩) | (go_at_call 88; refine (HFI.out _ hb2).mono ?_; rintro o w3 ⟨rfl, hb3⟩))
        go_roundw
        case rel =>
          refine ⟨k + 1, by omega, by go_num, fun j y hj hy => ?_, HB.out.trans ((hb2.trans (hb3.mono hb2.size)).mono HB.out.size)⟩
          by_cases e : j = k
          · subst e; rw [HX.out] at hy; cases hy; rw [HP.out]; omega
          · have := HOK.out j y (by omega) hy; omega
        case measure => simp [intOf]; omega
    · have E := hide (X.twice_false (ns := l.map (·.1)) (fun j y hy => by have h9 := HOK.out j y (by have := V.lt_of_get hy; simp at this; omega) hy; omega))
      clear hB
      go_wp2_with fail
      go_ret
      exact ⟨ret_bool E.out.symm, HB.out⟩
set_option maxRecDepth 100000 in
theorem nameS_any (w : World) (x : Sk) (ai ar ao : Option Addr) (ci cr co : Nat) :
    Calls Try.prog 65 #[.agg #[.string x.name, .slice ai x.ins.length ci, .slice ar x.res.length cr, .slice ao x.outs.length co]] w fun o w' => o = .returned (.string x.name) ∧ Below w.heap.size w w' := by
  go_enter Try.func65, Try.ntmps65
  go_wp2_with fail
  go_ret
  exact ⟨rfl, (Below.refl _ _).alloc (Nat.le_refl _) _⟩
set_option maxRecDepth 100000 in
set_option maxHeartbeats 1600000 in
theorem findS_any (m : Nat) (w : World) (v : Value) (l : List Sk) (h : X.Stks m w v l) (s : ByteArray) (hl : l.length ≤ 2000000) :
    Calls Try.prog 89 #[v, .func (.func 65) #[] #[], .string s] w fun o w' => o = .returned (.int .i64 (X.posI (l.map (·.name)) s)) ∧ Below w.heap.size w w' := by
  obtain ⟨ah, ch, rfl⟩ := V.Row.shape h
  have H := hide h
  clear h
  go_enter Try.func89, Try.ntmps89
  go_wp2_with fail
  go_loopw [10, 7] (fun vi _ wr => ∃ k : Nat, k ≤ l.length ∧ vi = .int .i64 k ∧ (∀ j y, j < k → (l.map (·.name))[j]? = some y → (y.toList == s.toList) = false) ∧ Below w.heap.size w wr) (fun vi _ _ => l.length - (intOf vi).toNat)
  case atStart => exact ⟨0, Nat.zero_le _, rfl, fun j y hj => absurd hj (by omega), Below.refl _ _⟩
  case round =>
    obtain ⟨k, hk, rfl, hok, hB⟩ := hrel
    have HOK := hide hok
    have HB := hide hB
    clear hok
    by_cases hlt : k < l.length
    · obtain ⟨b, off, cap, x, ai, ci, ar, cr, ao, co, e1, hx, hm1, hm2, hm3, y0, y1, y2, y3⟩ := X.elemS (H.out.kept hB) k hlt
      simp only [Value.slice.injEq] at e1
      obtain ⟨rfl, _, rfl⟩ := e1
      have hxm : (l.map (·.name))[k]? = some x.name := X.map_get hx
      have HX := hide hxm
      clear hx hm1 hm2 hm3 hB hxm
      have HNM := hide (nameS_any wr x ai ar ao ci cr co)
      cases hq : (x.name.toList == s.toList)
      · have HQ := hide hq
        go_wp2_with (go_at_call 65; refine HNM.out.mono ?_; rintro o w2 ⟨rfl, hb2⟩)
        go_roundw
        case rel =>
          refine ⟨k + 1, by omega, by go_num, fun j y hj hy => ?_, HB.out.trans (hb2.mono HB.out.size)⟩
          by_cases e : j = k
          · subst e; rw [HX.out] at hy; cases hy; exact HQ.out
          · exact HOK.out j y (by omega) hy
        case measure => simp [intOf]; omega
      · have E := hide (X.posI_at HOK.out HX.out hq)
        go_wp2_with (go_at_call 65; refine HNM.out.mono ?_; rintro o w2 ⟨rfl, hb2⟩)
        go_ret
        exact ⟨ret_int E.out.symm, HB.out.trans (hb2.mono HB.out.size)⟩
    · have E := hide (X.posI_none (ns := l.map (·.name)) (s := s) (fun j y hy => HOK.out j y (by have := V.lt_of_get hy; simp at this; omega) hy))
      clear hB
      go_wp2_with fail
      go_ret
      exact ⟨ret_int E.out.symm, HB.out⟩
set_option maxRecDepth 100000 in
set_option maxHeartbeats 1600000 in
theorem twiceS_any (m : Nat) (w : World) (v : Value) (l : List Sk) (h : X.Stks m w v l) (hl : l.length ≤ 2000000) :
    Calls Try.prog 64 #[v, .func (.func 65) #[] #[]] w fun o w' => o = .returned (.bool (X.twice (l.map (·.name)))) ∧ Below w.heap.size w w' := by
  obtain ⟨ah, ch, rfl⟩ := V.Row.shape h
  have H := hide h
  clear h
  go_enter Try.func64, Try.ntmps64
  go_wp2_with fail
  go_loopw [8, 5] (fun vi _ wr => ∃ k : Nat, k ≤ l.length ∧ vi = .int .i64 k ∧ (∀ j y, j < k → (l.map (·.name))[j]? = some y → ¬ X.posI (l.map (·.name)) y < j) ∧ Below w.heap.size w wr) (fun vi _ _ => l.length - (intOf vi).toNat)
  case atStart => exact ⟨0, Nat.zero_le _, rfl, fun j y hj => absurd hj (by omega), Below.refl _ _⟩
  case round =>
    obtain ⟨k, hk, rfl, hok, hB⟩ := hrel
    have HOK := hide hok
    have HB := hide hB
    clear hok
    by_cases hlt : k < l.length
    · obtain ⟨b, off, cap, x, ai, ci, ar, cr, ao, co, e1, hx, hm1, hm2, hm3, y0, y1, y2, y3⟩ := X.elemS (H.out.kept hB) k hlt
      simp only [Value.slice.injEq] at e1
      obtain ⟨rfl, _, rfl⟩ := e1
      have hxm : (l.map (·.name))[k]? = some x.name := X.map_get hx
      have HX := hide hxm
      clear hx hm1 hm2 hm3 hB hxm
      have HNM := hide (nameS_any wr x ai ar ao ci cr co)
      have HFI := hide (fun w2 (hb2 : Below wr.heap.size wr w2) => findS_any m w2 _ l (H.out.kept (HB.out.trans (hb2.mono HB.out.size))) x.name hl)
      generalize hp : X.posI (l.map (·.name)) x.name = p at *
      have HP := hide hp
      clear hp
      by_cases hlp : p < k
      · have E := hide (X.twice_true HX.out (by rw [HP.out]; exact hlp))
        go_wp2_with (first | (go_at_call 65; refine HNM.out.mono ?_; rintro o w2 ⟨rfl, hb2⟩) | (go_at_call 89; refine (HFI.out _ hb2).mono ?_; rintro o w3 ⟨rfl, hb3⟩))
        go_ret
        exact ⟨ret_bool E.out.symm, HB.out.trans ((hb2.trans (hb3.mono hb2.size)).mono HB.out.size)⟩
      · go_wp2_with (first | (go_at_call 65; refine HNM.out.mono ?_; rintro o w2 ⟨rfl, hb2⟩) | (go_at_call 89; refine (HFI.out _ hb2).mono ?_; rintro o w3 ⟨rfl, hb3⟩))
        go_roundw
        case rel =>
          refine ⟨k + 1, by omega, by go_num, fun j y hj hy => ?_, HB.out.trans ((hb2.trans (hb3.mono hb2.size)).mono HB.out.size)⟩
          by_cases e : j = k
          · subst e; rw [HX.out] at hy; cases hy; rw [HP.out]; omega
          · have := HOK.out j y (by omega) hy; omega
        case measure => simp [intOf]; omega
    · have E := hide (X.twice_false (ns := l.map (·.name)) (fun j y hy => by have h9 := HOK.out j y (by have := V.lt_of_get hy; simp at this; omega) hy; omega))
      clear hB
      go_wp2_with fail
      go_ret
      exact ⟨ret_bool E.out.symm, HB.out⟩
end Go.Proofs.Ytienhelohfhhfaa.Vx
