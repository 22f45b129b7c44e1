/- TopCheck holds where what is read is of the bulk that the second form names: for all stacks, those that fit together fit turned round, too, and each needs the same ones, in the same order of its resources. No condition of our own. -/
import Derived.Test.YtienhelohfhhfaaYA
import Derived.Test.YtienhelohfhhfaaGP
import Derived.JoinedCond
import Derived.Test.YtienhelohfhhfaaXYc
import Derived.Test.YtienhelohfhhfaaXXc
import Derived.Test.YtienhelohfhhfaaGQ
import Derived.OwnWalk
namespace Go.Proofs.Ytienhelohfhhfaa
open Go.ChangeShapes Go.WideShapes Go.ChangeAt Go.WideMaps Go.WideElems Go.RowKit
open _root_.Go.Proofs.Ytienhelohfhhfaa.Rows (uptoBulk uptoBulkAll)
/-- What the law's walk is to say. -/
def Vx.Law : Prop := ∀ (m : Nat) (w : World) (v : Value) (l : List Vx.Sk), Vx.X.Stks (m + 1) w v l → Vx.X.sumS (m + 1) l ≤ 2000000 → l.length ≤ 2000000 →
  Calls Try.prog 7 #[v] w fun o w' => o = .returned (.bool true) ∧ Below w.heap.size w w'
theorem checkOwn : ownKnob Try.prog.godebug = none := by kernel_rfl
theorem checkKids : Kids Try.prog (· < Try.prog.types.size) := kids_rows (by kernel_rfl) (by kernel_rfl)
theorem checkFull : ∀ t e, t < Try.prog.types.size → Try.prog.underlying t = some (.slice e) → 0 < Try.prog.cellsOf e := slices_full_of Try.prog (by kernel_rfl)
set_option maxRecDepth 100000 in
theorem topCheck_lifted (law : Vx.Law) (os : Os) (started : os.Started) (H : Type) (enc : TypeId × Value → H) (F : Stop.Interp) :
    ReturnsInHanded {} Try.checked os 7 .any ((Rows.OpenSpec.upto Rows.topCheckSpec).pre6 enc Try.prog Try.f7 Rows.topCheckUptoRow.domain false) (((Rows.OpenSpec.upto Rows.topCheckSpec).at F).post enc Try.prog Try.f7 false true false false) := by
  refine returnsInHanded_of_cond (C := Try.checked) (s := Rows.OpenSpec.upto Rows.topCheckSpec) (k := Rows.uptoSmall) rfl checkOwn started (by kernel_rfl) Try.func7
    (OpenSpec.witness (enc := enc) (C := Try.checked) (s := Rows.OpenSpec.upto Rows.topCheckSpec) (k := Rows.uptoSmall) rfl false ⟨#[], #[.slice none 0 0], []⟩ 8 (by kernel_rfl) (by kernel_rfl) (by kernel_rfl)
      (x := ([.nil], [], [])) (by kernel_rfl) rfl (by kernel_rfl)) ?_
  intro W base args ds gs before hval0 hW _ hk _
  have hW' := hW
  obtain ⟨p, q, hA0, hV, rfl, hfz, hnd⟩ := hW
  have hA : DataW.TrodAll enc Try.prog W 0 (fun _ => true) true Try.f7.params.toList args.toList ds p := hA0
  have hAk := hA
  have hval : ∀ (j : Nat) t v, Try.f7.params[j]? = some t → args[j]? = some v → Value.okWide Try.prog W .any base t v := hval0
  rw [Try.params7] at hA hval
  obtain ⟨v0, vs0, d0, ds0, p0, q0, hargs, rfl, rfl, h0, r0⟩ := trodAll_cons hA
  obtain ⟨rfl, rfl, rfl⟩ := trodAll_nil r0
  obtain rfl : args = #[v0] := by cases args; simp_all
  obtain ⟨rfl, rfl⟩ := trodVars_none hV
  obtain ⟨f0, h0⟩ := h0
  obtain ⟨v, e0, l, hL, hbl⟩ := Vx.Rd.stacks_of (m := f0 + 1) (by omega) h0
  obtain ⟨a3, n3, k3, rfl⟩ := okWide_slice Vx.Rd.u57 (hval 0 57 v0 rfl rfl)
  have hv : Value.slice a3 n3 k3 = v := by simpa [Value.cells] using e0
  subst hv
  have hk2 : uptoBulkAll ([d0] ++ []) ≤ 1048576 := of_decide_eq_true hk
  simp only [List.append_nil, uptoBulkAll] at hk2
  have hbl' : Vx.X.sumS (f0 + 1) l + l.length + 1 ≤ uptoBulk d0 := hbl
  have hlt := hAk.lt
  refine (law f0 W _ l hL (by omega) (by omega)).mono fun e W' ⟨he, hb⟩ => ?_
  subst he
  exact ⟨_, rfl, _, _, _, [], _, [], hW', trodAll_cons_mk (shut_bool Try.underlying4 _) trodAll_mk0, trodAll_kept hb (DataW.TrodAll.respare checkKids checkFull (by rw [Try.params7]; decide +kernel) hAk (fun x hx => decide_eq_true (hlt x hx))), rfl, hb.frame _, fun h => by cases h⟩
theorem topCheck_of (law : Vx.Law) : Rows.TopCheckUptoSaid :=
  OpenClaim.holds_of_cond 7 Try.f7 rfl rfl rfl rfl rfl rfl rfl ⟨rfl, rfl, rfl, rfl, rfl⟩ rfl rfl rfl rfl rfl (by kernel_rfl) Try.func7 (by kernel_rfl)
    (of_decide_eq_true (by kernel_rfl)) (by unfold Func.isWrapper; first | (rw [if_pos (by decide +kernel)]; kernel_rfl) | (rw [if_neg (by decide +kernel)]; exact ⟨rfl, rfl⟩))
    (fun os started H enc _ F => topCheck_lifted law os started H enc F)
end Go.Proofs.Ytienhelohfhhfaa
namespace Go.Proofs.Ytienhelohfhhfaa.Vx
open Go.RowKit
attribute [local go_sem ↓] Go.wp_at_zero Go.wp_at_succ
namespace X
/-- The stack that has a name alone. -/
def sA : Sk := ⟨⟨#[97]⟩, [], [], []⟩
theorem fitA (sm : Val → Val → Bool) : Fit sm 1 [sA] ([[]], [[]]) := by
  refine ⟨?_, ?_, ?_, ?_, ?_⟩
  · rfl
  · have h1 : twice ([sA].map (·.name)) = false := twice_apart.2 (fun i j x y hij hx hy => by
      have := (List.getElem?_eq_some_iff.1 hy).1
      simp at this
      omega)
    unfold dups
    rw [h1]
    rfl
  · rfl
  · intro R hR i hi
    simp at hR
    subst hR
    simp at hi
  · intro i hi
    have : i = 0 := by simp at hi; exact hi
    subst this
    rfl
theorem stkA {w : World} {g : Nat} (h : w.heap[g]? = some (.cells #[.string ⟨#[97]⟩, .slice none 0 0, .slice none 0 0, .slice none 0 0] 66 (0, 0))) : Stks 1 w (.slice (some ⟨g, 0, none⟩) 1 1) [sA] := by
  refine ⟨some ⟨g, 0, none⟩, 1, rfl, .inr ⟨g, 0, rfl, fun i hi => ?_⟩⟩
  have : i = 0 := by simp at hi; exact hi
  subst this
  refine ⟨[.string ⟨#[97]⟩, .slice none 0 0, .slice none 0 0, .slice none 0 0], rfl, fun j hj => ?_, sA, rfl, _, _, _, rfl, ⟨none, 0, rfl, .inl rfl⟩, ⟨none, 0, rfl, .inl rfl⟩, ⟨none, 0, rfl, .inl rfl⟩⟩
  have c0 := cell_of_block h 0 _ rfl
  have c1 := cell_of_block h 1 _ rfl
  have c2 := cell_of_block h 2 _ rfl
  have c3 := cell_of_block h 3 _ rfl
  rcases j with _ | _ | _ | _ | j
  · exact c0
  · exact c1
  · exact c2
  · exact c3
  · omega
/-- What Check answers, both ways at once. -/
theorem Checked.both {sm : Val → Val → Bool} {m : Nat} {l : List Sk} {w' : World} {o : Ending} (h : Checked sm m l w' o) :
    ∃ (a1 a2 a3 : Option Addr) (n1 n2 n3 d1 d2 d3 : Nat) (ev : Value), o = .returned (.tuple #[.agg #[.slice a1 n1 d1, .slice a2 n2 d2, .slice a3 n3 d3], ev]) ∧
      (((∀ p, ¬ Fit sm m l p) ∧ ∃ n : Int, ev = .iface 68 (.int .i64 n)) ∨ (ev = .nilIface ∧ ∃ p, Fit sm m l p ∧ Gr.Lists w' (.slice a2 n2 d2) (p.2.map Gr.ofN) ∧ Gr.Lists w' (.slice a3 n3 d3) (p.1.map (fun R => Gr.ofN (ord R))))) := by
  rcases h with ⟨hn, n, rfl⟩ | ⟨p, hp, a1, a2, a3, n1, n2, n3, d1, d2, d3, rfl, h1, h2⟩
  · exact ⟨none, none, none, 0, 0, 0, 0, 0, 0, _, rfl, .inl ⟨hn, n, rfl⟩⟩
  · exact ⟨a1, a2, a3, n1, n2, n3, d1, d2, d3, _, rfl, .inr ⟨rfl, p, hp, h1, h2⟩⟩
theorem flat4 : ∀ (Q : List (List Value)), (∀ c ∈ Q, c.length = 4) → ∀ (i j : Nat) c, Q[i]? = some c → j < 4 → Q.flatten[i * 4 + j]? = c[j]?
  | [], _, i, j, c, h, _ => by simp at h
  | a :: Q, hQ, i, j, c, h, hj => by
    have ha : a.length = 4 := hQ a (by simp)
    rw [List.flatten_cons]
    cases i with
    | zero =>
      have e : a = c := by simpa using h
      subst e
      rw [Nat.zero_mul, Nat.zero_add, List.getElem?_append_left (by omega)]
    | succ i =>
      rw [List.getElem?_append_right (by omega), show (i + 1) * 4 + j - a.length = i * 4 + j by omega]
      exact flat4 Q (fun c hc => hQ c (by simp [hc])) i j c (by simpa using h) hj
/-- Stacks that were put one behind the other, from the last one on. -/
def Bk (m : Nat) (w : World) (l : List Sk) (n : Nat) (Q : List (List Value)) : Prop := Q.length = n ∧ ∀ (i : Nat) c, Q[i]? = some c → c.length = 4 ∧ ∃ x, l.reverse[i]? = some x ∧ SMem m w x c
theorem Bk.push {m : Nat} {w : World} {l : List Sk} {n : Nat} {Q : List (List Value)} {x : Sk} {c : List Value} (h : Bk m w l n Q) (hx : l.reverse[n]? = some x) (hc : c.length = 4) (hm : SMem m w x c) : Bk m w l (n + 1) (Q ++ [c]) := by
  refine ⟨by simp [h.1], fun i c' hi => ?_⟩
  rcases get_snoc hi with h1 | ⟨h1, rfl⟩
  · exact h.2 i c' h1
  · rw [h1, h.1]
    exact ⟨hc, x, hx, hm⟩
theorem Bk.stks {m : Nat} {w w' : World} {l : List Sk} {base : Nat} {vb : Value} {Q : List (List Value)} (h : Bk m w l l.length Q) (ho : w'.ownsRow base 66 4 vb l.length Q.flatten) (hb : Below w.heap.size w w') : Stks m w' vb l.reverse := by
  rcases ho.2 with ⟨rfl, h0⟩ | ⟨g, cap, cur, rfl, _, hg, _⟩
  · exact ⟨none, 0, by rw [List.length_reverse, h0], .inl (by rw [List.length_reverse, h0])⟩
  · refine ⟨some ⟨g, 0, none⟩, cap, by rw [List.length_reverse], .inr ⟨g, 0, rfl, fun i hi => ?_⟩⟩
    rw [List.length_reverse] at hi
    have hiQ : i < Q.length := by rw [h.1]; exact hi
    have hQ : Q[i]? = some Q[i] := List.getElem?_eq_getElem hiQ
    obtain ⟨hc, x, hx, hm⟩ := h.2 i _ hQ
    refine ⟨Q[i], hc, fun j hj => ?_, x, hx, hm.kept hb⟩
    have hf := flat4 Q (fun c hc => by
      obtain ⟨k, hk, e⟩ := List.getElem_of_mem hc
      exact (h.2 k c (by rw [List.getElem?_eq_getElem hk, e])).1) i j _ hQ hj
    have hv : Q[i][j]? = some Q[i][j] := List.getElem?_eq_getElem (by omega)
    rw [hv] at hf
    have h3 := ho.cells (g := g) rfl (i * 4 + j) _ hf
    have e : (⟨g, 0, none⟩ : Addr).add (i * 4 + j) = ⟨g, 0 + i * 4 + j, none⟩ := by unfold Addr.add; split <;> simp_all
    rw [e] at h3
    rw [hv]; exact h3
theorem back_len (n : Nat) (l : List Nat) : (back n l).length = l.length := by simp [back]
/-- A row of lists, at one place. -/
theorem lists_at {w : World} {ao : Option Addr} {n c : Nat} {L : List (List Int)} (h : Gr.Lists w (.slice ao n c) L) {i : Nat} {x : List Nat} (hx : L[i]? = some (Gr.ofN x)) : ∃ b o a k, ao = some ⟨b, o, none⟩ ∧ w.cell? ⟨b, o + i, none⟩ = some (.slice a x.length k) ∧ Gr.Ints w (.slice a x.length k) (Gr.ofN x) := by
  obtain ⟨ao', cap', q5, q6⟩ := h
  simp only [Value.slice.injEq] at q5
  obtain ⟨rfl, _, rfl⟩ := q5
  rcases q6 with q6 | ⟨b, off, rfl, q6⟩
  · rw [q6] at hx; simp at hx
  · obtain ⟨u, h1, h2⟩ := q6 i _ hx
    obtain ⟨a, k, e, _⟩ := id h2
    rw [Gr.ofN_length] at e
    subst e
    exact ⟨b, off, a, k, rfl, h1, h2⟩
theorem rows_turn {sm : Val → Val → Bool} {m : Nat} {l : List Sk} {p q : List (List (List Nat)) × List (List Nat)} {w : World} {p2 p3 r2 r3 : Option Addr} {q2 q3 t2 t3 e2 e3 g2 g3 : Nat} (hp : Fit sm m l p) (hN : Gr.Lists w (.slice p2 q2 e2) (p.2.map Gr.ofN)) (hO : Gr.Lists w (.slice p3 q3 e3) (p.1.map (fun R => Gr.ofN (ord R))))
    (hN2 : Gr.Lists w (.slice r2 t2 g2) (q.2.map Gr.ofN)) (hO2 : Gr.Lists w (.slice r3 t3 g3) (q.1.map (fun R => Gr.ofN (ord R)))) (hq : Fit sm m l.reverse q) :
    q2 = l.length ∧ q3 = l.length ∧ t2 = l.length ∧ t3 = l.length ∧ ∀ i, i < l.length → ∃ A O : List Nat, A.length ≤ 8 ∧ (∀ x ∈ A, x < l.length) ∧ O.length ≤ 8 ∧
      (∃ b o a k, p2 = some ⟨b, o, none⟩ ∧ w.cell? ⟨b, o + i, none⟩ = some (.slice a A.length k) ∧ Gr.Ints w (.slice a A.length k) (Gr.ofN A)) ∧
      (∃ b o a k, r2 = some ⟨b, o, none⟩ ∧ w.cell? ⟨b, o + (l.length - 1 - i), none⟩ = some (.slice a A.length k) ∧ Gr.Ints w (.slice a A.length k) (Gr.ofN (back l.length A))) ∧
      (∃ b o a k, p3 = some ⟨b, o, none⟩ ∧ w.cell? ⟨b, o + i, none⟩ = some (.slice a O.length k) ∧ Gr.Ints w (.slice a O.length k) (Gr.ofN O)) ∧
      (∃ b o a k, r3 = some ⟨b, o, none⟩ ∧ w.cell? ⟨b, o + (l.length - 1 - i), none⟩ = some (.slice a O.length k) ∧ Gr.Ints w (.slice a O.length k) (Gr.ofN O)) := by
  obtain ⟨q', hq', hl1, hl2, hrel⟩ := fit_turn hp
  have eqq : q' = q := by
    have h1 := hq'.2.2.1
    rw [hq.2.2.1] at h1
    simpa using h1.symm
  subst eqq
  obtain ⟨hp1, hp2, hpa⟩ := an_all hp.2.2.1
  have s1 : q2 = l.length := by
    obtain ⟨_, _, e, _⟩ := id hN
    simp only [Value.slice.injEq, List.length_map] at e
    omega
  have s2 : q3 = l.length := by
    obtain ⟨_, _, e, _⟩ := id hO
    simp only [Value.slice.injEq, List.length_map] at e
    omega
  have s3 : t2 = l.length := by
    obtain ⟨_, _, e, _⟩ := id hN2
    simp only [Value.slice.injEq, List.length_map] at e
    omega
  have s4 : t3 = l.length := by
    obtain ⟨_, _, e, _⟩ := id hO2
    simp only [Value.slice.injEq, List.length_map] at e
    omega
  refine ⟨s1, s2, s3, s4, fun i hi => ?_⟩
  obtain ⟨z, hz, ha, hb⟩ := hpa i l[i] (List.getElem?_eq_getElem hi)
  obtain ⟨h1, h2⟩ := hrel i hi
  rw [ha] at h1
  rw [hb, Option.map_some] at h2
  have hg := la_good hz
  have h8 := alone_small hp.1
  refine ⟨z.2, ord z.1, Nat.le_trans (hg.1.2.len) h8.1, hg.1.2.2, ?_, lists_at hN (by rw [List.getElem?_map, hb]; rfl), ?_, lists_at hO (by rw [List.getElem?_map, ha]; rfl), lists_at hO2 (by rw [List.getElem?_map, h1]; rfl)⟩
  · have h3 := Gr.length_flat (net z.1) z.1.length z.1.length
    have h4 := (h8.2 l[i] (List.getElem_mem hi)).1
    have h5 := hg.2
    unfold ord
    omega
  · have h3 := lists_at hN2 (x := back l.length z.2) (i := l.length - 1 - i) (by rw [List.getElem?_map, h2]; rfl)
    rw [back_len] at h3
    exact h3
end X

set_option maxRecDepth 100000 in
set_option maxHeartbeats 8000000 in
theorem topCheck_any : Law := by
  intro m w v l h hbk hll
  obtain ⟨sm, hsm⟩ := V.says_some
  obtain ⟨ah, ch, rfl⟩ := V.Row.shape h
  obtain ⟨i6, hi6, hx0, hx1, hx2⟩ := info_parts info66
  have hb0 : Below w.heap.size w (w.alloc (.cells #[.string ⟨#[97]⟩, .slice none 0 0, .slice none 0 0, .slice none 0 0] 66)) := (Below.refl _ _).alloc (Nat.le_refl _) _
  have hA := check_any2 sm hsm 0 (w.alloc (.cells #[.string ⟨#[97]⟩, .slice none 0 0, .slice none 0 0, .slice none 0 0] 66)) (.slice (some ⟨w.heap.size, 0, none⟩) 1 1) [X.sA] (X.stkA (heap_alloc_new _ _)) (by decide) (by decide)
  have H := hide h
  have HBK := hide hbk
  have HA := hide hA
  clear h hbk hA
  go_enter Try.func7, Try.ntmps7
  go_wp2_with fail
  generalize w.alloc (.cells #[.string ⟨#[97]⟩, .slice none 0 0, .slice none 0 0, .slice none 0 0] 66) = w0 at *
  refine HA.out.mono ?_
  rintro o w1 ⟨hc, hb1⟩
  have hcc : ∃ p, X.Fit sm 1 [X.sA] p ∧ ∃ (a1 a2 a3 : Option Addr) (n1 n3 d1 d2 d3 : Nat), o = .returned (.tuple #[.agg #[.slice a1 n1 d1, .slice a2 1 d2, .slice a3 n3 d3], .nilIface]) := by
    rcases hc with ⟨hn, _⟩ | ⟨p, hp, a1, a2, a3, n1, n2, n3, d1, d2, d3, rfl, h1, _⟩
    · exact absurd (X.fitA sm) (hn _)
    · obtain ⟨a, c, e, _⟩ := h1
      have h2 := (X.an_all hp.2.2.1).2.1
      simp only [Value.slice.injEq, List.length_map] at e
      have : n2 = 1 := by rw [e.2.1, h2]; rfl
      subst this
      exact ⟨p, hp, a1, a2, a3, n1, n3, d1, d2, d3, rfl⟩
  obtain ⟨_, _, a1, a2, a3, n1, n3, d1, d2, d3, rfl⟩ := hcc
  have hB1 := hb0.trans (hb1.mono hb0.size)
  clear hb0 hb1 hc HA
  have hB2 : Below w.heap.size w (w1.alloc (.cells #[.slice a1 n1 d1, .slice a2 1 d2, .slice a3 n3 d3] 59)) := hB1.alloc hB1.size _
  have hli := lightStacks_any (m + 1) l (.slice ah l.length ch) _ (H.out.kept hB2) (fun x hx => X.sumS_mem hx HBK.out)
  have HB2 := hide hB2
  have HLI := hide hli
  clear hB1 hB2 hli
  go_wp2_with fail
  generalize w1.alloc (.cells #[.slice a1 n1 d1, .slice a2 1 d2, .slice a3 n3 d3] 59) = w2 at *
  refine HLI.out.mono ?_
  rintro o w3 ⟨⟨lb, rfl⟩, hb3⟩
  have hB3 := HB2.out.trans (hb3.mono HB2.out.size)
  clear hb3 HLI HB2
  cases lb with
  | false =>
    have HB3 := hide hB3
    clear hB3
    go_wp2_with fail
    go_ret
    exact ⟨rfl, HB3.out⟩
  | true =>
    have hck := check_any2 sm hsm m w3 (.slice ah l.length ch) l (H.out.kept hB3) HBK.out hll
    have HB3 := hide hB3
    have HCK := hide hck
    clear hB3 hck
    go_wp2_with fail
    refine HCK.out.mono ?_
    rintro o w4 ⟨hc4, hb4⟩
    obtain ⟨p1, p2, p3, q1, q2, q3, e1, e2, e3, ev, rfl, hev⟩ := hc4.both
    have hB4 := HB3.out.trans (hb4.mono HB3.out.size)
    have hb5 : Below w4.heap.size w4 (w4.alloc (.cells #[.slice p1 q1 e1, .slice p2 q2 e2, .slice p3 q3 e3] 59)) := (Below.refl _ _).alloc (Nat.le_refl _) _
    have hE5 : (w4.alloc (.cells #[.slice p1 q1 e1, .slice p2 q2 e2, .slice p3 q3 e3] 59)).heap[w4.heap.size]? = some (.cells #[.slice p1 q1 e1, .slice p2 q2 e2, .slice p3 q3 e3] 59 (0, 0)) := heap_alloc_new _ _
    have hs5 : (w4.alloc (.cells #[.slice p1 q1 e1, .slice p2 q2 e2, .slice p3 q3 e3] 59)).heap.size = w4.heap.size + 1 := by simp
    have hB5 := hB4.trans (hb5.mono hB4.size)
    have hlt4 : w.heap.size ≤ w4.heap.size := hB4.size
    have hev5 : ((∀ p, ¬ X.Fit sm (m + 1) l p) ∧ ∃ n : Int, ev = .iface 68 (.int .i64 n)) ∨ (ev = .nilIface ∧ ∃ p, X.Fit sm (m + 1) l p ∧ Gr.Lists (w4.alloc (.cells #[.slice p1 q1 e1, .slice p2 q2 e2, .slice p3 q3 e3] 59)) (.slice p2 q2 e2) (p.2.map Gr.ofN) ∧ Gr.Lists (w4.alloc (.cells #[.slice p1 q1 e1, .slice p2 q2 e2, .slice p3 q3 e3] 59)) (.slice p3 q3 e3) (p.1.map (fun R => Gr.ofN (X.ord R)))) := by
      rcases hev with h1 | ⟨h1, p, h2, h3, h4⟩
      · exact .inl h1
      · exact .inr ⟨h1, p, h2, h3.kept hb5 (Nat.le_refl _), h4.kept hb5 (Nat.le_refl _)⟩
    have HE5 := hide hE5
    have HB5 := hide hB5
    have HEV := hide hev5
    clear hc4 hb4 hev hev5 hb5 hE5 hB5 hB4 HCK HB3
    go_wp2_with fail
    generalize w4.alloc (.cells #[.slice p1 q1 e1, .slice p2 q2 e2, .slice p3 q3 e3] 59) = w5 at *
    go_loopw [7, 6] (fun vi vb wx => ∃ (i : Nat) (Q : List (List Value)), i ≤ l.length ∧ vi = .int .i64 ((i : Int) - 1) ∧ wx.ownsRow w5.heap.size 66 4 vb (l.length - i) Q.flatten ∧ X.Bk (m + 1) w l (l.length - i) Q ∧ Below w5.heap.size w5 wx) (fun vi _ _ => ((intOf vi) + 1).toNat)
    case atStart => exact ⟨l.length, [], Nat.le_refl _, by go_num, by rw [Nat.sub_self]; exact World.ownsRow_nil .., ⟨by simp, fun i c hi => by simp at hi⟩, Below.refl _ _⟩
    case round =>
      obtain ⟨wy, hwy⟩ : ∃ z, z = wr := ⟨_, rfl⟩
      subst hwy
      obtain ⟨i, Q, hi, rfl, hown, hbk, hBy⟩ := hrel
      obtain ⟨av, cv, ev6⟩ := X.ownsS_shape hown
      subst ev6
      cases i with
      | zero =>
        rw [Nat.sub_zero] at hown hbk
        have hBw := HB5.out.trans (hBy.mono HB5.out.size)
        have hst := hbk.stks hown hBw
        have hck := check_any2 sm hsm m wy (.slice av l.length cv) l.reverse hst (by unfold X.sumS; rw [List.map_reverse, List.sum_reverse]; exact HBK.out) (by rw [List.length_reverse]; exact hll)
        have HCK := hide hck
        have HBY := hide hBy
        clear hck hown hbk hBw hst hBy
        rw [Nat.sub_zero]
        go_wp2_with fail
        refine HCK.out.mono ?_
        rintro o w7 ⟨hc7, hb7⟩
        obtain ⟨r1, r2, r3, t1, t2, t3, g1, g2, g3, ev2, rfl, hev2⟩ := hc7.both
        have hb8 : Below w7.heap.size w7 (w7.alloc (.cells #[.slice r1 t1 g1, .slice r2 t2 g2, .slice r3 t3 g3] 59)) := (Below.refl _ _).alloc (Nat.le_refl _) _
        have hE8 : (w7.alloc (.cells #[.slice r1 t1 g1, .slice r2 t2 g2, .slice r3 t3 g3] 59)).heap[w7.heap.size]? = some (.cells #[.slice r1 t1 g1, .slice r2 t2 g2, .slice r3 t3 g3] 59 (0, 0)) := heap_alloc_new _ _
        have hb57 := HBY.out.trans (hb7.mono HBY.out.size)
        have hb58 := hb57.trans (hb8.mono hb57.size)
        have hB8 := HB5.out.trans (hb58.mono HB5.out.size)
        have hE58 := (hb58.block _ (Array.getElem?_eq_some_iff.1 HE5.out).1).trans HE5.out
        rcases HEV.out with ⟨hno, n, rfl⟩ | ⟨rfl, p, hp, hN, hO⟩
        · rcases hev2 with ⟨hno2, n2, rfl⟩ | ⟨rfl, q, hq, hN2, hO2⟩
          · have HB8 := hide hB8
            clear hno hno2 hc7 hb7 hb8 hE8 hb57 hb58 hB8 hE58 HEV HCK HB5 HBY HE5
            go_wp2_with fail
            go_region
            all_goals
              go_wp2_with fail
              go_ret
              exact ⟨rfl, HB8.out.drew⟩
          · obtain ⟨q2, hq2, _⟩ := X.fit_turn hq
            rw [List.reverse_reverse] at hq2
            exact absurd hq2 (hno _)
        · rcases hev2 with ⟨hno2, n2, rfl⟩ | ⟨rfl, q, hq, hN2, hO2⟩
          · obtain ⟨q2, hq2, _⟩ := X.fit_turn hp
            exact absurd hq2 (hno2 _)
          · obtain ⟨q', hq', hl1, hl2, hrel⟩ := X.fit_turn hp
            have eqq : q' = q := by
              have h1 := hq'.2.2.1
              rw [hq.2.2.1] at h1
              simpa using h1.symm
            subst eqq
            replace hN := hN.kept hb58 (Nat.le_refl _)
            replace hO := hO.kept hb58 (Nat.le_refl _)
            replace hN2 := hN2.kept hb8 (Nat.le_refl _)
            replace hO2 := hO2.kept hb8 (Nat.le_refl _)
            obtain ⟨hp1, hp2, hpa⟩ := X.an_all hp.2.2.1
            have hrows := X.rows_turn hp hN hO hN2 hO2 hq
            obtain ⟨rfl, rfl, rfl, rfl, hrow⟩ := hrows
            have c51 := cell_of_block hE58 1 _ rfl
            have c52 := cell_of_block hE58 2 _ rfl
            have c81 := cell_of_block hE8 1 _ rfl
            have c82 := cell_of_block hE8 2 _ rfl
            have HROW := hide hrow
            have HB8 := hide hB8
            clear hN hO hN2 hO2 hp hq hq' hrel hpa hp1 hp2 hl1 hl2 hrow hB8 hE58 hE8 hb58 hb57 hb8 hb7 hc7 HCK HEV HB5 HBY HE5
            go_wp2_with fail
            generalize w7.alloc (.cells #[.slice r1 t1 g1, .slice r2 l.length g2, .slice r3 l.length g3] 59) = w8 at *
            go_region
            all_goals
              have HC51 := hide c51
              have HC52 := hide c52
              have HC81 := hide c81
              have HC82 := hide c82
              clear c51 c52 c81 c82
              go_wp2_with fail
              go_loopw [11, 12, 13, 14, 15, 16] (fun vi _ _ _ _ _ wx => ∃ i : Nat, i ≤ l.length ∧ vi = .int .i64 i ∧ Below w8.heap.size w8 wx) (fun vi _ _ _ _ _ _ => l.length - (intOf vi).toNat)
              case atStart => exact ⟨0, Nat.zero_le _, rfl, (Below.refl _ _).drew⟩
              case round =>
                obtain ⟨wz, hwz⟩ : ∃ z, z = wr := ⟨_, rfl⟩
                subst hwz
                obtain ⟨i, hi, rfl, hBz⟩ := hrel
                by_cases hlt : i < l.length
                · obtain ⟨A, O, hA8, hAn, hO8, ⟨b1, o1, a1', k1, rfl, d1', h1⟩, ⟨b2, o2, a2', k2, rfl, d2', h2⟩, ⟨b3, o3, a3', k3, rfl, d3', h3⟩, ⟨b4, o4, a4', k4, rfl, d4', h4⟩⟩ := HROW.out i hlt
                  have c51 := kept_cell hBz HC51.out
                  have c52 := kept_cell hBz HC52.out
                  have c81 := kept_cell hBz HC81.out
                  have c82 := kept_cell hBz HC82.out
                  replace d1' := kept_cell hBz d1'
                  replace d2' := kept_cell hBz d2'
                  replace d3' := kept_cell hBz d3'
                  replace d4' := kept_cell hBz d4'
                  replace h1 := h1.kept hBz (Nat.le_refl _)
                  replace h2 := h2.kept hBz (Nat.le_refl _)
                  replace h3 := h3.kept hBz (Nat.le_refl _)
                  replace h4 := h4.kept hBz (Nat.le_refl _)
                  have HH1 := hide h1
                  have HH2 := hide h2
                  have HH3 := hide h3
                  have HH4 := hide h4
                  have HBZ := hide hBz
                  clear h1 h2 h3 h4 hBz
                  have hd0 : Below wz.heap.size wz wz.drew := (Below.refl _ _).drew
                  have KS : Hid (∀ W, Below wz.heap.size wz W → Calls Try.prog 21 #[.slice a3' O.length k3, .slice a4' O.length k4] W fun e w' => e = .returned (.bool true) ∧ Below W.heap.size W w') := by
                    intro W hW
                    exact sameNumbers_eq (Gr.ofN O) _ _ W (by rw [Gr.ofN_length]; omega) (HH3.out.kept hW (Nat.le_refl _)) (HH4.out.kept hW (Nat.le_refl _))
                  have hw1 : IntKind.i64.wrap ((l.length : Int) - 1) = (l.length : Int) - 1 := IntWalk.i64_in _ (by omega)
                  have hw2 : IntKind.i64.wrap ((l.length : Int) - 1 - i) = (l.length : Int) - 1 - i := IntWalk.i64_in _ (by omega)
                  have hq1 : (0 : Int) ≤ (l.length : Int) - 1 - i := by omega
                  have hq2 : (l.length : Int) - 1 - i < l.length := by omega
                  have hq5 : (i : Int) ≤ (l.length : Int) - 1 := by omega
                  have hq6 : ¬ (l.length : Int) ≤ (l.length : Int) - 1 - i := by omega
                  have hq7 : ¬ (l.length : Int) - 1 - i < 0 := by omega
                  have hq8 : ¬ (l.length : Int) - 1 < i := by omega
                  have hq3 : ((l.length : Int) - 1 - i).toNat = l.length - 1 - i := by omega
                  have hq4 : l.length - 1 - i < l.length := by omega
                  go_wp2_with fail
                  go_region_held3 (fun W' => W'.cell? ⟨w4.heap.size, 2, none⟩ = some (.slice (some ⟨b3, o3, none⟩) l.length e3) ∧ W'.cell? ⟨b3, o3 + i, none⟩ = some (.slice a3' O.length k3) ∧ W'.cell? ⟨w7.heap.size, 2, none⟩ = some (.slice (some ⟨b4, o4, none⟩) l.length g3) ∧ W'.cell? ⟨b4, o4 + (l.length - 1 - i), none⟩ = some (.slice a4' O.length k4) ∧ Below wz.heap.size wz W') (first | exact ⟨c52, d3', c82, d4', hd0⟩ | exact ⟨t1', t2', t3', t4', t5'⟩ | go_keep)
                    (first | (go_at_call 21; (with_reducible refine Calls.mono (KS.out _ ?_) ?_); assumption; rintro o w9 ⟨rfl, hb9⟩; have t5' := hd0.trans (hb9.mono (Nat.le_refl _)); have t1' := kept_cell t5' c52; have t2' := kept_cell t5' d3'; have t3' := kept_cell t5' c82; have t4' := kept_cell t5' d4'))
                  have HI1 := hide (HH1.out.kept t5' (Nat.le_refl _))
                  have HI2 := hide (HH2.out.kept t5' (Nat.le_refl _))
                  have HT := hide t5'
                  have HAN := hide hAn
                  clear t1' t2' t3' t4' t5' hb9 hd0 KS c51 c52 c81 c82 d1' d2' d3' d4' HH1 HH2 HH3 HH4 hAn
                  go_wp2_with fail
                  go_loopw [14, 15, 16] (fun vi _ _ wx => ∃ k : Nat, k ≤ A.length ∧ vi = .int .i64 k ∧ Below w9.heap.size w9 wx) (fun vi _ _ _ => A.length - (intOf vi).toNat)
                  case atStart => exact ⟨0, Nat.zero_le _, rfl, Below.refl _ _⟩
                  case round =>
                    obtain ⟨wu, hwu⟩ : ∃ z, z = wr := ⟨_, rfl⟩
                    subst hwu
                    obtain ⟨k, hk, rfl, hBu⟩ := hrel
                    by_cases hlk : k < A.length
                    · obtain ⟨x, hx⟩ : ∃ x, A[k]? = some x := ⟨_, List.getElem?_eq_getElem hlk⟩
                      have hxn := HAN.out x (List.mem_of_getElem? hx)
                      obtain ⟨b5, o5, rfl, y5⟩ := (HI1.out.kept hBu (Nat.le_refl _)).at (i := k) (x := (x : Int)) (by unfold Gr.ofN; rw [List.getElem?_map, hx]; rfl)
                      have HY5 := hide y5
                      have HBU := hide hBu
                      have HX := hide hx
                      clear y5 hBu hx
                      go_wp2_with fail
                      go_loopw [15, 16] (fun vt vj wx => ∃ (j : Nat) (t : Bool), j ≤ A.length ∧ vj = .int .i64 j ∧ vt = .bool t ∧ (k < j → t = true) ∧ Below wu.heap.size wu wx) (fun _ vj _ => A.length - (intOf vj).toNat)
                      case atStart => exact ⟨0, false, Nat.zero_le _, rfl, rfl, (fun h => absurd h (by omega)), Below.refl _ _⟩
                      case round =>
                        obtain ⟨wq, hwq⟩ : ∃ z, z = wr := ⟨_, rfl⟩
                        subst hwq
                        obtain ⟨j, t, hj, rfl, rfl, ht, hBq⟩ := hrel
                        by_cases hlj : j < A.length
                        · obtain ⟨y, hy⟩ : ∃ y, A[j]? = some y := ⟨_, List.getElem?_eq_getElem hlj⟩
                          have hyn := HAN.out y (List.mem_of_getElem? hy)
                          obtain ⟨b6, o6, rfl, y6⟩ := (HI2.out.kept (HBU.out.trans (hBq.mono HBU.out.size)) (Nat.le_refl _)).at (i := j) (x := ((l.length - 1 - y : Nat) : Int)) (by unfold Gr.ofN X.back; rw [List.getElem?_map, List.getElem?_map, hy]; rfl)
                          have y5 := kept_cell hBq HY5.out
                          have hyi : ((l.length - 1 - y : Nat) : Int) = (l.length : Int) - 1 - y := by omega
                          have HYE : Hid (k = j → x = y) := fun e => by have h1 := HX.out; rw [e, hy] at h1; simpa using h1.symm
                          have HBQ := hide hBq
                          have HTT := hide ht
                          rw [hyi] at y6
                          clear hBq hy hyi ht
                          cases t with
                          | true =>
                            go_wp2_with fail
                            go_quiet (fail)
                            go_wp2_with fail
                            exact ⟨⟨j + 1, true, by omega, by go_num, rfl, (fun _ => rfl), below_drewN HBQ.out _⟩, by simp [intOf]; omega⟩
                          | false =>
                            go_wp2_with fail
                            go_quiet (fail)
                            go_wp2_with fail
                            refine ⟨⟨j + 1, _, by omega, by go_num, rfl, (fun hkj => ?_), below_drewN HBQ.out _⟩, by simp [intOf]; omega⟩
                            have hkj2 : k = j := by
                              rcases Nat.lt_or_ge k j with h1 | h1
                              · exact absurd (HTT.out h1) (by decide)
                              · omega
                            rw [HYE.out hkj2]
                            simp
                        · have htt : t = true := ht (by omega)
                          subst htt
                          have HBQ := hide hBq
                          clear hBq ht
                          go_wp2_with fail
                          exact ⟨⟨k + 1, by omega, by go_num, HBU.out.trans (HBQ.out.mono HBU.out.size)⟩, by simp [intOf]; omega⟩
                    · have HBU := hide hBu
                      clear hBu
                      go_wp2_with fail
                      exact ⟨⟨i + 1, by omega, by go_num, (HBZ.out.trans (HT.out.mono HBZ.out.size)).trans (HBU.out.mono (Nat.le_trans HBZ.out.size HT.out.size))⟩, by simp [intOf]; omega⟩
                · have HBZ := hide hBz
                  clear hBz
                  go_wp2_with fail
                  go_ret
                  exact ⟨rfl, HB8.out.trans (HBZ.out.mono HB8.out.size)⟩
      | succ k =>
        obtain ⟨b, off, cap, x, ai, ci, ar2, cr2, ao, co, ee, hx, hxI, hxR, hxO, y0, y1, y2, y3⟩ := X.elemS H.out k (by omega)
        simp only [Value.slice.injEq] at ee
        obtain ⟨rfl, _, rfl⟩ := ee
        have hBw := HB5.out.trans (hBy.mono HB5.out.size)
        replace y0 := kept_cell hBw y0
        replace y1 := kept_cell hBw y1
        replace y2 := kept_cell hBw y2
        replace y3 := kept_cell hBw y3
        have hpush := hbk.push (x := x) (c := [.string x.name, .slice ai x.ins.length ci, .slice ar2 x.res.length cr2, .slice ao x.outs.length co]) (by rw [List.getElem?_reverse (by omega), ← hx]; congr 1; omega) rfl ⟨_, _, _, rfl, hxI, hxR, hxO⟩
        rw [show l.length - (k + 1) + 1 = l.length - k by omega] at hpush
        have hki : ((k + 1 : Nat) : Int) - 1 = k := by omega
        rw [hki]
        have HOW := hide hown
        have HBY := hide hBy
        have HPU := hide hpush
        have hle := hBy.size
        have hn1 : l.length - (k + 1) + 1 = l.length - k := by omega
        generalize hN : l.length - (k + 1) = N at *
        clear hown hbk hBy hBw hx hxI hxR hxO hki hpush
        go_wp2_with (at_builtin; go_must (refine wpList_append_lies _ rfl (.tmp 46) (.tmp 51) 57 rfl w5.heap.size 66 i6 (.agg #[.string ⟨#[]⟩, .slice none 0 0, .slice none 0 0, .slice none 0 0]) 4 88 Try.underlying57 hi6 hx0 hx1 hx2 rfl (by decide) (.slice av N cv) N Q.flatten rfl (HOW.out.alloc _) ⟨wy.heap.size, 0, none⟩ 1 1 [.string x.name, .slice ai x.ins.length ci, .slice ar2 x.res.length cr2, .slice ao x.outs.length co] rfl rfl (news_alloc _ #[.string x.name, .slice ai x.ins.length ci, .slice ar2 x.res.length cr2, .slice ao x.outs.length co] _ _ rfl) (by simp [Value.oneCell']) (by decide) (by unfold maxLen; omega) (by omega) (by simp; omega) _ rfl ?_); intro g4 cap4 w7 hown4 hgrow hat hlt7)
        refine ⟨⟨k, Q ++ [[.string x.name, .slice ai x.ins.length ci, .slice ar2 x.res.length cr2, .slice ao x.outs.length co]], by omega, rfl, ?_, HPU.out, (HBY.out.alloc (by omega) _).grown hgrow (by simp; omega) (fun c hc => (HOW.out.lt c hc).1)⟩, by simp [intOf]⟩
        rw [hn1] at hown4
        rw [List.flatten_append]
        simpa using hown4

end Go.Proofs.Ytienhelohfhhfaa.Vx
namespace Go.Proofs.Ytienhelohfhhfaa
theorem topCheck_holds : Rows.TopCheckUptoSaid := topCheck_of Vx.topCheck_any
end Go.Proofs.Ytienhelohfhhfaa
