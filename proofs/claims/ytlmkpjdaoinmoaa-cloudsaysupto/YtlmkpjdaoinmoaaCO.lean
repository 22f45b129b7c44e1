/- For TopToken and CloudSays: lists of things; SameThings. -/
import Derived.Test.YtlmkpjdaoinmoaaCN
namespace Go.Proofs.Ytlmkpjdaoinmoaa
open Go.RowKit
attribute [local go_sem ↓] Go.wp_at_zero Go.wp_at_succ
/-- A thing as plain data: its number, its kind, its attributes. -/
abbrev Td : Type := Int × ByteArray × Val
/-- A list of things in memory. -/
def TRow (m : Nat) (w : World) (u : Value) (L : List Td) : Prop := V.Row w u L.length 7 (fun i c => ∃ (x : Td) (t : Tg), L[i]? = some x ∧ t.id = x.1 ∧ t.kind = x.2.1 ∧ c = Value.int .i64 t.id :: Value.string t.kind :: t.cells ∧ V.Mem (m + 1) w x.2.2 t.cells ∧ V.bulk (m + 1) x.2.2 ≤ 2000000)
theorem TRow.kept {m : Nat} {w w' : World} {u : Value} {L : List Td} (h : TRow m w u L) (hb : Below w.heap.size w w') : TRow m w' u L :=
  V.Row.kept h hb (fun _ _ ⟨x, t, h1, h2, h3, h4, h5, h6⟩ => ⟨x, t, h1, h2, h3, h4, V.Mem.kept (m + 1) h5 hb, h6⟩)
/-- One thing of a list, cell by cell. -/
theorem TRow.elem {m : Nat} {w : World} {u : Value} {L : List Td} (h : TRow m w u L) (i : Nat) (hi : i < L.length) :
    ∃ b off cap, ∃ (x : Td) (t : Tg), u = .slice (some ⟨b, off, none⟩) L.length cap ∧ L[i]? = some x ∧ t.id = x.1 ∧ t.kind = x.2.1 ∧ V.Mem (m + 1) w x.2.2 t.cells ∧ V.bulk (m + 1) x.2.2 ≤ 2000000 ∧ w.cell? ⟨b, off + i * 7, none⟩ = some (.int .i64 t.id) ∧ w.cell? ⟨b, off + i * 7 + 1, none⟩ = some (.string t.kind) ∧ w.cell? ⟨b, off + i * 7 + 2, none⟩ = some (.int .i64 t.k) ∧ w.cell? ⟨b, off + i * 7 + 3, none⟩ = some (.int .i64 t.n) ∧ w.cell? ⟨b, off + i * 7 + 4, none⟩ = some (.string t.s) ∧ w.cell? ⟨b, off + i * 7 + 5, none⟩ = some (.slice t.la t.ln t.lc) ∧ w.cell? ⟨b, off + i * 7 + 6, none⟩ = some (.slice t.fa t.fn t.fc) := by
  obtain ⟨ao, cap, rfl, h | ⟨b, off, rfl, h⟩⟩ := h
  · omega
  · obtain ⟨cs, h1, h2, x, t, hx, e1, e2, rfl, hm, hbk⟩ := h i hi
    exact ⟨b, off, cap, x, t, rfl, hx, e1, e2, hm, hbk, h2 0 (by omega), h2 1 (by omega), h2 2 (by omega), h2 3 (by omega), h2 4 (by omega), h2 5 (by omega), h2 6 (by omega)⟩
set_option maxRecDepth 100000 in
set_option maxHeartbeats 1600000 in
/-- Two lists of things: are they the same? -/
theorem sameThings_any (sl : List Td → List Td → Bool) (hsl : ∀ a b, sl a b = true ↔ a = b) (m : Nat) (w : World) (u1 u2 : Value) (A B : List Td) (hA : TRow m w u1 A) (hB : TRow m w u2 B) (hn : A.length ≤ 1000) :
    Calls Try.prog 28 #[u1, u2] w fun o w' => o = .returned (.bool (sl A B)) ∧ Below w.heap.size w w' := by
  obtain ⟨a1, cp1, rfl⟩ := V.Row.shape hA
  obtain ⟨a2, cp2, rfl⟩ := V.Row.shape hB
  obtain ⟨sm, hsm⟩ := V.says_some
  have HA := hide hA
  have HB := hide hB
  clear hA hB
  by_cases hl : A.length = B.length
  · have n4 : ((A.length : Int) != (B.length : Int)) = false := by simp [hl]
    have HL := hide hl
    clear hl
    go_enter Try.func28, Try.ntmps28
    go_wp2_with fail
    go_loopw [5, 6] (fun vi _ wr => ∃ k : Nat, k ≤ A.length ∧ vi = .int .i64 k ∧ (∀ j, j < k → A[j]? = B[j]?) ∧ Below w.heap.size w wr) (fun vi _ _ => A.length - (intOf vi).toNat)
    case atStart => exact ⟨0, Nat.zero_le _, rfl, fun j hj => absurd hj (by omega), Below.refl _ _⟩
    case round =>
      obtain ⟨k, hk, rfl, hok, hw⟩ := hrel
      have HOK := hide hok
      clear hok
      by_cases hlt : k < A.length
      · have hlt2 : k < B.length := by have := HL.out; omega
        obtain ⟨p, off, cap, xd, x, e1, hx, xi, xk, hm, hbx, u0, u1, u2, u3, u4, u5, u6⟩ := (HA.out.kept hw).elem k hlt
        simp only [Value.slice.injEq] at e1
        obtain ⟨rfl, _, rfl⟩ := e1
        obtain ⟨p2, off2, cap2, yd, y, e2, hy, yi, yk, hm2, hby, v0, v1, v2, v3, v4, v5, v6⟩ := (HB.out.kept hw).elem k hlt2
        simp only [Value.slice.injEq] at e2
        obtain ⟨rfl, _, rfl⟩ := e2
        have hI : ∀ w' : World, (w'.cell? ⟨p, off + k * 7, none⟩ = some (.int .i64 x.id) ∧ w'.cell? ⟨p, off + k * 7 + 1, none⟩ = some (.string x.kind) ∧ w'.cell? ⟨p, off + k * 7 + 2, none⟩ = some (.int .i64 x.k) ∧ w'.cell? ⟨p, off + k * 7 + 3, none⟩ = some (.int .i64 x.n) ∧ w'.cell? ⟨p, off + k * 7 + 4, none⟩ = some (.string x.s) ∧ w'.cell? ⟨p, off + k * 7 + 5, none⟩ = some (.slice x.la x.ln x.lc) ∧ w'.cell? ⟨p, off + k * 7 + 6, none⟩ = some (.slice x.fa x.fn x.fc) ∧ w'.cell? ⟨p2, off2 + k * 7, none⟩ = some (.int .i64 y.id) ∧ w'.cell? ⟨p2, off2 + k * 7 + 1, none⟩ = some (.string y.kind) ∧ w'.cell? ⟨p2, off2 + k * 7 + 2, none⟩ = some (.int .i64 y.k) ∧ w'.cell? ⟨p2, off2 + k * 7 + 3, none⟩ = some (.int .i64 y.n) ∧ w'.cell? ⟨p2, off2 + k * 7 + 4, none⟩ = some (.string y.s) ∧ w'.cell? ⟨p2, off2 + k * 7 + 5, none⟩ = some (.slice y.la y.ln y.lc) ∧ w'.cell? ⟨p2, off2 + k * 7 + 6, none⟩ = some (.slice y.fa y.fn y.fc) ∧ Below wr.heap.size wr w') → Calls Try.prog 18 #[.agg #[.int .i64 x.id, .string x.kind, .int .i64 x.k, .int .i64 x.n, .string x.s, .slice x.la x.ln x.lc, .slice x.fa x.fn x.fc], .agg #[.int .i64 y.id, .string y.kind, .int .i64 y.k, .int .i64 y.n, .string y.s, .slice y.la y.ln y.lc, .slice y.fa y.fn y.fc]] w' fun e w'' => e = .returned (.bool (decide (x.id = y.id) && (decide (x.kind = y.kind) && sm xd.2.2 yd.2.2))) ∧ w''.cell? ⟨p, off + k * 7, none⟩ = some (.int .i64 x.id) ∧ w''.cell? ⟨p, off + k * 7 + 1, none⟩ = some (.string x.kind) ∧ w''.cell? ⟨p, off + k * 7 + 2, none⟩ = some (.int .i64 x.k) ∧ w''.cell? ⟨p, off + k * 7 + 3, none⟩ = some (.int .i64 x.n) ∧ w''.cell? ⟨p, off + k * 7 + 4, none⟩ = some (.string x.s) ∧ w''.cell? ⟨p, off + k * 7 + 5, none⟩ = some (.slice x.la x.ln x.lc) ∧ w''.cell? ⟨p, off + k * 7 + 6, none⟩ = some (.slice x.fa x.fn x.fc) ∧ w''.cell? ⟨p2, off2 + k * 7, none⟩ = some (.int .i64 y.id) ∧ w''.cell? ⟨p2, off2 + k * 7 + 1, none⟩ = some (.string y.kind) ∧ w''.cell? ⟨p2, off2 + k * 7 + 2, none⟩ = some (.int .i64 y.k) ∧ w''.cell? ⟨p2, off2 + k * 7 + 3, none⟩ = some (.int .i64 y.n) ∧ w''.cell? ⟨p2, off2 + k * 7 + 4, none⟩ = some (.string y.s) ∧ w''.cell? ⟨p2, off2 + k * 7 + 5, none⟩ = some (.slice y.la y.ln y.lc) ∧ w''.cell? ⟨p2, off2 + k * 7 + 6, none⟩ = some (.slice y.fa y.fn y.fc) ∧ Below wr.heap.size wr w'' := by
          intro w' ⟨t0, t1, t2, t3, t4, t5, t6, t7, t8, t9, t10, t11, t12, t13, t14⟩
          refine (sameThing_any sm hsm m w' x y xd.2.2 yd.2.2 (V.Mem.kept (m + 1) hm t14) (V.Mem.kept (m + 1) hm2 t14) hbx hby).mono ?_
          rintro e w'' ⟨rfl, hb⟩
          exact ⟨rfl, kept_cell hb t0, kept_cell hb t1, kept_cell hb t2, kept_cell hb t3, kept_cell hb t4, kept_cell hb t5, kept_cell hb t6, kept_cell hb t7, kept_cell hb t8, kept_cell hb t9, kept_cell hb t10, kept_cell hb t11, kept_cell hb t12, kept_cell hb t13, t14.trans (hb.mono t14.size)⟩
        have HI := hide hI
        have HX := hide hx
        have HY := hide hy
        have hbd : Below wr.heap.size wr wr.drew := below_drewN (Below.refl _ _) 1
        have HQ : Hid ((decide (x.id = y.id) && (decide (x.kind = y.kind) && sm xd.2.2 yd.2.2)) = true ↔ xd = yd) := by
          show _ ↔ _
          rw [xi, xk, yi, yk]
          simp only [Bool.and_eq_true, decide_eq_true_eq]
          constructor
          · rintro ⟨h1, h2, h3⟩
            exact Prod.ext h1 (Prod.ext h2 (hsm.eq _ _ h3))
          · rintro rfl
            exact ⟨rfl, rfl, hsm.yes _ _ rfl⟩
        clear hI hm hm2 hx hy xi xk yi yk hbx hby
        generalize (decide (x.id = y.id) && (decide (x.kind = y.kind) && sm xd.2.2 yd.2.2)) = q at *
        go_wp2_with fail
        go_region_held3 (fun w' => w'.cell? ⟨p, off + k * 7, none⟩ = some (.int .i64 x.id) ∧ w'.cell? ⟨p, off + k * 7 + 1, none⟩ = some (.string x.kind) ∧ w'.cell? ⟨p, off + k * 7 + 2, none⟩ = some (.int .i64 x.k) ∧ w'.cell? ⟨p, off + k * 7 + 3, none⟩ = some (.int .i64 x.n) ∧ w'.cell? ⟨p, off + k * 7 + 4, none⟩ = some (.string x.s) ∧ w'.cell? ⟨p, off + k * 7 + 5, none⟩ = some (.slice x.la x.ln x.lc) ∧ w'.cell? ⟨p, off + k * 7 + 6, none⟩ = some (.slice x.fa x.fn x.fc) ∧ w'.cell? ⟨p2, off2 + k * 7, none⟩ = some (.int .i64 y.id) ∧ w'.cell? ⟨p2, off2 + k * 7 + 1, none⟩ = some (.string y.kind) ∧ w'.cell? ⟨p2, off2 + k * 7 + 2, none⟩ = some (.int .i64 y.k) ∧ w'.cell? ⟨p2, off2 + k * 7 + 3, none⟩ = some (.int .i64 y.n) ∧ w'.cell? ⟨p2, off2 + k * 7 + 4, none⟩ = some (.string y.s) ∧ w'.cell? ⟨p2, off2 + k * 7 + 5, none⟩ = some (.slice y.la y.ln y.lc) ∧ w'.cell? ⟨p2, off2 + k * 7 + 6, none⟩ = some (.slice y.fa y.fn y.fc) ∧ Below wr.heap.size wr w') (go_keep)
          (first | (go_at_call 18; refine Calls.mono (HI.out _ ?_) ?_; exact ⟨‹_›, ‹_›, ‹_›, ‹_›, ‹_›, ‹_›, ‹_›, ‹_›, ‹_›, ‹_›, ‹_›, ‹_›, ‹_›, ‹_›, ‹_›⟩; rintro e w3 ⟨rfl, t0, t1, t2, t3, t4, t5, t6, t7, t8, t9, t10, t11, t12, t13, t14⟩))
        all_goals
          have hw3 := hw.trans (t14.mono hw.size)
          clear t0 t1 t2 t3 t4 t5 t6 t7 t8 t9 t10 t11 t12 t13 t14
          cases q
          · have E : Hid (sl A B = false) := Bool.eq_false_iff.2 (fun h => by
              have h0 := (hsl A B).1 h
              have h1 := HX.out; have h2 := HY.out; rw [h0, h2] at h1
              exact absurd (HQ.out.2 (Option.some.inj h1).symm) (by decide))
            go_wp2_with fail
            go_ret
            exact ⟨ret_bool E.out.symm, hw3⟩
          · go_wp2_with fail
            go_roundw
            case rel =>
              refine ⟨k + 1, by omega, by go_num, fun j hj => ?_, hw3⟩
              rcases Nat.lt_or_ge j k with h | h
              · exact HOK.out j h
              · rw [show j = k by omega, HX.out, HY.out, HQ.out.1 rfl]
            case measure => simp [intOf]; omega
      · have E : Hid (sl A B = true) := (hsl A B).2 (by
          apply List.ext_getElem?
          intro j
          rcases Nat.lt_or_ge j k with h | h
          · exact HOK.out j h
          · have := HL.out
            rw [List.getElem?_eq_none (by omega), List.getElem?_eq_none (by omega)])
        go_wp2_with fail
        go_ret
        exact ⟨ret_bool E.out.symm, hw⟩
  · have n4 : ((A.length : Int) != (B.length : Int)) = true := by simp; omega
    have E : Hid (sl A B = false) := Bool.eq_false_iff.2 (fun h => hl (by rw [(hsl A B).1 h]))
    clear hl
    go_enter Try.func28, Try.ntmps28
    go_wp2_with fail
    go_ret
    exact ⟨ret_bool E.out.symm, Below.refl _ _⟩
end Go.Proofs.Ytlmkpjdaoinmoaa
