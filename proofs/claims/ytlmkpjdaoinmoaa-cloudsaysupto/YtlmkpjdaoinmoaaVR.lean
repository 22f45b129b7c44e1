/- The document's own Alike. -/
import Derived.Test.YtlmkpjdaoinmoaaVI
import Derived.Lib.ItoaNum
import Derived.Test.YtlmkpjdaoinmoaaProg
import Derived.Lib.Bytealg
namespace Go.Proofs.Ytlmkpjdaoinmoaa
open Go.RowKit
namespace V
/-- A test that tells whether two values are the same. -/
def Says (sm : Val → Val → Bool) : Prop := ∀ a b, sm a b = true ↔ a = b
theorem Says.yes {sm : Val → Val → Bool} (h : Says sm) (a b : Val) (e : a = b) : sm a b = true := (h a b).2 e
theorem Says.no {sm : Val → Val → Bool} (h : Says sm) (a b : Val) (e : a ≠ b) : sm a b = false := by
  cases hs : sm a b
  · rfl
  · exact absurd ((h a b).1 hs) e
theorem Says.eq {sm : Val → Val → Bool} (h : Says sm) (a b : Val) (e : sm a b = true) : a = b := (h a b).1 e
theorem says_some : ∃ sm : Val → Val → Bool, Says sm := ⟨fun a b => @decide (a = b) (Classical.propDecidable _), fun a b => by simp⟩
theorem val_ext (a b : Val) (h1 : a.kind = b.kind) (h2 : a.n = b.n) (h3 : a.s = b.s) (h4 : a.l = b.l) (h5 : a.f = b.f) : a = b := by
  cases a; cases b; simp_all
/-- All but what is in them. -/
def above (a b : Val) : Bool := a.kind == b.kind && (a.n == b.n && (a.s.toList == b.s.toList && (a.l.length == b.l.length && a.f.length == b.f.length)))
theorem toList_inj {a b : ByteArray} (h : a.toList = b.toList) : a = b := by
  rw [toList_bl, toList_bl] at h
  rw [← str_bl a, ← str_bl b, h]
theorem above_true (a b : Val) (h : above a b = true) : a.kind = b.kind ∧ a.n = b.n ∧ a.s = b.s ∧ a.l.length = b.l.length ∧ a.f.length = b.f.length := by
  unfold above at h
  simp only [Bool.and_eq_true, beq_iff_eq] at h
  exact ⟨h.1, h.2.1, toList_inj h.2.2.1, h.2.2.2.1, h.2.2.2.2⟩
theorem above_ne (a b : Val) (h : above a b = false) : a ≠ b := by
  rintro rfl
  unfold above at h
  simp at h
end V
set_option maxRecDepth 100000 in
set_option maxHeartbeats 3200000 in
theorem refAlike_any (sm : Val → Val → Bool) (hsm : V.Says sm) (m : Nat) : ∀ (w : World) (a b : Val) (c0 c1 c2 c3 c4 d0 d1 d2 d3 d4 : Value), V.Mem m w a [c0, c1, c2, c3, c4] → V.Mem m w b [d0, d1, d2, d3, d4] → V.bulk m a ≤ 2000000 → V.bulk m b ≤ 2000000 →
    Calls Try.prog 47 #[.agg #[c0, c1, c2, c3, c4], .agg #[d0, d1, d2, d3, d4]] w fun e w' => e = .returned (.bool (sm a b)) ∧ Below w.heap.size w w' := by
  induction m with
  | zero => intro w a b c0 c1 c2 c3 c4 d0 d1 d2 d3 d4 h; exact h.elim
  | succ m ih =>
    intro w a b c0 c1 c2 c3 c4 d0 d1 d2 d3 d4 ⟨lv, fv, hcs, hl, hf⟩ ⟨lv2, fv2, hcs2, hl2, hf2⟩ hbk hbk2
    simp only [List.cons.injEq, and_true] at hcs hcs2
    obtain ⟨rfl, rfl, rfl, rfl, rfl⟩ := hcs
    obtain ⟨rfl, rfl, rfl, rfl, rfl⟩ := hcs2
    have IH : Hid _ := ih
    clear ih
    obtain ⟨al, cl, rfl⟩ := hl.shape
    obtain ⟨af, cf, rfl⟩ := hf.shape
    obtain ⟨al2, cl2, rfl⟩ := hl2.shape
    obtain ⟨af2, cf2, rfl⟩ := hf2.shape
    obtain ⟨bs, bl, bf, bn⟩ := V.bulk_s m a _ hbk
    obtain ⟨bs2, bl2, bf2, bn2⟩ := V.bulk_s m b _ hbk2
    rw [V.bulk] at hbk hbk2
    have hbL : Below w.heap.size w ((w.alloc (.cells #[.int .i64 a.kind, .int .i64 a.n, .string a.s, .slice al a.l.length cl, .slice af a.f.length cf] 40)).alloc (.cells #[.int .i64 b.kind, .int .i64 b.n, .string b.s, .slice al2 b.l.length cl2, .slice af2 b.f.length cf2] 40)) := ((Below.refl _ _).alloc (Nat.le_refl _) _).alloc (by simp) _
    cases hab : V.above a b
    · have E : Hid (sm a b = false) := hsm.no a b (V.above_ne a b hab)
      have HAB : Hid _ := hab
      clear hab
      go_enter Try.func47, Try.ntmps47
      go_wp2_with fail
      all_goals first
        | (go_ret; exact ⟨ret_bool E.out.symm, ((Below.refl _ _).alloc (Nat.le_refl _) _).alloc (by simp) _⟩)
        | (exfalso; rename_i q1 q2 q3 q4 q5 _ _; have q6 := bne_eq_false_iff_eq.1 q5; exact Bool.eq_false_iff.1 HAB.out (by unfold V.above; simp only [Bool.and_eq_true, beq_iff_eq]; exact ⟨q1, q2, q3, by omega, by omega⟩))
    · obtain ⟨e1, e2, e3, e4, e5⟩ := V.above_true a b hab
      have n1 : (a.kind != b.kind) = false := by simp [e1]
      have n2 : (a.n != b.n) = false := by simp [e2]
      have n3 : a.s.toList = b.s.toList := by rw [e3]
      have n4 : ((a.l.length : Int) != (b.l.length : Int)) = false := by simp [e4]
      have n5 : ((a.f.length : Int) != (b.f.length : Int)) = false := by simp [e5]
      have E1 : Hid _ := e1
      have E2 : Hid _ := e2
      have E3 : Hid _ := e3
      have E4 : Hid _ := e4
      have E5 : Hid _ := e5
      clear e1 e2 e3 e4 e5 hab
      have hbA : Below w.heap.size w ((w.alloc (.cells #[.int .i64 a.kind, .int .i64 a.n, .string a.s, .slice al a.l.length cl, .slice af a.f.length cf] 40)).alloc (.cells #[.int .i64 b.kind, .int .i64 b.n, .string b.s, .slice al2 b.l.length cl2, .slice af2 b.f.length cf2] 40)) := hbL
      have hA0 : ((w.alloc (.cells #[.int .i64 a.kind, .int .i64 a.n, .string a.s, .slice al a.l.length cl, .slice af a.f.length cf] 40)).alloc (.cells #[.int .i64 b.kind, .int .i64 b.n, .string b.s, .slice al2 b.l.length cl2, .slice af2 b.f.length cf2] 40)).heap[w.heap.size]? = some (.cells #[.int .i64 a.kind, .int .i64 a.n, .string a.s, .slice al a.l.length cl, .slice af a.f.length cf] 40 (0, 0)) := by rw [heap_alloc_old _ _ (by simp)]; exact heap_alloc_new _ _
      have hB0 : ((w.alloc (.cells #[.int .i64 a.kind, .int .i64 a.n, .string a.s, .slice al a.l.length cl, .slice af a.f.length cf] 40)).alloc (.cells #[.int .i64 b.kind, .int .i64 b.n, .string b.s, .slice al2 b.l.length cl2, .slice af2 b.f.length cf2] 40)).heap[w.heap.size + 1]? = some (.cells #[.int .i64 b.kind, .int .i64 b.n, .string b.s, .slice al2 b.l.length cl2, .slice af2 b.f.length cf2] 40 (0, 0)) := by rw [show w.heap.size + 1 = (w.alloc (.cells #[.int .i64 a.kind, .int .i64 a.n, .string a.s, .slice al a.l.length cl, .slice af a.f.length cf] 40)).heap.size by simp]; exact heap_alloc_new _ _
      clear hbL
      have HL : Hid _ := hl
      have HF : Hid _ := hf
      have HL2 : Hid _ := hl2
      have HF2 : Hid _ := hf2
      clear hl hf hl2 hf2 bn bn2
      go_enter Try.func47, Try.ntmps47
      go_wp2_with fail
      go_loopw [5, 6] (fun vi _ wr => ∃ k : Nat, k ≤ a.l.length ∧ vi = .int .i64 k ∧ (∀ j, j < k → a.l[j]? = b.l[j]?) ∧ wr.heap[w.heap.size]? = some (.cells #[.int .i64 a.kind, .int .i64 a.n, .string a.s, .slice al a.l.length cl, .slice af a.f.length cf] 40 (0, 0)) ∧ wr.heap[w.heap.size + 1]? = some (.cells #[.int .i64 b.kind, .int .i64 b.n, .string b.s, .slice al2 b.l.length cl2, .slice af2 b.f.length cf2] 40 (0, 0)) ∧ Below w.heap.size w wr) (fun vi _ _ => a.l.length - (intOf vi).toNat)
      case atStart => exact ⟨0, Nat.zero_le _, rfl, fun j hj => absurd hj (by omega), hA0, hB0, hbA⟩
      case round =>
        clear hA0 hB0 hbA
        obtain ⟨k, hk, rfl, hok, hA, hB, hw⟩ := hrel
        have HOK : Hid _ := hok
        clear hok
        have a3 := cell_of_block hA 3 _ rfl
        have b3 := cell_of_block hB 3 _ rfl
        have a4 := cell_of_block hA 4 _ rfl
        by_cases hlt : k < a.l.length
        · have hlt2 : k < b.l.length := by have := E4.out; omega
          obtain ⟨p, off, cap, x, x0, x1, x2, x3, x4, e1, hx, hm, u0, u1, u2, u3, u4⟩ := V.elemL (V.Row.kept HL.out hw (fun _ _ ⟨x, hx, hm⟩ => ⟨x, hx, V.Mem.kept m hm hw⟩)) k hlt
          simp only [Value.slice.injEq] at e1
          obtain ⟨rfl, _, rfl⟩ := e1
          obtain ⟨p2, off2, cap2, y, z0, z1, z2, z3, z4, e2, hy, hm2, v0, v1, v2, v3, v4⟩ := V.elemL (V.Row.kept HL2.out hw (fun _ _ ⟨x, hx, hm⟩ => ⟨x, hx, V.Mem.kept m hm hw⟩)) k hlt2
          simp only [Value.slice.injEq] at e2
          obtain ⟨rfl, _, rfl⟩ := e2
          have s1 := V.sumL_le (V.bulk m) a.l k x hx
          have s2 := V.sumL_le (V.bulk m) b.l k y hy
          have hI : ∀ w' : World, (w'.cell? ⟨w.heap.size, 3, none⟩ = some (.slice (some ⟨p, off, none⟩) a.l.length cl) ∧ w'.cell? ⟨w.heap.size + 1, 3, none⟩ = some (.slice (some ⟨p2, off2, none⟩) b.l.length cl2) ∧ w'.cell? ⟨p, off + k * 5, none⟩ = some x0 ∧ w'.cell? ⟨p, off + k * 5 + 1, none⟩ = some x1 ∧ w'.cell? ⟨p, off + k * 5 + 2, none⟩ = some x2 ∧ w'.cell? ⟨p, off + k * 5 + 3, none⟩ = some x3 ∧ w'.cell? ⟨p, off + k * 5 + 4, none⟩ = some x4 ∧ w'.cell? ⟨p2, off2 + k * 5, none⟩ = some z0 ∧ w'.cell? ⟨p2, off2 + k * 5 + 1, none⟩ = some z1 ∧ w'.cell? ⟨p2, off2 + k * 5 + 2, none⟩ = some z2 ∧ w'.cell? ⟨p2, off2 + k * 5 + 3, none⟩ = some z3 ∧ w'.cell? ⟨p2, off2 + k * 5 + 4, none⟩ = some z4 ∧ Below wr.heap.size wr w') → Calls Try.prog 47 #[.agg #[x0, x1, x2, x3, x4], .agg #[z0, z1, z2, z3, z4]] w' fun e w'' => e = .returned (.bool (sm x y)) ∧ w''.cell? ⟨w.heap.size, 3, none⟩ = some (.slice (some ⟨p, off, none⟩) a.l.length cl) ∧ w''.cell? ⟨w.heap.size + 1, 3, none⟩ = some (.slice (some ⟨p2, off2, none⟩) b.l.length cl2) ∧ w''.cell? ⟨p, off + k * 5, none⟩ = some x0 ∧ w''.cell? ⟨p, off + k * 5 + 1, none⟩ = some x1 ∧ w''.cell? ⟨p, off + k * 5 + 2, none⟩ = some x2 ∧ w''.cell? ⟨p, off + k * 5 + 3, none⟩ = some x3 ∧ w''.cell? ⟨p, off + k * 5 + 4, none⟩ = some x4 ∧ w''.cell? ⟨p2, off2 + k * 5, none⟩ = some z0 ∧ w''.cell? ⟨p2, off2 + k * 5 + 1, none⟩ = some z1 ∧ w''.cell? ⟨p2, off2 + k * 5 + 2, none⟩ = some z2 ∧ w''.cell? ⟨p2, off2 + k * 5 + 3, none⟩ = some z3 ∧ w''.cell? ⟨p2, off2 + k * 5 + 4, none⟩ = some z4 ∧ Below wr.heap.size wr w'' := by
            intro w' ⟨t0, t1, t2, t3, t4, t5, t6, t7, t8, t9, t10, t11, t12⟩
            refine (IH.out w' x y x0 x1 x2 x3 x4 z0 z1 z2 z3 z4 (V.Mem.kept m hm t12) (V.Mem.kept m hm2 t12) (by omega) (by omega)).mono ?_
            rintro e w'' ⟨rfl, hb⟩
            exact ⟨rfl, kept_cell hb t0, kept_cell hb t1, kept_cell hb t2, kept_cell hb t3, kept_cell hb t4, kept_cell hb t5, kept_cell hb t6, kept_cell hb t7, kept_cell hb t8, kept_cell hb t9, kept_cell hb t10, kept_cell hb t11, t12.trans (hb.mono t12.size)⟩
          have HI : Hid _ := hI
          have HX : Hid _ := hx
          have HY : Hid _ := hy
          have HA : Hid _ := hA
          have HB : Hid _ := hB
          have hbd : Below wr.heap.size wr wr.drew := below_drewN (Below.refl _ _) 1
          have hlA : w.heap.size < wr.heap.size := (Array.getElem?_eq_some_iff.1 hA).1
          have hlB : w.heap.size + 1 < wr.heap.size := (Array.getElem?_eq_some_iff.1 hB).1
          clear hI hm hm2 hx hy hA hB s1 s2 a4
          generalize hq : sm x y = q at *
          have HQ : Hid _ := hq
          clear hq
          go_wp2_with fail
          go_region_held3 (fun w' => w'.cell? ⟨w.heap.size, 3, none⟩ = some (.slice (some ⟨p, off, none⟩) a.l.length cl) ∧ w'.cell? ⟨w.heap.size + 1, 3, none⟩ = some (.slice (some ⟨p2, off2, none⟩) b.l.length cl2) ∧ w'.cell? ⟨p, off + k * 5, none⟩ = some x0 ∧ w'.cell? ⟨p, off + k * 5 + 1, none⟩ = some x1 ∧ w'.cell? ⟨p, off + k * 5 + 2, none⟩ = some x2 ∧ w'.cell? ⟨p, off + k * 5 + 3, none⟩ = some x3 ∧ w'.cell? ⟨p, off + k * 5 + 4, none⟩ = some x4 ∧ w'.cell? ⟨p2, off2 + k * 5, none⟩ = some z0 ∧ w'.cell? ⟨p2, off2 + k * 5 + 1, none⟩ = some z1 ∧ w'.cell? ⟨p2, off2 + k * 5 + 2, none⟩ = some z2 ∧ w'.cell? ⟨p2, off2 + k * 5 + 3, none⟩ = some z3 ∧ w'.cell? ⟨p2, off2 + k * 5 + 4, none⟩ = some z4 ∧ Below wr.heap.size wr w') (go_keep)
            (first | (go_at_call 47; refine Calls.mono (HI.out _ ?_) ?_; exact ⟨‹_›, ‹_›, ‹_›, ‹_›, ‹_›, ‹_›, ‹_›, ‹_›, ‹_›, ‹_›, ‹_›, ‹_›, ‹_›⟩; rintro e w3 ⟨rfl, t0, t1, t2, t3, t4, t5, t6, t7, t8, t9, t10, t11, t12⟩))
          all_goals
            have hA3 := (t12.block w.heap.size hlA).trans HA.out
            have hB3 := (t12.block (w.heap.size + 1) hlB).trans HB.out
            have hw3 := hw.trans (t12.mono hw.size)
            clear t0 t1 t2 t3 t4 t5 t6 t7 t8 t9 t10 t11 t12
            cases q
            · have E : Hid (sm a b = false) := hsm.no a b (fun h => by
                have h1 := HX.out; have h2 := HY.out; rw [h, h2] at h1
                have h3 := HQ.out; rw [hsm.yes x y (Option.some.inj h1).symm] at h3; exact absurd h3 (by decide))
              go_wp2_with fail
              go_ret
              exact ⟨ret_bool E.out.symm, hw3⟩
            · go_wp2_with fail
              go_roundw
              case rel =>
                refine ⟨k + 1, by omega, by go_num, fun j hj => ?_, hA3, hB3, hw3⟩
                rcases Nat.lt_or_ge j k with h | h
                · exact HOK.out j h
                · rw [show j = k by omega, HX.out, HY.out, hsm.eq x y HQ.out]
              case measure => simp [intOf]; omega
        · have HLL : Hid (a.l = b.l) := by
            show _ = _
            apply List.ext_getElem?
            intro j
            rcases Nat.lt_or_ge j a.l.length with h | h
            · exact HOK.out j (by omega)
            · rw [List.getElem?_eq_none h, List.getElem?_eq_none (by have := E4.out; omega)]
          clear HOK HL HL2 b3
          go_wp2_with fail
          go_loopw [7, 8] (fun vi _ wr => ∃ k : Nat, k ≤ a.f.length ∧ vi = .int .i64 k ∧ (∀ j, j < k → a.f[j]? = b.f[j]?) ∧ wr.heap[w.heap.size]? = some (.cells #[.int .i64 a.kind, .int .i64 a.n, .string a.s, .slice al a.l.length cl, .slice af a.f.length cf] 40 (0, 0)) ∧ wr.heap[w.heap.size + 1]? = some (.cells #[.int .i64 b.kind, .int .i64 b.n, .string b.s, .slice al2 b.l.length cl2, .slice af2 b.f.length cf2] 40 (0, 0)) ∧ Below w.heap.size w wr) (fun vi _ _ => a.f.length - (intOf vi).toNat)
          case atStart => exact ⟨0, Nat.zero_le _, rfl, fun j hj => absurd hj (by omega), hA, hB, hw⟩
          case round =>
            clear hA hB hw a3 a4
            obtain ⟨k, hk, rfl, hok, hA, hB, hw⟩ := hrel
            have HOK : Hid _ := hok
            clear hok
            have a4 := cell_of_block hA 4 _ rfl
            have b4 := cell_of_block hB 4 _ rfl
            by_cases hlt : k < a.f.length
            · have hlt2 : k < b.f.length := by have := E5.out; omega
              obtain ⟨p, off, cap, x, x0, x1, x2, x3, x4, e1, hx, hm, un, u0, u1, u2, u3, u4⟩ := V.elemF (V.Row.kept HF.out hw (fun _ _ ⟨x, c', hx, hc, hm⟩ => ⟨x, c', hx, hc, V.Mem.kept m hm hw⟩)) k hlt
              simp only [Value.slice.injEq] at e1
              obtain ⟨rfl, _, rfl⟩ := e1
              obtain ⟨p2, off2, cap2, y, z0, z1, z2, z3, z4, e2, hy, hm2, vn, v0, v1, v2, v3, v4⟩ := V.elemF (V.Row.kept HF2.out hw (fun _ _ ⟨x, c', hx, hc, hm⟩ => ⟨x, c', hx, hc, V.Mem.kept m hm hw⟩)) k hlt2
              simp only [Value.slice.injEq] at e2
              obtain ⟨rfl, _, rfl⟩ := e2
              have s1 := V.sumF_le (fun x => x.1.size + V.bulk m x.2) a.f k x hx
              have s2 := V.sumF_le (fun x => x.1.size + V.bulk m x.2) b.f k y hy
              have hI : ∀ w' : World, (w'.cell? ⟨w.heap.size, 4, none⟩ = some (.slice (some ⟨p, off, none⟩) a.f.length cf) ∧ w'.cell? ⟨w.heap.size + 1, 4, none⟩ = some (.slice (some ⟨p2, off2, none⟩) b.f.length cf2) ∧ w'.cell? ⟨p, off + k * 6 + 1, none⟩ = some x0 ∧ w'.cell? ⟨p, off + k * 6 + 2, none⟩ = some x1 ∧ w'.cell? ⟨p, off + k * 6 + 3, none⟩ = some x2 ∧ w'.cell? ⟨p, off + k * 6 + 4, none⟩ = some x3 ∧ w'.cell? ⟨p, off + k * 6 + 5, none⟩ = some x4 ∧ w'.cell? ⟨p2, off2 + k * 6 + 1, none⟩ = some z0 ∧ w'.cell? ⟨p2, off2 + k * 6 + 2, none⟩ = some z1 ∧ w'.cell? ⟨p2, off2 + k * 6 + 3, none⟩ = some z2 ∧ w'.cell? ⟨p2, off2 + k * 6 + 4, none⟩ = some z3 ∧ w'.cell? ⟨p2, off2 + k * 6 + 5, none⟩ = some z4 ∧ Below wr.heap.size wr w') → Calls Try.prog 47 #[.agg #[x0, x1, x2, x3, x4], .agg #[z0, z1, z2, z3, z4]] w' fun e w'' => e = .returned (.bool (sm x.2 y.2)) ∧ w''.cell? ⟨w.heap.size, 4, none⟩ = some (.slice (some ⟨p, off, none⟩) a.f.length cf) ∧ w''.cell? ⟨w.heap.size + 1, 4, none⟩ = some (.slice (some ⟨p2, off2, none⟩) b.f.length cf2) ∧ w''.cell? ⟨p, off + k * 6 + 1, none⟩ = some x0 ∧ w''.cell? ⟨p, off + k * 6 + 2, none⟩ = some x1 ∧ w''.cell? ⟨p, off + k * 6 + 3, none⟩ = some x2 ∧ w''.cell? ⟨p, off + k * 6 + 4, none⟩ = some x3 ∧ w''.cell? ⟨p, off + k * 6 + 5, none⟩ = some x4 ∧ w''.cell? ⟨p2, off2 + k * 6 + 1, none⟩ = some z0 ∧ w''.cell? ⟨p2, off2 + k * 6 + 2, none⟩ = some z1 ∧ w''.cell? ⟨p2, off2 + k * 6 + 3, none⟩ = some z2 ∧ w''.cell? ⟨p2, off2 + k * 6 + 4, none⟩ = some z3 ∧ w''.cell? ⟨p2, off2 + k * 6 + 5, none⟩ = some z4 ∧ Below wr.heap.size wr w'' := by
                intro w' ⟨t0, t1, t2, t3, t4, t5, t6, t7, t8, t9, t10, t11, t12⟩
                refine (IH.out w' x.2 y.2 x0 x1 x2 x3 x4 z0 z1 z2 z3 z4 (V.Mem.kept m hm t12) (V.Mem.kept m hm2 t12) (by omega) (by omega)).mono ?_
                rintro e w'' ⟨rfl, hb⟩
                exact ⟨rfl, kept_cell hb t0, kept_cell hb t1, kept_cell hb t2, kept_cell hb t3, kept_cell hb t4, kept_cell hb t5, kept_cell hb t6, kept_cell hb t7, kept_cell hb t8, kept_cell hb t9, kept_cell hb t10, kept_cell hb t11, t12.trans (hb.mono t12.size)⟩
              have HI : Hid _ := hI
              have HX : Hid _ := hx
              have HY : Hid _ := hy
              have HA : Hid _ := hA
              have HB : Hid _ := hB
              have UN : Hid _ := un
              have VN : Hid _ := vn
              have hbd : Below wr.heap.size wr wr.drew := below_drewN (Below.refl _ _) 1
              have hlA : w.heap.size < wr.heap.size := (Array.getElem?_eq_some_iff.1 hA).1
              have hlB : w.heap.size + 1 < wr.heap.size := (Array.getElem?_eq_some_iff.1 hB).1
              clear hI hm hm2 hx hy hA hB s1 s2 un vn
              generalize hq : sm x.2 y.2 = q at *
              have HQ : Hid _ := hq
              clear hq
              go_wp2_with fail
              go_region_held3 (fun w' => w'.cell? ⟨w.heap.size, 4, none⟩ = some (.slice (some ⟨p, off, none⟩) a.f.length cf) ∧ w'.cell? ⟨w.heap.size + 1, 4, none⟩ = some (.slice (some ⟨p2, off2, none⟩) b.f.length cf2) ∧ w'.cell? ⟨p, off + k * 6 + 1, none⟩ = some x0 ∧ w'.cell? ⟨p, off + k * 6 + 2, none⟩ = some x1 ∧ w'.cell? ⟨p, off + k * 6 + 3, none⟩ = some x2 ∧ w'.cell? ⟨p, off + k * 6 + 4, none⟩ = some x3 ∧ w'.cell? ⟨p, off + k * 6 + 5, none⟩ = some x4 ∧ w'.cell? ⟨p2, off2 + k * 6 + 1, none⟩ = some z0 ∧ w'.cell? ⟨p2, off2 + k * 6 + 2, none⟩ = some z1 ∧ w'.cell? ⟨p2, off2 + k * 6 + 3, none⟩ = some z2 ∧ w'.cell? ⟨p2, off2 + k * 6 + 4, none⟩ = some z3 ∧ w'.cell? ⟨p2, off2 + k * 6 + 5, none⟩ = some z4 ∧ Below wr.heap.size wr w') (go_keep)
                (first | (go_at_call 47; refine Calls.mono (HI.out _ ?_) ?_; exact ⟨‹_›, ‹_›, ‹_›, ‹_›, ‹_›, ‹_›, ‹_›, ‹_›, ‹_›, ‹_›, ‹_›, ‹_›, ‹_›⟩; rintro e w3 ⟨rfl, t0, t1, t2, t3, t4, t5, t6, t7, t8, t9, t10, t11, t12⟩))
              all_goals
                have hA3 := (t12.block w.heap.size hlA).trans HA.out
                have hB3 := (t12.block (w.heap.size + 1) hlB).trans HB.out
                have hw3 := hw.trans (t12.mono hw.size)
                have un := kept_cell t12 UN.out
                have vn := kept_cell t12 VN.out
                clear t2 t3 t4 t5 t6 t7 t8 t9 t10 t11 t12 u0 v0 u1 v1 u2 v2 u3 v3 u4 v4 a4 b4
                cases q
                · have E : Hid (sm a b = false) := hsm.no a b (fun h => by
                    have h1 := HX.out; have h2 := HY.out; rw [h, h2] at h1
                    have h3 := HQ.out; rw [hsm.yes x.2 y.2 (by rw [Option.some.inj h1])] at h3; exact absurd h3 (by decide))
                  go_wp2_with fail
                  go_quiet (fail)
                  go_wp2_with fail
                  go_ret
                  exact ⟨ret_bool E.out.symm, below_drewN hw3 _⟩
                · by_cases hnm : x.1.toList = y.1.toList
                  · have HN : Hid (x = y) := Prod.ext (V.toList_inj hnm) (hsm.eq _ _ HQ.out)
                    go_wp2_with fail
                    go_quiet (fail)
                    go_wp2_with fail
                    go_roundw
                    case rel =>
                      refine ⟨k + 1, by omega, by go_num, fun j hj => ?_, hA3, hB3, below_drewN hw3 _⟩
                      rcases Nat.lt_or_ge j k with h | h
                      · exact HOK.out j h
                      · rw [show j = k by omega, HX.out, HY.out, HN.out]
                    case measure => simp [intOf]; omega
                  · have E : Hid (sm a b = false) := hsm.no a b (fun h => by
                      have h1 := HX.out; have h2 := HY.out; rw [h, h2] at h1
                      exact hnm (by rw [Option.some.inj h1]))
                    have g1 : (x.1.toList == y.1.toList) = false := beq_eq_false_iff_ne.2 hnm
                    clear hnm
                    go_wp2_with fail
                    go_quiet (fail)
                    go_wp2_with fail
                    go_ret
                    exact ⟨ret_bool E.out.symm, below_drewN hw3 _⟩
            · have E : Hid (sm a b = true) := hsm.yes a b (V.val_ext a b E1.out E2.out E3.out HLL.out (by
                apply List.ext_getElem?
                intro j
                rcases Nat.lt_or_ge j a.f.length with h | h
                · exact HOK.out j (by omega)
                · rw [List.getElem?_eq_none h, List.getElem?_eq_none (by have := E5.out; omega)]))
              go_wp2_with fail
              go_ret
              exact ⟨ret_bool E.out.symm, hw⟩
end Go.Proofs.Ytlmkpjdaoinmoaa
