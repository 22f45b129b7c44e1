/- LightStacks: it answers, whatever it is. -/
import Derived.Test.YtienhelohfhhfaaXL
namespace Go.Proofs.Ytienhelohfhhfaa.Vx
open Go.RowKit
def X.SomeB (o : Ending) : Prop := ∃ b : Bool, o = .returned (.bool b)
theorem X.elemP {m : Nat} {w : World} {v : Value} {l : List (ByteArray × Ex)} (h : X.Named m w v l) (i : Nat) (hi : i < l.length) :
    ∃ b off cap x f0 f1 f2 f3 f4 f5 f6 f7 f8 f9, v = .slice (some ⟨b, off, none⟩) l.length cap ∧ l[i]? = some x ∧ X.Mem m w x.2 [f0, f1, f2, f3, f4, f5, f6, f7, f8, f9] ∧ w.cell? ⟨b, off + i * 11, none⟩ = some (.string x.1) ∧
      w.cell? ⟨b, off + i * 11 + 1, none⟩ = some f0 ∧ w.cell? ⟨b, off + i * 11 + 2, none⟩ = some f1 ∧ w.cell? ⟨b, off + i * 11 + 3, none⟩ = some f2 ∧ w.cell? ⟨b, off + i * 11 + 4, none⟩ = some f3 ∧ w.cell? ⟨b, off + i * 11 + 5, none⟩ = some f4 ∧ w.cell? ⟨b, off + i * 11 + 6, none⟩ = some f5 ∧ w.cell? ⟨b, off + i * 11 + 7, none⟩ = some f6 ∧ w.cell? ⟨b, off + i * 11 + 8, none⟩ = some f7 ∧ w.cell? ⟨b, off + i * 11 + 9, none⟩ = some f8 ∧ w.cell? ⟨b, off + i * 11 + 10, none⟩ = some f9 := by
  obtain ⟨b, off, cap, x, al, cl, af, cf, aa, ca, an, cn, h1, h2, h3, h4, h5, h6, h7, h8, h9, k1, k2, k3, k4, k5⟩ := X.elemE h i hi
  exact ⟨b, off, cap, x, _, _, _, _, _, _, _, _, _, _, h1, h2, h3, h4, h5, h6, h7, h8, h9, k1, k2, k3, k4, k5⟩
set_option maxRecDepth 100000 in
set_option maxHeartbeats 8000000 in
theorem lightStacks_any (m : Nat) (l : List Sk) (v : Value) (w : World) (h : X.Stks m w v l) (hbk : ∀ x : Sk, x ∈ l → X.bulkS m x ≤ 2000000) :
    Calls Try.prog 29 #[v] w fun o w' => X.SomeB o ∧ Below w.heap.size w w' := by
  obtain ⟨av, cv, rfl⟩ := V.Row.shape h
  have H := hide h
  have HBK := hide hbk
  clear h hbk
  by_cases hlen : 12 < l.length
  · go_enter Try.func29, Try.ntmps29
    go_wp2_with fail
    go_ret
    exact ⟨⟨false, rfl⟩, Below.refl _ _⟩
  go_enter Try.func29, Try.ntmps29
  go_wp2_with fail
  go_loopw [3, 4] (fun vn vi wr => ∃ k : Nat, k ≤ l.length ∧ vi = .int .i64 k ∧ (∃ n : Int, vn = .int .i64 n) ∧ Below w.heap.size w wr) (fun _ vi _ => l.length - (intOf vi).toNat)
  case atStart => exact ⟨0, Nat.zero_le _, rfl, ⟨_, rfl⟩, Below.refl _ _⟩
  case round =>
    obtain ⟨wO, hwO⟩ : ∃ z, z = wr := ⟨_, rfl⟩
    subst hwO
    obtain ⟨i, hi, rfl, ⟨n, rfl⟩, hB⟩ := hrel
    by_cases hlt : i < l.length
    · obtain ⟨b, off, cap, x, ai, ci, ar, cr, ao, co, e1, hx, hI, hR, hO, y0, y1, y2, y3⟩ := X.elemS (H.out.kept hB) i hlt
      simp only [Value.slice.injEq] at e1
      obtain ⟨rfl, _, rfl⟩ := e1
      have hbx : X.bulkS m x ≤ 2000000 := HBK.out x (List.mem_of_getElem? hx)
      have hbL : Below wO.heap.size wO (wO.alloc (.cells #[.string x.name, .slice ai x.ins.length ci, .slice ar x.res.length cr, .slice ao x.outs.length co] 66)) := (Below.refl _ _).alloc (Nat.le_refl _) _
      have hE0 : (wO.alloc (.cells #[.string x.name, .slice ai x.ins.length ci, .slice ar x.res.length cr, .slice ao x.outs.length co] 66)).heap[wO.heap.size]? = some (.cells #[.string x.name, .slice ai x.ins.length ci, .slice ar x.res.length cr, .slice ao x.outs.length co] 66 (0, 0)) := heap_alloc_new _ _
      have hbs := id hbx
      unfold X.bulkS at hbs
      have HE0 := hide hE0
      have HBL := hide hbL
      have HI := hide hI
      have HR := hide hR
      have HO := hide hO
      have HS1 : Hid (X.sumI m x.ins ≤ 2000000) := by show _ ≤ _; omega
      have HS2 : Hid (X.sumR m x.res ≤ 2000000) := by show _ ≤ _; omega
      have HS3 : Hid (X.sumP m x.outs ≤ 2000000) := by show _ ≤ _; omega
      have hl1 : x.ins.length ≤ 2000000 := by omega
      have hl2 : x.res.length ≤ 2000000 := by omega
      have hl3 : x.outs.length ≤ 2000000 := by omega
      have HB := hide hB
      clear hE0 hbL hI hR hO hx hbx hbs hB
      go_wp2_with fail
      all_goals try (go_ret; exact ⟨⟨false, rfl⟩, HB.out.trans (HBL.out.mono HB.out.size)⟩)
      clear y0 y1 y2 y3
      go_loopw [3, 6] (fun vn vi wy => ∃ k : Nat, k ≤ x.ins.length ∧ vi = .int .i64 k ∧ (∃ n : Int, vn = .int .i64 n) ∧ wy.heap[wO.heap.size]? = some (.cells #[.string x.name, .slice ai x.ins.length ci, .slice ar x.res.length cr, .slice ao x.outs.length co] 66 (0, 0)) ∧ Below wO.heap.size wO wy) (fun _ vi _ => x.ins.length - (intOf vi).toNat)
      case atStart => exact ⟨0, Nat.zero_le _, rfl, ⟨_, rfl⟩, HE0.out, HBL.out⟩
      case round =>
        obtain ⟨wy, hwy⟩ : ∃ z, z = wr := ⟨_, rfl⟩
        subst hwy
        clear HE0 HBL
        obtain ⟨k, hk, rfl, ⟨n, rfl⟩, hblk, hBy⟩ := hrel
        have b1 := cell_of_block hblk 1 _ rfl
        by_cases hlt : k < x.ins.length
        · obtain ⟨b2, off2, cap2, u, f0, f1, f2, f3, f4, e1, hu, hm, zn, z0, z1, z2, z3, z4⟩ := V.elemF (HI.out.kept hBy) k hlt
          simp only [Value.slice.injEq] at e1
          obtain ⟨rfl, _, rfl⟩ := e1
          have hbu : V.bulk m u.2 ≤ 2000000 := (X.sumI_mem (List.mem_of_getElem? hu) HS1.out).2
          have hlt2 : wO.heap.size < wy.heap.size := (Array.getElem?_eq_some_iff.1 hblk).1
          have HC : Hid (∀ w', Below wy.heap.size wy w' → Calls Try.prog 44 #[.agg #[f0, f1, f2, f3, f4], .int .i64 9000] w' fun e w'' => (∃ n : Int, e = .returned (.int .i64 n)) ∧ Below w'.heap.size w' w'') := fun w' hb => weight_any 9000 m w' u.2 f0 f1 f2 f3 f4 (V.Mem.kept _ hm hb) hbu
          have hd0 : Below wy.heap.size wy wy.drew := (Below.refl _ _).drew
          have HBLK := hide hblk
          have HBY := hide hBy
          clear hm hu hbu hblk hBy
          go_wp2_with fail
          go_region_held3 (fun W' => W'.cell? ⟨wO.heap.size, 1, none⟩ = some (.slice (some ⟨b2, off2, none⟩) x.ins.length ci) ∧ W'.cell? ⟨b2, off2 + k * 6, none⟩ = some (.string u.1) ∧ W'.cell? ⟨b2, off2 + k * 6 + 1, none⟩ = some f0 ∧ W'.cell? ⟨b2, off2 + k * 6 + 2, none⟩ = some f1 ∧ W'.cell? ⟨b2, off2 + k * 6 + 3, none⟩ = some f2 ∧ W'.cell? ⟨b2, off2 + k * 6 + 4, none⟩ = some f3 ∧ W'.cell? ⟨b2, off2 + k * 6 + 5, none⟩ = some f4 ∧ Below wy.heap.size wy W') (first | exact ⟨b1, zn, z0, z1, z2, z3, z4, hd0⟩ | exact ⟨q, qn, q0, q1, q2, q3, q4, t3⟩ | go_keep)
            (first | (go_at_call 44; (with_reducible refine Calls.mono (HC.out _ ?_) ?_); assumption; rintro o w3 ⟨⟨n2, rfl⟩, hb3⟩; have t3 := hd0.trans (hb3.mono (Nat.le_refl _)); have q := kept_cell t3 b1; have qn := kept_cell t3 zn; have q0 := kept_cell t3 z0; have q1 := kept_cell t3 z1; have q2 := kept_cell t3 z2; have q3 := kept_cell t3 z3; have q4 := kept_cell t3 z4))
          have HT := hide t3
          clear t3 q qn q0 q1 q2 q3 q4 b1 zn z0 z1 z2 z3 z4 hb3 hd0 HC
          go_wp2_with fail
          go_roundw
          case rel => exact ⟨k + 1, by omega, by go_num, ⟨_, rfl⟩, (HT.out.block wO.heap.size hlt2).trans HBLK.out, HBY.out.trans (HT.out.mono HBY.out.size)⟩
          case measure => simp [intOf]; omega
        · go_wp2_with fail
          clear b1
          go_loopw [3, 7] (fun vn vi wy => ∃ k : Nat, k ≤ x.res.length ∧ vi = .int .i64 k ∧ (∃ n : Int, vn = .int .i64 n) ∧ wy.heap[wO.heap.size]? = some (.cells #[.string x.name, .slice ai x.ins.length ci, .slice ar x.res.length cr, .slice ao x.outs.length co] 66 (0, 0)) ∧ Below wO.heap.size wO wy) (fun _ vi _ => x.res.length - (intOf vi).toNat)
          case atStart => exact ⟨0, Nat.zero_le _, rfl, ⟨_, rfl⟩, hblk, hBy⟩
          case round =>
            clear hblk hBy
            obtain ⟨wy, hwy⟩ : ∃ z, z = wr := ⟨_, rfl⟩
            subst hwy
            obtain ⟨j, hj, rfl, ⟨n, rfl⟩, hblk, hBy⟩ := hrel
            have b1 := cell_of_block hblk 2 _ rfl
            have hgo : (j < x.res.length ∧ n < 9000) ∨ ¬ j < x.res.length ∨ (j < x.res.length ∧ 9000 ≤ n) := by omega
            rcases hgo with ⟨hltj, hn⟩ | hno
            · obtain ⟨b3, off3, cap3, y, ap, cp, e1, hy, hNm, z0, z1, z2⟩ := X.elemR (HR.out.kept hBy) j hltj
              simp only [Value.slice.injEq] at e1
              obtain ⟨rfl, _, rfl⟩ := e1
              have hsp : X.sumP m y.parts ≤ 2000000 := (X.sumR_mem (List.mem_of_getElem? hy) HS2.out).2.2
              have hlo : wO.heap.size < wy.heap.size := (Array.getElem?_eq_some_iff.1 hblk).1
              have hbL3 : Below wy.heap.size wy (wy.alloc (.cells #[.string y.kind, .string y.name, .slice ap y.parts.length cp] 105)) := (Below.refl _ _).alloc (Nat.le_refl _) _
              have hE3 : (wy.alloc (.cells #[.string y.kind, .string y.name, .slice ap y.parts.length cp] 105)).heap[wy.heap.size]? = some (.cells #[.string y.kind, .string y.name, .slice ap y.parts.length cp] 105 (0, 0)) := heap_alloc_new _ _
              have HSP := hide hsp
              have HL3 := hide hbL3
              have HE3 := hide hE3
              have HNM := hide hNm
              have HBLK3 := hide hblk
              have HBY3 := hide hBy
              clear hsp hbL3 hE3 hNm hblk hBy hy
              by_cases hpl : 12 < y.parts.length
              · go_wp2_with fail
                go_ret
                exact ⟨⟨false, rfl⟩, HB.out.trans ((HBY3.out.trans (HL3.out.mono HBY3.out.size)).mono HB.out.size)⟩
              · go_wp2_with fail
                clear z0 z1 z2 b1
                go_loopw [3, 9] (fun vn vi wz => ∃ k : Nat, k ≤ y.parts.length ∧ vi = .int .i64 k ∧ (∃ n : Int, vn = .int .i64 n) ∧ wz.heap[wy.heap.size]? = some (.cells #[.string y.kind, .string y.name, .slice ap y.parts.length cp] 105 (0, 0)) ∧ Below wy.heap.size wy wz) (fun _ vi _ => y.parts.length - (intOf vi).toNat)
                case atStart => exact ⟨0, Nat.zero_le _, rfl, ⟨_, rfl⟩, HE3.out, HL3.out⟩
                case round =>
                  clear HE3 HL3
                  obtain ⟨wz, hwz⟩ : ∃ z, z = wr := ⟨_, rfl⟩
                  subst hwz
                  obtain ⟨k, hk, rfl, ⟨n, rfl⟩, hblk, hBy⟩ := hrel
                  have b1 := cell_of_block hblk 2 _ rfl
                  have hgo : (k < y.parts.length ∧ n < 9000) ∨ ¬ k < y.parts.length ∨ (k < y.parts.length ∧ 9000 ≤ n) := by omega
                  rcases hgo with ⟨hlt, hn⟩ | hno
                  · obtain ⟨b2, off2, cap2, u, f0, f1, f2, f3, f4, f5, f6, f7, f8, f9, e1, hu, hm, zn, z0, z1, z2, z3, z4, z5, z6, z7, z8, z9⟩ := X.elemP (HNM.out.kept hBy) k hlt
                    simp only [Value.slice.injEq] at e1
                    obtain ⟨rfl, _, rfl⟩ := e1
                    have hbu : X.bulk m u.2 ≤ 2000000 := (X.sumP_mem (List.mem_of_getElem? hu) HSP.out).2
                    have hlt2 : wy.heap.size < wz.heap.size := (Array.getElem?_eq_some_iff.1 hblk).1
                    have HC : Hid (∀ w', Below wz.heap.size wz w' → Calls Try.prog 45 #[.agg #[f0, f1, f2, f3, f4, f5, f6, f7, f8, f9], .int .i64 9000] w' fun e w'' => (∃ n : Int, e = .returned (.int .i64 n)) ∧ Below w'.heap.size w' w'') := fun w' hb => load_any 9000 m w' u.2 f0 f1 f2 f3 f4 f5 f6 f7 f8 f9 (X.Mem.kept _ hm hb) hbu
                    have hd0 : Below wz.heap.size wz wz.drew := (Below.refl _ _).drew
                    have HBLK := hide hblk
                    have HBY := hide hBy
                    clear hm hu hbu hblk hBy
                    go_wp2_with fail
                    go_region_held3 (fun W' => W'.cell? ⟨wy.heap.size, 2, none⟩ = some (.slice (some ⟨b2, off2, none⟩) y.parts.length cp) ∧ W'.cell? ⟨b2, off2 + k * 11, none⟩ = some (.string u.1) ∧ W'.cell? ⟨b2, off2 + k * 11 + 1, none⟩ = some f0 ∧ W'.cell? ⟨b2, off2 + k * 11 + 2, none⟩ = some f1 ∧ W'.cell? ⟨b2, off2 + k * 11 + 3, none⟩ = some f2 ∧ W'.cell? ⟨b2, off2 + k * 11 + 4, none⟩ = some f3 ∧ W'.cell? ⟨b2, off2 + k * 11 + 5, none⟩ = some f4 ∧ W'.cell? ⟨b2, off2 + k * 11 + 6, none⟩ = some f5 ∧ W'.cell? ⟨b2, off2 + k * 11 + 7, none⟩ = some f6 ∧ W'.cell? ⟨b2, off2 + k * 11 + 8, none⟩ = some f7 ∧ W'.cell? ⟨b2, off2 + k * 11 + 9, none⟩ = some f8 ∧ W'.cell? ⟨b2, off2 + k * 11 + 10, none⟩ = some f9 ∧ Below wz.heap.size wz W') (first | exact ⟨b1, zn, z0, z1, z2, z3, z4, z5, z6, z7, z8, z9, hd0⟩ | exact ⟨q, qn, q0, q1, q2, q3, q4, q5, q6, q7, q8, q9, t3⟩ | go_keep)
                      (first | (go_at_call 45; (with_reducible refine Calls.mono (HC.out _ ?_) ?_); assumption; rintro o w3 ⟨⟨n2, rfl⟩, hb3⟩; have t3 := hd0.trans (hb3.mono (Nat.le_refl _)); have q := kept_cell t3 b1; have qn := kept_cell t3 zn; have q0 := kept_cell t3 z0; have q1 := kept_cell t3 z1; have q2 := kept_cell t3 z2; have q3 := kept_cell t3 z3; have q4 := kept_cell t3 z4; have q5 := kept_cell t3 z5; have q6 := kept_cell t3 z6; have q7 := kept_cell t3 z7; have q8 := kept_cell t3 z8; have q9 := kept_cell t3 z9))
                    have HT := hide t3
                    clear t3 q qn q0 q1 q2 q3 q4 q5 q6 q7 q8 q9 b1 zn z0 z1 z2 z3 z4 z5 z6 z7 z8 z9 hb3 hd0 HC
                    go_wp2_with fail
                    go_roundw
                    case rel => exact ⟨k + 1, by omega, by go_num, ⟨_, rfl⟩, (HT.out.block wy.heap.size hlt2).trans HBLK.out, HBY.out.trans (HT.out.mono HBY.out.size)⟩
                    case measure => simp [intOf]; omega
                  · rcases hno with hno | ⟨hno, hn⟩
                    all_goals
                      go_wp2_with fail
                      go_roundw
                      case rel => exact ⟨j + 1, by omega, by go_num, ⟨_, rfl⟩, (hBy.block wO.heap.size hlo).trans HBLK3.out, HBY3.out.trans (hBy.mono HBY3.out.size)⟩
                      case measure => simp [intOf]; omega
            · rcases hno with hno | ⟨hno, hn⟩
              all_goals
                go_wp2_with fail
                clear b1
                go_loopw [3, 10] (fun vn vi wy => ∃ k : Nat, k ≤ x.outs.length ∧ vi = .int .i64 k ∧ (∃ n : Int, vn = .int .i64 n) ∧ wy.heap[wO.heap.size]? = some (.cells #[.string x.name, .slice ai x.ins.length ci, .slice ar x.res.length cr, .slice ao x.outs.length co] 66 (0, 0)) ∧ Below wO.heap.size wO wy) (fun _ vi _ => x.outs.length - (intOf vi).toNat)
                case atStart => exact ⟨0, Nat.zero_le _, rfl, ⟨_, rfl⟩, hblk, hBy⟩
                case round =>
                  clear hblk hBy
                  obtain ⟨wz, hwz⟩ : ∃ z, z = wr := ⟨_, rfl⟩
                  subst hwz
                  obtain ⟨k, hk, rfl, ⟨n, rfl⟩, hblk, hBy⟩ := hrel
                  have b1 := cell_of_block hblk 3 _ rfl
                  have hgo : (k < x.outs.length ∧ n < 9000) ∨ ¬ k < x.outs.length ∨ (k < x.outs.length ∧ 9000 ≤ n) := by omega
                  rcases hgo with ⟨hlt, hn⟩ | hno
                  · obtain ⟨b2, off2, cap2, u, f0, f1, f2, f3, f4, f5, f6, f7, f8, f9, e1, hu, hm, zn, z0, z1, z2, z3, z4, z5, z6, z7, z8, z9⟩ := X.elemP (HO.out.kept hBy) k hlt
                    simp only [Value.slice.injEq] at e1
                    obtain ⟨rfl, _, rfl⟩ := e1
                    have hbu : X.bulk m u.2 ≤ 2000000 := (X.sumP_mem (List.mem_of_getElem? hu) HS3.out).2
                    have hlt2 : wO.heap.size < wz.heap.size := (Array.getElem?_eq_some_iff.1 hblk).1
                    have HC : Hid (∀ w', Below wz.heap.size wz w' → Calls Try.prog 45 #[.agg #[f0, f1, f2, f3, f4, f5, f6, f7, f8, f9], .int .i64 9000] w' fun e w'' => (∃ n : Int, e = .returned (.int .i64 n)) ∧ Below w'.heap.size w' w'') := fun w' hb => load_any 9000 m w' u.2 f0 f1 f2 f3 f4 f5 f6 f7 f8 f9 (X.Mem.kept _ hm hb) hbu
                    have hd0 : Below wz.heap.size wz wz.drew := (Below.refl _ _).drew
                    have HBLK := hide hblk
                    have HBY := hide hBy
                    clear hm hu hbu hblk hBy
                    go_wp2_with fail
                    go_region_held3 (fun W' => W'.cell? ⟨wO.heap.size, 3, none⟩ = some (.slice (some ⟨b2, off2, none⟩) x.outs.length co) ∧ W'.cell? ⟨b2, off2 + k * 11, none⟩ = some (.string u.1) ∧ W'.cell? ⟨b2, off2 + k * 11 + 1, none⟩ = some f0 ∧ W'.cell? ⟨b2, off2 + k * 11 + 2, none⟩ = some f1 ∧ W'.cell? ⟨b2, off2 + k * 11 + 3, none⟩ = some f2 ∧ W'.cell? ⟨b2, off2 + k * 11 + 4, none⟩ = some f3 ∧ W'.cell? ⟨b2, off2 + k * 11 + 5, none⟩ = some f4 ∧ W'.cell? ⟨b2, off2 + k * 11 + 6, none⟩ = some f5 ∧ W'.cell? ⟨b2, off2 + k * 11 + 7, none⟩ = some f6 ∧ W'.cell? ⟨b2, off2 + k * 11 + 8, none⟩ = some f7 ∧ W'.cell? ⟨b2, off2 + k * 11 + 9, none⟩ = some f8 ∧ W'.cell? ⟨b2, off2 + k * 11 + 10, none⟩ = some f9 ∧ Below wz.heap.size wz W') (first | exact ⟨b1, zn, z0, z1, z2, z3, z4, z5, z6, z7, z8, z9, hd0⟩ | exact ⟨q, qn, q0, q1, q2, q3, q4, q5, q6, q7, q8, q9, t3⟩ | go_keep)
                      (first | (go_at_call 45; (with_reducible refine Calls.mono (HC.out _ ?_) ?_); assumption; rintro o w3 ⟨⟨n2, rfl⟩, hb3⟩; have t3 := hd0.trans (hb3.mono (Nat.le_refl _)); have q := kept_cell t3 b1; have qn := kept_cell t3 zn; have q0 := kept_cell t3 z0; have q1 := kept_cell t3 z1; have q2 := kept_cell t3 z2; have q3 := kept_cell t3 z3; have q4 := kept_cell t3 z4; have q5 := kept_cell t3 z5; have q6 := kept_cell t3 z6; have q7 := kept_cell t3 z7; have q8 := kept_cell t3 z8; have q9 := kept_cell t3 z9))
                    have HT := hide t3
                    clear t3 q qn q0 q1 q2 q3 q4 q5 q6 q7 q8 q9 b1 zn z0 z1 z2 z3 z4 z5 z6 z7 z8 z9 hb3 hd0 HC
                    go_wp2_with fail
                    go_roundw
                    case rel => exact ⟨k + 1, by omega, by go_num, ⟨_, rfl⟩, (HT.out.block wO.heap.size hlt2).trans HBLK.out, HBY.out.trans (HT.out.mono HBY.out.size)⟩
                    case measure => simp [intOf]; omega
                  · rcases hno with hno | ⟨hno, hn⟩
                    all_goals
                      by_cases h9 : 9000 < n
                      · go_wp2_with fail
                        go_ret
                        exact ⟨⟨false, rfl⟩, HB.out.trans (hBy.mono HB.out.size)⟩
                      · go_wp2_with fail
                        go_roundw
                        case rel => exact ⟨i + 1, by omega, by go_num, ⟨_, rfl⟩, HB.out.trans (hBy.mono HB.out.size)⟩
                        case measure => simp [intOf]; omega
    · go_wp2_with fail
      go_ret
      exact ⟨⟨true, rfl⟩, hB⟩
end Go.Proofs.Ytienhelohfhhfaa.Vx
