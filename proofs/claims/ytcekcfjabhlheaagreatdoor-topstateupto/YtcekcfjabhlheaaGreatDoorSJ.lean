/- TopState: SI SJ. -/
import Derived.Test.YtcekcfjabhlheaaGreatDoorSH
import Derived.Test.YtcekcfjabhlheaaGreatDoorSE
set_option maxRecDepth 100000
set_option maxHeartbeats 12800000
namespace Go.Proofs.YtcekcfjabhlheaaGreatDoor.Vx
open Go.RowKit
def Bools (e : Ending) : Prop := ∃ r : Bool, e = .returned (.bool r)
theorem lightState_any (m : Nat) (w : World) (s : St) (c0 c1 c2 c3 : Value) (hm : S.Mem m w s [c0, c1, c2, c3]) (hbk : S.bulk m s <= 2000000) :
    Calls Tryz.prog 7 #[.agg #[c0, c1, c2, c3]] w fun e w' => Bools e /\ Below w.heap.size w w' := by
  have few := S.Few.of hbk
  have len := S.lens hbk
  obtain ⟨hv, iv, ov, hcs, hh, hi, ho, _⟩ := hm
  simp only [List.cons.injEq, and_true] at hcs
  obtain ⟨rfl, rfl, rfl, rfl⟩ := hcs
  obtain ⟨ah, ch, rfl⟩ := V.Row.shape hh
  obtain ⟨ai, ci, rfl⟩ := V.Row.shape hi
  obtain ⟨ao, co, rfl⟩ := V.Row.shape ho
  have hbL : Below w.heap.size w (w.alloc (.cells #[.int .i64 s.serial, .slice ah s.held.length ch, .slice ai s.its.length ci, .slice ao s.outs.length co] 26)) := (Below.refl _ _).alloc (Nat.le_refl _) _
  have hA0 := heap_alloc_new w (.cells #[.int .i64 s.serial, .slice ah s.held.length ch, .slice ai s.its.length ci, .slice ao s.outs.length co] 26)
  obtain ⟨HBW, HK0, HF, HRH, HRI, HRO⟩ := hd6 hbL hA0 few hh hi ho
  obtain ⟨l1, l2, l3⟩ := len
  obtain ⟨x0, x1, x2, x3⟩ := cl4 hA0
  clear hbL hA0 hh hi ho hbk few
  go_enter Tryz.func7, Tryz.ntmps7
  by_cases e1 : 20 < s.held.length
  · go_wp2_with fail
    go_ret
    exact ⟨⟨_, rfl⟩, HBW.out⟩
  by_cases e2 : 12 < s.its.length
  · go_wp2_with fail
    go_ret
    exact ⟨⟨_, rfl⟩, HBW.out⟩
  by_cases e3 : 12 < s.outs.length
  · go_wp2_with fail
    go_ret
    exact ⟨⟨_, rfl⟩, HBW.out⟩
  go_wp2_with fail
  generalize (w.alloc _) = wa at *
  clear x0 x1 x2 x3 e1 e2 e3
  go_loopw [3, 4] (fun vn vi wr => ∃ k : Nat, k <= s.held.length /\ vi = .int .i64 k /\ (∃ n : Int, vn = .int .i64 n) /\ wr.heap[w.heap.size]? = some (.cells #[.int .i64 s.serial, .slice ah s.held.length ch, .slice ai s.its.length ci, .slice ao s.outs.length co] 26 (0, 0)) /\ Below w.heap.size w wr) (fun _ vi _ => s.held.length - (intOf vi).toNat)
  case atStart => exact ⟨0, Nat.zero_le _, rfl, ⟨_, rfl⟩, HK0.out, HBW.out⟩
  case round =>
    clear HBW HK0
    obtain ⟨k, hk, rfl, ⟨n, rfl⟩, hb0, hw⟩ := hrel
    have s0 := cell_of_block hb0 1 _ rfl
    by_cases hlt : k < s.held.length
    · obtain ⟨p1, o1, cap1, x, d0, d1, d2, d3, d4, e1, hx, hm1, _, u500, u501, u502, u503, u504, u505, u506, u507⟩ := S.elemH (HRH.out.kept hw) k hlt
      simp only [Value.slice.injEq] at e1
      obtain ⟨rfl, _, rfl⟩ := e1
      obtain ⟨al5, cl5, af5, cf5, hcs⟩ := S.Mem.form2 hm1
      simp only [List.cons.injEq, and_true] at hcs
      obtain ⟨rfl, rfl, rfl, rfl, rfl⟩ := hcs
      have hxb := (HF.out.held x (List.mem_of_getElem? hx)).2.2
      have hI : ∀ w' : World, (w'.cell? ⟨w.heap.size, 1, none⟩ = some (.slice (some ⟨p1, o1, none⟩) s.held.length ch) /\ w'.cell? ⟨p1, o1 + k * 8, none⟩ = some (.string x.name) /\ w'.cell? ⟨p1, o1 + k * 8 + 1, none⟩ = some (.string x.kind) /\ w'.cell? ⟨p1, o1 + k * 8 + 2, none⟩ = some (.int .i64 x.id) /\ w'.cell? ⟨p1, o1 + k * 8 + 3, none⟩ = some (.int .i64 x.v.kind) /\ w'.cell? ⟨p1, o1 + k * 8 + 4, none⟩ = some (.int .i64 x.v.n) /\ w'.cell? ⟨p1, o1 + k * 8 + 5, none⟩ = some (.string x.v.s) /\ w'.cell? ⟨p1, o1 + k * 8 + 6, none⟩ = some (.slice al5 x.v.l.length cl5) /\ w'.cell? ⟨p1, o1 + k * 8 + 7, none⟩ = some (.slice af5 x.v.f.length cf5) /\ Below wr.heap.size wr w') -> Calls Tryz.prog 24 #[.agg #[.int .i64 x.v.kind, .int .i64 x.v.n, .string x.v.s, .slice al5 x.v.l.length cl5, .slice af5 x.v.f.length cf5], .int .i64 9000] w' fun e w'' => (∃ n : Int, e = .returned (.int .i64 n)) /\ w''.cell? ⟨w.heap.size, 1, none⟩ = some (.slice (some ⟨p1, o1, none⟩) s.held.length ch) /\ w''.cell? ⟨p1, o1 + k * 8, none⟩ = some (.string x.name) /\ w''.cell? ⟨p1, o1 + k * 8 + 1, none⟩ = some (.string x.kind) /\ w''.cell? ⟨p1, o1 + k * 8 + 2, none⟩ = some (.int .i64 x.id) /\ w''.cell? ⟨p1, o1 + k * 8 + 3, none⟩ = some (.int .i64 x.v.kind) /\ w''.cell? ⟨p1, o1 + k * 8 + 4, none⟩ = some (.int .i64 x.v.n) /\ w''.cell? ⟨p1, o1 + k * 8 + 5, none⟩ = some (.string x.v.s) /\ w''.cell? ⟨p1, o1 + k * 8 + 6, none⟩ = some (.slice al5 x.v.l.length cl5) /\ w''.cell? ⟨p1, o1 + k * 8 + 7, none⟩ = some (.slice af5 x.v.f.length cf5) /\ Below wr.heap.size wr w'' := by
        intro w' ⟨t0, t1, t2, t3, t4, t5, t6, t7, t8, t9⟩
        refine (weight_any 9000 m w' x.v _ _ _ _ _ (V.Mem.kept _ hm1 t9) hxb).mono ?_
        rintro r w'' ⟨hr, hb⟩
        exact ⟨hr, kept_cell hb t0, kept_cell hb t1, kept_cell hb t2, kept_cell hb t3, kept_cell hb t4, kept_cell hb t5, kept_cell hb t6, kept_cell hb t7, kept_cell hb t8, t9.trans (hb.mono t9.size)⟩
      obtain ⟨HI, HW, HLT, HB0⟩ := hd4 hI hw hlt hb0
      have HLB0 := hide (blt hb0)
      have hbd : Below wr.heap.size wr wr.drew := below_drewN (Below.refl _ _) 1
      have hi1 : (k : Int) < s.held.length := by omega
      clear hI hm1 hx hw hxb hb0
      go_wp2_with fail
      go_region_held3 (fun w' => w'.cell? ⟨w.heap.size, 1, none⟩ = some (.slice (some ⟨p1, o1, none⟩) s.held.length ch) /\ w'.cell? ⟨p1, o1 + k * 8, none⟩ = some (.string x.name) /\ w'.cell? ⟨p1, o1 + k * 8 + 1, none⟩ = some (.string x.kind) /\ w'.cell? ⟨p1, o1 + k * 8 + 2, none⟩ = some (.int .i64 x.id) /\ w'.cell? ⟨p1, o1 + k * 8 + 3, none⟩ = some (.int .i64 x.v.kind) /\ w'.cell? ⟨p1, o1 + k * 8 + 4, none⟩ = some (.int .i64 x.v.n) /\ w'.cell? ⟨p1, o1 + k * 8 + 5, none⟩ = some (.string x.v.s) /\ w'.cell? ⟨p1, o1 + k * 8 + 6, none⟩ = some (.slice al5 x.v.l.length cl5) /\ w'.cell? ⟨p1, o1 + k * 8 + 7, none⟩ = some (.slice af5 x.v.f.length cf5) /\ Below wr.heap.size wr w') (go_keep)
        (first | (go_at_call 24; refine Calls.mono (HI.out _ ?_) ?_; exact ⟨‹_›, ‹_›, ‹_›, ‹_›, ‹_›, ‹_›, ‹_›, ‹_›, ‹_›, ‹_›⟩; rintro r w3 ⟨⟨q, rfl⟩, t0, t1, t2, t3, t4, t5, t6, t7, t8, t9⟩))
      all_goals
        have HW3 := hide (HW.out.trans (t9.mono HW.out.size))
        have HK0 := hide ((t9.block w.heap.size HLB0.out).trans HB0.out)
        clear t9 t0 t1 t2 t3 t4 t5 t6 t7 t8
        go_wp2_with fail
        all_goals first
          | (go_ret; exact ⟨⟨_, rfl⟩, HW3.out⟩)
          | (go_roundw
             case rel => exact ⟨k + 1, HLT.out, by go_num, ⟨_, rfl⟩, HK0.out, HW3.out⟩
             case measure =>
               have h1 := HLT.out
               simp [intOf]
               omega)
    · have HBW := hide hw
      have HK0 := hide hb0
      clear hw hk hb0
      go_wp2_with fail
      clear s0 hlt
      go_loopw [3, 5] (fun vn vi wr => ∃ k : Nat, k <= s.its.length /\ vi = .int .i64 k /\ (∃ n : Int, vn = .int .i64 n) /\ wr.heap[w.heap.size]? = some (.cells #[.int .i64 s.serial, .slice ah s.held.length ch, .slice ai s.its.length ci, .slice ao s.outs.length co] 26 (0, 0)) /\ Below w.heap.size w wr) (fun _ vi _ => s.its.length - (intOf vi).toNat)
      case atStart => exact ⟨0, Nat.zero_le _, rfl, ⟨_, rfl⟩, HK0.out, HBW.out⟩
      case round =>
        clear HBW HK0
        obtain ⟨k, hk, rfl, ⟨n, rfl⟩, hb0, hw⟩ := hrel
        have s0 := cell_of_block hb0 2 _ rfl
        by_cases hlt : k < s.its.length
        · obtain ⟨p1, o1, cap1, x, d0, d1, d2, d3, d4, e1, hx, hm1, _, _, u500, u501, u502, u503, u504, u505, u506, u507, u508, u509⟩ := S.elemI (HRI.out.kept hw) k hlt
          simp only [Value.slice.injEq] at e1
          obtain ⟨rfl, _, rfl⟩ := e1
          obtain ⟨al5, cl5, af5, cf5, hcs⟩ := S.Mem.form2 hm1
          simp only [List.cons.injEq, and_true] at hcs
          obtain ⟨rfl, rfl, rfl, rfl, rfl⟩ := hcs
          have hxb := (HF.out.its x (List.mem_of_getElem? hx)).1.2.2
          have hI : ∀ w' : World, (w'.cell? ⟨w.heap.size, 2, none⟩ = some (.slice (some ⟨p1, o1, none⟩) s.its.length ci) /\ w'.cell? ⟨p1, o1 + k * 10, none⟩ = some (.int .i64 x.op) /\ w'.cell? ⟨p1, o1 + k * 10 + 1, none⟩ = some (.string x.h.name) /\ w'.cell? ⟨p1, o1 + k * 10 + 2, none⟩ = some (.string x.h.kind) /\ w'.cell? ⟨p1, o1 + k * 10 + 3, none⟩ = some (.int .i64 x.h.id) /\ w'.cell? ⟨p1, o1 + k * 10 + 4, none⟩ = some (.int .i64 x.h.v.kind) /\ w'.cell? ⟨p1, o1 + k * 10 + 5, none⟩ = some (.int .i64 x.h.v.n) /\ w'.cell? ⟨p1, o1 + k * 10 + 6, none⟩ = some (.string x.h.v.s) /\ w'.cell? ⟨p1, o1 + k * 10 + 7, none⟩ = some (.slice al5 x.h.v.l.length cl5) /\ w'.cell? ⟨p1, o1 + k * 10 + 8, none⟩ = some (.slice af5 x.h.v.f.length cf5) /\ w'.cell? ⟨p1, o1 + k * 10 + 9, none⟩ = some (.string x.token) /\ Below wr.heap.size wr w') -> Calls Tryz.prog 24 #[.agg #[.int .i64 x.h.v.kind, .int .i64 x.h.v.n, .string x.h.v.s, .slice al5 x.h.v.l.length cl5, .slice af5 x.h.v.f.length cf5], .int .i64 9000] w' fun e w'' => (∃ n : Int, e = .returned (.int .i64 n)) /\ w''.cell? ⟨w.heap.size, 2, none⟩ = some (.slice (some ⟨p1, o1, none⟩) s.its.length ci) /\ w''.cell? ⟨p1, o1 + k * 10, none⟩ = some (.int .i64 x.op) /\ w''.cell? ⟨p1, o1 + k * 10 + 1, none⟩ = some (.string x.h.name) /\ w''.cell? ⟨p1, o1 + k * 10 + 2, none⟩ = some (.string x.h.kind) /\ w''.cell? ⟨p1, o1 + k * 10 + 3, none⟩ = some (.int .i64 x.h.id) /\ w''.cell? ⟨p1, o1 + k * 10 + 4, none⟩ = some (.int .i64 x.h.v.kind) /\ w''.cell? ⟨p1, o1 + k * 10 + 5, none⟩ = some (.int .i64 x.h.v.n) /\ w''.cell? ⟨p1, o1 + k * 10 + 6, none⟩ = some (.string x.h.v.s) /\ w''.cell? ⟨p1, o1 + k * 10 + 7, none⟩ = some (.slice al5 x.h.v.l.length cl5) /\ w''.cell? ⟨p1, o1 + k * 10 + 8, none⟩ = some (.slice af5 x.h.v.f.length cf5) /\ w''.cell? ⟨p1, o1 + k * 10 + 9, none⟩ = some (.string x.token) /\ Below wr.heap.size wr w'' := by
            intro w' ⟨t0, t1, t2, t3, t4, t5, t6, t7, t8, t9, t10, t11⟩
            refine (weight_any 9000 m w' x.h.v _ _ _ _ _ (V.Mem.kept _ hm1 t11) hxb).mono ?_
            rintro r w'' ⟨hr, hb⟩
            exact ⟨hr, kept_cell hb t0, kept_cell hb t1, kept_cell hb t2, kept_cell hb t3, kept_cell hb t4, kept_cell hb t5, kept_cell hb t6, kept_cell hb t7, kept_cell hb t8, kept_cell hb t9, kept_cell hb t10, t11.trans (hb.mono t11.size)⟩
          obtain ⟨HI, HW, HLT, HB0⟩ := hd4 hI hw hlt hb0
          have HLB0 := hide (blt hb0)
          have hbd : Below wr.heap.size wr wr.drew := below_drewN (Below.refl _ _) 1
          have hi1 : (k : Int) < s.its.length := by omega
          clear hI hm1 hx hw hxb hb0
          go_wp2_with fail
          go_region_held3 (fun w' => w'.cell? ⟨w.heap.size, 2, none⟩ = some (.slice (some ⟨p1, o1, none⟩) s.its.length ci) /\ w'.cell? ⟨p1, o1 + k * 10, none⟩ = some (.int .i64 x.op) /\ w'.cell? ⟨p1, o1 + k * 10 + 1, none⟩ = some (.string x.h.name) /\ w'.cell? ⟨p1, o1 + k * 10 + 2, none⟩ = some (.string x.h.kind) /\ w'.cell? ⟨p1, o1 + k * 10 + 3, none⟩ = some (.int .i64 x.h.id) /\ w'.cell? ⟨p1, o1 + k * 10 + 4, none⟩ = some (.int .i64 x.h.v.kind) /\ w'.cell? ⟨p1, o1 + k * 10 + 5, none⟩ = some (.int .i64 x.h.v.n) /\ w'.cell? ⟨p1, o1 + k * 10 + 6, none⟩ = some (.string x.h.v.s) /\ w'.cell? ⟨p1, o1 + k * 10 + 7, none⟩ = some (.slice al5 x.h.v.l.length cl5) /\ w'.cell? ⟨p1, o1 + k * 10 + 8, none⟩ = some (.slice af5 x.h.v.f.length cf5) /\ w'.cell? ⟨p1, o1 + k * 10 + 9, none⟩ = some (.string x.token) /\ Below wr.heap.size wr w') (go_keep)
            (first | (go_at_call 24; refine Calls.mono (HI.out _ ?_) ?_; exact ⟨‹_›, ‹_›, ‹_›, ‹_›, ‹_›, ‹_›, ‹_›, ‹_›, ‹_›, ‹_›, ‹_›, ‹_›⟩; rintro r w3 ⟨⟨q, rfl⟩, t0, t1, t2, t3, t4, t5, t6, t7, t8, t9, t10, t11⟩))
          all_goals
            have HW3 := hide (HW.out.trans (t11.mono HW.out.size))
            have HK0 := hide ((t11.block w.heap.size HLB0.out).trans HB0.out)
            clear t11 t0 t1 t2 t3 t4 t5 t6 t7 t8 t9 t10
            go_wp2_with fail
            all_goals first
              | (go_ret; exact ⟨⟨_, rfl⟩, HW3.out⟩)
              | (go_roundw
                 case rel => exact ⟨k + 1, HLT.out, by go_num, ⟨_, rfl⟩, HK0.out, HW3.out⟩
                 case measure =>
                   have h1 := HLT.out
                   simp [intOf]
                   omega)
        · have HBW := hide hw
          have HK0 := hide hb0
          clear hw hk hb0
          go_wp2_with fail
          clear s0 hlt
          go_loopw [3, 6] (fun vn vi wr => ∃ k : Nat, k <= s.outs.length /\ vi = .int .i64 k /\ (∃ n : Int, vn = .int .i64 n) /\ wr.heap[w.heap.size]? = some (.cells #[.int .i64 s.serial, .slice ah s.held.length ch, .slice ai s.its.length ci, .slice ao s.outs.length co] 26 (0, 0)) /\ Below w.heap.size w wr) (fun _ vi _ => s.outs.length - (intOf vi).toNat)
          case atStart => exact ⟨0, Nat.zero_le _, rfl, ⟨_, rfl⟩, HK0.out, HBW.out⟩
          case round =>
            clear HBW HK0
            obtain ⟨k, hk, rfl, ⟨n, rfl⟩, hb0, hw⟩ := hrel
            have s0 := cell_of_block hb0 3 _ rfl
            by_cases hlt : k < s.outs.length
            · obtain ⟨p1, o1, cap1, x, d0, d1, d2, d3, d4, e1, hx, hm1, u500, u501, u502, u503, u504, u505⟩ := S.elemO (HRO.out.kept hw) k hlt
              simp only [Value.slice.injEq] at e1
              obtain ⟨rfl, _, rfl⟩ := e1
              obtain ⟨al5, cl5, af5, cf5, hcs⟩ := S.Mem.form2 hm1
              simp only [List.cons.injEq, and_true] at hcs
              obtain ⟨rfl, rfl, rfl, rfl, rfl⟩ := hcs
              have hxb := (HF.out.outs x (List.mem_of_getElem? hx)).2
              have hI : ∀ w' : World, (w'.cell? ⟨w.heap.size, 3, none⟩ = some (.slice (some ⟨p1, o1, none⟩) s.outs.length co) /\ w'.cell? ⟨p1, o1 + k * 6, none⟩ = some (.string x.1) /\ w'.cell? ⟨p1, o1 + k * 6 + 1, none⟩ = some (.int .i64 x.2.kind) /\ w'.cell? ⟨p1, o1 + k * 6 + 2, none⟩ = some (.int .i64 x.2.n) /\ w'.cell? ⟨p1, o1 + k * 6 + 3, none⟩ = some (.string x.2.s) /\ w'.cell? ⟨p1, o1 + k * 6 + 4, none⟩ = some (.slice al5 x.2.l.length cl5) /\ w'.cell? ⟨p1, o1 + k * 6 + 5, none⟩ = some (.slice af5 x.2.f.length cf5) /\ Below wr.heap.size wr w') -> Calls Tryz.prog 24 #[.agg #[.int .i64 x.2.kind, .int .i64 x.2.n, .string x.2.s, .slice al5 x.2.l.length cl5, .slice af5 x.2.f.length cf5], .int .i64 9000] w' fun e w'' => (∃ n : Int, e = .returned (.int .i64 n)) /\ w''.cell? ⟨w.heap.size, 3, none⟩ = some (.slice (some ⟨p1, o1, none⟩) s.outs.length co) /\ w''.cell? ⟨p1, o1 + k * 6, none⟩ = some (.string x.1) /\ w''.cell? ⟨p1, o1 + k * 6 + 1, none⟩ = some (.int .i64 x.2.kind) /\ w''.cell? ⟨p1, o1 + k * 6 + 2, none⟩ = some (.int .i64 x.2.n) /\ w''.cell? ⟨p1, o1 + k * 6 + 3, none⟩ = some (.string x.2.s) /\ w''.cell? ⟨p1, o1 + k * 6 + 4, none⟩ = some (.slice al5 x.2.l.length cl5) /\ w''.cell? ⟨p1, o1 + k * 6 + 5, none⟩ = some (.slice af5 x.2.f.length cf5) /\ Below wr.heap.size wr w'' := by
                intro w' ⟨t0, t1, t2, t3, t4, t5, t6, t7⟩
                refine (weight_any 9000 m w' x.2 _ _ _ _ _ (V.Mem.kept _ hm1 t7) hxb).mono ?_
                rintro r w'' ⟨hr, hb⟩
                exact ⟨hr, kept_cell hb t0, kept_cell hb t1, kept_cell hb t2, kept_cell hb t3, kept_cell hb t4, kept_cell hb t5, kept_cell hb t6, t7.trans (hb.mono t7.size)⟩
              obtain ⟨HI, HW, HLT, HB0⟩ := hd4 hI hw hlt hb0
              have HLB0 := hide (blt hb0)
              have hbd : Below wr.heap.size wr wr.drew := below_drewN (Below.refl _ _) 1
              have hi1 : (k : Int) < s.outs.length := by omega
              clear hI hm1 hx hw hxb hb0
              go_wp2_with fail
              go_region_held3 (fun w' => w'.cell? ⟨w.heap.size, 3, none⟩ = some (.slice (some ⟨p1, o1, none⟩) s.outs.length co) /\ w'.cell? ⟨p1, o1 + k * 6, none⟩ = some (.string x.1) /\ w'.cell? ⟨p1, o1 + k * 6 + 1, none⟩ = some (.int .i64 x.2.kind) /\ w'.cell? ⟨p1, o1 + k * 6 + 2, none⟩ = some (.int .i64 x.2.n) /\ w'.cell? ⟨p1, o1 + k * 6 + 3, none⟩ = some (.string x.2.s) /\ w'.cell? ⟨p1, o1 + k * 6 + 4, none⟩ = some (.slice al5 x.2.l.length cl5) /\ w'.cell? ⟨p1, o1 + k * 6 + 5, none⟩ = some (.slice af5 x.2.f.length cf5) /\ Below wr.heap.size wr w') (go_keep)
                (first | (go_at_call 24; refine Calls.mono (HI.out _ ?_) ?_; exact ⟨‹_›, ‹_›, ‹_›, ‹_›, ‹_›, ‹_›, ‹_›, ‹_›⟩; rintro r w3 ⟨⟨q, rfl⟩, t0, t1, t2, t3, t4, t5, t6, t7⟩))
              all_goals
                have HW3 := hide (HW.out.trans (t7.mono HW.out.size))
                have HK0 := hide ((t7.block w.heap.size HLB0.out).trans HB0.out)
                clear t7 t0 t1 t2 t3 t4 t5 t6
                go_wp2_with fail
                all_goals first
                  | (go_ret; exact ⟨⟨_, rfl⟩, HW3.out⟩)
                  | (go_roundw
                     case rel => exact ⟨k + 1, HLT.out, by go_num, ⟨_, rfl⟩, HK0.out, HW3.out⟩
                     case measure =>
                       have h1 := HLT.out
                       simp [intOf]
                       omega)
            · have HBW := hide hw
              have HK0 := hide hb0
              clear hw hk hb0
              go_wp2_with fail
              go_ret
              exact ⟨⟨_, rfl⟩, HBW.out⟩
end Go.Proofs.YtcekcfjabhlheaaGreatDoor.Vx
namespace Go.Proofs.YtcekcfjabhlheaaGreatDoor.Dx
open Go.RowKit
structure Dk.Nice (D : Dk) : Prop where
 chg : D.chg = []
 down : D.down = false
 nodF : (D.files.map (·.1)).Nodup
 nodK : (D.kept.map (·.1)).Nodup
 szF : ∀ n, ((M.get D.files n).getD ⟨#[]⟩).size <= 4000
 szK : ∀ n, ((M.get D.kept n).getD ⟨#[]⟩).size <= 4000
 len : D.files.length <= 100
 steps : 0 <= D.steps /\ D.steps <= 1000
 left : -1 <= D.left /\ D.left <= 20
theorem Dk.Nice.easy {D : Dk} (h : D.Nice) : D.Easy :=
 ⟨⟨h.steps.1, by have := h.steps.2; omega⟩, by have := h.left; omega, by have := h.len; omega, h.chg, fun n => by have := h.szF n; omega, fun n => by have := h.szK n; omega⟩
theorem nice_new : Dk.new.Nice :=
 ⟨rfl, rfl, List.nodup_nil, List.nodup_nil, fun _ => Nat.zero_le _, fun _ => Nat.zero_le _, Nat.zero_le _, ⟨by decide, by decide⟩, ⟨by decide, by decide⟩⟩
def saveF (F : List (ByteArray × ByteArray)) (f d : ByteArray) : List (ByteArray × ByteArray) := M.del (M.put (M.put F draftN d) f d) draftN
theorem act_write (F : List (ByteArray × ByteArray)) (d : ByteArray) : Ch.act ⟨0, draftN, ⟨#[]⟩, d⟩ F = M.put F draftN d := by
 unfold Ch.act
 rw [if_pos rfl]
theorem act_move (F : List (ByteArray × ByteArray)) (f d : ByteArray) : Ch.act ⟨2, draftN, f, ⟨#[]⟩⟩ (M.put F draftN d) = saveF F f d := by
 unfold Ch.act saveF
 rw [if_neg (by show ¬ (2 : Int) = 0; decide), if_neg (by show ¬ (2 : Int) = 1; decide), if_pos rfl, M.get_put, if_pos (M.beq_self _)]
 rfl
theorem saveF_get {F : List (ByteArray × ByteArray)} (h : (F.map (·.1)).Nodup) (n d m : ByteArray) : M.get (saveF F (fileN n) d) m = if m == draftN then none else if m == fileN n then some d else M.get F m := by
 unfold saveF
 rw [M.get_del _ _ (M.nodup_put (M.nodup_put h)), M.get_put, M.get_put]
 split
 ·rfl
 ·rfl
theorem saveF_nodup {F : List (ByteArray × ByteArray)} (h : (F.map (·.1)).Nodup) (f d : ByteArray) : ((saveF F f d).map (·.1)).Nodup := M.nodup_del (M.nodup_put (M.nodup_put h))
theorem saveF_len (F : List (ByteArray × ByteArray)) (f d : ByteArray) : (saveF F f d).length <= F.length + 2 := by
 have h1 := (M.del_sub draftN (M.put (M.put F draftN d) f d)).length_le
 have h2 := M.len_put f d (M.put F draftN d)
 have h3 := M.len_put draftN d F
 unfold saveF
 omega
theorem saveF_file {F : List (ByteArray × ByteArray)} (h : (F.map (·.1)).Nodup) (n d : ByteArray) : M.get (saveF F (fileN n) d) (fileN n) = some d := by
 rw [saveF_get h, if_neg (fun e => draft_ne n ((M.beq_iff _ _).1 e).symm), if_pos (M.beq_self _)]
theorem put_file (F : List (ByteArray × ByteArray)) (n d : ByteArray) : M.get (M.put F draftN d) (fileN n) = M.get F (fileN n) := by
 rw [M.get_put, if_neg (fun e => draft_ne n ((M.beq_iff _ _).1 e).symm)]
theorem sv3_eq (D : Dk) (f d : ByteArray) (hc : D.chg = []) : (D.sv f d 3).files = saveF D.files f d /\ (D.sv f d 3).kept = saveF D.kept f d /\ (D.sv f d 3).chg = [] /\ (D.sv f d 3).down = D.down /\ (D.sv f d 3).steps = D.steps + 1 + 1 + 1 := by
 refine ⟨?_, ?_, rfl, rfl, rfl⟩
 ·show Ch.act ⟨2, draftN, f, ⟨#[]⟩⟩ (Ch.act ⟨0, draftN, ⟨#[]⟩, d⟩ D.files) = _
  rw [act_write, act_move]
 ·show (((D.chg ++ [_]) ++ [_]).take ((D.chg ++ [_]) ++ [_]).length).foldl (fun F (c : Ch) => c.act F) D.kept = _
  rw [hc]
  show Ch.act ⟨2, draftN, f, ⟨#[]⟩⟩ (Ch.act ⟨0, draftN, ⟨#[]⟩, d⟩ D.kept) = _
  rw [act_write, act_move]
theorem step_left {x : Int} (h : -1 <= x /\ x <= 20) : -1 <= (if 0 < x then x - 1 else x) /\ (if 0 < x then x - 1 else x) <= 20 := by split <;> omega
theorem nice_sv3 {D : Dk} (h : D.Nice) (n d : ByteArray) (hd : d.size <= 4000) (hs : D.steps <= 990) (hl : D.files.length <= 98) :
  (D.sv (fileN n) d 3).Nice /\ M.get (D.sv (fileN n) d 3).files (fileN n) = some d /\ M.get (D.sv (fileN n) d 3).kept (fileN n) = some d := by
 obtain ⟨e1, e2, e3, e4, e5⟩ := sv3_eq D (fileN n) d h.chg
 refine ⟨⟨e3, by rw [e4]; exact h.down, by rw [e1]; exact saveF_nodup h.nodF _ _, by rw [e2]; exact saveF_nodup h.nodK _ _, fun m => ?_, fun m => ?_, ?_, ?_, ?_⟩, by rw [e1]; exact saveF_file h.nodF n d, by rw [e2]; exact saveF_file h.nodK n d⟩
 ·rw [e1, saveF_get h.nodF]
  split
  ·exact Nat.zero_le _
  ·split
   ·exact hd
   ·exact h.szF m
 ·rw [e2, saveF_get h.nodK]
  split
  ·exact Nat.zero_le _
  ·split
   ·exact hd
   ·exact h.szK m
 ·rw [e1]
  have := saveF_len D.files (fileN n) d
  omega
 ·rw [e5]
  have := h.steps
  omega
 ·exact step_left (step_left (step_left h.left))
theorem save_new {n d : ByteArray} (hd : d.size <= 4000) {D' : Dk} {k : Nat} (h : Dk.new.Saved (fileN n) d D' k) : k = 0 /\ D' = Dk.new.sv (fileN n) d 3 := by
 have hf : Dk.new.fit draftN d.size = 0 := by
  unfold Dk.fit
  rw [if_neg (by rw [may_draft]; decide), if_neg]
  intro e
  rcases e with e | ⟨_, e⟩
  ·omega
  ·exact absurd e (by decide)
 have hn : ∀ i, i < 3 -> ¬ (Dk.new.sv (fileN n) d i).fails := fun i hi e => by
  have hl : (Dk.new.sv (fileN n) d i).left = -1 /\ (Dk.new.sv (fileN n) d i).down = false := by
   match i, hi with
   | 0, _ => exact ⟨rfl, rfl⟩
   | 1, _ => exact ⟨rfl, rfl⟩
   | 2, _ => exact ⟨rfl, rfl⟩
  rcases e with e | e
  ·rw [hl.1] at e
   cases e
  ·rw [hl.2] at e
   cases e
 rcases h with ⟨h1, h2, _⟩ | ⟨_, _, j, hj, _, h3, _⟩ | ⟨_, h2, _, h4⟩
 ·exact absurd (h2.trans hf) h1
 ·exact absurd h3 (hn j hj)
 ·exact ⟨h2, h4⟩
theorem stays_of {D : Dk} (hN : D.Nice) (n d T : ByteArray) (hd : d.size <= 4000) (hT : M.get D.kept (fileN n) = some T) (j : Nat) (hj : j < 3) (keep torn : Int) :
  (((D.sv (fileN n) d j).fell.stays4 keep torn).map (·.1)).Nodup /\ (M.get ((D.sv (fileN n) d j).fell.stays4 keep torn) (fileN n) = some T \/ M.get ((D.sv (fileN n) d j).fell.stays4 keep torn) (fileN n) = some d) /\
   (D.sv (fileN n) d j).fell.chg.length <= 2 /\ (∀ c ∈ (D.sv (fileN n) d j).fell.chg, c.kinds) /\ ∀ k c, (D.sv (fileN n) d j).fell.chg[k]? = some c -> c.data.size <= 1000000 /\ ((M.get ((D.sv (fileN n) d j).fell.keep4 k) c.name).getD ⟨#[]⟩).size <= 1000000 := by
 have hK : (D.sv (fileN n) d j).fell.kept = D.kept := by
  match j, hj with
  | 0, _ => rfl
  | 1, _ => rfl
  | 2, _ => rfl
 have hC : (D.sv (fileN n) d j).fell.chg = ([⟨0, draftN, ⟨#[]⟩, d⟩, ⟨2, draftN, fileN n, ⟨#[]⟩⟩] : List Ch).take j := by
  match j, hj with
  | 0, _ => exact hN.chg
  | 1, _ =>
   show D.chg ++ [_] = _
   rw [hN.chg]
   rfl
  | 2, _ =>
   show (D.chg ++ [_]) ++ [_] = _
   rw [hN.chg]
   rfl
 generalize (D.sv (fileN n) d j).fell = E at *
 obtain ⟨G, hG⟩ : ∃ G : List (ByteArray × ByteArray) -> Prop, ∀ F, G F ↔ ((F.map (·.1)).Nodup /\ (M.get F (fileN n) = some T \/ M.get F (fileN n) = some d)) := ⟨fun F => (F.map (·.1)).Nodup /\ (M.get F (fileN n) = some T \/ M.get F (fileN n) = some d), fun F => Iff.rfl⟩
 have p0 : G D.kept := (hG _).2 ⟨hN.nodK, .inl hT⟩
 have p1 : ∀ x, G (M.put D.kept draftN x) := fun x => (hG _).2 ⟨M.nodup_put hN.nodK, .inl (by rw [put_file]; exact hT)⟩
 have p2 : G (saveF D.kept (fileN n) d) := (hG _).2 ⟨saveF_nodup hN.nodK _ _, .inr (saveF_file hN.nodK n d)⟩
 have f1 : ∀ F : List (ByteArray × ByteArray), Ch.first4 ⟨2, draftN, fileN n, ⟨#[]⟩⟩ torn F = F := fun F => by
  unfold Ch.first4
  rw [if_pos]
  show min torn 0 < 1
  omega
 have f0 : G (Ch.first4 ⟨0, draftN, ⟨#[]⟩, d⟩ torn D.kept) := by
  unfold Ch.first4
  split
  ·exact p0
  ·rw [act_write]
   exact p1 _
 have hq : E.many keep <= E.chg.length := by
  unfold Dk.many
  omega
 have hkind : ∀ c ∈ E.chg, c.kinds := fun c hc => by
  rw [hC] at hc
  have hc2 := List.mem_of_mem_take hc
  rcases List.mem_cons.1 hc2 with rfl | hc2
  ·exact .inl rfl
  ·rcases List.mem_cons.1 hc2 with rfl | hc2
   ·exact .inr (.inr (.inl rfl))
   ·cases hc2
 have hall : G (E.stays4 keep torn) := by
  unfold Dk.stays4 Dk.keep4
  rw [hK]
  generalize E.many keep = q at *
  rw [hC] at hq ⊢
  match j, hj, q, hq with
  | 0, _, 0, _ => exact p0
  | 1, _, 0, _ => exact f0
  | 1, _, 1, _ =>
   show G (Ch.act ⟨0, draftN, ⟨#[]⟩, d⟩ D.kept)
   rw [act_write]
   exact p1 d
  | 2, _, 0, _ => exact f0
  | 2, _, 1, _ =>
   show G (Ch.first4 ⟨2, draftN, fileN n, ⟨#[]⟩⟩ torn (Ch.act ⟨0, draftN, ⟨#[]⟩, d⟩ D.kept))
   rw [f1, act_write]
   exact p1 d
  | 2, _, 2, _ =>
   show G (Ch.act ⟨2, draftN, fileN n, ⟨#[]⟩⟩ (Ch.act ⟨0, draftN, ⟨#[]⟩, d⟩ D.kept))
   rw [act_write, act_move]
   exact p2
 have hall := (hG _).1 hall
 have hlen : E.chg.length <= 2 := by
  rw [hC, List.length_take]
  have : j <= 2 := by omega
  exact Nat.le_trans (Nat.min_le_left _ _) this
 refine ⟨hall.1, hall.2, hlen, hkind, fun k c hc => ?_⟩
 unfold Dk.keep4
 rw [hK]
 rw [hC] at hc ⊢
 match j, hj, k, hc with
 | 1, _, 0, hc =>
  cases hc
  exact ⟨Nat.le_trans hd (by decide), Nat.le_trans (hN.szK _) (by decide)⟩
 | 2, _, 0, hc =>
  cases hc
  exact ⟨Nat.le_trans hd (by decide), Nat.le_trans (hN.szK _) (by decide)⟩
 | 2, _, 1, hc =>
  cases hc
  refine ⟨Nat.zero_le _, ?_⟩
  show ((M.get (Ch.act ⟨0, draftN, ⟨#[]⟩, d⟩ D.kept) draftN).getD ⟨#[]⟩).size <= 1000000
  rw [act_write, M.get_put, if_pos (M.beq_self _)]
  exact Nat.le_trans hd (by decide)
theorem stays_nice {D : Dk} (hN : D.Nice) (keep torn : Int) : D.stays4 keep torn = D.kept := by
 have hq : D.many keep = 0 := by
  unfold Dk.many
  rw [hN.chg]
  show (min (max keep 0) 0).toNat = 0
  omega
 unfold Dk.stays4 Dk.keep4
 rw [hq, hN.chg]
 rfl
end Go.Proofs.YtcekcfjabhlheaaGreatDoor.Dx
