/- For CloudSays: Restart, of the program's disk and of the reference's, both without files. -/
import Derived.Test.YtlmkpjdaoinmoaaKD
namespace Go.Proofs.Ytlmkpjdaoinmoaa
open Go.RowKit
open Go.ChangeMaps (setBlock)
attribute [local go_sem ↓] Go.wp_at_zero Go.wp_at_succ
theorem M.range_run {w : World} {b : Nat} {es : Array MapEntry} {c : Nat} (h : w.heap[b]? = some (.map es c)) : (Instr.range 76 (.map (some b))).run Try.prog w = .ok (.pointer (some ⟨w.heap.size, 0, none⟩)) (w.alloc (.mapIter (some b) c #[] c)) := by
  simp [Instr.range, run_underlying M.u112, MapKept.run_getObj_map h, Result.andThen]
theorem M.len0_run {w : World} {b : Nat} (h : M.Is w b []) : (Builtin.len_ #[76] 3 #[.map (some b)]).run Try.prog w = .ok (.int .i64 0) w := by
  obtain ⟨es, c, hb, hF, _⟩ := h
  have hl : es.size = 0 := by
    have h5 := congrArg List.length hF
    simpa using h5
  simp [Builtin.len_, run_underlying M.u112, MapKept.run_getObj_map hb, Result.andThen, goInt, hl]
theorem M.make_run (n : Int) (w : World) : (Instr.makeMap 76 (some (.int .i64 n))).run Try.prog w = .ok (.map (some w.heap.size)) (w.alloc (.map #[] 0)) := by kernel_rfl
set_option maxRecDepth 100000 in
set_option maxHeartbeats 1000000 in
theorem copied0_any (w : World) (b : Nat) (h : M.Is w b []) : Calls Try.prog 50 #[.map (some b)] w fun o w' => o = .returned (.map (some w.heap.size)) ∧ M.Is w' w.heap.size [] ∧ w.heap.size < w'.heap.size ∧ Fr w w' (fun _ => False) := by
  obtain ⟨es, c, hb, hF, hS⟩ := id h
  have hes : es = #[] := by
    have h5 := congrArg List.length hF
    have : es.size = 0 := by simpa using h5
    exact Array.eq_empty_of_size_eq_zero this
  have hln := M.len0_run h
  have hmm := fun n w => M.make_run n w
  obtain ⟨w1, hw1⟩ : ∃ w1, w1 = w.alloc (.map #[] 0) := ⟨_, rfl⟩
  have hf1 : Fr w w1 (fun _ => False) := by rw [hw1]; exact (Fr.refl _ _).alloc _
  have hb1 := (hf1.block b h.lt (fun e => e)).trans hb
  have hrg := M.range_run hb1
  have hI1 : M.Is w1 w.heap.size [] := by rw [hw1]; exact M.Is.made w
  obtain ⟨w2, hw2⟩ : ∃ w2, w2 = w1.alloc (.mapIter (some b) c #[] c) := ⟨_, rfl⟩
  have hf2 : Fr w1 w2 (fun _ => False) := by rw [hw2]; exact (Fr.refl _ _).alloc _
  have hr2 : w2.heap[w1.heap.size]? = some (.mapIter (some b) c #[] c) := by rw [hw2]; exact heap_alloc_new _ _
  have hb2 := (hf2.block b (by have := h.lt; have := hf1.size; omega) (fun e => e)).trans hb1
  rw [← hw2] at hrg
  have hI2 : M.Is w2 w.heap.size [] := is_fr hI1 hf2 (fun e => e)
  have hz1 : w1.heap.size = w.heap.size + 1 := by rw [hw1]; simp
  have HI2 := hide hI2
  have HF2 := hide (hf1.trans hf2 (fun _ _ e => e))
  have HZ := hide hf2.size
  rcases run_next_at (P := Try.prog) w2 0 w1.heap.size b c c #[] es c hr2 hb2 (fun y hy => hS.1 y hy) (Nat.le_refl _) with ⟨h0, hnx⟩ | ⟨e, he, _⟩
  · clear h hb hF hS hb1 hI1 hI2 hf1 hf2 hr2 hb2 hes h0
    rw [hz1] at hrg hnx
    rw [hw1] at hrg
    clear hw2
    have HZ1 := hide hz1
    clear hz1
    go_enter Try.func50, Try.ntmps50
    go_wp2_with fail
    go_loopw [4, 5] (fun _ _ wx => wx = w2) (fun _ _ _ => 0)
    case atStart => rfl
    case round =>
      subst hrel
      go_wp2_with fail
      go_ret
      exact ⟨rfl, HI2.out, by have := HZ.out; have := HZ1.out; omega, HF2.out⟩
  · exfalso
    have := (left_mem.1 he).1
    rw [hes] at this
    cases this
/-- A disk without files. -/
def Dk.bare (D : Dk) : Prop := D.kept = [] ∧ D.files = [] ∧ D.chg = []
set_option maxRecDepth 100000 in
set_option maxHeartbeats 1000000 in
theorem keep0_any (w : World) (g : Nat) (a : Option Addr) (cp : Nat) (x0 x1 x3 x4 x5 : Value) (hb : w.heap[g]? = some (.cells #[x0, x1, .slice a 0 cp, x3, x4, x5] 79 (0, 0))) : Calls Try.prog 48 #[.pointer (some ⟨g, 0, none⟩), .int .i64 0] w fun o w' => o = .returned (.tuple #[]) ∧ w' = w := by
  have y2 := cell_of_block hb 2 _ rfl
  clear hb
  cases a with
  | none =>
    go_enter Try.func48, Try.ntmps48
    go_wp2_with fail
    go_loopw [13, 5] (fun vi _ wx => vi = .int .i64 0 ∧ wx = w) (fun _ _ _ => 0)
    case atStart => exact ⟨rfl, rfl⟩
    case round =>
      obtain ⟨rfl, hwr⟩ := hrel
      rw [hwr]
      go_wp2_with fail
      go_end0
      exact ⟨rfl, rfl⟩
  | some ad =>
    go_enter Try.func48, Try.ntmps48
    go_wp2_with fail
    go_loopw [13, 5] (fun vi _ wx => vi = .int .i64 0 ∧ wx = w) (fun _ _ _ => 0)
    case atStart => exact ⟨rfl, rfl⟩
    case round =>
      obtain ⟨rfl, hwr⟩ := hrel
      rw [hwr]
      go_wp2_with fail
      go_end0
      exact ⟨rfl, rfl⟩
theorem owns0_shape {w : World} {base z : Nat} {t : TypeId} {v : Value} {xs : List Value} (h : w.ownsRow base t z v 0 xs) : ∃ a c, v = .slice a 0 c := owns_shape h
set_option maxRecDepth 100000 in
set_option maxHeartbeats 1600000 in
/-- A disk without files restarts. -/
theorem restart0_any (w : World) (B : Nat → Prop) (g : Nat) (D : Dk) (keep torn : Int) (h : Disk w B g D) (hD : D.bare) (hB : ∀ c, B c → c < w.heap.size) :
    Calls Try.prog 25 #[.pointer (some ⟨g, 0, none⟩), .int .i64 keep, .int .i64 torn] w fun o w' => o = .returned (.tuple #[]) ∧ ∃ B2, Newer w w' B B2 ∧ Disk w' B2 g { D with left := -1, down := false } ∧ Fr w w' (fun c => c = g) := by
  obtain ⟨bk, bf, cv, h1, h2, h3, h4, h5, h6, h7, h8, h9⟩ := h
  rw [hD.2.2] at h4
  obtain ⟨ca, cc, rfl⟩ := owns0_shape h4
  rw [hD.1] at h2
  have y2 := cell_of_block h1 2 _ rfl
  have r2 := free_of_block h1 2
  have hgl := (Array.getElem?_eq_some_iff.1 h1).1
  have hbk : bk ≠ g := fun e => by
    obtain ⟨es, c, hb, _⟩ := h2
    rw [e, h1] at hb; cases hb
  obtain ⟨mk, hmk⟩ : ∃ mk : Int, max keep 0 = mk := ⟨_, rfl⟩
  have hmi : min mk 0 = 0 := by omega
  have HKP := hide (keep0_any w g ca cc _ _ _ _ _ h1)
  obtain ⟨w3, hw3⟩ : ∃ w3, w3 = w.setCell ⟨g, 2, none⟩ (.slice none 0 0) := ⟨_, rfl⟩
  have hb3 : w3.heap[g]? = some (.cells #[.map (some bk), .map (some bf), .slice none 0 0, .int .i64 D.steps, .int .i64 D.left, .bool D.down] 79 (0, 0)) := by
    rw [hw3]
    simp [World.setCell, Array.getElem?_modify, h1]
  have hf3 : Fr w w3 (fun c => c = g) := by rw [hw3]; exact (Fr.refl w (fun c => c = g)).set _ _ (fun _ => rfl)
  have hI3 : M.Is w3 bk [] := is_fr h2 hf3 hbk
  have HCP := hide (copied0_any w3 bk hI3)
  have HB3 := hide hb3
  have HF3 := hide hf3
  have HI3 := hide hI3
  have HBB := hide hB
  have h10 : bk < w.heap.size := h2.lt
  have y0 := cell_of_block hb3 0 _ rfl
  have hz3 : w3.heap.size = w.heap.size := by rw [hw3]; simp [World.setCell]
  have HZ3 := hide hz3
  clear h1 h2 h3 h4 hb3 hf3 hI3 h9 hB hz3
  go_enter Try.func25, Try.ntmps25
  go_wp2_with fail
  refine HKP.out.mono ?_
  rintro o w2 ⟨rfl, hw2⟩
  rw [hw2]
  clear hw2 HKP
  go_upto_region 5 with fail
  rw [← hw3]
  clear hw3 y2 r2
  go_wp2_with fail
  refine HCP.out.mono ?_
  rintro o w5 ⟨rfl, hI5, hlt5, hf5⟩
  have hk5 := (hf5.block g (Array.getElem?_eq_some_iff.1 HB3.out).1 (fun e => e)).trans HB3.out
  have x1 := cell_of_block hk5 1 _ rfl
  have x4 := cell_of_block hk5 4 _ rfl
  have x5 := cell_of_block hk5 5 _ rfl
  have r1 := free_of_block hk5 1
  have r4 := free_of_block hk5 4
  have r5 := free_of_block hk5 5
  obtain ⟨w6, hw6⟩ : ∃ w6, w6 = ((w5.setCell ⟨g, 1, none⟩ (.map (some w3.heap.size))).setCell ⟨g, 4, none⟩ (.int .i64 (-1))).setCell ⟨g, 5, none⟩ (.bool false) := ⟨_, rfl⟩
  have hb6 : w6.heap[g]? = some (.cells #[.map (some bk), .map (some w3.heap.size), .slice none 0 0, .int .i64 D.steps, .int .i64 (-1), .bool false] 79 (0, 0)) := by
    rw [hw6]
    simp [World.setCell, Array.getElem?_modify, hk5]
  have hf6 : Fr w5 w6 (fun c => c = g) := by rw [hw6]; exact (((Fr.refl w5 (fun c => c = g)).set ⟨g, 1, none⟩ _ (fun _ => rfl)).set ⟨g, 4, none⟩ _ (fun _ => rfl)).set ⟨g, 5, none⟩ _ (fun _ => rfl)
  have HF6 := hide hf6
  have HB6 := hide hb6
  have HI5 := hide hI5
  have HF5 := hide hf5
  clear hf6 hb6 hI5 hf5 hk5 HCP
  go_wp2_with fail
  go_end0
  rw [← hw6]
  have hz3 := HZ3.out
  have hfa : Fr w w6 (fun c => c = g) := (HF3.out.trans HF5.out (fun _ _ e => e.elim)).trans HF6.out (fun _ _ e => e)
  have hIk : M.Is w6 bk [] := is_fr (is_fr HI3.out HF5.out (fun e => e)) HF6.out hbk
  have hng : ¬ w3.heap.size = g := by omega
  have hIf : M.Is w6 w3.heap.size [] := is_fr HI5.out HF6.out hng
  have hz6 := HF6.out.size
  refine ⟨rfl, fun c => B c ∨ c = w3.heap.size, ⟨fun c hc => .inl hc, fun c hc => ?_⟩, ⟨bk, w3.heap.size, .slice none 0 0, HB6.out, ?_, ?_, ?_, by omega, .inl h6, .inl h7, .inr rfl, fun c hc => by cases hc⟩, hfa⟩
  · rcases hc with hc | rfl
    · exact .inl hc
    · exact .inr (by omega)
  · show M.Is w6 bk D.kept
    rw [hD.1]
    exact hIk
  · show M.Is w6 w3.heap.size D.files
    rw [hD.2.1]
    exact hIf
  · show w6.ownsRow 0 101 4 (.slice none 0 0) D.chg.length _
    rw [hD.2.2]
    exact World.ownsRow_nil ..
theorem app_nil (w : World) : (Builtin.append_ #[64, 64] 64 #[.slice none 0 0, .slice none 0 0]).run Try.prog w = .ok (.slice none 0 0) w := by kernel_rfl
set_option maxRecDepth 100000 in
set_option maxHeartbeats 1600000 in
theorem refRestart0_any (w : World) (rd : Nat) (fuse : Int) (down : Bool) (steps keep torn : Int) (h : w.heap[rd]? = some (rdblk fuse down steps)) :
    Calls Try.prog 26 #[.pointer (some ⟨rd, 0, none⟩), .int .i64 keep, .int .i64 torn] w fun o w' => o = .returned (.tuple #[]) ∧ w'.heap[rd]? = some (rdblk (-1) false steps) ∧ Fr w w' (fun c => c = rd) := by
  unfold rdblk at h ⊢
  have y0 := cell_of_block h 0 _ rfl
  have y1 := cell_of_block h 1 _ rfl
  have y2 := cell_of_block h 2 _ rfl
  have y3 := cell_of_block h 3 _ rfl
  have y4 := cell_of_block h 4 _ rfl
  have r1 := free_of_block h 1
  have r2 := free_of_block h 2
  have r3 := free_of_block h 3
  have r4 := free_of_block h 4
  have hap := fun w => app_nil w
  obtain ⟨mk, hmk⟩ : ∃ mk : Int, max keep 0 = mk := ⟨_, rfl⟩
  have hm0 : ¬ mk < 0 := by omega
  have HH := hide h
  clear h
  go_enter Try.func26, Try.ntmps26
  go_wp2_with fail
  go_loopw [6] (fun vi wx => vi = .int .i64 0 ∧ wx = w) (fun _ _ => 0)
  case atStart => exact ⟨rfl, rfl⟩
  case round =>
    obtain ⟨rfl, hwr⟩ := hrel
    rw [hwr]
    clear hwr
    go_wp2_with fail
    go_end0
    refine ⟨rfl, ?_, ((((Fr.refl w (fun c => c = rd)).set ⟨rd, 1, none⟩ _ (fun _ => rfl)).set ⟨rd, 2, none⟩ _ (fun _ => rfl)).set ⟨rd, 4, none⟩ _ (fun _ => rfl)).set ⟨rd, 3, none⟩ _ (fun _ => rfl)⟩
    have h := HH.out
    simp [World.setCell, Array.getElem?_modify, h]
end Go.Proofs.Ytlmkpjdaoinmoaa
