/- What finder's closure returns: the next token, with where it begins. -/
import Derived.Test.YtplhieahcajjeaaLexF
import Derived.Deep.RegionHeld3
import Derived.Deep.DrawnRows
import Derived.Deep.DeepCutAuto
namespace Go.Proofs.Ytplhieahcajjeaa
open Go.RowKit
attribute [local go_sem ↓] Go.wp_at_zero Go.wp_at_succ
theorem grown_below {w w1 : World} (h : Below w.heap.size w w1) (row : Option Nat) : w.grownBy w1 row := ⟨h.os, h.tape, h.output, h.size, fun k hk _ => h.block k hk⟩
theorem grown_trans {w w1 w2 : World} {row : Option Nat} (h : w.grownBy w1 row) (k : w1.grownBy w2 row) : w.grownBy w2 row :=
  ⟨k.os.trans h.os, k.tape.trans h.tape, k.output.trans h.output, Nat.le_trans h.size k.size, fun j hj hr => (k.block j (Nat.lt_of_lt_of_le hj h.size) hr).trans (h.block j hj hr)⟩
theorem grown_set (w : World) (a : Addr) (v : Value) : w.grownBy (w.setCell a v) (some a.block) :=
  ⟨rfl, rfl, rfl, by simp, fun k _ hr => Below.heap_setCell w a v k (fun e => hr (by rw [e]))⟩
theorem grown_set_new {w w1 : World} {row : Option Nat} (h : w.grownBy w1 row) (a : Addr) (v : Value) (ha : w.heap.size ≤ a.block) : w.grownBy (w1.setCell a v) row :=
  ⟨h.os, h.tape, h.output, by have := h.size; simpa using this, fun k hk hr => (Below.heap_setCell w1 a v k (by omega)).trans (h.block k hk hr)⟩
theorem grown_drewN (w : World) (n : Nat) (row : Option Nat) : w.grownBy (w.drewN n) row := ⟨rfl, rfl, rfl, Nat.le_refl _, fun _ _ _ => rfl⟩
theorem grown_drew (w : World) (row : Option Nat) : w.grownBy w.drew row := ⟨rfl, rfl, rfl, Nat.le_refl _, fun _ _ _ => rfl⟩
theorem grown_refl (w : World) (row : Option Nat) : w.grownBy w row := ⟨rfl, rfl, rfl, Nat.le_refl _, fun _ _ _ => rfl⟩
theorem Lx.qt_size (l : List UInt8) (k : Nat) (acc : List UInt8) : (Lx.qt l k acc).size ≤ k + l.length := by
  induction h : l.length using Nat.strongRecOn generalizing l k acc with
  | ind n ih =>
    cases l with
    | nil => rw [Lx.qt_nil]; simp [Lx.bad]
    | cons c r =>
      rw [Lx.qt_cons]
      split
      · split <;> simp [Lx.bad] at *; omega
      · split
        · simp [Lx.bad]
        · have hle := Lx.unq_le (c :: r) (by simp)
          have hlen : (List.drop (Lx.unq (c :: r)).2 (c :: r)).length = (c :: r).length - (Lx.unq (c :: r)).2 := List.length_drop
          have := ih _ (by rw [← h, hlen]; simp only [List.length_cons] at *; omega) (List.drop (Lx.unq (c :: r)).2 (c :: r)) (k + (Lx.unq (c :: r)).2) (acc ++ [(Lx.unq (c :: r)).1]) rfl
          rw [hlen] at this
          omega
theorem Lx.first_size (l : List UInt8) : (Lx.firstTok l).size ≤ l.length := by
  cases l with
  | nil => exact Nat.le_refl _
  | cons c r =>
    rw [Lx.firstTok]
    split
    · rw [Lx.wordTok]; split
      · simp [Lx.bad]
      · exact Lx.plen_le _ _
    · split
      · rw [Lx.digitsTok]; split
        · simp [Lx.bad]
        · exact Lx.plen_le _ _
      · split
        · rw [Lx.quotedTok]
          have := Lx.qt_size ((c :: r).drop 1) 1 []
          simp only [List.drop_succ_cons, List.drop_zero, List.length_cons] at *
          omega
        · rw [Lx.signTok]; split
          · rename_i h
            have := congrArg List.length h
            simp only [List.length_take, List.length_cons, List.length_nil] at *
            omega
          · split
            · simp [Lx.bad]
            · simp
theorem Lx.gap_le (r : Bool) (l : List UInt8) : Lx.gapLen r l ≤ l.length := by
  induction l generalizing r with
  | nil => exact Nat.le_refl _
  | cons b t ih => rw [Lx.gapLen]; split <;> simp; exact ih _
theorem after_gap {w w1 : World} {o o' : Obj} {A : Nat} (hA : w.heap[A]? = some o') (hb : Below (w.alloc o).drew.heap.size (w.alloc o).drew w1) : w1.heap[A]? = some o' := by
  have lA : A < w.heap.size := (Array.getElem?_eq_some_iff.1 hA).1
  rw [hb.block A (by simp; omega)]
  exact (heap_alloc_old w o lA).trans hA
theorem set_one {w : World} {g : Nat} {u v : Value} {e : TypeId} (h : w.heap[g]? = some (.cells #[u] e (0, 0))) : (w.setCell ⟨g, 0, none⟩ v).heap[g]? = some (.cells #[v] e (0, 0)) := one_setCell h
theorem cut_rel {w w1 : World} {A B k g : Nat} {s : ByteArray} {o : Obj} (hne : A ≠ B) (lA : A < w.heap.size)
    (hA1 : w1.heap[A]? = some (.cells #[.int .i64 k] 3 (0, 0))) (hB1 : w1.heap[B]? = some (.cells #[.string s] 9 (0, 0))) (hb : Below (w.alloc o).drew.heap.size (w.alloc o).drew w1) :
    (w1.setCell ⟨A, 0, none⟩ (.int .i64 ((k : Int) + (g : Int)))).heap[A]? = some (.cells #[.int .i64 (k + g : Nat)] 3 (0, 0)) ∧
    (w1.setCell ⟨A, 0, none⟩ (.int .i64 ((k : Int) + (g : Int)))).heap[B]? = some (.cells #[.string s] 9 (0, 0)) ∧
    (w1.setCell ⟨A, 0, none⟩ (.int .i64 ((k : Int) + (g : Int)))).heap[w.heap.size]? = some o ∧ w.grownBy (w1.setCell ⟨A, 0, none⟩ (.int .i64 ((k : Int) + (g : Int)))) (some A) := by
  refine ⟨set_one hA1, ?_, ?_, ?_⟩
  · rw [Below.heap_setCell _ _ _ _ (Ne.symm hne)]; exact hB1
  · rw [Below.heap_setCell _ _ _ _ (by show w.heap.size ≠ A; omega), hb.block w.heap.size (by simp)]
    exact heap_alloc_new w o
  · refine grown_trans (grown_trans (World.grownBy_alloc w o _) (grown_trans (grown_drew _ _) (grown_below hb _))) (grown_set w1 ⟨A, 0, none⟩ _)
set_option maxRecDepth 100000 in
set_option maxHeartbeats 800000 in
theorem find_any (s : ByteArray) (A B k : Nat) (w : World) (hs : s.size ≤ 1000000) (hk : k ≤ s.size) (hne : A ≠ B)
    (hA : w.heap[A]? = some (.cells #[.int .i64 k] 3 (0, 0))) (hB : w.heap[B]? = some (.cells #[.string s] 9 (0, 0))) :
    Calls Try.prog 16 #[.pointer (some ⟨A, 0, none⟩), .pointer (some ⟨B, 0, none⟩)] w fun e w' => ∃ (a : Nat) (T : Lx.Tok),
      a = k + Lx.gapLen false ((Lx.bl s).drop k) ∧ T = Lx.firstTok ((Lx.bl s).drop a) ∧
      e = .returned (.tuple #[.agg #[.int .i64 T.kind, .int .i64 a, .string (Lx.str T.text)], Lx.errV T.err]) ∧
      w'.heap[A]? = some (.cells #[.int .i64 (a + T.size : Nat)] 3 (0, 0)) ∧ w.grownBy w' (some A) := by
  have cA := cell_of_block hA 0 (.int .i64 k) rfl
  have cB := cell_of_block hB 0 (.string s) rfl
  have fA := free_of_block hA 0
  have lA : A < w.heap.size := (Array.getElem?_eq_some_iff.1 hA).1
  have lB : B < w.heap.size := (Array.getElem?_eq_some_iff.1 hB).1
  have nA := World.new_ne w ⟨A, 0, none⟩ cA
  have nB := World.new_ne w ⟨B, 0, none⟩ cB
  have hk0 : (0 : Int) ≤ (k : Int) := by omega
  have hk1 : (k : Int) ≤ (s.size : Int) := by omega
  have HA : Hid _ := hA
  have HB : Hid _ := hB
  clear hA hB
  have hx := fun w => gap_any (s.extract k s.size) w (by simp; omega)
  rw [bl_rest] at hx
  have hg := Lx.gap_le false ((Lx.bl s).drop k)
  rw [List.length_drop, Lx.length_bl] at hg
  refine Calls.mono ?_ (fun e w' h => (⟨_, _, rfl, rfl, h⟩ : ∃ (a : Nat) (T : Lx.Tok), a = k + Lx.gapLen false ((Lx.bl s).drop k) ∧ T = Lx.firstTok ((Lx.bl s).drop a) ∧
      e = .returned (.tuple #[.agg #[.int .i64 T.kind, .int .i64 a, .string (Lx.str T.text)], Lx.errV T.err]) ∧
      w'.heap[A]? = some (.cells #[.int .i64 (a + T.size : Nat)] 3 (0, 0)) ∧ w.grownBy w' (some A)))
  generalize Lx.gapLen false ((Lx.bl s).drop k) = g at *
  have HX : Hid _ := hx
  clear hx
  have hwr : IntKind.i64.wrap ((k : Int) + (g : Int)) = (k : Int) + (g : Int) := by
    rw [IntKind.wrap]; simp [IntKind.signed, IntKind.bits]; omega
  have hy := fun w => first_any (s.extract (k + g) s.size) w (by simp; omega)
  rw [bl_rest] at hy
  simp only [Lx.tokV] at hy
  have hT := Lx.first_size ((Lx.bl s).drop (k + g))
  rw [List.length_drop, Lx.length_bl] at hT
  generalize Lx.firstTok ((Lx.bl s).drop (k + g)) = T at *
  have HY : Hid _ := hy
  clear hy
  go_enter Try.func16, Try.ntmps16
  go_wp2_with fail
  go_cut [] (fun wr => wr.heap[A]? = some (.cells #[.int .i64 (k + g : Nat)] 3 (0, 0)) ∧ wr.heap[B]? = some (.cells #[.string s] 9 (0, 0)) ∧ wr.heap[w.heap.size]? = some (.cells #[.int .i64 0, .int .i64 0, .string ⟨#[]⟩] 34 (0, 0)) ∧ w.grownBy wr (some A))
  case first =>
    go_region_with (first | (go_at_call 17; refine (HX.out _).mono ?_; rintro e w1 ⟨rfl, hb⟩; have hA1 := after_gap HA.out hb; have hB1 := after_gap HB.out hb; have cA1 := cell_of_block hA1 0 (.int .i64 k) rfl; have cB1 := cell_of_block hB1 0 (.string s) rfl; have fA1 := free_of_block hA1 0))
    all_goals (go_wp2_with fail; go_meet; exact cut_rel hne lA hA1 hB1 hb)
  case rest =>
    obtain ⟨hA2, hB2, hC2, hg2⟩ := hcut
    clear hwr HX cA cB fA nA nB HA HB
    have cA := cell_of_block hA2 0 (.int .i64 (k + g : Nat)) rfl
    have cB := cell_of_block hB2 0 (.string s) rfl
    have lA2 : A < wc.heap.size := (Array.getElem?_eq_some_iff.1 hA2).1
    have lC2 : w.heap.size < wc.heap.size := (Array.getElem?_eq_some_iff.1 hC2).1
    go_wp2_with fail
    refine (HY.out _).mono ?_
    rintro e w3 ⟨rfl, hb3⟩
    have hA3 := (hb3.block A lA2).trans hA2
    have hC3 := (hb3.block w.heap.size lC2).trans hC2
    have hg3 := grown_trans hg2 (grown_below hb3 (some A))
    have hs3 := hb3.size
    have aA := cell_of_block hA3 0 (.int .i64 (k + g : Nat)) rfl
    have fA := free_of_block hA3 0
    have c0 := cell_of_block hC3 0 (.int .i64 0) rfl
    have c1 := cell_of_block hC3 1 (.int .i64 0) rfl
    have c2 := cell_of_block hC3 2 (.string ⟨#[]⟩) rfl
    have f0 := free_of_block hC3 0
    have f1 := free_of_block hC3 1
    have f2 := free_of_block hC3 2
    have lA3 : A < w3.heap.size := by omega
    have lC3 : w.heap.size < w3.heap.size := by omega
    have HA3 : Hid _ := hA3
    have HG3 : Hid _ := hg3
    clear hb3 hA2 hB2 hC2 hg2 cA cB hA3 hC3 hg3 hs3 lA2 lC2 lB
    go_wp2_with fail
    refine bodyPost_ret (v := .tuple #[.agg #[.int .i64 T.kind, .int .i64 ((k : Int) + (g : Int)), .string (Lx.str T.text)], Lx.errV T.err]) (by simp [results, Try.results16, go_sem, c0, c1, c2, lC3]) rfl ⟨rfl, ?_, ?_⟩
    · rw [heap_alloc_old _ _ (by simpa using lA3), Below.heap_setCell _ _ _ _ (by show A ≠ w.heap.size; omega), Below.heap_setCell _ _ _ _ (by show A ≠ w.heap.size; omega), Below.heap_setCell _ _ _ _ (by show A ≠ w.heap.size; omega)]
      exact set_one HA3.out
    · refine grown_trans ?_ (World.grownBy_alloc _ _ _)
      exact grown_set_new (grown_set_new (grown_set_new (grown_trans HG3.out (grown_set w3 ⟨A, 0, none⟩ _)) _ _ (Nat.le_refl _)) _ _ (Nat.le_refl _)) _ _ (Nat.le_refl _)
end Go.Proofs.Ytplhieahcajjeaa
