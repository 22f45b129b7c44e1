/- A disk in memory; disk.New, Step, has, Arm. -/
import Derived.Test.YtlmkpjdaoinmoaaDA
import Derived.Test.YtlmkpjdaoinmoaaVY
import Derived.Carry
namespace Go.Proofs.Ytlmkpjdaoinmoaa
open Go.RowKit
attribute [local go_sem ↓] Go.wp_at_zero Go.wp_at_succ
/-- A change of files. -/
structure Ch where
  kind : Int
  name : ByteArray
  dest : ByteArray
  data : ByteArray
/-- A disk, as plain lists. -/
structure Dk where
  kept : List (ByteArray × ByteArray)
  files : List (ByteArray × ByteArray)
  chg : List Ch
  steps : Int
  left : Int
  down : Bool
def Ch.cells (c : Ch) : List Value := [.int .i64 c.kind, .string c.name, .string c.dest, .string c.data]
/-- All but some blocks is as it was. -/
structure Fr (w w' : World) (ex : Nat → Prop) : Prop where
  os : w'.os = w.os
  tape : w'.tape = w.tape
  output : w'.output = w.output
  size : w.heap.size ≤ w'.heap.size
  block : ∀ c, c < w.heap.size → ¬ ex c → w'.heap[c]? = w.heap[c]?
theorem Fr.refl (w : World) (ex : Nat → Prop) : Fr w w ex := ⟨rfl, rfl, rfl, Nat.le_refl _, fun _ _ _ => rfl⟩
theorem Fr.trans {w w1 w2 : World} {ex ex1 : Nat → Prop} (h : Fr w w1 ex) (k : Fr w1 w2 ex1) (hx : ∀ c, c < w.heap.size → ex1 c → ex c) : Fr w w2 ex :=
  ⟨k.os.trans h.os, k.tape.trans h.tape, k.output.trans h.output, Nat.le_trans h.size k.size, fun c hc he => (k.block c (Nat.lt_of_lt_of_le hc h.size) (fun e => he (hx c hc e))).trans (h.block c hc he)⟩
theorem Fr.weak {w w1 : World} {ex ex1 : Nat → Prop} (h : Fr w w1 ex) (hx : ∀ c, c < w.heap.size → ex c → ex1 c) : Fr w w1 ex1 := ⟨h.os, h.tape, h.output, h.size, fun c hc he => h.block c hc (fun e => he (hx c hc e))⟩
theorem Fr.drew {w w1 : World} {ex : Nat → Prop} (h : Fr w w1 ex) : Fr w w1.drew ex := ⟨h.os, h.tape, h.output, h.size, h.block⟩
theorem Fr.set {w w1 : World} {ex : Nat → Prop} (h : Fr w w1 ex) (a : Addr) (u : Value) (ha : a.block < w.heap.size → ex a.block) : Fr w (w1.setCell a u) ex :=
  h.trans (ex1 := fun c => c = a.block) ⟨rfl, rfl, rfl, by simp, fun c _ he => Below.heap_setCell _ a _ c (fun e => he e)⟩ (fun c hc e => by subst e; exact ha hc)
theorem Fr.set1 (w : World) (g o : Nat) (u : Value) : Fr w (w.setCell ⟨g, o, none⟩ u) (fun c => c = g) := (Fr.refl w _).set ⟨g, o, none⟩ u (fun _ => rfl)
theorem Fr.set2 (w : World) (g o o2 : Nat) (u u2 : Value) : Fr w ((w.setCell ⟨g, o, none⟩ u).setCell ⟨g, o2, none⟩ u2) (fun c => c = g) := (Fr.set1 w g o u).set ⟨g, o2, none⟩ u2 (fun _ => rfl)
theorem Fr.grown {w w1 w2 : World} {ex : Nat → Prop} {row : Option Nat} (h : Fr w w1 ex) (hg : w1.grownBy w2 row) (hx : ∀ c, row = some c → c < w.heap.size → ex c) : Fr w w2 ex :=
  h.trans (ex1 := fun c => row = some c) ⟨hg.os, hg.tape, hg.output, hg.size, fun c hc he => hg.block c hc (fun e => he e.symm)⟩ (fun c hc e => hx c e hc)
theorem Fr.alloc {w w1 : World} {ex : Nat → Prop} (h : Fr w w1 ex) (o : Obj) : Fr w (w1.alloc o) ex := h.grown (World.grownBy_alloc w1 o none) (fun c e => by cases e)
theorem Fr.below {w w1 : World} {ex : Nat → Prop} {B : Nat} (h : Fr w w1 ex) (hB : B ≤ w.heap.size) (hx : ∀ c, ex c → B ≤ c) : Below B w w1 := ⟨h.os, h.tape, h.output, h.size, fun c hc => h.block c (by omega) (fun e => by have := hx c e; omega)⟩
/-- Block g is this disk; its blocks are in B. -/
def Disk (w : World) (B : Nat → Prop) (g : Nat) (D : Dk) : Prop :=
  ∃ bk bf cv, w.heap[g]? = some (.cells #[.map (some bk), .map (some bf), cv, .int .i64 D.steps, .int .i64 D.left, .bool D.down] 79 (0, 0)) ∧ M.Is w bk D.kept ∧ M.Is w bf D.files ∧
    w.ownsRow 0 101 4 cv D.chg.length (D.chg.map Ch.cells).flatten ∧ bk ≠ bf ∧ B g ∧ B bk ∧ B bf ∧ ∀ c, cv.ownBlock = some c → B c
/-- A row stays as it is where its block does. -/
theorem owns_fr {w w' : World} {base n z : Nat} {t : TypeId} {v : Value} {xs : List Value} {ex : Nat → Prop} (h : w.ownsRow base t z v n xs) (hf : Fr w w' ex) (hne : ∀ c, v.ownBlock = some c → ¬ ex c) : w'.ownsRow base t z v n xs := by
  refine ⟨h.1, ?_⟩
  rcases h.2 with h1 | ⟨g, cap, cur, rfl, hb, hg, r⟩
  · exact .inl h1
  · exact .inr ⟨g, cap, cur, rfl, hb, by rw [hf.block g (Array.getElem?_eq_some_iff.1 hg).1 (hne g rfl)]; exact hg, r⟩
theorem is_fr {w w' : World} {b : Nat} {F : List (ByteArray × ByteArray)} {ex : Nat → Prop} (h : M.Is w b F) (hf : Fr w w' ex) (hne : ¬ ex b) : M.Is w' b F := h.at (hf.block b h.lt hne)
theorem Disk.fr {w w' : World} {B ex : Nat → Prop} {g : Nat} {D : Dk} (h : Disk w B g D) (hf : Fr w w' ex) (hne : ∀ c, B c → ¬ ex c) : Disk w' B g D := by
  obtain ⟨bk, bf, cv, h1, h2, h3, h4, h5, h6, h7, h8, h9⟩ := h
  exact ⟨bk, bf, cv, (hf.block g (Array.getElem?_eq_some_iff.1 h1).1 (hne g h6)).trans h1, is_fr h2 hf (hne _ h7), is_fr h3 hf (hne _ h8), owns_fr h4 hf (fun c hc => hne c (h9 c hc)), h5, h6, h7, h8, h9⟩
/-- The row of changes lies in no block of another kind. -/
theorem owns_ne {w : World} {base n B z : Nat} {s : TypeId} {v : Value} {xs : List Value} {o : Obj} (h : w.ownsRow base s z v n xs) (hB : w.heap[B]? = some o) (ho : ∀ cs x, o ≠ .cells cs s x) : v.ownBlock ≠ some B := by
  intro e
  rcases h.2 with ⟨rfl, _⟩ | ⟨g, cap, cur, rfl, _, hg, _⟩
  · simp [Value.ownBlock] at e
  · have : g = B := by simpa [Value.ownBlock] using e
    subst this
    rw [hB] at hg
    exact ho _ _ (Option.some.inj hg)
/-- The cells of the disk itself are turned. -/
theorem Disk.turn {w w' : World} {B : Nat → Prop} {g bk bf : Nat} {cv : Value} {D D' : Dk} (h1 : w.heap[g]? = some (.cells #[.map (some bk), .map (some bf), cv, .int .i64 D.steps, .int .i64 D.left, .bool D.down] 79 (0, 0))) (h2 : M.Is w bk D.kept) (h3 : M.Is w bf D.files)
    (h4 : w.ownsRow 0 101 4 cv D.chg.length (D.chg.map Ch.cells).flatten) (h5 : bk ≠ bf) (h6 : B g) (h7 : B bk) (h8 : B bf) (h9 : ∀ c, cv.ownBlock = some c → B c) (hf : Fr w w' (fun c => c = g))
    (hg : w'.heap[g]? = some (.cells #[.map (some bk), .map (some bf), cv, .int .i64 D'.steps, .int .i64 D'.left, .bool D'.down] 79 (0, 0))) (ek : D'.kept = D.kept) (ef : D'.files = D.files) (ec : D'.chg = D.chg) : Disk w' B g D' := by
  have hk : bk ≠ g := fun e => by
    obtain ⟨es, c, hb, _⟩ := h2
    rw [e, h1] at hb; cases hb
  have hf2 : bf ≠ g := fun e => by
    obtain ⟨es, c, hb, _⟩ := h3
    rw [e, h1] at hb; cases hb
  refine ⟨bk, bf, cv, hg, by rw [ek]; exact is_fr h2 hf hk, by rw [ef]; exact is_fr h3 hf hf2, ?_, h5, h6, h7, h8, h9⟩
  rw [ec]
  exact owns_fr h4 hf (fun c hc e => owns_ne h4 h1 (fun cs x hh => by cases hh) (by rw [← e]; exact hc))
/-- A new disk. -/
def Dk.new : Dk := ⟨[], [], [], 0, -1, false⟩
set_option maxRecDepth 100000 in
theorem new_any (w : World) : Calls Try.prog 7 #[] w fun o w' => ∃ g, o = .returned (.pointer (some ⟨g, 0, none⟩)) ∧ Disk w' (fun c => w.heap.size ≤ c) g Dk.new ∧ Fr w w' (fun _ => False) := by
  have hmm := fun w => run_makeMap (P := Try.prog) 76 w
  go_enter Try.func7, Try.ntmps7
  go_wp2_with fail
  go_ret
  have e1 : (w.alloc (.map #[] 0)).heap.size = w.heap.size + 1 := by simp
  have e2 : ((w.alloc (.map #[] 0)).alloc (.map #[] 0)).heap.size = w.heap.size + 2 := by simp
  refine ⟨_, rfl, ⟨w.heap.size, w.heap.size + 1, .slice none 0 0, ?_, ?_, ?_, World.ownsRow_nil .., by omega, by show _ ≤ _; omega, Nat.le_refl _, Nat.le_succ _, fun c hc => by cases hc⟩, (((Fr.refl _ _).alloc _).alloc _).alloc _⟩
  · have h := heap_alloc_new ((w.alloc (.map #[] 0)).alloc (.map #[] 0)) (.cells #[.map (some w.heap.size), .map (some (w.heap.size + 1)), .slice none 0 0, .int .i64 0, .int .i64 (-1), .bool false] 79)
    rw [e2] at h; exact h
  · exact ((M.Is.made w).kept (World.grownBy_alloc _ _ none) (by simp)).kept (World.grownBy_alloc _ _ none) (by simp)
  · have h := M.Is.made (w.alloc (.map #[] 0))
    rw [e1] at h
    exact h.kept (World.grownBy_alloc _ _ none) (by simp)
/-- Does it fall at the next step? -/
def Dk.fails (D : Dk) : Prop := D.left = 0 ∨ D.down = true
def Dk.fell (D : Dk) : Dk := { D with down := true }
def Dk.step (D : Dk) : Dk := { D with left := if 0 < D.left then D.left - 1 else D.left, steps := D.steps + 1 }
set_option maxRecDepth 100000 in
set_option maxHeartbeats 1000000 in
theorem step_any (w : World) (B : Nat → Prop) (g : Nat) (D : Dk) (h : Disk w B g D) (hs : 0 ≤ D.steps ∧ D.steps ≤ 1000000) (hl : -9223372036854775808 ≤ D.left ∧ D.left ≤ 9223372036854775807) :
    Calls Try.prog 67 #[.pointer (some ⟨g, 0, none⟩)] w fun o w' => ((D.fails ∧ o = .returned (.iface 80 (.int .i64 10)) ∧ Disk w' B g D.fell) ∨ (¬ D.fails ∧ o = .returned .nilIface ∧ Disk w' B g D.step)) ∧ Fr w w' (fun c => c = g) := by
  obtain ⟨bk, bf, cv, h1, h2, h3, h4, h5, h6, h7, h8, h9⟩ := h
  have c3 := cell_of_block h1 3 _ rfl
  have c4 := cell_of_block h1 4 _ rfl
  have c5 := cell_of_block h1 5 _ rfl
  have f3 := free_of_block h1 3
  have f4 := free_of_block h1 4
  have f5 := free_of_block h1 5
  have HT : Hid (∀ w' D', Fr w w' (fun c => c = g) → w'.heap[g]? = some (.cells #[.map (some bk), .map (some bf), cv, .int .i64 D'.steps, .int .i64 D'.left, .bool D'.down] 79 (0, 0)) → D'.kept = D.kept → D'.files = D.files → D'.chg = D.chg → Disk w' B g D') := fun w' D' hf hg ek ef ec => Disk.turn h1 h2 h3 h4 h5 h6 h7 h8 h9 hf hg ek ef ec
  have H1 := hide h1
  clear h1 h2 h3 h4 h5 h6 h7 h8 h9
  go_enter Try.func67, Try.ntmps67
  by_cases hz : D.left = 0
  · rw [hz] at c4
    have HF : Hid (D.fails) := .inl hz
    clear hz
    go_wp2_with fail
    go_ret
    refine ⟨.inl ⟨HF.out, rfl, HT.out _ D.fell (Fr.set1 _ _ _ _) (block_set (i := 5) H1.out _) rfl rfl rfl⟩, Fr.set1 _ _ _ _⟩
  · cases hd : D.down with
    | true =>
      rw [hd] at c5
      have HF : Hid (D.fails) := .inr hd
      have HD : Hid (D.fell = D) := by show D.fell = D; unfold Dk.fell; rw [← hd]
      clear hd
      go_wp2_with fail
      go_ret
      exact ⟨.inl ⟨HF.out, rfl, HT.out _ D.fell (Fr.refl _ _) (by rw [HD.out]; exact H1.out) rfl rfl rfl⟩, Fr.refl _ _⟩
    | false =>
      rw [hd] at c5
      have HF : Hid (¬ D.fails) := fun h => h.elim hz (fun h => by rw [hd] at h; cases h)
      clear hd
      by_cases hp : 0 < D.left
      · have HS : Hid (D.step = { D with left := D.left - 1, steps := D.steps + 1 }) := by show _ = _; unfold Dk.step; rw [if_pos hp]
        go_wp2_with fail
        go_ret
        refine ⟨.inr ⟨HF.out, rfl, HT.out _ D.step (Fr.set2 _ _ _ _ _ _) ?_ rfl rfl rfl⟩, Fr.set2 _ _ _ _ _ _⟩
        rw [HS.out]
        exact block_set (i := 3) (block_set (i := 4) H1.out _) _
      · have HS : Hid (D.step = { D with steps := D.steps + 1 }) := by show _ = _; unfold Dk.step; rw [if_neg hp]
        go_wp2_with fail
        go_ret
        refine ⟨.inr ⟨HF.out, rfl, HT.out _ D.step (Fr.set1 _ _ _ _) ?_ rfl rfl rfl⟩, Fr.set1 _ _ _ _⟩
        rw [HS.out]
        exact block_set (i := 3) H1.out _
end Go.Proofs.Ytlmkpjdaoinmoaa
