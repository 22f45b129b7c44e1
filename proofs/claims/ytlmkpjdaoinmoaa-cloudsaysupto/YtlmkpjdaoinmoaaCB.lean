/- For TopToken and CloudSays: a cloud in memory; New, begin, has. -/
import Derived.Test.YtlmkpjdaoinmoaaCA
namespace Go.Proofs.Ytlmkpjdaoinmoaa
open Go.RowKit
attribute [local go_sem ↓] Go.wp_at_zero Go.wp_at_succ
/-- The block of a cloud. -/
def cblk (g : Nat) (q : Int) (bt : Nat) (given : Int) (bd : Nat) (calls : Int) (bf : Nat) : Obj := .cells #[.pointer (some ⟨g, 0, none⟩), .int .i64 q, .map (some bt), .int .i64 given, .map (some bd), .int .i64 calls, .map (some bf)] 85 (0, 0)
theorem u81 : Try.prog.underlying 81 = some (.map 3 51) := by kernel_rfl
theorem u82 : Try.prog.underlying 82 = some (.map 9 114) := by kernel_rfl
theorem u83 : Try.prog.underlying 83 = some (.map 3 99) := by kernel_rfl
theorem z51 (w : World) : (zeroValue 51).run Try.prog w = .ok (.agg #[.int .i64 0, .string ⟨#[]⟩, .int .i64 0, .int .i64 0, .string ⟨#[]⟩, .slice none 0 0, .slice none 0 0]) w := by kernel_rfl
theorem z114 (w : World) : (zeroValue 114).run Try.prog w = .ok (.agg #[.int .i64 0, .int .i64 0]) w := by kernel_rfl
theorem z99 (w : World) : (zeroValue 99).run Try.prog w = .ok (.agg #[]) w := by kernel_rfl
/-- A thing, cell by cell. -/
structure Tg where
  id : Int
  kind : ByteArray
  k : Int
  n : Int
  s : ByteArray
  la : Option Addr
  ln : Nat
  lc : Nat
  fa : Option Addr
  fn : Nat
  fc : Nat
def Tg.cells (t : Tg) : List Value := [.int .i64 t.k, .int .i64 t.n, .string t.s, .slice t.la t.ln t.lc, .slice t.fa t.fn t.fc]
def Tg.val (t : Tg) : Value := .agg #[.int .i64 t.id, .string t.kind, .int .i64 t.k, .int .i64 t.n, .string t.s, .slice t.la t.ln t.lc, .slice t.fa t.fn t.fc]
/-- A cloud in memory: its disk, its block, its three maps, each in blocks of their own. -/
structure Cl (w : World) (B : Nat → Prop) (g gc bt bd bf : Nat) (D : Dk) (q given calls : Int) (Th : List (Int × Value)) (Di : List (ByteArray × Value)) (Fa : List (Int × Value)) : Prop where
  disk : Disk w B g D
  blk : w.heap[gc]? = some (cblk g q bt given bd calls bf)
  th : T.Is w bt Th
  di : S.Is w bd Di
  fa : T.Is w bf Fa
  nc : ¬ B gc
  nt : ¬ B bt
  nd : ¬ B bd
  nf : ¬ B bf
  e1 : gc ≠ bt
  e2 : gc ≠ bd
  e3 : gc ≠ bf
  e4 : bt ≠ bd
  e5 : bt ≠ bf
  e6 : bd ≠ bf
/-- The blocks that a cloud changes. -/
def Cl.own (B : Nat → Prop) (gc bt bd bf : Nat) (x : Nat) : Prop := B x ∨ x = gc ∨ x = bt ∨ x = bd ∨ x = bf
section
variable {w w' : World} {B : Nat → Prop} {g gc bt bd bf : Nat} {D : Dk} {q given calls : Int} {Th : List (Int × Value)} {Di : List (ByteArray × Value)} {Fa : List (Int × Value)}
theorem Cl.fr (h : Cl w B g gc bt bd bf D q given calls Th Di Fa) (hf : Fr w w' (fun _ => False)) : Cl w' B g gc bt bd bf D q given calls Th Di Fa :=
  ⟨h.disk.fr hf (fun _ _ e => e), (hf.block gc (Array.getElem?_eq_some_iff.1 h.blk).1 (fun e => e)).trans h.blk, h.th.at (hf.block bt h.th.lt (fun e => e)), h.di.at (hf.block bd h.di.lt (fun e => e)), h.fa.at (hf.block bf h.fa.lt (fun e => e)), h.nc, h.nt, h.nd, h.nf, h.e1, h.e2, h.e3, h.e4, h.e5, h.e6⟩
/-- A step of the disk. -/
theorem Cl.stepped (h : Cl w B g gc bt bd bf D q given calls Th Di Fa) {D' : Dk} (hd : Disk w' B g D') (hg : B g) (hf : Fr w w' (fun c => c = g)) : Cl w' B g gc bt bd bf D' q given calls Th Di Fa :=
  ⟨hd, (hf.block gc (Array.getElem?_eq_some_iff.1 h.blk).1 (fun e => h.nc (e ▸ hg))).trans h.blk, h.th.at (hf.block bt h.th.lt (fun e => h.nt (e ▸ hg))), h.di.at (hf.block bd h.di.lt (fun e => h.nd (e ▸ hg))), h.fa.at (hf.block bf h.fa.lt (fun e => h.nf (e ▸ hg))), h.nc, h.nt, h.nd, h.nf, h.e1, h.e2, h.e3, h.e4, h.e5, h.e6⟩
/-- The cloud's own block is written. -/
theorem Cl.wrote (h : Cl w B g gc bt bd bf D q given calls Th Di Fa) {given' calls' : Int} (hb : w'.heap[gc]? = some (cblk g q bt given' bd calls' bf)) (hf : Fr w w' (fun c => c = gc)) : Cl w' B g gc bt bd bf D q given' calls' Th Di Fa :=
  ⟨h.disk.fr hf (fun _ hc e => h.nc (e ▸ hc)), hb, h.th.at (hf.block bt h.th.lt (fun e => h.e1 e.symm)), h.di.at (hf.block bd h.di.lt (fun e => h.e2 e.symm)), h.fa.at (hf.block bf h.fa.lt (fun e => h.e3 e.symm)), h.nc, h.nt, h.nd, h.nf, h.e1, h.e2, h.e3, h.e4, h.e5, h.e6⟩
theorem Cl.things (h : Cl w B g gc bt bd bf D q given calls Th Di Fa) {Th' : List (Int × Value)} (hI : T.Is w' bt Th') (hf : Fr w w' (fun c => c = bt)) : Cl w' B g gc bt bd bf D q given calls Th' Di Fa :=
  ⟨h.disk.fr hf (fun _ hc e => h.nt (e ▸ hc)), (hf.block gc (Array.getElem?_eq_some_iff.1 h.blk).1 h.e1).trans h.blk, hI, h.di.at (hf.block bd h.di.lt (fun e => h.e4 e.symm)), h.fa.at (hf.block bf h.fa.lt (fun e => h.e5 e.symm)), h.nc, h.nt, h.nd, h.nf, h.e1, h.e2, h.e3, h.e4, h.e5, h.e6⟩
theorem Cl.dids (h : Cl w B g gc bt bd bf D q given calls Th Di Fa) {Di' : List (ByteArray × Value)} (hI : S.Is w' bd Di') (hf : Fr w w' (fun c => c = bd)) : Cl w' B g gc bt bd bf D q given calls Th Di' Fa :=
  ⟨h.disk.fr hf (fun _ hc e => h.nd (e ▸ hc)), (hf.block gc (Array.getElem?_eq_some_iff.1 h.blk).1 h.e2).trans h.blk, h.th.at (hf.block bt h.th.lt h.e4), hI, h.fa.at (hf.block bf h.fa.lt (fun e => h.e6 e.symm)), h.nc, h.nt, h.nd, h.nf, h.e1, h.e2, h.e3, h.e4, h.e5, h.e6⟩
theorem Cl.failed (h : Cl w B g gc bt bd bf D q given calls Th Di Fa) {Fa' : List (Int × Value)} (hI : T.Is w' bf Fa') (hf : Fr w w' (fun c => c = bf)) : Cl w' B g gc bt bd bf D q given calls Th Di Fa' :=
  ⟨h.disk.fr hf (fun _ hc e => h.nf (e ▸ hc)), (hf.block gc (Array.getElem?_eq_some_iff.1 h.blk).1 h.e3).trans h.blk, h.th.at (hf.block bt h.th.lt h.e5), h.di.at (hf.block bd h.di.lt h.e6), hI, h.nc, h.nt, h.nd, h.nf, h.e1, h.e2, h.e3, h.e4, h.e5, h.e6⟩
end
theorem Disk.has_g {w : World} {B : Nat → Prop} {g : Nat} {D : Dk} (h : Disk w B g D) : B g := by
  obtain ⟨bk, bf, cv, h1, h2, h3, h4, h5, h6, h7, h8, h9⟩ := h
  exact h6
theorem frb {w w' : World} {b : Nat} (hg : w.grownBy w' (some b)) : Fr w w' (fun c => c = b) := ⟨hg.os, hg.tape, hg.output, hg.size, fun c hc he => hg.block c hc (fun e => he (by simpa using e))⟩
set_option maxRecDepth 100000 in
set_option maxHeartbeats 1000000 in
theorem has_any (w : World) (B : Nat → Prop) (g gc bt bd bf : Nat) (D : Dk) (q given calls : Int) (Th : List (Int × Value)) (Di : List (ByteArray × Value)) (Fa : List (Int × Value)) (id : Int) (h : Cl w B g gc bt bd bf D q given calls Th Di Fa)
    (hv : ∀ x ∈ Th, ∃ t : Tg, x.2 = t.val) :
    Calls Try.prog 42 #[.pointer (some ⟨gc, 0, none⟩), .int .i64 id] w fun o w' => o = .returned (.bool (T.get Th id).isSome) ∧ Fr w w' (fun _ => False) := by
  have c2 := cell_of_block h.blk 2 _ rfl
  have hlk := T.look u81 h.th id true z51
  cases ha : T.at_ id Th 0 with
  | none =>
    rw [ha] at hlk
    have hg : (T.get Th id).isSome = false := by unfold T.get; rw [ha]; rfl
    rw [hg]
    simp only [if_pos] at hlk
    clear h ha hv hg
    go_enter Try.func42, Try.ntmps42
    go_wp2_with fail
    go_ret
    exact ⟨rfl, (Fr.refl _ _).alloc _⟩
  | some p =>
    rw [ha] at hlk
    have hg : (T.get Th id).isSome = true := by unfold T.get; rw [ha]; rfl
    obtain ⟨j, x, hj, hx, hid, hp⟩ := T.at_spec id Th 0 p ha
    obtain ⟨t, hxv⟩ := hv x (List.mem_of_getElem? hx)
    rw [hg]
    simp only [if_pos] at hlk
    rw [hp, hxv] at hlk
    unfold Tg.val at hlk
    clear h ha hv hg hx hp hxv hj hid
    go_enter Try.func42, Try.ntmps42
    go_wp2_with fail
    go_ret
    exact ⟨rfl, (Fr.refl _ _).alloc _⟩
set_option maxRecDepth 100000 in
set_option maxHeartbeats 1000000 in
/-- A cloud is made. -/
theorem cnew_any (w : World) (B : Nat → Prop) (g : Nat) (D : Dk) (q : Int) (h : Disk w B g D) (hB : ∀ x, B x → x < w.heap.size) (hq : 0 ≤ q ∧ q ≤ 40) :
    Calls Try.prog 8 #[.pointer (some ⟨g, 0, none⟩), .int .i64 q] w fun o w' => ∃ gc bt bd bf, o = .returned (.tuple #[.pointer (some ⟨gc, 0, none⟩), .nilIface]) ∧ Cl w' B g gc bt bd bf D q 0 0 [] [] [] ∧ (w.heap.size ≤ gc ∧ w.heap.size ≤ bt ∧ w.heap.size ≤ bd ∧ w.heap.size ≤ bf) ∧ Fr w w' (fun _ => False) := by
  have h0 : ¬ q < 0 := by omega
  have h40 : ¬ (40 : Int) < q := by omega
  have HD := hide h
  have HB := hide hB
  have m1 := fun w => run_makeMap (P := Try.prog) 81 w
  have m2 := fun w => run_makeMap (P := Try.prog) 82 w
  have m3 := fun w => run_makeMap (P := Try.prog) 83 w
  clear h hB
  go_enter Try.func8, Try.ntmps8
  go_wp2_with fail
  go_ret2
  obtain ⟨w1, hw1⟩ : ∃ w1, w1 = w.alloc (.map #[] 0) := ⟨_, rfl⟩
  obtain ⟨w2, hw2⟩ : ∃ w2, w2 = w1.alloc (.map #[] 0) := ⟨_, rfl⟩
  obtain ⟨w3, hw3⟩ : ∃ w3, w3 = w2.alloc (.map #[] 0) := ⟨_, rfl⟩
  obtain ⟨w4, hw4⟩ : ∃ w4, w4 = w3.alloc (cblk g q w.heap.size 0 w1.heap.size 0 w2.heap.size) := ⟨_, rfl⟩
  have f1 : Fr w w1 (fun _ => False) := by rw [hw1]; exact (Fr.refl _ _).alloc _
  have f2 : Fr w1 w2 (fun _ => False) := by rw [hw2]; exact (Fr.refl _ _).alloc _
  have f3 : Fr w2 w3 (fun _ => False) := by rw [hw3]; exact (Fr.refl _ _).alloc _
  have f4 : Fr w3 w4 (fun _ => False) := by rw [hw4]; exact (Fr.refl _ _).alloc _
  have s1 : w1.heap.size = w.heap.size + 1 := by rw [hw1]; simp
  have s2 : w2.heap.size = w.heap.size + 2 := by rw [hw2]; simp [s1]
  have s3 : w3.heap.size = w.heap.size + 3 := by rw [hw3]; simp [s2]
  have i1 : T.Is w1 w.heap.size [] := by rw [hw1]; exact T.Is.made w
  have i2 : S.Is w2 w1.heap.size [] := by rw [hw2]; exact S.Is.made w1
  have i3 : T.Is w3 w2.heap.size [] := by rw [hw3]; exact T.Is.made w2
  have f24 : Fr w1 w4 (fun _ => False) := (f2.trans f3 (fun _ _ e => e)).trans f4 (fun _ _ e => e)
  have f34 : Fr w2 w4 (fun _ => False) := f3.trans f4 (fun _ _ e => e)
  have f04 : Fr w w4 (fun _ => False) := f1.trans f24 (fun _ _ e => e)
  have hb := HB.out
  have e4 : w4 = (((w.alloc (.map #[] 0)).alloc (.map #[] 0)).alloc (.map #[] 0)).alloc (.cells #[.pointer (some ⟨g, 0, none⟩), .int .i64 q, .map (some w.heap.size), .int .i64 0, .map (some (w.heap.size + 1)), .int .i64 0, .map (some (w.heap.size + 1 + 1))] 85) := by
    rw [hw4, hw3, hw2, hw1]
    unfold cblk
    simp
  refine ⟨w.heap.size + 1 + 1 + 1, rfl, w.heap.size, w.heap.size + 1, w.heap.size + 1 + 1, ?_, by omega, ?_⟩
  · rw [← e4]
    have hk : w4.heap[w.heap.size + 1 + 1 + 1]? = some (cblk g q w.heap.size 0 (w.heap.size + 1) 0 (w.heap.size + 1 + 1)) := by
      have h0 := heap_alloc_new w3 (cblk g q w.heap.size 0 w1.heap.size 0 w2.heap.size)
      rw [← hw4, s3, s1, s2] at h0
      exact h0
    rw [s1] at i2
    rw [s2] at i3
    refine ⟨HD.out.fr f04 (fun _ _ e => e), hk, i1.at (f24.block _ (by omega) (fun e => e)), i2.at (f34.block _ (by omega) (fun e => e)), i3.at (f4.block _ (by omega) (fun e => e)), fun e => by have := hb _ e; omega, fun e => by have := hb _ e; omega, fun e => by have := hb _ e; omega, fun e => by have := hb _ e; omega, by omega, by omega, by omega, by omega, by omega, by omega⟩
  · rw [← e4]
    exact f04
set_option maxRecDepth 100000 in
set_option maxHeartbeats 1000000 in
/-- A call begins: it is counted; it may be one that is refused. (The disk does not fall.) -/
theorem begin_any (w : World) (B : Nat → Prop) (g gc bt bd bf : Nat) (D : Dk) (q given calls : Int) (Th : List (Int × Value)) (Di : List (ByteArray × Value)) (Fa : List (Int × Value)) (h : Cl w B g gc bt bd bf D q given calls Th Di Fa) (hs : 0 ≤ D.steps ∧ D.steps ≤ 1000000) (hl : -9223372036854775808 ≤ D.left ∧ D.left ≤ 9223372036854775807) (hn : ¬ D.fails) (hc : 0 ≤ calls ∧ calls ≤ 1000000) (hF : T.get Fa calls = none) :
    Calls Try.prog 57 #[.pointer (some ⟨gc, 0, none⟩)] w fun o w' => o = .returned .nilIface ∧ Cl w' B g gc bt bd bf D.step q given (calls + 1) Th Di Fa ∧ Fr w w' (fun c => c = g ∨ c = gc) := by
  have HST := hide (step_any w B g D h.disk hs hl)
  have c0 := cell_of_block h.blk 0 _ rfl
  have HH := hide h
  have hBg := h.disk.has_g
  have hgc : gc ≠ g := fun e => h.nc (e ▸ hBg)
  have HF : Hid (∀ W, T.Is W bf Fa → (Instr.lookup 83 (.map (some bf)) (.int .i64 calls) true).run Try.prog W = .ok (.tuple #[.agg #[], .bool false]) W) := by
    intro W hI
    have hlk := T.look u83 hI calls true z99
    cases ha : T.at_ calls Fa 0 with
    | none => rw [ha] at hlk; exact hlk
    | some p => unfold T.get at hF; rw [ha] at hF; cases hF
  clear h hF hs hl
  go_enter Try.func57, Try.ntmps57
  go_wp2_with fail
  refine HST.out.mono ?_
  rintro o w1 ⟨⟨hx, _⟩ | ⟨_, rfl, hD1⟩, hf1⟩
  · exact absurd hx hn
  · have hcl1 := HH.out.stepped hD1 hBg hf1
    have c5 := cell_of_block hcl1.blk 5 _ rfl
    have f5 := free_of_block hcl1.blk 5
    have hb2 : (w1.setCell ⟨gc, 5, none⟩ (.int .i64 (calls + 1))).heap[gc]? = some (cblk g q bt given bd (calls + 1) bf) := by
      have := hcl1.blk
      unfold cblk at this ⊢
      simp [World.setCell, Array.getElem?_modify, this]
    have hfs : Fr w1 (w1.setCell ⟨gc, 5, none⟩ (.int .i64 (calls + 1))) (fun c => c = gc) := (Fr.refl w1 _).set _ _ (fun _ => rfl)
    have hcl2 := hcl1.wrote hb2 hfs
    have c6 := cell_of_block hb2 6 _ rfl
    have hlk := HF.out _ hcl2.fa
    have hwr : IntKind.i64.wrap (calls + 1) = calls + 1 := by
      rw [IntKind.wrap, show (2 : Int) ^ IntKind.i64.bits = 18446744073709551616 from rfl, show IntKind.i64.signed = true from rfl, show (2 : Int) ^ (IntKind.i64.bits - 1) = 9223372036854775808 from rfl]
      simp
      omega
    have HCL2 := hide hcl2
    have HFS := hide ((hf1.weak (ex1 := fun c => c = g ∨ c = gc) (fun _ _ e => .inl e)).trans hfs (fun _ _ e => .inr e))
    clear hcl1 hcl2 hfs hb2 hD1 hf1 HST
    go_wp2_with fail
    go_ret
    exact ⟨rfl, HCL2.out.fr ((Fr.refl _ _).alloc _), HFS.out.alloc _⟩
end Go.Proofs.Ytlmkpjdaoinmoaa
