/- TopState: FE SB. -/
import Derived.Test.YtcekcfjabhlheaaGreatDoorFD
set_option maxRecDepth 100000
set_option maxHeartbeats 4000000
namespace Go.Proofs.YtcekcfjabhlheaaGreatDoor.Dx
open Go.RowKit
attribute [local go_sem ↓] Go.wp_at_zero Go.wp_at_succ
def Ch.first4 (c : Ch) (n : Int) (F : List (ByteArray × ByteArray)) : List (ByteArray × ByteArray) := if min n c.data.size < 1 then F else ({ c with data := c.data.extract 0 (min n c.data.size).toNat } : Ch).act F
theorem first4_any (w : World) (b : Nat) (c : Ch) (n : Int) (F : List (ByteArray × ByteArray)) (h : M.Is w b F) (hk : c.kinds) (hlen : c.data.size <= 1000000 /\ ((M.get F c.name).getD ⟨#[]⟩).size <= 1000000) (hn : -9223372036854775808 <= n /\ n <= 9223372036854775807) :
  Calls Tryz.prog 29 #[.agg #[.int .i64 c.kind, .string c.name, .string c.dest, .string c.data], .int .i64 n, .map (some b)] w fun o w' => o = .returned (.tuple #[]) /\ M.Is w' b (c.first4 n F) /\ Fr w w' (fun x => x = b) := by
 have hI : ∀ ob, M.Is (w.alloc ob) b F := fun ob => h.kept (World.grownBy_alloc _ _ none) (by simp)
 have hbl := h.lt
 by_cases h1 : min n c.data.size < 1
 ·have HF : Hid (c.first4 n F = F) := by show _ = _; unfold Ch.first4; rw [if_pos h1]
  have HI := hide hI
  clear hI h
  go_enter Tryz.func29, Tryz.ntmps29
  go_wp2_with fail
  all_goals
   refine bodyPost_ret (results_none rfl _ _ _) rfl ?_
   exact ⟨rfl, by rw [HF.out]; exact HI.out _, (Fr.refl _ _).alloc _⟩
 ·have hmin : min n (c.data.size : Int) = n /\ n <= c.data.size \/ min n (c.data.size : Int) = c.data.size /\ (c.data.size : Int) < n := by omega
  have HF : Hid (c.first4 n F = ({ c with data := c.data.extract 0 (min n c.data.size).toNat } : Ch).act F) := by show _ = _; unfold Ch.first4; rw [if_neg h1]
  have hon : ∀ d : ByteArray, d.size <= 1000000 -> Calls Tryz.prog 55 #[.agg #[.int .i64 c.kind, .string c.name, .string c.dest, .string d], .map (some b)] (w.alloc (.cells #[.int .i64 c.kind, .string c.name, .string c.dest, .string d] 74)) fun o w' => o = .returned (.tuple #[]) /\ M.Is w' b (({ c with data := d } : Ch).act F) /\ Fr (w.alloc (.cells #[.int .i64 c.kind, .string c.name, .string c.dest, .string d] 74)) w' (fun x => x = b) :=
   fun d hd => act_any _ b { c with data := d } F (hI _) hk ⟨hd, hlen.2⟩
  have hsz : ∀ m : Nat, (c.data.extract 0 m).size <= 1000000 := fun m => by have := hlen.1; simp; omega
  obtain ⟨HON, HSZ⟩ := hd2 hon hsz
  clear hon hsz hI h
  rcases hmin with ⟨hm, hle⟩ | ⟨hm, hlt⟩
  ·rw [hm] at h1 HF
   obtain ⟨m, rfl⟩ : ∃ m : Nat, n = (m : Int) := ⟨n.toNat, by omega⟩
   clear hm
   go_enter Tryz.func29, Tryz.ntmps29
   go_wp2_with fail
   refine (HON.out _ (HSZ.out m)).mono ?_
   rintro o w2 ⟨rfl, hI2, hf2⟩
   obtain ⟨HI2, HF2⟩ := hd2 hI2 hf2
   clear hI2 hf2
   go_wp2_with fail
   go_end0
   exact ⟨rfl, by rw [HF.out]; exact HI2.out, ((Fr.refl w _).alloc _).trans HF2.out (fun _ _ e => e)⟩
  ·rw [hm] at h1 HF
   clear hm
   go_enter Tryz.func29, Tryz.ntmps29
   go_wp2_with fail
   refine (HON.out c.data hlen.1).mono ?_
   rintro o w2 ⟨rfl, hI2, hf2⟩
   obtain ⟨HI2, HF2⟩ := hd2 hI2 hf2
   clear hI2 hf2
   go_wp2_with fail
   go_end0
   exact ⟨rfl, by rw [HF.out, Int.toNat_natCast, ByteArray.extract_zero_size]; exact HI2.out, ((Fr.refl w _).alloc _).trans HF2.out (fun _ _ e => e)⟩
def Dk.stays4 (D : Dk) (keep torn : Int) : List (ByteArray × ByteArray) := match D.chg[D.many keep]? with | some c => c.first4 torn (D.keep4 (D.many keep)) | none => D.keep4 (D.many keep)
def Dk.again4 (D : Dk) (keep torn : Int) (F2 : List (ByteArray × ByteArray)) : Dk := ⟨D.stays4 keep torn, F2, [], D.steps, -1, false⟩
theorem restart4 (w : World) (B : Nat -> Prop) (g : Nat) (D : Dk) (keep torn : Int) (h : Disk w B g D) (hch : D.chg.length <= 100000) (hk : ∀ c ∈ D.chg, c.kinds) (hsz : ∀ k c, D.chg[k]? = some c -> c.data.size <= 1000000 /\ ((M.get (D.keep4 k) c.name).getD ⟨#[]⟩).size <= 1000000) (hkp : -9223372036854775808 <= keep /\ keep <= 9223372036854775807) (htn : -9223372036854775808 <= torn /\ torn <= 9223372036854775807) (hone : ((D.stays4 keep torn).map (·.1)).Nodup) :
  Calls Tryz.prog 12 #[.pointer (some ⟨g, 0, none⟩), .int .i64 keep, .int .i64 torn] w fun o w' => o = .returned (.tuple #[]) /\ (∃ B' F2, F2.Perm (D.stays4 keep torn) /\ Disk w' B' g (D.again4 keep torn F2) /\ ∀ x, B' x -> B x \/ w.heap.size <= x) /\ Fr w w' B := by
 obtain ⟨n, hn⟩ : ∃ n, n = D.many keep := ⟨_, rfl⟩
 have hnl : n <= D.chg.length := by rw [hn]; unfold Dk.many; omega
 have hkeep := keep4_any w B g D n h hnl hch hk (fun k c _ hc => hsz k c hc)
 have HKP := hide hkeep
 have HBg : Hid (B g) := by obtain ⟨_, _, _, _, _, _, _, _, h6, _⟩ := h; exact h6
 have HON : Hid (∀ (w1 : World) bk c, D.chg[n]? = some c -> M.Is w1 bk (D.keep4 n) -> Calls Tryz.prog 29 #[.agg #[.int .i64 c.kind, .string c.name, .string c.dest, .string c.data], .int .i64 torn, .map (some bk)] w1 fun o w' => o = .returned (.tuple #[]) /\ M.Is w' bk (D.stays4 keep torn) /\ Fr w1 w' (fun x => x = bk)) := by
  intro w1 bk c hc hI
  have e : D.stays4 keep torn = c.first4 torn (D.keep4 n) := by unfold Dk.stays4; rw [<- hn, hc]
  rw [e]
  exact first4_any w1 bk c torn (D.keep4 n) hI (hk c (List.mem_of_getElem? hc)) (hsz n c hc) htn
 have HEND : Hid (¬ n < D.chg.length -> D.stays4 keep torn = D.keep4 n) := by
  intro hx
  unfold Dk.stays4
  rw [<- hn, List.getElem?_eq_none (by omega)]
 obtain ⟨bk0, bf0, cv0, h1, h2, h3, h4, h5, h6, h7, h8, h9⟩ := h
 obtain ⟨av0, cp0, rfl⟩ := owns_shape h4
 have c20 := cell_of_block h1 2 _ rfl
 clear h1 h2 h3 h4 h5 h6 h7 h8 h9 hkeep hsz hk
 have hcase : (n = 0 /\ keep < 0) \/ (keep = (n : Int)) \/ (n = D.chg.length /\ (D.chg.length : Int) < keep) := by
  rw [hn] at hnl ⊢; unfold Dk.many; omega
 clear hn
 rcases hcase with ⟨hz, hle⟩ | rfl | ⟨hz, hgt⟩
 ·subst hz
  go_enter Tryz.func12, Tryz.ntmps12
  go_wp2_with fail
  refine HKP.out.mono ?_
  rintro o w1 ⟨rfl, hD1, hf1⟩
  obtain ⟨bk, bf, cv, h1, h2, h3, h4, h5, h6, h7, h8, h9⟩ := hD1
  obtain ⟨av, cp, rfl⟩ := owns_shape h4
  have c2 := cell_of_block h1 2 _ rfl
  have H7 := hide h7
  clear c20 h3 h5 h6 h7 h8 h9
  by_cases hlt : 0 < D.chg.length
  ·obtain ⟨c, hc⟩ : ∃ c, D.chg[0]? = some c := ⟨_, List.getElem?_eq_getElem hlt⟩
   obtain ⟨gc, cap2, ecv, y0, y1, y2, y3⟩ := chg_at h4 hc
   simp only [Value.slice.injEq] at ecv
   obtain ⟨rfl, _, rfl⟩ := ecv
   simp only [Nat.zero_mul, Nat.zero_add] at y0 y1 y2 y3
   have hon := HON.out w1.drew bk c hc h2
   have c0 := cell_of_block h1 0 _ rfl
   have hkg : bk ≠ g := fun e => by
    obtain ⟨es, c, hb, _⟩ := h2
    rw [e, h1] at hb; cases hb
   have hgck : gc ≠ bk := fun e => by
    obtain ⟨es, c2, hb, _⟩ := h2
    exact owns_ne h4 hb (fun cs x hh => by cases hh) (by rw [<- e]; rfl)
   have K2 : Hid (∀ w2, Fr w1.drew w2 (fun x => x = bk) -> w2.heap[g]? = w1.heap[g]? /\ Fr w w2 B /\ ∀ o u, w1.cell? ⟨gc, o, none⟩ = some u -> w2.cell? ⟨gc, o, none⟩ = some u) := by
    intro w2 hf0
    have hf : Fr w1 w2 (fun x => x = bk) := ⟨hf0.os, hf0.tape, hf0.output, hf0.size, hf0.block⟩
    refine ⟨hf.block g (blt h1) (fun e => hkg e.symm), hf1.trans hf (fun x _ e => by rw [e]; exact H7.out), fun o u hu => ?_⟩
    have hlt2 := World.block_lt_of_cell? w1 _ hu
    have h2 := hf.block gc hlt2 hgck
    rw [<- hu]
    unfold World.cell?
    rw [h2]
   obtain ⟨H1, HOND⟩ := hd2 h1 hon
   clear hon h1 h2 h4 hf1 hkg hgck hc
   go_wp2_with fail
   go_region_held3 (fun W' => W'.cell? ⟨g, 2, none⟩ = some (.slice (some ⟨gc, 0, none⟩) D.chg.length cp) /\ W'.cell? ⟨g, 0, none⟩ = some (.map (some bk)) /\ W'.cell? ⟨gc, 0, none⟩ = some (.int .i64 c.kind) /\ W'.cell? ⟨gc, 1, none⟩ = some (.string c.name) /\ W'.cell? ⟨gc, 2, none⟩ = some (.string c.dest) /\ W'.cell? ⟨gc, 3, none⟩ = some (.string c.data)) (first | exact ⟨c2, c0, y0, y1, y2, y3⟩ | exact ⟨t2, t0, u0, u1, u2, u3⟩ | go_keep)
    (first | (go_at_call 29; (with_reducible refine Calls.mono HOND.out ?_); rintro o w2 ⟨rfl, hI2, hf2⟩; obtain ⟨kg, hf02, kc⟩ := K2.out w2 hf2; have hg2 := kg.trans H1.out; have t0 := cell_of_block hg2 0 _ rfl; have t2 := cell_of_block hg2 2 _ rfl; have u0 := kc _ _ y0; have u1 := kc _ _ y1; have u2 := kc _ _ y2; have u3 := kc _ _ y3))
   clear t0 t2 u0 u1 u2 u3 y0 y1 y2 y3 c0 c2 kg kc K2 hf2 HOND H1
   have hkg : bk ≠ g := fun e => by
    obtain ⟨es, c, hb, _⟩ := hI2
    rw [e, hg2] at hb; cases hb
   have c22 := cell_of_block hg2 2 _ rfl
   have f22 := free_of_block hg2 2
   have hg3 := block_set (i := 2) hg2 (.slice none 0 0)
   have hcp := copied_all _ bk _ (is_fr hI2 (Fr.set1 w2 g 2 (.slice none 0 0)) hkg) hone
   have c03 := cell_of_block hg3 0 _ rfl
   obtain ⟨HG2, HI2, HF02, HG3, HCP⟩ := hd5 hg2 hI2 hf02 hg3 hcp
   have HF23 := hide (Fr.set1 w2 g 2 (.slice none 0 0))
   clear hg2 hI2 hf02 hg3 hcp hkg
   go_wp2_with fail
   generalize w2.setCell _ _ = w3 at *
   refine HCP.out.mono ?_
   rintro o w4 ⟨b2, F2, rfl, hb2, hI4, hP4, hf4⟩
   have HP4 := hide hP4
   clear hP4
   have hg4 := (hf4.block g (blt HG3.out) (fun h => h)).trans HG3.out
   have c14 := cell_of_block hg4 1 _ rfl
   have f14 := free_of_block hg4 1
   have c44 := cell_of_block hg4 4 _ rfl
   have f44 := free_of_block hg4 4
   have c54 := cell_of_block hg4 5 _ rfl
   have f54 := free_of_block hg4 5
   have hnew := Disk.reborn (B := B) (D' := D.again4 keep torn F2) HG2.out HI2.out HF23.out HG3.out hf4 hb2 hI4 HBg.out H7.out rfl rfl rfl
   have hfin : Fr w (((w4.setCell ⟨g, 1, none⟩ (.map (some b2))).setCell ⟨g, 4, none⟩ (.int .i64 (-1))).setCell ⟨g, 5, none⟩ (.bool false)) B := (((((HF02.out.trans HF23.out (fun c _ e => by rw [e]; exact HBg.out)).trans hf4 (fun _ _ h => h.elim)).set ⟨g, 1, none⟩ _ (fun _ => HBg.out)).set ⟨g, 4, none⟩ _ (fun _ => HBg.out)).set ⟨g, 5, none⟩ _ (fun _ => HBg.out))
   have hle : w.heap.size <= b2 := Nat.le_trans (Nat.le_trans HF02.out.size HF23.out.size) hb2
   obtain ⟨HNEW, HFIN⟩ := hd2 hnew hfin
   clear hnew hfin hg4 hI4 hf4
   go_wp2_with fail
   go_end0
   exact ⟨rfl, ⟨_, F2, HP4.out, HNEW.out, fun x hx => hx.imp id (fun e => by rw [e]; exact hle)⟩, HFIN.out⟩
  ·have hst := HEND.out hlt
   have hI2 : M.Is w1 bk (D.stays4 keep torn) := by rw [hst]; exact h2
   clear h2 h4 hst
   have hkg : bk ≠ g := fun e => by
    obtain ⟨es, c, hb, _⟩ := hI2
    rw [e, h1] at hb; cases hb
   have c22 := cell_of_block h1 2 _ rfl
   have f22 := free_of_block h1 2
   have hg3 := block_set (i := 2) h1 (.slice none 0 0)
   have hcp := copied_all _ bk _ (is_fr hI2 (Fr.set1 w1 g 2 (.slice none 0 0)) hkg) hone
   have c03 := cell_of_block hg3 0 _ rfl
   obtain ⟨HG2, HI2, HF02, HG3, HCP⟩ := hd5 h1 hI2 hf1 hg3 hcp
   have HF23 := hide (Fr.set1 w1 g 2 (.slice none 0 0))
   clear h1 hI2 hf1 hg3 hcp hkg
   go_wp2_with fail
   generalize w1.setCell _ _ = w3 at *
   refine HCP.out.mono ?_
   rintro o w4 ⟨b2, F2, rfl, hb2, hI4, hP4, hf4⟩
   have HP4 := hide hP4
   clear hP4
   have hg4 := (hf4.block g (blt HG3.out) (fun h => h)).trans HG3.out
   have c14 := cell_of_block hg4 1 _ rfl
   have f14 := free_of_block hg4 1
   have c44 := cell_of_block hg4 4 _ rfl
   have f44 := free_of_block hg4 4
   have c54 := cell_of_block hg4 5 _ rfl
   have f54 := free_of_block hg4 5
   have hnew := Disk.reborn (B := B) (D' := D.again4 keep torn F2) HG2.out HI2.out HF23.out HG3.out hf4 hb2 hI4 HBg.out H7.out rfl rfl rfl
   have hfin : Fr w (((w4.setCell ⟨g, 1, none⟩ (.map (some b2))).setCell ⟨g, 4, none⟩ (.int .i64 (-1))).setCell ⟨g, 5, none⟩ (.bool false)) B := (((((HF02.out.trans HF23.out (fun c _ e => by rw [e]; exact HBg.out)).trans hf4 (fun _ _ h => h.elim)).set ⟨g, 1, none⟩ _ (fun _ => HBg.out)).set ⟨g, 4, none⟩ _ (fun _ => HBg.out)).set ⟨g, 5, none⟩ _ (fun _ => HBg.out))
   have hle : w.heap.size <= b2 := Nat.le_trans (Nat.le_trans HF02.out.size HF23.out.size) hb2
   obtain ⟨HNEW, HFIN⟩ := hd2 hnew hfin
   clear hnew hfin hg4 hI4 hf4
   go_wp2_with fail
   go_end0
   exact ⟨rfl, ⟨_, F2, HP4.out, HNEW.out, fun x hx => hx.imp id (fun e => by rw [e]; exact hle)⟩, HFIN.out⟩
 ·go_enter Tryz.func12, Tryz.ntmps12
  go_wp2_with fail
  refine HKP.out.mono ?_
  rintro o w1 ⟨rfl, hD1, hf1⟩
  obtain ⟨bk, bf, cv, h1, h2, h3, h4, h5, h6, h7, h8, h9⟩ := hD1
  obtain ⟨av, cp, rfl⟩ := owns_shape h4
  have c2 := cell_of_block h1 2 _ rfl
  have H7 := hide h7
  clear c20 h3 h5 h6 h7 h8 h9
  by_cases hlt : n < D.chg.length
  ·obtain ⟨c, hc⟩ : ∃ c, D.chg[n]? = some c := ⟨_, List.getElem?_eq_getElem hlt⟩
   obtain ⟨gc, cap2, ecv, y0, y1, y2, y3⟩ := chg_at h4 hc
   simp only [Value.slice.injEq] at ecv
   obtain ⟨rfl, _, rfl⟩ := ecv
   have hon := HON.out w1.drew bk c hc h2
   have c0 := cell_of_block h1 0 _ rfl
   have hkg : bk ≠ g := fun e => by
    obtain ⟨es, c, hb, _⟩ := h2
    rw [e, h1] at hb; cases hb
   have hgck : gc ≠ bk := fun e => by
    obtain ⟨es, c2, hb, _⟩ := h2
    exact owns_ne h4 hb (fun cs x hh => by cases hh) (by rw [<- e]; rfl)
   have K2 : Hid (∀ w2, Fr w1.drew w2 (fun x => x = bk) -> w2.heap[g]? = w1.heap[g]? /\ Fr w w2 B /\ ∀ o u, w1.cell? ⟨gc, o, none⟩ = some u -> w2.cell? ⟨gc, o, none⟩ = some u) := by
    intro w2 hf0
    have hf : Fr w1 w2 (fun x => x = bk) := ⟨hf0.os, hf0.tape, hf0.output, hf0.size, hf0.block⟩
    refine ⟨hf.block g (blt h1) (fun e => hkg e.symm), hf1.trans hf (fun x _ e => by rw [e]; exact H7.out), fun o u hu => ?_⟩
    have hlt2 := World.block_lt_of_cell? w1 _ hu
    have h2 := hf.block gc hlt2 hgck
    rw [<- hu]
    unfold World.cell?
    rw [h2]
   obtain ⟨H1, HOND⟩ := hd2 h1 hon
   clear hon h1 h2 h4 hf1 hkg hgck hc
   go_wp2_with fail
   go_region_held3 (fun W' => W'.cell? ⟨g, 2, none⟩ = some (.slice (some ⟨gc, 0, none⟩) D.chg.length cp) /\ W'.cell? ⟨g, 0, none⟩ = some (.map (some bk)) /\ W'.cell? ⟨gc, n * 4, none⟩ = some (.int .i64 c.kind) /\ W'.cell? ⟨gc, n * 4 + 1, none⟩ = some (.string c.name) /\ W'.cell? ⟨gc, n * 4 + 2, none⟩ = some (.string c.dest) /\ W'.cell? ⟨gc, n * 4 + 3, none⟩ = some (.string c.data)) (first | exact ⟨c2, c0, y0, y1, y2, y3⟩ | exact ⟨t2, t0, u0, u1, u2, u3⟩ | go_keep)
    (first | (go_at_call 29; (with_reducible refine Calls.mono HOND.out ?_); rintro o w2 ⟨rfl, hI2, hf2⟩; obtain ⟨kg, hf02, kc⟩ := K2.out w2 hf2; have hg2 := kg.trans H1.out; have t0 := cell_of_block hg2 0 _ rfl; have t2 := cell_of_block hg2 2 _ rfl; have u0 := kc _ _ y0; have u1 := kc _ _ y1; have u2 := kc _ _ y2; have u3 := kc _ _ y3))
   clear t0 t2 u0 u1 u2 u3 y0 y1 y2 y3 c0 c2 kg kc K2 hf2 HOND H1
   have hkg : bk ≠ g := fun e => by
    obtain ⟨es, c, hb, _⟩ := hI2
    rw [e, hg2] at hb; cases hb
   have c22 := cell_of_block hg2 2 _ rfl
   have f22 := free_of_block hg2 2
   have hg3 := block_set (i := 2) hg2 (.slice none 0 0)
   have hcp := copied_all _ bk _ (is_fr hI2 (Fr.set1 w2 g 2 (.slice none 0 0)) hkg) hone
   have c03 := cell_of_block hg3 0 _ rfl
   obtain ⟨HG2, HI2, HF02, HG3, HCP⟩ := hd5 hg2 hI2 hf02 hg3 hcp
   have HF23 := hide (Fr.set1 w2 g 2 (.slice none 0 0))
   clear hg2 hI2 hf02 hg3 hcp hkg
   go_wp2_with fail
   generalize w2.setCell _ _ = w3 at *
   refine HCP.out.mono ?_
   rintro o w4 ⟨b2, F2, rfl, hb2, hI4, hP4, hf4⟩
   have HP4 := hide hP4
   clear hP4
   have hg4 := (hf4.block g (blt HG3.out) (fun h => h)).trans HG3.out
   have c14 := cell_of_block hg4 1 _ rfl
   have f14 := free_of_block hg4 1
   have c44 := cell_of_block hg4 4 _ rfl
   have f44 := free_of_block hg4 4
   have c54 := cell_of_block hg4 5 _ rfl
   have f54 := free_of_block hg4 5
   have hnew := Disk.reborn (B := B) (D' := D.again4 (n : Int) torn F2) HG2.out HI2.out HF23.out HG3.out hf4 hb2 hI4 HBg.out H7.out rfl rfl rfl
   have hfin : Fr w (((w4.setCell ⟨g, 1, none⟩ (.map (some b2))).setCell ⟨g, 4, none⟩ (.int .i64 (-1))).setCell ⟨g, 5, none⟩ (.bool false)) B := (((((HF02.out.trans HF23.out (fun c _ e => by rw [e]; exact HBg.out)).trans hf4 (fun _ _ h => h.elim)).set ⟨g, 1, none⟩ _ (fun _ => HBg.out)).set ⟨g, 4, none⟩ _ (fun _ => HBg.out)).set ⟨g, 5, none⟩ _ (fun _ => HBg.out))
   have hle : w.heap.size <= b2 := Nat.le_trans (Nat.le_trans HF02.out.size HF23.out.size) hb2
   obtain ⟨HNEW, HFIN⟩ := hd2 hnew hfin
   clear hnew hfin hg4 hI4 hf4
   go_wp2_with fail
   go_end0
   exact ⟨rfl, ⟨_, F2, HP4.out, HNEW.out, fun x hx => hx.imp id (fun e => by rw [e]; exact hle)⟩, HFIN.out⟩
  ·have hst := HEND.out hlt
   have hI2 : M.Is w1 bk (D.stays4 (n : Int) torn) := by rw [hst]; exact h2
   clear h2 h4 hst
   have hkg : bk ≠ g := fun e => by
    obtain ⟨es, c, hb, _⟩ := hI2
    rw [e, h1] at hb; cases hb
   have c22 := cell_of_block h1 2 _ rfl
   have f22 := free_of_block h1 2
   have hg3 := block_set (i := 2) h1 (.slice none 0 0)
   have hcp := copied_all _ bk _ (is_fr hI2 (Fr.set1 w1 g 2 (.slice none 0 0)) hkg) hone
   have c03 := cell_of_block hg3 0 _ rfl
   obtain ⟨HG2, HI2, HF02, HG3, HCP⟩ := hd5 h1 hI2 hf1 hg3 hcp
   have HF23 := hide (Fr.set1 w1 g 2 (.slice none 0 0))
   clear h1 hI2 hf1 hg3 hcp hkg
   go_wp2_with fail
   generalize w1.setCell _ _ = w3 at *
   refine HCP.out.mono ?_
   rintro o w4 ⟨b2, F2, rfl, hb2, hI4, hP4, hf4⟩
   have HP4 := hide hP4
   clear hP4
   have hg4 := (hf4.block g (blt HG3.out) (fun h => h)).trans HG3.out
   have c14 := cell_of_block hg4 1 _ rfl
   have f14 := free_of_block hg4 1
   have c44 := cell_of_block hg4 4 _ rfl
   have f44 := free_of_block hg4 4
   have c54 := cell_of_block hg4 5 _ rfl
   have f54 := free_of_block hg4 5
   have hnew := Disk.reborn (B := B) (D' := D.again4 (n : Int) torn F2) HG2.out HI2.out HF23.out HG3.out hf4 hb2 hI4 HBg.out H7.out rfl rfl rfl
   have hfin : Fr w (((w4.setCell ⟨g, 1, none⟩ (.map (some b2))).setCell ⟨g, 4, none⟩ (.int .i64 (-1))).setCell ⟨g, 5, none⟩ (.bool false)) B := (((((HF02.out.trans HF23.out (fun c _ e => by rw [e]; exact HBg.out)).trans hf4 (fun _ _ h => h.elim)).set ⟨g, 1, none⟩ _ (fun _ => HBg.out)).set ⟨g, 4, none⟩ _ (fun _ => HBg.out)).set ⟨g, 5, none⟩ _ (fun _ => HBg.out))
   have hle : w.heap.size <= b2 := Nat.le_trans (Nat.le_trans HF02.out.size HF23.out.size) hb2
   obtain ⟨HNEW, HFIN⟩ := hd2 hnew hfin
   clear hnew hfin hg4 hI4 hf4
   go_wp2_with fail
   go_end0
   exact ⟨rfl, ⟨_, F2, HP4.out, HNEW.out, fun x hx => hx.imp id (fun e => by rw [e]; exact hle)⟩, HFIN.out⟩
 ·subst hz
  go_enter Tryz.func12, Tryz.ntmps12
  go_wp2_with fail
  refine HKP.out.mono ?_
  rintro o w1 ⟨rfl, hD1, hf1⟩
  obtain ⟨bk, bf, cv, h1, h2, h3, h4, h5, h6, h7, h8, h9⟩ := hD1
  obtain ⟨av, cp, rfl⟩ := owns_shape h4
  have c2 := cell_of_block h1 2 _ rfl
  have H7 := hide h7
  clear c20 h3 h5 h6 h7 h8 h9
  have hst := HEND.out (by omega)
  have hI2 : M.Is w1 bk (D.stays4 keep torn) := by rw [hst]; exact h2
  clear h2 h4 hst
  have hkg : bk ≠ g := fun e => by
   obtain ⟨es, c, hb, _⟩ := hI2
   rw [e, h1] at hb; cases hb
  have c22 := cell_of_block h1 2 _ rfl
  have f22 := free_of_block h1 2
  have hg3 := block_set (i := 2) h1 (.slice none 0 0)
  have hcp := copied_all _ bk _ (is_fr hI2 (Fr.set1 w1 g 2 (.slice none 0 0)) hkg) hone
  have c03 := cell_of_block hg3 0 _ rfl
  obtain ⟨HG2, HI2, HF02, HG3, HCP⟩ := hd5 h1 hI2 hf1 hg3 hcp
  have HF23 := hide (Fr.set1 w1 g 2 (.slice none 0 0))
  clear h1 hI2 hf1 hg3 hcp hkg
  go_wp2_with fail
  generalize w1.setCell _ _ = w3 at *
  refine HCP.out.mono ?_
  rintro o w4 ⟨b2, F2, rfl, hb2, hI4, hP4, hf4⟩
  have HP4 := hide hP4
  clear hP4
  have hg4 := (hf4.block g (blt HG3.out) (fun h => h)).trans HG3.out
  have c14 := cell_of_block hg4 1 _ rfl
  have f14 := free_of_block hg4 1
  have c44 := cell_of_block hg4 4 _ rfl
  have f44 := free_of_block hg4 4
  have c54 := cell_of_block hg4 5 _ rfl
  have f54 := free_of_block hg4 5
  have hnew := Disk.reborn (B := B) (D' := D.again4 keep torn F2) HG2.out HI2.out HF23.out HG3.out hf4 hb2 hI4 HBg.out H7.out rfl rfl rfl
  have hfin : Fr w (((w4.setCell ⟨g, 1, none⟩ (.map (some b2))).setCell ⟨g, 4, none⟩ (.int .i64 (-1))).setCell ⟨g, 5, none⟩ (.bool false)) B := (((((HF02.out.trans HF23.out (fun c _ e => by rw [e]; exact HBg.out)).trans hf4 (fun _ _ h => h.elim)).set ⟨g, 1, none⟩ _ (fun _ => HBg.out)).set ⟨g, 4, none⟩ _ (fun _ => HBg.out)).set ⟨g, 5, none⟩ _ (fun _ => HBg.out))
  have hle : w.heap.size <= b2 := Nat.le_trans (Nat.le_trans HF02.out.size HF23.out.size) hb2
  obtain ⟨HNEW, HFIN⟩ := hd2 hnew hfin
  clear hnew hfin hg4 hI4 hf4
  go_wp2_with fail
  go_end0
  exact ⟨rfl, ⟨_, F2, HP4.out, HNEW.out, fun x hx => hx.imp id (fun e => by rw [e]; exact hle)⟩, HFIN.out⟩
end Go.Proofs.YtcekcfjabhlheaaGreatDoor.Dx
namespace Go.Proofs.YtcekcfjabhlheaaGreatDoor.Dx
open Go.RowKit
namespace M
theorem beq_iff (a b : ByteArray) : (a == b) = true ↔ a = b := MapKept.bytes_beq a b
theorem beq_self (a : ByteArray) : (a == a) = true := (beq_iff a a).2 rfl
theorem at_shift (n : ByteArray) : ∀ (S : List (ByteArray × ByteArray)) (i : Nat), at_ n S i = (at_ n S 0).map (fun p => (p.1 + i, p.2))
 | [], _ => rfl
 | x :: S, i => by
  rw [at_, at_]
  split
  ·simp
  ·rw [at_shift n S (i + 1), at_shift n S (0 + 1)]
   cases at_ n S 0 with
   | none => rfl
   | some p => simp; omega
theorem get_cons (x : ByteArray × ByteArray) (F : List (ByteArray × ByteArray)) (n : ByteArray) : get (x :: F) n = if n == x.1 then some x.2 else get F n := by
 unfold get
 rw [at_]
 split
 ·rfl
 ·rw [at_shift]
  cases at_ n F 0 with
  | none => rfl
  | some p => rfl
theorem put_cons (x : ByteArray × ByteArray) (F : List (ByteArray × ByteArray)) (n d : ByteArray) : put (x :: F) n d = if n == x.1 then (n, d) :: F else x :: put F n d := by
 unfold put
 rw [at_]
 by_cases h : (n == x.1) = true
 ·rw [if_pos h, if_pos h]
  rfl
 ·rw [if_neg h, if_neg h, at_shift]
  cases at_ n F 0 with
  | none => rfl
  | some p => rfl
theorem del_cons (x : ByteArray × ByteArray) (F : List (ByteArray × ByteArray)) (n : ByteArray) : del (x :: F) n = if n == x.1 then F else x :: del F n := by
 unfold del
 rw [at_]
 by_cases h : (n == x.1) = true
 ·rw [if_pos h, if_pos h]
  rfl
 ·rw [if_neg h, if_neg h, at_shift]
  cases at_ n F 0 with
  | none => rfl
  | some p => rfl
theorem get_put (n d m : ByteArray) : ∀ F : List (ByteArray × ByteArray), get (put F n d) m = if m == n then some d else get F m
 | [] => by
  have e : put [] n d = [(n, d)] := rfl
  rw [e, get_cons]
 | x :: F => by
  rw [put_cons]
  by_cases h : (n == x.1) = true
  ·have e := (beq_iff _ _).1 h
   rw [if_pos h, get_cons, get_cons, e]
   split <;> rfl
  ·rw [if_neg h, get_cons, get_cons, get_put n d m F]
   by_cases h2 : (m == x.1) = true
   ·rw [if_pos h2, if_pos h2]
    have e := (beq_iff _ _).1 h2
    rw [if_neg (fun k => h ((beq_iff _ _).2 (((beq_iff _ _).1 k).symm.trans e)))]
   ·rw [if_neg h2, if_neg h2]
theorem mem_put {n d : ByteArray} : ∀ {F : List (ByteArray × ByteArray)} {k : ByteArray}, k ∈ (put F n d).map (·.1) -> k = n \/ k ∈ F.map (·.1)
 | [], k, h => by
  have e : put [] n d = [(n, d)] := rfl
  rw [e] at h
  exact .inl (by simpa using h)
 | x :: F, k, h => by
  rw [put_cons] at h
  split at h
  ·rcases List.mem_cons.1 h with h | h
   ·exact .inl h
   ·exact .inr (List.mem_cons_of_mem _ h)
  ·rcases List.mem_cons.1 h with h | h
   ·exact .inr (by rw [h]; simp)
   ·rcases mem_put h with h | h
    ·exact .inl h
    ·exact .inr (List.mem_cons_of_mem _ h)
theorem nodup_put {n d : ByteArray} : ∀ {F : List (ByteArray × ByteArray)}, (F.map (·.1)).Nodup -> ((put F n d).map (·.1)).Nodup
 | [], _ => by
  have e : put [] n d = [(n, d)] := rfl
  rw [e]
  simp
 | x :: F, h => by
  rw [List.map_cons, List.nodup_cons] at h
  rw [put_cons]
  split
  ·rename_i hn
   have e := (beq_iff _ _).1 hn
   rw [List.map_cons, List.nodup_cons]
   exact ⟨by show n ∉ _; rw [e]; exact h.1, h.2⟩
  ·rename_i hn
   rw [List.map_cons, List.nodup_cons]
   refine ⟨fun k => ?_, nodup_put h.2⟩
   rcases mem_put k with k | k
   ·exact hn ((beq_iff _ _).2 k.symm)
   ·exact h.1 k
theorem len_put (n d : ByteArray) : ∀ F : List (ByteArray × ByteArray), (put F n d).length <= F.length + 1
 | [] => Nat.le_refl _
 | x :: F => by
  rw [put_cons]
  split
  ·simp
  ·have := len_put n d F
   simp only [List.length_cons]
   omega
theorem del_sub (n : ByteArray) : ∀ F : List (ByteArray × ByteArray), (del F n).Sublist F
 | [] => List.Sublist.refl _
 | x :: F => by
  rw [del_cons]
  split
  ·exact List.sublist_cons_self _ _
  ·exact (del_sub n F).cons_cons _
theorem nodup_del {n : ByteArray} {F : List (ByteArray × ByteArray)} (h : (F.map (·.1)).Nodup) : ((del F n).map (·.1)).Nodup := h.sublist ((del_sub n F).map _)
theorem get_none {n : ByteArray} : ∀ {F : List (ByteArray × ByteArray)}, n ∉ F.map (·.1) -> get F n = none
 | [], _ => rfl
 | x :: F, h => by
  rw [get_cons, if_neg (fun k => h (by rw [(beq_iff _ _).1 k]; simp))]
  exact get_none (fun k => h (List.mem_cons_of_mem _ k))
theorem get_del (n m : ByteArray) : ∀ {F : List (ByteArray × ByteArray)}, (F.map (·.1)).Nodup -> get (del F n) m = if m == n then none else get F m
 | [], _ => by
  have e : del [] n = [] := rfl
  rw [e]
  split <;> rfl
 | x :: F, h => by
  rw [List.map_cons, List.nodup_cons] at h
  rw [del_cons]
  by_cases hn : (n == x.1) = true
  ·have e := (beq_iff _ _).1 hn
   rw [if_pos hn, get_cons]
   by_cases hm : (m == n) = true
   ·have e2 := (beq_iff _ _).1 hm
    rw [if_pos hm, e2, e]
    exact get_none h.1
   ·rw [if_neg hm, <- e, if_neg hm]
  ·rw [if_neg hn, get_cons, get_cons, get_del n m h.2]
   by_cases h2 : (m == x.1) = true
   ·rw [if_pos h2, if_pos h2]
    have e := (beq_iff _ _).1 h2
    rw [if_neg (fun k => hn ((beq_iff _ _).2 (((beq_iff _ _).1 k).symm.trans e)))]
   ·rw [if_neg h2, if_neg h2]
theorem get_perm {n : ByteArray} {F G : List (ByteArray × ByteArray)} (hp : F.Perm G) : (F.map (·.1)).Nodup -> get F n = get G n := by
 induction hp with
 | nil => exact fun _ => rfl
 | cons x _ ih =>
  intro h
  rw [List.map_cons, List.nodup_cons] at h
  rw [get_cons, get_cons, ih h.2]
 | swap x y F =>
  intro h
  simp only [List.map_cons, List.nodup_cons, List.mem_cons, not_or] at h
  rw [get_cons, get_cons, get_cons, get_cons]
  by_cases h1 : (n == x.1) = true
  ·rw [if_pos h1]
   rw [if_neg (fun k => h.1.1 (((beq_iff _ _).1 k).symm.trans ((beq_iff _ _).1 h1))), if_pos h1]
  ·rw [if_neg h1, if_neg h1]
 | trans h1 _ ih1 ih2 => exact fun h => (ih1 h).trans (ih2 (((h1.map (·.1)).nodup_iff).1 h))
end M
end Go.Proofs.YtcekcfjabhlheaaGreatDoor.Dx
