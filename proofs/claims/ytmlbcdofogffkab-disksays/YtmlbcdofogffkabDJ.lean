/- disk: Restart. -/
import Derived.Test.YtmlbcdofogffkabDI
namespace Go.Proofs.Ytmlbcdofogffkab
open Go.RowKit
attribute [local go_sem ↓] Go.wp_at_zero Go.wp_at_succ
/-- How many changes are kept. -/
def Dk.many (D : Dk) (keep : Int) : Nat := (min (max keep 0) D.chg.length).toNat
/-- Files behind a restart. -/
def Dk.stays (D : Dk) (keep torn : Int) : List (ByteArray × ByteArray) := match D.chg[D.many keep]? with | some c => c.first torn (D.keepTo (D.many keep)) | none => D.keepTo (D.many keep)
def Dk.again (D : Dk) (keep torn : Int) : Dk := ⟨D.stays keep torn, D.stays keep torn, [], D.steps, -1, false⟩
/-- What Restart makes, from when the changes are kept. -/
theorem Disk.reborn {w w1 w2 : World} {B : Nat → Prop} {g bk b2 : Nat} {v1 v2 v4 v5 : Value} {D' : Dk} (h1 : w.heap[g]? = some (.cells #[.map (some bk), v1, v2, .int .i64 D'.steps, v4, v5] 142 (0, 0))) (h2 : M.Is w bk D'.kept) (hf : Fr w w1 (fun c => c = g)) (hg1 : w1.heap[g]? = some (.cells #[.map (some bk), v1, .slice none 0 0, .int .i64 D'.steps, v4, v5] 142 (0, 0)))
    (hf2 : Fr w1 w2 (fun _ => False)) (hb : w1.heap.size ≤ b2) (hI : M.Is w2 b2 D'.files) (hBg : B g) (hBk : B bk) (ec : D'.chg = []) (el : D'.left = -1) (ed : D'.down = false) :
    Disk (((w2.setCell ⟨g, 1, none⟩ (.map (some b2))).setCell ⟨g, 4, none⟩ (.int .i64 (-1))).setCell ⟨g, 5, none⟩ (.bool false)) (fun x => B x ∨ x = b2) g D' := by
  have hkg : bk ≠ g := fun e => by
    obtain ⟨es, c, hb, _⟩ := h2
    rw [e, h1] at hb; cases hb
  have hkl := h2.lt
  have hgl : g < w1.heap.size := (Array.getElem?_eq_some_iff.1 hg1).1
  have hg2 : w2.heap[g]? = some (.cells #[.map (some bk), v1, .slice none 0 0, .int .i64 D'.steps, v4, v5] 142 (0, 0)) := (hf2.block g hgl (fun h => h)).trans hg1
  have hs : Fr w2 (((w2.setCell ⟨g, 1, none⟩ (.map (some b2))).setCell ⟨g, 4, none⟩ (.int .i64 (-1))).setCell ⟨g, 5, none⟩ (.bool false)) (fun c => c = g) := (Fr.set2 w2 g 1 4 _ _).set ⟨g, 5, none⟩ _ (fun _ => rfl)
  refine ⟨bk, b2, .slice none 0 0, ?_, is_fr (is_fr (is_fr h2 hf hkg) hf2 (fun h => h)) hs hkg, is_fr hI hs (by show ¬ b2 = g; omega), by rw [ec]; exact World.ownsRow_nil .., by have := hf.size; omega, .inl hBg, .inl hBk, .inr rfl, fun c hc => by cases hc⟩
  rw [el, ed]
  exact block_set (i := 5) (block_set (i := 4) (block_set (i := 1) hg2 _) _) _
set_option maxRecDepth 100000 in
set_option maxHeartbeats 4000000 in
theorem restart_any (w : World) (B : Nat → Prop) (g : Nat) (D : Dk) (keep torn : Int) (h : Disk w B g D) (hch : D.chg.length ≤ 100000) (hk : ∀ c ∈ D.chg, c.kind = 0 ∨ c.kind = 1) (hsz : ∀ k c, D.chg[k]? = some c → c.data.size ≤ 1000000 ∧ ((M.get (D.keepTo k) c.name).getD ⟨#[]⟩).size ≤ 1000000) (hkp : -9223372036854775808 ≤ keep ∧ keep ≤ 9223372036854775807) (htn : -9223372036854775808 ≤ torn ∧ torn ≤ 9223372036854775807) (hone : (D.stays keep torn).length ≤ 1) :
    Calls Try.prog 38 #[.pointer (some ⟨g, 0, none⟩), .int .i64 keep, .int .i64 torn] w fun o w' => o = .returned (.tuple #[]) ∧ (∃ B', Disk w' B' g (D.again keep torn) ∧ ∀ x, B' x → B x ∨ w.heap.size ≤ x) ∧ Fr w w' B := by
  obtain ⟨n, hn⟩ : ∃ n, n = D.many keep := ⟨_, rfl⟩
  have hnl : n ≤ D.chg.length := by rw [hn]; unfold Dk.many; omega
  have hkeep := keep_any w B g D n h hnl hch hk (fun k c _ hc => hsz k c hc)
  have HKP := hide hkeep
  have HBg : Hid (B g) := by obtain ⟨_, _, _, _, _, _, _, _, h6, _⟩ := h; exact h6
  have HON : Hid (∀ (w1 : World) bk c, D.chg[n]? = some c → M.Is w1 bk (D.keepTo n) → Calls Try.prog 88 #[.agg #[.int .i64 c.kind, .string c.name, .string c.dest, .string c.data], .int .i64 torn, .map (some bk)] w1 fun o w' => o = .returned (.tuple #[]) ∧ M.Is w' bk (D.stays keep torn) ∧ Fr w1 w' (fun x => x = bk)) := by
    intro w1 bk c hc hI
    have e : D.stays keep torn = c.first torn (D.keepTo n) := by unfold Dk.stays; rw [← hn, hc]
    rw [e]
    exact onFirst_any w1 bk c torn (D.keepTo n) hI (hk c (List.mem_of_getElem? hc)) (hsz n c hc) htn
  have HEND : Hid (¬ n < D.chg.length → D.stays keep torn = D.keepTo n) := by
    intro hx
    unfold Dk.stays
    rw [← hn, List.getElem?_eq_none (by omega)]
  obtain ⟨bk0, bf0, cv0, h1, h2, h3, h4, h5, h6, h7, h8, h9⟩ := h
  obtain ⟨av0, cp0, rfl⟩ := owns_shape h4
  have c20 := cell_of_block h1 2 _ rfl
  clear h1 h2 h3 h4 h5 h6 h7 h8 h9 hkeep hsz hk
  have hcase : (n = 0 ∧ keep < 0) ∨ (keep = (n : Int)) ∨ (n = D.chg.length ∧ (D.chg.length : Int) < keep) := by
    rw [hn] at hnl ⊢; unfold Dk.many; omega
  clear hn
  rcases hcase with ⟨hz, hle⟩ | rfl | ⟨hz, hgt⟩
  · subst hz
    go_enter Try.func38, Try.ntmps38
    go_wp2_with fail
    refine HKP.out.mono ?_
    rintro o w1 ⟨rfl, hD1, hf1⟩
    obtain ⟨bk, bf, cv, h1, h2, h3, h4, h5, h6, h7, h8, h9⟩ := hD1
    obtain ⟨av, cp, rfl⟩ := owns_shape h4
    have c2 := cell_of_block h1 2 _ rfl
    have H7 := hide h7
    clear c20 h3 h5 h6 h7 h8 h9
    by_cases hlt : 0 < D.chg.length
    · obtain ⟨c, hc⟩ : ∃ c, D.chg[0]? = some c := ⟨_, List.getElem?_eq_getElem hlt⟩
      obtain ⟨gc, cap2, ecv, y0, y1, y2, y3⟩ := chg_at h4 hc
      simp only [Value.slice.injEq] at ecv
      obtain ⟨rfl, _, rfl⟩ := ecv
      simp only [Nat.zero_mul, Nat.zero_add] at y0 y1 y2 y3
      have hon := HON.out w1.drew bk c hc h2
      have c0 := cell_of_block h1 0 _ rfl
      have hkg : bk ≠ g := fun e => by
        obtain ⟨es, c, hb, _⟩ := h2
        rw [e, h1] at hb; cases hb
      have hgck : gc ≠ bk := fun e => by
        obtain ⟨es, c2, hb, _⟩ := h2
        exact owns_ne h4 hb (fun cs x hh => by cases hh) (by rw [← e]; rfl)
      have K2 : Hid (∀ w2, Fr w1.drew w2 (fun x => x = bk) → w2.heap[g]? = w1.heap[g]? ∧ Fr w w2 B ∧ ∀ o u, w1.cell? ⟨gc, o, none⟩ = some u → w2.cell? ⟨gc, o, none⟩ = some u) := by
        intro w2 hf0
        have hf : Fr w1 w2 (fun x => x = bk) := ⟨hf0.os, hf0.tape, hf0.output, hf0.size, hf0.block⟩
        refine ⟨hf.block g (Array.getElem?_eq_some_iff.1 h1).1 (fun e => hkg e.symm), hf1.trans hf (fun x _ e => by rw [e]; exact H7.out), fun o u hu => ?_⟩
        have hlt2 := World.block_lt_of_cell? w1 _ hu
        have h2 := hf.block gc hlt2 hgck
        rw [← hu]
        unfold World.cell?
        rw [h2]
      have H1 := hide h1
      have HOND := hide hon
      clear hon h1 h2 h4 hf1 hkg hgck hc
      go_wp2_with fail
      go_region_held3 (fun W' => W'.cell? ⟨g, 2, none⟩ = some (.slice (some ⟨gc, 0, none⟩) D.chg.length cp) ∧ W'.cell? ⟨g, 0, none⟩ = some (.map (some bk)) ∧ W'.cell? ⟨gc, 0, none⟩ = some (.int .i64 c.kind) ∧ W'.cell? ⟨gc, 1, none⟩ = some (.string c.name) ∧ W'.cell? ⟨gc, 2, none⟩ = some (.string c.dest) ∧ W'.cell? ⟨gc, 3, none⟩ = some (.string c.data)) (first | exact ⟨c2, c0, y0, y1, y2, y3⟩ | exact ⟨t2, t0, u0, u1, u2, u3⟩ | go_keep)
        (first | (go_at_call 88; (with_reducible refine Calls.mono HOND.out ?_); rintro o w2 ⟨rfl, hI2, hf2⟩; obtain ⟨kg, hf02, kc⟩ := K2.out w2 hf2; have hg2 := kg.trans H1.out; have t0 := cell_of_block hg2 0 _ rfl; have t2 := cell_of_block hg2 2 _ rfl; have u0 := kc _ _ y0; have u1 := kc _ _ y1; have u2 := kc _ _ y2; have u3 := kc _ _ y3))
      clear t0 t2 u0 u1 u2 u3 y0 y1 y2 y3 c0 c2 kg kc K2 hf2 HOND H1
      have hkg : bk ≠ g := fun e => by
        obtain ⟨es, c, hb, _⟩ := hI2
        rw [e, hg2] at hb; cases hb
      have c22 := cell_of_block hg2 2 _ rfl
      have f22 := free_of_block hg2 2
      have hg3 := block_set (i := 2) hg2 (.slice none 0 0)
      have hcp := copied_one _ bk _ (is_fr hI2 (Fr.set1 w2 g 2 (.slice none 0 0)) hkg) hone
      have c03 := cell_of_block hg3 0 _ rfl
      have HG2 := hide hg2
      have HI2 := hide hI2
      have HF02 := hide hf02
      have HG3 := hide hg3
      have HCP := hide hcp
      have HF23 := hide (Fr.set1 w2 g 2 (.slice none 0 0))
      clear hg2 hI2 hf02 hg3 hcp hkg
      go_wp2_with fail
      generalize w2.setCell ⟨g, 2, none⟩ (.slice none 0 0) = w3 at *
      refine HCP.out.mono ?_
      rintro o w4 ⟨b2, rfl, hb2, hI4, hf4⟩
      have hg4 := (hf4.block g (Array.getElem?_eq_some_iff.1 HG3.out).1 (fun h => h)).trans HG3.out
      have c14 := cell_of_block hg4 1 _ rfl
      have f14 := free_of_block hg4 1
      have c44 := cell_of_block hg4 4 _ rfl
      have f44 := free_of_block hg4 4
      have c54 := cell_of_block hg4 5 _ rfl
      have f54 := free_of_block hg4 5
      have hnew := Disk.reborn (B := B) (D' := D.again keep torn) HG2.out HI2.out HF23.out HG3.out hf4 hb2 hI4 HBg.out H7.out rfl rfl rfl
      have hfin : Fr w (((w4.setCell ⟨g, 1, none⟩ (.map (some b2))).setCell ⟨g, 4, none⟩ (.int .i64 (-1))).setCell ⟨g, 5, none⟩ (.bool false)) B := (((((HF02.out.trans HF23.out (fun c _ e => by rw [e]; exact HBg.out)).trans hf4 (fun _ _ h => h.elim)).set ⟨g, 1, none⟩ _ (fun _ => HBg.out)).set ⟨g, 4, none⟩ _ (fun _ => HBg.out)).set ⟨g, 5, none⟩ _ (fun _ => HBg.out))
      have hle : w.heap.size ≤ b2 := Nat.le_trans (Nat.le_trans HF02.out.size HF23.out.size) hb2
      have HNEW := hide hnew
      have HFIN := hide hfin
      clear hnew hfin hg4 hI4 hf4
      go_wp2_with fail
      go_end0
      exact ⟨rfl, ⟨_, HNEW.out, fun x hx => hx.imp id (fun e => by rw [e]; exact hle)⟩, HFIN.out⟩
    · have hst := HEND.out hlt
      have hI2 : M.Is w1 bk (D.stays keep torn) := by rw [hst]; exact h2
      clear h2 h4 hst
      have hkg : bk ≠ g := fun e => by
        obtain ⟨es, c, hb, _⟩ := hI2
        rw [e, h1] at hb; cases hb
      have c22 := cell_of_block h1 2 _ rfl
      have f22 := free_of_block h1 2
      have hg3 := block_set (i := 2) h1 (.slice none 0 0)
      have hcp := copied_one _ bk _ (is_fr hI2 (Fr.set1 w1 g 2 (.slice none 0 0)) hkg) hone
      have c03 := cell_of_block hg3 0 _ rfl
      have HG2 := hide h1
      have HI2 := hide hI2
      have HF02 := hide hf1
      have HG3 := hide hg3
      have HCP := hide hcp
      have HF23 := hide (Fr.set1 w1 g 2 (.slice none 0 0))
      clear h1 hI2 hf1 hg3 hcp hkg
      go_wp2_with fail
      generalize w1.setCell ⟨g, 2, none⟩ (.slice none 0 0) = w3 at *
      refine HCP.out.mono ?_
      rintro o w4 ⟨b2, rfl, hb2, hI4, hf4⟩
      have hg4 := (hf4.block g (Array.getElem?_eq_some_iff.1 HG3.out).1 (fun h => h)).trans HG3.out
      have c14 := cell_of_block hg4 1 _ rfl
      have f14 := free_of_block hg4 1
      have c44 := cell_of_block hg4 4 _ rfl
      have f44 := free_of_block hg4 4
      have c54 := cell_of_block hg4 5 _ rfl
      have f54 := free_of_block hg4 5
      have hnew := Disk.reborn (B := B) (D' := D.again keep torn) HG2.out HI2.out HF23.out HG3.out hf4 hb2 hI4 HBg.out H7.out rfl rfl rfl
      have hfin : Fr w (((w4.setCell ⟨g, 1, none⟩ (.map (some b2))).setCell ⟨g, 4, none⟩ (.int .i64 (-1))).setCell ⟨g, 5, none⟩ (.bool false)) B := (((((HF02.out.trans HF23.out (fun c _ e => by rw [e]; exact HBg.out)).trans hf4 (fun _ _ h => h.elim)).set ⟨g, 1, none⟩ _ (fun _ => HBg.out)).set ⟨g, 4, none⟩ _ (fun _ => HBg.out)).set ⟨g, 5, none⟩ _ (fun _ => HBg.out))
      have hle : w.heap.size ≤ b2 := Nat.le_trans (Nat.le_trans HF02.out.size HF23.out.size) hb2
      have HNEW := hide hnew
      have HFIN := hide hfin
      clear hnew hfin hg4 hI4 hf4
      go_wp2_with fail
      go_end0
      exact ⟨rfl, ⟨_, HNEW.out, fun x hx => hx.imp id (fun e => by rw [e]; exact hle)⟩, HFIN.out⟩
  · go_enter Try.func38, Try.ntmps38
    go_wp2_with fail
    refine HKP.out.mono ?_
    rintro o w1 ⟨rfl, hD1, hf1⟩
    obtain ⟨bk, bf, cv, h1, h2, h3, h4, h5, h6, h7, h8, h9⟩ := hD1
    obtain ⟨av, cp, rfl⟩ := owns_shape h4
    have c2 := cell_of_block h1 2 _ rfl
    have H7 := hide h7
    clear c20 h3 h5 h6 h7 h8 h9
    by_cases hlt : n < D.chg.length
    · obtain ⟨c, hc⟩ : ∃ c, D.chg[n]? = some c := ⟨_, List.getElem?_eq_getElem hlt⟩
      obtain ⟨gc, cap2, ecv, y0, y1, y2, y3⟩ := chg_at h4 hc
      simp only [Value.slice.injEq] at ecv
      obtain ⟨rfl, _, rfl⟩ := ecv
      have hon := HON.out w1.drew bk c hc h2
      have c0 := cell_of_block h1 0 _ rfl
      have hkg : bk ≠ g := fun e => by
        obtain ⟨es, c, hb, _⟩ := h2
        rw [e, h1] at hb; cases hb
      have hgck : gc ≠ bk := fun e => by
        obtain ⟨es, c2, hb, _⟩ := h2
        exact owns_ne h4 hb (fun cs x hh => by cases hh) (by rw [← e]; rfl)
      have K2 : Hid (∀ w2, Fr w1.drew w2 (fun x => x = bk) → w2.heap[g]? = w1.heap[g]? ∧ Fr w w2 B ∧ ∀ o u, w1.cell? ⟨gc, o, none⟩ = some u → w2.cell? ⟨gc, o, none⟩ = some u) := by
        intro w2 hf0
        have hf : Fr w1 w2 (fun x => x = bk) := ⟨hf0.os, hf0.tape, hf0.output, hf0.size, hf0.block⟩
        refine ⟨hf.block g (Array.getElem?_eq_some_iff.1 h1).1 (fun e => hkg e.symm), hf1.trans hf (fun x _ e => by rw [e]; exact H7.out), fun o u hu => ?_⟩
        have hlt2 := World.block_lt_of_cell? w1 _ hu
        have h2 := hf.block gc hlt2 hgck
        rw [← hu]
        unfold World.cell?
        rw [h2]
      have H1 := hide h1
      have HOND := hide hon
      clear hon h1 h2 h4 hf1 hkg hgck hc
      go_wp2_with fail
      go_region_held3 (fun W' => W'.cell? ⟨g, 2, none⟩ = some (.slice (some ⟨gc, 0, none⟩) D.chg.length cp) ∧ W'.cell? ⟨g, 0, none⟩ = some (.map (some bk)) ∧ W'.cell? ⟨gc, n * 4, none⟩ = some (.int .i64 c.kind) ∧ W'.cell? ⟨gc, n * 4 + 1, none⟩ = some (.string c.name) ∧ W'.cell? ⟨gc, n * 4 + 2, none⟩ = some (.string c.dest) ∧ W'.cell? ⟨gc, n * 4 + 3, none⟩ = some (.string c.data)) (first | exact ⟨c2, c0, y0, y1, y2, y3⟩ | exact ⟨t2, t0, u0, u1, u2, u3⟩ | go_keep)
        (first | (go_at_call 88; (with_reducible refine Calls.mono HOND.out ?_); rintro o w2 ⟨rfl, hI2, hf2⟩; obtain ⟨kg, hf02, kc⟩ := K2.out w2 hf2; have hg2 := kg.trans H1.out; have t0 := cell_of_block hg2 0 _ rfl; have t2 := cell_of_block hg2 2 _ rfl; have u0 := kc _ _ y0; have u1 := kc _ _ y1; have u2 := kc _ _ y2; have u3 := kc _ _ y3))
      clear t0 t2 u0 u1 u2 u3 y0 y1 y2 y3 c0 c2 kg kc K2 hf2 HOND H1
      have hkg : bk ≠ g := fun e => by
        obtain ⟨es, c, hb, _⟩ := hI2
        rw [e, hg2] at hb; cases hb
      have c22 := cell_of_block hg2 2 _ rfl
      have f22 := free_of_block hg2 2
      have hg3 := block_set (i := 2) hg2 (.slice none 0 0)
      have hcp := copied_one _ bk _ (is_fr hI2 (Fr.set1 w2 g 2 (.slice none 0 0)) hkg) hone
      have c03 := cell_of_block hg3 0 _ rfl
      have HG2 := hide hg2
      have HI2 := hide hI2
      have HF02 := hide hf02
      have HG3 := hide hg3
      have HCP := hide hcp
      have HF23 := hide (Fr.set1 w2 g 2 (.slice none 0 0))
      clear hg2 hI2 hf02 hg3 hcp hkg
      go_wp2_with fail
      generalize w2.setCell ⟨g, 2, none⟩ (.slice none 0 0) = w3 at *
      refine HCP.out.mono ?_
      rintro o w4 ⟨b2, rfl, hb2, hI4, hf4⟩
      have hg4 := (hf4.block g (Array.getElem?_eq_some_iff.1 HG3.out).1 (fun h => h)).trans HG3.out
      have c14 := cell_of_block hg4 1 _ rfl
      have f14 := free_of_block hg4 1
      have c44 := cell_of_block hg4 4 _ rfl
      have f44 := free_of_block hg4 4
      have c54 := cell_of_block hg4 5 _ rfl
      have f54 := free_of_block hg4 5
      have hnew := Disk.reborn (B := B) (D' := D.again (n : Int) torn) HG2.out HI2.out HF23.out HG3.out hf4 hb2 hI4 HBg.out H7.out rfl rfl rfl
      have hfin : Fr w (((w4.setCell ⟨g, 1, none⟩ (.map (some b2))).setCell ⟨g, 4, none⟩ (.int .i64 (-1))).setCell ⟨g, 5, none⟩ (.bool false)) B := (((((HF02.out.trans HF23.out (fun c _ e => by rw [e]; exact HBg.out)).trans hf4 (fun _ _ h => h.elim)).set ⟨g, 1, none⟩ _ (fun _ => HBg.out)).set ⟨g, 4, none⟩ _ (fun _ => HBg.out)).set ⟨g, 5, none⟩ _ (fun _ => HBg.out))
      have hle : w.heap.size ≤ b2 := Nat.le_trans (Nat.le_trans HF02.out.size HF23.out.size) hb2
      have HNEW := hide hnew
      have HFIN := hide hfin
      clear hnew hfin hg4 hI4 hf4
      go_wp2_with fail
      go_end0
      exact ⟨rfl, ⟨_, HNEW.out, fun x hx => hx.imp id (fun e => by rw [e]; exact hle)⟩, HFIN.out⟩
    · have hst := HEND.out hlt
      have hI2 : M.Is w1 bk (D.stays (n : Int) torn) := by rw [hst]; exact h2
      clear h2 h4 hst
      have hkg : bk ≠ g := fun e => by
        obtain ⟨es, c, hb, _⟩ := hI2
        rw [e, h1] at hb; cases hb
      have c22 := cell_of_block h1 2 _ rfl
      have f22 := free_of_block h1 2
      have hg3 := block_set (i := 2) h1 (.slice none 0 0)
      have hcp := copied_one _ bk _ (is_fr hI2 (Fr.set1 w1 g 2 (.slice none 0 0)) hkg) hone
      have c03 := cell_of_block hg3 0 _ rfl
      have HG2 := hide h1
      have HI2 := hide hI2
      have HF02 := hide hf1
      have HG3 := hide hg3
      have HCP := hide hcp
      have HF23 := hide (Fr.set1 w1 g 2 (.slice none 0 0))
      clear h1 hI2 hf1 hg3 hcp hkg
      go_wp2_with fail
      generalize w1.setCell ⟨g, 2, none⟩ (.slice none 0 0) = w3 at *
      refine HCP.out.mono ?_
      rintro o w4 ⟨b2, rfl, hb2, hI4, hf4⟩
      have hg4 := (hf4.block g (Array.getElem?_eq_some_iff.1 HG3.out).1 (fun h => h)).trans HG3.out
      have c14 := cell_of_block hg4 1 _ rfl
      have f14 := free_of_block hg4 1
      have c44 := cell_of_block hg4 4 _ rfl
      have f44 := free_of_block hg4 4
      have c54 := cell_of_block hg4 5 _ rfl
      have f54 := free_of_block hg4 5
      have hnew := Disk.reborn (B := B) (D' := D.again (n : Int) torn) HG2.out HI2.out HF23.out HG3.out hf4 hb2 hI4 HBg.out H7.out rfl rfl rfl
      have hfin : Fr w (((w4.setCell ⟨g, 1, none⟩ (.map (some b2))).setCell ⟨g, 4, none⟩ (.int .i64 (-1))).setCell ⟨g, 5, none⟩ (.bool false)) B := (((((HF02.out.trans HF23.out (fun c _ e => by rw [e]; exact HBg.out)).trans hf4 (fun _ _ h => h.elim)).set ⟨g, 1, none⟩ _ (fun _ => HBg.out)).set ⟨g, 4, none⟩ _ (fun _ => HBg.out)).set ⟨g, 5, none⟩ _ (fun _ => HBg.out))
      have hle : w.heap.size ≤ b2 := Nat.le_trans (Nat.le_trans HF02.out.size HF23.out.size) hb2
      have HNEW := hide hnew
      have HFIN := hide hfin
      clear hnew hfin hg4 hI4 hf4
      go_wp2_with fail
      go_end0
      exact ⟨rfl, ⟨_, HNEW.out, fun x hx => hx.imp id (fun e => by rw [e]; exact hle)⟩, HFIN.out⟩
  · subst hz
    go_enter Try.func38, Try.ntmps38
    go_wp2_with fail
    refine HKP.out.mono ?_
    rintro o w1 ⟨rfl, hD1, hf1⟩
    obtain ⟨bk, bf, cv, h1, h2, h3, h4, h5, h6, h7, h8, h9⟩ := hD1
    obtain ⟨av, cp, rfl⟩ := owns_shape h4
    have c2 := cell_of_block h1 2 _ rfl
    have H7 := hide h7
    clear c20 h3 h5 h6 h7 h8 h9
    have hst := HEND.out (by omega)
    have hI2 : M.Is w1 bk (D.stays keep torn) := by rw [hst]; exact h2
    clear h2 h4 hst
    have hkg : bk ≠ g := fun e => by
      obtain ⟨es, c, hb, _⟩ := hI2
      rw [e, h1] at hb; cases hb
    have c22 := cell_of_block h1 2 _ rfl
    have f22 := free_of_block h1 2
    have hg3 := block_set (i := 2) h1 (.slice none 0 0)
    have hcp := copied_one _ bk _ (is_fr hI2 (Fr.set1 w1 g 2 (.slice none 0 0)) hkg) hone
    have c03 := cell_of_block hg3 0 _ rfl
    have HG2 := hide h1
    have HI2 := hide hI2
    have HF02 := hide hf1
    have HG3 := hide hg3
    have HCP := hide hcp
    have HF23 := hide (Fr.set1 w1 g 2 (.slice none 0 0))
    clear h1 hI2 hf1 hg3 hcp hkg
    go_wp2_with fail
    generalize w1.setCell ⟨g, 2, none⟩ (.slice none 0 0) = w3 at *
    refine HCP.out.mono ?_
    rintro o w4 ⟨b2, rfl, hb2, hI4, hf4⟩
    have hg4 := (hf4.block g (Array.getElem?_eq_some_iff.1 HG3.out).1 (fun h => h)).trans HG3.out
    have c14 := cell_of_block hg4 1 _ rfl
    have f14 := free_of_block hg4 1
    have c44 := cell_of_block hg4 4 _ rfl
    have f44 := free_of_block hg4 4
    have c54 := cell_of_block hg4 5 _ rfl
    have f54 := free_of_block hg4 5
    have hnew := Disk.reborn (B := B) (D' := D.again keep torn) HG2.out HI2.out HF23.out HG3.out hf4 hb2 hI4 HBg.out H7.out rfl rfl rfl
    have hfin : Fr w (((w4.setCell ⟨g, 1, none⟩ (.map (some b2))).setCell ⟨g, 4, none⟩ (.int .i64 (-1))).setCell ⟨g, 5, none⟩ (.bool false)) B := (((((HF02.out.trans HF23.out (fun c _ e => by rw [e]; exact HBg.out)).trans hf4 (fun _ _ h => h.elim)).set ⟨g, 1, none⟩ _ (fun _ => HBg.out)).set ⟨g, 4, none⟩ _ (fun _ => HBg.out)).set ⟨g, 5, none⟩ _ (fun _ => HBg.out))
    have hle : w.heap.size ≤ b2 := Nat.le_trans (Nat.le_trans HF02.out.size HF23.out.size) hb2
    have HNEW := hide hnew
    have HFIN := hide hfin
    clear hnew hfin hg4 hI4 hf4
    go_wp2_with fail
    go_end0
    exact ⟨rfl, ⟨_, HNEW.out, fun x hx => hx.imp id (fun e => by rw [e]; exact hle)⟩, HFIN.out⟩
end Go.Proofs.Ytmlbcdofogffkab
