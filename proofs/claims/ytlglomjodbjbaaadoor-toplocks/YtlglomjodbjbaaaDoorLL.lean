/- For TopLocks: Take. -/
import Derived.Test.YtlglomjodbjbaaaDoorLK
namespace Go.Proofs.YtlglomjodbjbaaaDoor
open Go.RowKit
attribute [local go_sem ↓] Go.wp_at_zero Go.wp_at_succ
theorem Lk.up {w : World} {B : Nat → Prop} {g : Nat} {D : Dk} {L : K.Lo} {b b2 : Int} {m : Nat} (h : Lk w B g D L b m) (hb : b ≤ b2) : Lk w B g D L b2 m := ⟨h.disk, h.low, h.inv.up hb (Nat.le_refl _), h.on⟩
theorem Lk.Did.up {w w' : World} {B : Nat → Prop} {g : Nat} {L : K.Lo} {b b2 : Int} {m : Nat} (h : Lk.Did w w' B g L b m) (hb : b ≤ b2) : Lk.Did w w' B g L b2 m := by
  obtain ⟨B1, D1, h1, h2, h3⟩ := h
  exact ⟨B1, D1, h1.up hb, h2, h3⟩
theorem Lk.Did.fr' {w w' : World} {B : Nat → Prop} {g : Nat} {D : Dk} {L : K.Lo} {b : Int} {m : Nat} (h : Lk w B g D L b m) (hf : Fr w w' (fun _ => False)) : Lk.Did w w' B g L b m := ⟨B, D, h.fr hf, fun _ hx => .inl hx, hf.weak (fun _ _ e => e.elim)⟩
theorem Lk.Did.from {w w1 w2 : World} {B : Nat → Prop} {g : Nat} {L : K.Lo} {b : Int} {m : Nat} (hf : Fr w w1 (fun _ => False)) (h : Lk.Did w1 w2 B g L b m) : Lk.Did w w2 B g L b m := h.trans (hf.weak (fun _ _ e => e.elim)) (fun _ hx => .inl hx)
namespace K
theorem get_puts_out {n : ByteArray} (k : Nat) : ∀ (N0 : List ByteArray) (L : Lo), n ∉ N0 → get (puts L N0 k) n = get L n
  | [], L, _ => rfl
  | m :: N0, L, h => by
    rw [List.mem_cons, not_or] at h
    show get (puts (put L m k) N0 k) n = _
    rw [get_puts_out k N0 (put L m k) h.2, get_put, beq_no (fun e => h.1 e.symm)]; simp
theorem get_puts_in {n : ByteArray} (k : Nat) : ∀ (N0 : List ByteArray) (L : Lo), n ∈ N0 → get (puts L N0 k) n = some k
  | [], L, h => by cases h
  | m :: N0, L, h => by
    show get (puts (put L m k) N0 k) n = _
    by_cases h2 : n ∈ N0
    · exact get_puts_in k N0 (put L m k) h2
    · have e : n = m := (List.mem_cons.1 h).resolve_right h2
      rw [get_puts_out k N0 (put L m k) h2, get_put, e, (beq_iff m m).2 rfl]; simp
theorem get_took (L : Lo) (N0 : List ByteArray) (who : Nat) (n : ByteArray) : (n ∈ N0 → get (puts L ((once N0).filter (lacks L who)) who) n = some who) ∧ (n ∉ N0 → get (puts L ((once N0).filter (lacks L who)) who) n = get L n) := by
  refine ⟨fun h => ?_, fun h => get_puts_out _ _ _ (fun q => h (mem_once.1 (List.mem_filter.1 q).1))⟩
  by_cases hl : lacks L who n = true
  · exact get_puts_in _ _ _ (List.mem_filter.2 ⟨mem_once.2 h, hl⟩)
  · rw [get_puts_out _ _ _ (fun q => hl (List.mem_filter.1 q).2)]
    unfold lacks at hl
    simpa using hl
end K
/-- What Take says and does. -/
def Took (w w' : World) (B : Nat → Prop) (g : Nat) (L : K.Lo) (b who : Int) (al : Nat → Bool) (N0 : List ByteArray) (o : Ending) : Prop :=
  ∃ c, o = .returned (errV c) ∧ ((c ≠ 0 ∧ ¬ (0 ≤ who ∧ who < 4 ∧ ∀ n ∈ N0, K.okTake L who.toNat al n = true) ∧ Lk.Did w w' B g L (b + 13) 0) ∨
    (c = 0 ∧ ((0 ≤ who ∧ who < 4) ∨ N0 = []) ∧ (∀ n ∈ N0, ∀ k, K.get L n = some k → (k : Int) = who ∨ al k = false) ∧ ∃ L', Lk.Did w w' B g L' (b + 13) 0 ∧ L'.length ≤ L.length + 12 ∧ ∀ n, (n ∈ N0 → K.get L' n = some who.toNat) ∧ (n ∉ N0 → K.get L' n = K.get L n)))
set_option maxRecDepth 100000 in
set_option maxHeartbeats 1000000 in
theorem take6_any (w : World) (B : Nat → Prop) (g : Nat) (D : Dk) (L : K.Lo) (b who : Int) (al : Nat → Bool) (v : Value) (N0 : List ByteArray) (h : Lk w B g D L b 0) (hb : b ≤ 80000) (hL : L.length ≤ 20) (hs : Strs w v N0) (hl : N0.length ≤ 12) (hsz : ∀ n ∈ N0, n.size ≤ maxLen)
    (hal : ∀ W (k : Nat), k < 4 → Calls Tryd.prog 6 #[.int .i64 k] W fun o w' => o = .returned (.bool (al k)) ∧ w' = W) :
    Calls Tryd.prog 5 #[.pointer (some ⟨g, 0, none⟩), .int .i64 who, v, .func (.func 6) #[] #[]] w fun o w' => Took w w' B g L b who al N0 o := by
  obtain ⟨av, cv, rfl, hs'⟩ := id hs
  clear hs'
  obtain ⟨w0, hw0⟩ : ∃ w0, w0 = (w.alloc (.cells #[.pointer (some ⟨g, 0, none⟩)] 23)).alloc (.cells #[.int .i64 who] 3) := ⟨_, rfl⟩
  have hf0 : Fr w w0 (fun _ => False) := by rw [hw0]; exact ((Fr.refl _ _).alloc _).alloc _
  have hz0 : w0.heap.size = w.heap.size + 2 := by rw [hw0]; simp
  have c1 : w0.cell? ⟨w.heap.size, 0, none⟩ = some (.pointer (some ⟨g, 0, none⟩)) := by
    rw [hw0]
    exact kept_cell (((Fr.refl (w.alloc (.cells #[.pointer (some ⟨g, 0, none⟩)] 23)) (fun _ => False)).alloc _).below (Nat.le_refl _) (fun _ e => e.elim)) (cell_of_block (heap_alloc_new w _) 0 _ rfl)
  have c2 : w0.cell? ⟨w.heap.size + 1, 0, none⟩ = some (.int .i64 who) := by
    rw [hw0]
    have := cell_of_block (heap_alloc_new (w.alloc (.cells #[.pointer (some ⟨g, 0, none⟩)] 23)) (.cells #[.int .i64 who] 3)) 0 _ rfl
    rwa [World.size_alloc] at this
  have h0 := h.fr hf0
  have hs0 : Strs w0 (.slice av N0.length cv) N0 := hs.kept (hf0.below (Nat.le_refl _) (fun _ e => e.elim)) (Nat.le_refl _)
  have HC1 : Hid (∀ W, Fr w0 W (fun _ => False) → W.cell? ⟨w.heap.size, 0, none⟩ = some (.pointer (some ⟨g, 0, none⟩)) ∧ W.cell? ⟨w.heap.size + 1, 0, none⟩ = some (.int .i64 who)) := fun W hf => ⟨cell_frx hf (fun e => e) c1, cell_frx hf (fun e => e) c2⟩
  have HIS := hide (isOwner_any who w0)
  by_cases hwho : 0 ≤ who ∧ who < 4
  · obtain ⟨k, rfl⟩ : ∃ k : Nat, who = k := ⟨who.toNat, by omega⟩
    have hk4 : k < 4 := by omega
    rw [decide_eq_true hwho.1, decide_eq_true hwho.2] at HIS
    by_cases hN : N0 = []
    · subst hN
      have hfin : Took w w0 B g L b k al [] (.returned .nilIface) := ⟨0, rfl, .inr ⟨rfl, .inl hwho, (by simp), L, (Lk.Did.fr' h hf0).up (by omega), by omega, fun n => ⟨fun e => (by cases e), fun _ => rfl⟩⟩⟩
      have HFIN := hide hfin
      clear hfin h h0 hs hs0 hal hsz hf0
      go_enter Tryd.func5, Tryd.ntmps5
      go_wp2_with fail
      rw [← hw0]
      clear hw0
      refine HIS.out.mono ?_
      rintro o w1 ⟨rfl, hw1⟩
      rw [hw1]
      clear hw1 w1 HIS
      go_wp2_with fail
      go_ret
      exact HFIN.out
    · have hN1 : 0 < N0.length := List.length_pos_iff.2 hN
      have hN2 : ¬ ((N0.length : Int) = 0) := by omega
      have HNY := hide (notYet6_any w0 B g D L b k al _ N0 h0 hk4 hs0 hl hsz hal)
      have HOK : Hid ((∀ n ∈ K.once N0, K.okTake L k al n = true) → (∀ n ∈ N0, N.name n = true ∧ ∀ j, K.get L n = some j → (j : Int) = k ∨ al j = false)) := by
        intro hh n hn
        have h1 := hh n (K.mem_once.2 hn)
        unfold K.okTake at h1
        rw [Bool.and_eq_true] at h1
        refine ⟨h1.1, fun j hj => ?_⟩
        have h2 := h1.2
        rw [hj] at h2
        simp only [Bool.or_eq_true, decide_eq_true_eq, Bool.not_eq_true'] at h2
        rcases h2 with h2 | h2
        · left; omega
        · exact .inr h2
      have HM : Hid (((K.once N0).filter (K.lacks L k)).length ≤ 12 ∧ ∀ n ∈ (K.once N0).filter (K.lacks L k), n ∈ N0) := ⟨Nat.le_trans (List.length_filter_le _ _) (Nat.le_trans (K.once_len N0) hl), fun n hn => K.mem_once.1 (List.mem_filter.1 hn).1⟩
      have HGT := hide (K.get_took L N0 k)
      clear hs hs0 hal hsz c1 c2 hN
      obtain ⟨d1, d2⟩ := HC1.out w0 (Fr.refl _ _)
      go_enter Tryd.func5, Tryd.ntmps5
      go_wp2_with fail
      rw [← hw0]
      clear hw0
      refine HIS.out.mono ?_
      rintro o w1 ⟨rfl, hw1⟩
      rw [hw1]
      clear hw1 w1 HIS
      go_wp2_with fail
      refine HNY.out.mono ?_
      rintro o w1 ⟨u, c, rfl, hf1, hcase⟩
      clear HNY
      rcases hcase with ⟨hc, hbad⟩ | ⟨rfl, hall, ho1⟩
      · have e := errV_ne hc
        rw [e]
        go_wp2_with fail
        go_ret
        exact ⟨c, by rw [e]; rfl, .inl ⟨hc, fun hq => hbad (fun n hn => hq.2.2 n (K.mem_once.1 hn)), (Lk.Did.fr' h (hf0.trans hf1 (fun _ _ e => e))).up (by omega)⟩⟩
      · have HNN := hide (HOK.out hall)
        generalize hM0 : (K.once N0).filter (K.lacks L k) = M0 at *
        have e : errV 0 = .nilIface := rfl
        rw [e]
        have hs1 : Strs w1 u M0 := Strs.of_owns ho1
        have hfine : ∀ n ∈ M0, N.name n = true := fun n hn => (HNN.out n (HM.out.2 n hn)).1
        have HCR := hide (checkRoom_any w1 B g D L u M0 ((h0.fr hf1).disk) h.inv.down h.on (by omega) hs1 HM.out.1 hfine)
        have HF1 := hide hf1
        have HO1 := hide ho1
        have HFN := hide hfine
        have HH := hide h
        have HF0 := hide hf0
        obtain ⟨d3, d4⟩ := HC1.out w1 hf1
        clear hs1 hf1 ho1 hfine h h0 hf0 e hall
        go_wp2_with fail
        refine HCR.out.mono ?_
        rintro o w2 ⟨rfl, hf2⟩
        have hf02 := HF1.out.trans hf2 (fun _ _ e => e)
        obtain ⟨d5, d6⟩ := HC1.out w2 hf02
        have hfw2 := HF0.out.trans hf02 (fun _ _ e => e)
        have hz := hf02.size
        have ho2 := owns_fr HO1.out hf2 (fun _ _ e => e)
        have hlow := HH.out.low
        have hFG := forTake_any w2 B g w.heap.size (w.heap.size + 1) w0.heap.size D L b k u M0 (HH.out.fr hfw2) (by omega) HFN.out hk4 (by have := HM.out.1; omega) ho2 (fun y hy hB => by have := (ho2.lt y hy).1; have := hlow y hB; omega) d5 d6 (fun hB => by have := hlow _ hB; omega) (fun hB => by have := hlow _ hB; omega)
        have HFG := hide hFG
        have HFW := hide hfw2
        clear hf2 hf02 hfw2 ho2 hFG HCR hlow d3 d4
        go_wp2_with fail
        refine HFG.out.mono ?_
        rintro o w3 ⟨rfl, hd3⟩
        have HD3 := hide hd3
        clear hd3 HFG d5 d6
        go_wp2_with fail
        go_ret
        have hlen := K.puts_len k M0 L
        have hm12 := HM.out.1
        exact ⟨0, rfl, .inr ⟨rfl, .inl hwho, fun n hn => (HNN.out n hn).2, K.puts L M0 k, (HD3.out.from HFW.out).up (by omega), by omega, fun n => HGT.out n⟩⟩
  · have hb1 : (decide (0 ≤ who) && decide (who < 4)) = false := by
      rw [Bool.and_eq_false_iff]
      by_cases h1 : 0 ≤ who
      · right; rw [decide_eq_false_iff_not]; exact fun h2 => hwho ⟨h1, h2⟩
      · left; rw [decide_eq_false_iff_not]; exact h1
    rw [hb1] at HIS
    have hfin : Took w w0 B g L b who al N0 (.returned (.iface 49 (.int .i64 1))) := ⟨1, rfl, .inl ⟨by decide, fun hq => hwho ⟨hq.1, hq.2.1⟩, (Lk.Did.fr' h hf0).up (by omega)⟩⟩
    have HFIN := hide hfin
    clear hfin h h0 hs hs0 hal hsz hf0 hb1
    go_enter Tryd.func5, Tryd.ntmps5
    go_wp2_with fail
    rw [← hw0]
    clear hw0
    refine HIS.out.mono ?_
    rintro o w1 ⟨rfl, hw1⟩
    rw [hw1]
    clear hw1 w1 HIS
    go_wp2_with fail
    go_ret
    exact HFIN.out
set_option maxRecDepth 100000 in
set_option maxHeartbeats 1000000 in
theorem take9_any (w : World) (B : Nat → Prop) (g : Nat) (D : Dk) (L : K.Lo) (b who : Int) (al : Nat → Bool) (bx : Nat) (v : Value) (N0 : List ByteArray) (h : Lk w B g D L b 0) (hb : b ≤ 80000) (hL : L.length ≤ 20) (hs : Strs w v N0) (hl : N0.length ≤ 12) (hsz : ∀ n ∈ N0, n.size ≤ maxLen)
    (hal : ∀ W (k : Nat), Fr w W (fun _ => False) → k < 4 → Calls Tryd.prog 9 #[.int .i64 k, .pointer (some ⟨bx, 0, none⟩)] W fun o w' => o = .returned (.bool (al k)) ∧ w' = W) :
    Calls Tryd.prog 5 #[.pointer (some ⟨g, 0, none⟩), .int .i64 who, v, .func (.func 9) #[] #[.pointer (some ⟨bx, 0, none⟩)]] w fun o w' => Took w w' B g L b who al N0 o := by
  obtain ⟨av, cv, rfl, hs'⟩ := id hs
  clear hs'
  obtain ⟨w0, hw0⟩ : ∃ w0, w0 = (w.alloc (.cells #[.pointer (some ⟨g, 0, none⟩)] 23)).alloc (.cells #[.int .i64 who] 3) := ⟨_, rfl⟩
  have hf0 : Fr w w0 (fun _ => False) := by rw [hw0]; exact ((Fr.refl _ _).alloc _).alloc _
  have hz0 : w0.heap.size = w.heap.size + 2 := by rw [hw0]; simp
  have c1 : w0.cell? ⟨w.heap.size, 0, none⟩ = some (.pointer (some ⟨g, 0, none⟩)) := by
    rw [hw0]
    exact kept_cell (((Fr.refl (w.alloc (.cells #[.pointer (some ⟨g, 0, none⟩)] 23)) (fun _ => False)).alloc _).below (Nat.le_refl _) (fun _ e => e.elim)) (cell_of_block (heap_alloc_new w _) 0 _ rfl)
  have c2 : w0.cell? ⟨w.heap.size + 1, 0, none⟩ = some (.int .i64 who) := by
    rw [hw0]
    have := cell_of_block (heap_alloc_new (w.alloc (.cells #[.pointer (some ⟨g, 0, none⟩)] 23)) (.cells #[.int .i64 who] 3)) 0 _ rfl
    rwa [World.size_alloc] at this
  have h0 := h.fr hf0
  have hs0 : Strs w0 (.slice av N0.length cv) N0 := hs.kept (hf0.below (Nat.le_refl _) (fun _ e => e.elim)) (Nat.le_refl _)
  have HC1 : Hid (∀ W, Fr w0 W (fun _ => False) → W.cell? ⟨w.heap.size, 0, none⟩ = some (.pointer (some ⟨g, 0, none⟩)) ∧ W.cell? ⟨w.heap.size + 1, 0, none⟩ = some (.int .i64 who)) := fun W hf => ⟨cell_frx hf (fun e => e) c1, cell_frx hf (fun e => e) c2⟩
  have HIS := hide (isOwner_any who w0)
  by_cases hwho : 0 ≤ who ∧ who < 4
  · obtain ⟨k, rfl⟩ : ∃ k : Nat, who = k := ⟨who.toNat, by omega⟩
    have hk4 : k < 4 := by omega
    rw [decide_eq_true hwho.1, decide_eq_true hwho.2] at HIS
    by_cases hN : N0 = []
    · subst hN
      have hfin : Took w w0 B g L b k al [] (.returned .nilIface) := ⟨0, rfl, .inr ⟨rfl, .inl hwho, (by simp), L, (Lk.Did.fr' h hf0).up (by omega), by omega, fun n => ⟨fun e => (by cases e), fun _ => rfl⟩⟩⟩
      have HFIN := hide hfin
      clear hfin h h0 hs hs0 hal hsz hf0
      go_enter Tryd.func5, Tryd.ntmps5
      go_wp2_with fail
      rw [← hw0]
      clear hw0
      refine HIS.out.mono ?_
      rintro o w1 ⟨rfl, hw1⟩
      rw [hw1]
      clear hw1 w1 HIS
      go_wp2_with fail
      go_ret
      exact HFIN.out
    · have hN1 : 0 < N0.length := List.length_pos_iff.2 hN
      have hN2 : ¬ ((N0.length : Int) = 0) := by omega
      have HNY := hide (notYet9_any w0 B g D L b k al bx _ N0 h0 hk4 hs0 hl hsz (fun W k hf hk => hal W k (hf0.trans hf (fun _ _ e => e)) hk))
      have HOK : Hid ((∀ n ∈ K.once N0, K.okTake L k al n = true) → (∀ n ∈ N0, N.name n = true ∧ ∀ j, K.get L n = some j → (j : Int) = k ∨ al j = false)) := by
        intro hh n hn
        have h1 := hh n (K.mem_once.2 hn)
        unfold K.okTake at h1
        rw [Bool.and_eq_true] at h1
        refine ⟨h1.1, fun j hj => ?_⟩
        have h2 := h1.2
        rw [hj] at h2
        simp only [Bool.or_eq_true, decide_eq_true_eq, Bool.not_eq_true'] at h2
        rcases h2 with h2 | h2
        · left; omega
        · exact .inr h2
      have HM : Hid (((K.once N0).filter (K.lacks L k)).length ≤ 12 ∧ ∀ n ∈ (K.once N0).filter (K.lacks L k), n ∈ N0) := ⟨Nat.le_trans (List.length_filter_le _ _) (Nat.le_trans (K.once_len N0) hl), fun n hn => K.mem_once.1 (List.mem_filter.1 hn).1⟩
      have HGT := hide (K.get_took L N0 k)
      clear hs hs0 hal hsz c1 c2 hN
      obtain ⟨d1, d2⟩ := HC1.out w0 (Fr.refl _ _)
      go_enter Tryd.func5, Tryd.ntmps5
      go_wp2_with fail
      rw [← hw0]
      clear hw0
      refine HIS.out.mono ?_
      rintro o w1 ⟨rfl, hw1⟩
      rw [hw1]
      clear hw1 w1 HIS
      go_wp2_with fail
      refine HNY.out.mono ?_
      rintro o w1 ⟨u, c, rfl, hf1, hcase⟩
      clear HNY
      rcases hcase with ⟨hc, hbad⟩ | ⟨rfl, hall, ho1⟩
      · have e := errV_ne hc
        rw [e]
        go_wp2_with fail
        go_ret
        exact ⟨c, by rw [e]; rfl, .inl ⟨hc, fun hq => hbad (fun n hn => hq.2.2 n (K.mem_once.1 hn)), (Lk.Did.fr' h (hf0.trans hf1 (fun _ _ e => e))).up (by omega)⟩⟩
      · have HNN := hide (HOK.out hall)
        generalize hM0 : (K.once N0).filter (K.lacks L k) = M0 at *
        have e : errV 0 = .nilIface := rfl
        rw [e]
        have hs1 : Strs w1 u M0 := Strs.of_owns ho1
        have hfine : ∀ n ∈ M0, N.name n = true := fun n hn => (HNN.out n (HM.out.2 n hn)).1
        have HCR := hide (checkRoom_any w1 B g D L u M0 ((h0.fr hf1).disk) h.inv.down h.on (by omega) hs1 HM.out.1 hfine)
        have HF1 := hide hf1
        have HO1 := hide ho1
        have HFN := hide hfine
        have HH := hide h
        have HF0 := hide hf0
        obtain ⟨d3, d4⟩ := HC1.out w1 hf1
        clear hs1 hf1 ho1 hfine h h0 hf0 e hall
        go_wp2_with fail
        refine HCR.out.mono ?_
        rintro o w2 ⟨rfl, hf2⟩
        have hf02 := HF1.out.trans hf2 (fun _ _ e => e)
        obtain ⟨d5, d6⟩ := HC1.out w2 hf02
        have hfw2 := HF0.out.trans hf02 (fun _ _ e => e)
        have hz := hf02.size
        have ho2 := owns_fr HO1.out hf2 (fun _ _ e => e)
        have hlow := HH.out.low
        have hFG := forTake_any w2 B g w.heap.size (w.heap.size + 1) w0.heap.size D L b k u M0 (HH.out.fr hfw2) (by omega) HFN.out hk4 (by have := HM.out.1; omega) ho2 (fun y hy hB => by have := (ho2.lt y hy).1; have := hlow y hB; omega) d5 d6 (fun hB => by have := hlow _ hB; omega) (fun hB => by have := hlow _ hB; omega)
        have HFG := hide hFG
        have HFW := hide hfw2
        clear hf2 hf02 hfw2 ho2 hFG HCR hlow d3 d4
        go_wp2_with fail
        refine HFG.out.mono ?_
        rintro o w3 ⟨rfl, hd3⟩
        have HD3 := hide hd3
        clear hd3 HFG d5 d6
        go_wp2_with fail
        go_ret
        have hlen := K.puts_len k M0 L
        have hm12 := HM.out.1
        exact ⟨0, rfl, .inr ⟨rfl, .inl hwho, fun n hn => (HNN.out n hn).2, K.puts L M0 k, (HD3.out.from HFW.out).up (by omega), by omega, fun n => HGT.out n⟩⟩
  · have hb1 : (decide (0 ≤ who) && decide (who < 4)) = false := by
      rw [Bool.and_eq_false_iff]
      by_cases h1 : 0 ≤ who
      · right; rw [decide_eq_false_iff_not]; exact fun h2 => hwho ⟨h1, h2⟩
      · left; rw [decide_eq_false_iff_not]; exact h1
    rw [hb1] at HIS
    have hfin : Took w w0 B g L b who al N0 (.returned (.iface 49 (.int .i64 1))) := ⟨1, rfl, .inl ⟨by decide, fun hq => hwho ⟨hq.1, hq.2.1⟩, (Lk.Did.fr' h hf0).up (by omega)⟩⟩
    have HFIN := hide hfin
    clear hfin h h0 hs hs0 hal hsz hf0 hb1
    go_enter Tryd.func5, Tryd.ntmps5
    go_wp2_with fail
    rw [← hw0]
    clear hw0
    refine HIS.out.mono ?_
    rintro o w1 ⟨rfl, hw1⟩
    rw [hw1]
    clear hw1 w1 HIS
    go_wp2_with fail
    go_ret
    exact HFIN.out
end Go.Proofs.YtlglomjodbjbaaaDoor
