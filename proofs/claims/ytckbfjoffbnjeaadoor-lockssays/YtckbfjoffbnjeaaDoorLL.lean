/- For LocksSays: Take. -/
import Derived.Test.YtckbfjoffbnjeaaDoorLK
namespace Go.Proofs.YtckbfjoffbnjeaaDoor
open Go.RowKit
attribute [local go_sem ↓] Go.wp_at_zero Go.wp_at_succ
theorem Lk.up {w : World} {B : Nat → Prop} {g : Nat} {D : Dk} {L : K.Lo} {b b2 : Int} {m : Nat} (h : Lk w B g D L b m) (hb : b ≤ b2) : Lk w B g D L b2 m := ⟨h.disk, h.low, h.inv.up hb (Nat.le_refl _), h.on⟩
theorem Lk.Did.up {w w' : World} {B : Nat → Prop} {g : Nat} {L : K.Lo} {b b2 : Int} {m : Nat} (h : Lk.Did w w' B g L b m) (hb : b ≤ b2) : Lk.Did w w' B g L b2 m := by
  obtain ⟨B1, D1, h1, h2, h3⟩ := h
  exact ⟨B1, D1, h1.up hb, h2, h3⟩
theorem Lk.Did.upm {w w' : World} {B : Nat → Prop} {g : Nat} {L : K.Lo} {b : Int} {m m2 : Nat} (h : Lk.Did w w' B g L b m) (hm : m ≤ m2) : Lk.Did w w' B g L b m2 := by
  obtain ⟨B1, D1, h1, h2, h3⟩ := h
  exact ⟨B1, D1, ⟨h1.disk, h1.low, h1.inv.up (Int.le_refl _) hm, h1.on⟩, h2, h3⟩
theorem Lk.Did.fr' {w w' : World} {B : Nat → Prop} {g : Nat} {D : Dk} {L : K.Lo} {b : Int} {m : Nat} (h : Lk w B g D L b m) (hf : Fr w w' (fun _ => False)) : Lk.Did w w' B g L b m := ⟨B, D, h.fr hf, fun _ hx => .inl hx, hf.weak (fun _ _ e => e.elim)⟩
theorem Lk.Did.from {w w1 w2 : World} {B : Nat → Prop} {g : Nat} {L : K.Lo} {b : Int} {m : Nat} (hf : Fr w w1 (fun _ => False)) (h : Lk.Did w1 w2 B g L b m) : Lk.Did w w2 B g L b m := h.trans (hf.weak (fun _ _ e => e.elim)) (fun _ hx => .inl hx)
namespace K
theorem get_puts_out {n : ByteArray} (k : ByteArray) : ∀ (N0 : List ByteArray) (L : Lo), n ∉ N0 → get (puts L N0 k) n = get L n
  | [], L, _ => rfl
  | m :: N0, L, h => by
    rw [List.mem_cons, not_or] at h
    show get (puts (put L m k) N0 k) n = _
    rw [get_puts_out k N0 (put L m k) h.2, get_put, beq_no (fun e => h.1 e.symm)]; simp
theorem get_puts_in {n : ByteArray} (k : ByteArray) : ∀ (N0 : List ByteArray) (L : Lo), n ∈ N0 → get (puts L N0 k) n = some k
  | [], L, h => by cases h
  | m :: N0, L, h => by
    show get (puts (put L m k) N0 k) n = _
    by_cases h2 : n ∈ N0
    · exact get_puts_in k N0 (put L m k) h2
    · have e : n = m := (List.mem_cons.1 h).resolve_right h2
      rw [get_puts_out k N0 (put L m k) h2, get_put, e, (beq_iff m m).2 rfl]; simp
theorem get_took (L : Lo) (N0 : List ByteArray) (who : Nat) (n : ByteArray) : (n ∈ N0 → get (puts L ((once N0).filter (lacks L who)) (num who)) n = some (num who)) ∧ (n ∉ N0 → get (puts L ((once N0).filter (lacks L who)) (num who)) n = get L n) := by
  refine ⟨fun h => ?_, fun h => get_puts_out _ _ _ (fun q => h (mem_once.1 (List.mem_filter.1 q).1))⟩
  by_cases hl : lacks L who n = true
  · exact get_puts_in _ _ _ (List.mem_filter.2 ⟨mem_once.2 h, hl⟩)
  · rw [get_puts_out _ _ _ (fun q => hl (List.mem_filter.1 q).2)]
    cases hg : get L n with
    | none => unfold lacks at hl; rw [hg] at hl; exact absurd rfl hl
    | some t =>
      by_cases e : t = num who
      · rw [e]
      · exact absurd (lacks_yes hg e) hl
/-- What Take answers. -/
def takeCode (L : Lo) (who : Int) (al : Nat → Bool) (N0 : List ByteArray) : Nat := if 0 ≤ who ∧ who < 4 then first (code L who.toNat al) (once N0) else 1
theorem first_zero {f : ByteArray → Nat} : ∀ {M0 : List ByteArray}, first f M0 = 0 → ∀ x ∈ M0, f x = 0
  | [], _, x, hx => by cases hx
  | n :: r, h, x, hx => by
    unfold first at h
    by_cases e : f n = 0
    · rw [if_pos e] at h
      rcases List.mem_cons.1 hx with rfl | hx
      · exact e
      · exact first_zero h x hx
    · rw [if_neg e] at h
      exact absurd h e
theorem code_name {L : Lo} {who : Nat} {al : Nat → Bool} {n : ByteArray} (h : code L who al n = 0) : N.name n = true := by
  cases hm : N.name n with
  | true => rfl
  | false => unfold code at h; rw [if_pos hm] at h; cases h
end K
/-- What Take says and does. -/
def Took (m0 : Nat) (w w' : World) (B : Nat → Prop) (g : Nat) (L : K.Lo) (b who : Int) (al : Nat → Bool) (N0 : List ByteArray) (o : Ending) : Prop :=
  o = .returned (errV (K.takeCode L who al N0)) ∧ ∃ L', Lk.Did w w' B g L' (b + 13) m0 ∧ L'.length ≤ L.length + 12 ∧ (K.takeCode L who al N0 ≠ 0 → L' = L) ∧ (K.takeCode L who al N0 = 0 → ∀ n, (n ∈ N0 → K.get L' n = some (K.num who.toNat)) ∧ (n ∉ N0 → K.get L' n = K.get L n))
set_option maxRecDepth 100000 in
set_option maxHeartbeats 1000000 in
theorem take20_any (w : World) (B : Nat → Prop) (g : Nat) (D : Dk) (L : K.Lo) (b who : Int) (al : Nat → Bool) (v : Value) (N0 : List ByteArray) {m0 : Nat} (h : Lk w B g D L b m0) (hm0 : m0 ≤ 900) (hb : b ≤ 80000) (hL : L.length ≤ 24) (hs : Strs w v N0) (hl : N0.length ≤ 12) (hsz : ∀ n ∈ N0, n.size ≤ maxLen)
    (hal : ∀ W (k : Nat), k < 4 → Calls Tryd.prog 20 #[.int .i64 k] W fun o w' => o = .returned (.bool (al k)) ∧ w' = W) :
    Calls Tryd.prog 9 #[.pointer (some ⟨g, 0, none⟩), .int .i64 who, v, .func (.func 20) #[] #[]] w fun o w' => Took m0 w w' B g L b who al N0 o := by
  obtain ⟨av, cv, rfl, hs'⟩ := id hs
  clear hs'
  obtain ⟨w0, hw0⟩ : ∃ w0, w0 = (w.alloc (.cells #[.pointer (some ⟨g, 0, none⟩)] 25)).alloc (.cells #[.int .i64 who] 3) := ⟨_, rfl⟩
  have hf0 : Fr w w0 (fun _ => False) := by rw [hw0]; exact ((Fr.refl _ _).alloc _).alloc _
  have hz0 : w0.heap.size = w.heap.size + 2 := by rw [hw0]; simp
  have c1 : w0.cell? ⟨w.heap.size, 0, none⟩ = some (.pointer (some ⟨g, 0, none⟩)) := by
    rw [hw0]
    exact kept_cell (((Fr.refl (w.alloc (.cells #[.pointer (some ⟨g, 0, none⟩)] 25)) (fun _ => False)).alloc _).below (Nat.le_refl _) (fun _ e => e.elim)) (cell_of_block (heap_alloc_new w _) 0 _ rfl)
  have c2 : w0.cell? ⟨w.heap.size + 1, 0, none⟩ = some (.int .i64 who) := by
    rw [hw0]
    have := cell_of_block (heap_alloc_new (w.alloc (.cells #[.pointer (some ⟨g, 0, none⟩)] 25)) (.cells #[.int .i64 who] 3)) 0 _ rfl
    rwa [World.size_alloc] at this
  have h0 := h.fr hf0
  have hs0 : Strs w0 (.slice av N0.length cv) N0 := hs.kept (hf0.below (Nat.le_refl _) (fun _ e => e.elim)) (Nat.le_refl _)
  have HC1 : Hid (∀ W, Fr w0 W (fun _ => False) → W.cell? ⟨w.heap.size, 0, none⟩ = some (.pointer (some ⟨g, 0, none⟩)) ∧ W.cell? ⟨w.heap.size + 1, 0, none⟩ = some (.int .i64 who)) := fun W hf => ⟨cell_frx hf (fun e => e) c1, cell_frx hf (fun e => e) c2⟩
  have HIS := hide (isOwner_any who w0)
  by_cases hwho : 0 ≤ who ∧ who < 4
  · obtain ⟨k, rfl⟩ : ∃ k : Nat, who = k := ⟨who.toNat, by omega⟩
    have hk4 : k < 4 := by omega
    rw [decide_eq_true hwho.1, decide_eq_true hwho.2] at HIS
    by_cases hN : N0 = []
    · subst hN
      have hfin : Took m0 w w0 B g L b k al [] (.returned .nilIface) := by
        have e0 : K.takeCode L k al [] = 0 := by unfold K.takeCode; rw [if_pos hwho]; exact K.first_all (fun x hx => by cases K.mem_once.1 hx)
        unfold Took
        rw [e0]
        exact ⟨rfl, L, (Lk.Did.fr' h hf0).up (by omega), by omega, fun e => absurd rfl e, fun _ n => ⟨fun e => (by cases e), fun _ => rfl⟩⟩
      have HFIN := hide hfin
      clear hfin h h0 hs hs0 hal hsz hf0
      go_enter Tryd.func9, Tryd.ntmps9
      go_wp2_with fail
      rw [← hw0]
      clear hw0
      refine HIS.out.mono ?_
      rintro o w1 ⟨rfl, hw1⟩
      rw [hw1]
      clear hw1 w1 HIS
      go_wp2_with fail
      go_ret
      exact HFIN.out
    · have hN1 : 0 < N0.length := List.length_pos_iff.2 hN
      have hN2 : ¬ ((N0.length : Int) = 0) := by omega
      have HNY := hide (notYet20_any w0 B g D L b k al _ N0 h0 hk4 hs0 hl hsz hal)
      have hTC : K.takeCode L k al N0 = K.first (K.code L k al) (K.once N0) := by unfold K.takeCode; rw [if_pos hwho]; rfl
      have HTC := hide hTC
      clear hTC
      have HM : Hid (((K.once N0).filter (K.lacks L k)).length ≤ 12 ∧ ∀ n ∈ (K.once N0).filter (K.lacks L k), n ∈ N0) := ⟨Nat.le_trans (List.length_filter_le _ _) (Nat.le_trans (K.once_len N0) hl), fun n hn => K.mem_once.1 (List.mem_filter.1 hn).1⟩
      have HGT := hide (K.get_took L N0 k)
      clear hs hs0 hal hsz c1 c2 hN
      obtain ⟨d1, d2⟩ := HC1.out w0 (Fr.refl _ _)
      go_enter Tryd.func9, Tryd.ntmps9
      go_wp2_with fail
      rw [← hw0]
      clear hw0
      refine HIS.out.mono ?_
      rintro o w1 ⟨rfl, hw1⟩
      rw [hw1]
      clear hw1 w1 HIS
      go_wp2_with fail
      refine HNY.out.mono ?_
      rintro o w1 ⟨u, rfl, hf1, hcase⟩
      clear HNY
      by_cases hc : K.first (K.code L k al) (K.once N0) ≠ 0
      · have e := errV_ne hc
        rw [e]
        go_wp2_with fail
        go_ret
        refine ⟨by rw [HTC.out, e]; rfl, L, (Lk.Did.fr' h (hf0.trans hf1 (fun _ _ e => e))).up (by omega), by omega, fun _ => rfl, fun h0 => ?_⟩
        rw [HTC.out] at h0
        exact absurd h0 hc
      · have hc0 : K.first (K.code L k al) (K.once N0) = 0 := by omega
        have ho1 := hcase hc0
        have HC0 := hide hc0
        have HNN : Hid (∀ n ∈ N0, N.name n = true) := fun n hn => K.code_name (K.first_zero hc0 n (K.mem_once.2 hn))
        clear hc hcase
        rw [hc0]
        clear hc0
        generalize hM0 : (K.once N0).filter (K.lacks L k) = M0 at *
        have e : errV 0 = .nilIface := rfl
        rw [e]
        have hs1 : Strs w1 u M0 := Strs.of_owns ho1
        have hfine : ∀ n ∈ M0, N.name n = true := fun n hn => HNN.out n (HM.out.2 n hn)
        have HCR := hide (checkRoom_any w1 B g D L u M0 ((h0.fr hf1).disk) h.inv.down h.on (by omega) hs1 HM.out.1 hfine)
        have HF1 := hide hf1
        have HO1 := hide ho1
        have HFN := hide hfine
        have HH := hide h
        have HF0 := hide hf0
        obtain ⟨d3, d4⟩ := HC1.out w1 hf1
        clear hs1 hf1 ho1 hfine h h0 hf0 e
        go_wp2_with fail
        refine HCR.out.mono ?_
        rintro o w2 ⟨rfl, hf2⟩
        have hf02 := HF1.out.trans hf2 (fun _ _ e => e)
        obtain ⟨d5, d6⟩ := HC1.out w2 hf02
        have hfw2 := HF0.out.trans hf02 (fun _ _ e => e)
        have hz := hf02.size
        have ho2 := owns_fr HO1.out hf2 (fun _ _ e => e)
        have hlow := HH.out.low
        have hFG := forTake_any w2 B g w.heap.size (w.heap.size + 1) w0.heap.size D L b k u M0 m0 (HH.out.fr hfw2) hm0 (by omega) HFN.out hk4 (by have := HM.out.1; omega) ho2 (fun y hy hB => by have := (ho2.lt y hy).1; have := hlow y hB; omega) d5 d6 (fun hB => by have := hlow _ hB; omega) (fun hB => by have := hlow _ hB; omega)
        have HFG := hide hFG
        have HFW := hide hfw2
        clear hf2 hf02 hfw2 ho2 hFG HCR hlow d3 d4
        go_wp2_with fail
        refine HFG.out.mono ?_
        rintro o w3 ⟨rfl, hd3⟩
        have HD3 := hide hd3
        clear hd3 HFG d5 d6
        go_wp2_with fail
        go_ret
        have hlen := K.puts_len (K.num k) M0 L
        have hm12 := HM.out.1
        have ht0 : K.takeCode L k al N0 = 0 := HTC.out.trans HC0.out
        exact ⟨by rw [ht0]; rfl, K.puts L M0 (K.num k), ((HD3.out.from HFW.out).up (by omega)).upm (Nat.zero_le _), by omega, fun e => absurd ht0 e, fun _ n => HGT.out n⟩
  · have hb1 : (decide (0 ≤ who) && decide (who < 4)) = false := by
      rw [Bool.and_eq_false_iff]
      by_cases h1 : 0 ≤ who
      · right; rw [decide_eq_false_iff_not]; exact fun h2 => hwho ⟨h1, h2⟩
      · left; rw [decide_eq_false_iff_not]; exact h1
    rw [hb1] at HIS
    have hfin : Took m0 w w0 B g L b who al N0 (.returned (.iface 59 (.int .i64 1))) := by
      have e1 : K.takeCode L who al N0 = 1 := by unfold K.takeCode; rw [if_neg hwho]
      unfold Took
      rw [e1]
      exact ⟨rfl, L, (Lk.Did.fr' h hf0).up (by omega), by omega, fun _ => rfl, fun e => absurd e (by decide)⟩
    have HFIN := hide hfin
    clear hfin h h0 hs hs0 hal hsz hf0 hb1
    go_enter Tryd.func9, Tryd.ntmps9
    go_wp2_with fail
    rw [← hw0]
    clear hw0
    refine HIS.out.mono ?_
    rintro o w1 ⟨rfl, hw1⟩
    rw [hw1]
    clear hw1 w1 HIS
    go_wp2_with fail
    go_ret
    exact HFIN.out
set_option maxRecDepth 100000 in
set_option maxHeartbeats 1000000 in
theorem take7_any (w : World) (B : Nat → Prop) (g : Nat) (D : Dk) (L : K.Lo) (b who : Int) (al : Nat → Bool) (lo hi : Nat) (v : Value) (N0 : List ByteArray) {m0 : Nat} (h : Lk w B g D L b m0) (hm0 : m0 ≤ 900) (hb : b ≤ 80000) (hL : L.length ≤ 24) (hs : Strs w v N0) (hl : N0.length ≤ 12) (hsz : ∀ n ∈ N0, n.size ≤ maxLen)
    (hal : ∀ W (k : Nat), Fr w W (fun _ => False) → k < 4 → Calls Tryd.prog 7 #[.int .i64 k, .pointer (some ⟨lo, 0, none⟩), .pointer (some ⟨hi, 0, none⟩)] W fun o w' => o = .returned (.bool (al k)) ∧ w' = W) :
    Calls Tryd.prog 9 #[.pointer (some ⟨g, 0, none⟩), .int .i64 who, v, .func (.func 7) #[] #[.pointer (some ⟨lo, 0, none⟩), .pointer (some ⟨hi, 0, none⟩)]] w fun o w' => Took m0 w w' B g L b who al N0 o := by
  obtain ⟨av, cv, rfl, hs'⟩ := id hs
  clear hs'
  obtain ⟨w0, hw0⟩ : ∃ w0, w0 = (w.alloc (.cells #[.pointer (some ⟨g, 0, none⟩)] 25)).alloc (.cells #[.int .i64 who] 3) := ⟨_, rfl⟩
  have hf0 : Fr w w0 (fun _ => False) := by rw [hw0]; exact ((Fr.refl _ _).alloc _).alloc _
  have hz0 : w0.heap.size = w.heap.size + 2 := by rw [hw0]; simp
  have c1 : w0.cell? ⟨w.heap.size, 0, none⟩ = some (.pointer (some ⟨g, 0, none⟩)) := by
    rw [hw0]
    exact kept_cell (((Fr.refl (w.alloc (.cells #[.pointer (some ⟨g, 0, none⟩)] 25)) (fun _ => False)).alloc _).below (Nat.le_refl _) (fun _ e => e.elim)) (cell_of_block (heap_alloc_new w _) 0 _ rfl)
  have c2 : w0.cell? ⟨w.heap.size + 1, 0, none⟩ = some (.int .i64 who) := by
    rw [hw0]
    have := cell_of_block (heap_alloc_new (w.alloc (.cells #[.pointer (some ⟨g, 0, none⟩)] 25)) (.cells #[.int .i64 who] 3)) 0 _ rfl
    rwa [World.size_alloc] at this
  have h0 := h.fr hf0
  have hs0 : Strs w0 (.slice av N0.length cv) N0 := hs.kept (hf0.below (Nat.le_refl _) (fun _ e => e.elim)) (Nat.le_refl _)
  have HC1 : Hid (∀ W, Fr w0 W (fun _ => False) → W.cell? ⟨w.heap.size, 0, none⟩ = some (.pointer (some ⟨g, 0, none⟩)) ∧ W.cell? ⟨w.heap.size + 1, 0, none⟩ = some (.int .i64 who)) := fun W hf => ⟨cell_frx hf (fun e => e) c1, cell_frx hf (fun e => e) c2⟩
  have HIS := hide (isOwner_any who w0)
  by_cases hwho : 0 ≤ who ∧ who < 4
  · obtain ⟨k, rfl⟩ : ∃ k : Nat, who = k := ⟨who.toNat, by omega⟩
    have hk4 : k < 4 := by omega
    rw [decide_eq_true hwho.1, decide_eq_true hwho.2] at HIS
    by_cases hN : N0 = []
    · subst hN
      have hfin : Took m0 w w0 B g L b k al [] (.returned .nilIface) := by
        have e0 : K.takeCode L k al [] = 0 := by unfold K.takeCode; rw [if_pos hwho]; exact K.first_all (fun x hx => by cases K.mem_once.1 hx)
        unfold Took
        rw [e0]
        exact ⟨rfl, L, (Lk.Did.fr' h hf0).up (by omega), by omega, fun e => absurd rfl e, fun _ n => ⟨fun e => (by cases e), fun _ => rfl⟩⟩
      have HFIN := hide hfin
      clear hfin h h0 hs hs0 hal hsz hf0
      go_enter Tryd.func9, Tryd.ntmps9
      go_wp2_with fail
      rw [← hw0]
      clear hw0
      refine HIS.out.mono ?_
      rintro o w1 ⟨rfl, hw1⟩
      rw [hw1]
      clear hw1 w1 HIS
      go_wp2_with fail
      go_ret
      exact HFIN.out
    · have hN1 : 0 < N0.length := List.length_pos_iff.2 hN
      have hN2 : ¬ ((N0.length : Int) = 0) := by omega
      have HNY := hide (notYet7_any w0 B g D L b k al lo hi _ N0 h0 hk4 hs0 hl hsz (fun W k hf hk => hal W k (hf0.trans hf (fun _ _ e => e)) hk))
      have hTC : K.takeCode L k al N0 = K.first (K.code L k al) (K.once N0) := by unfold K.takeCode; rw [if_pos hwho]; rfl
      have HTC := hide hTC
      clear hTC
      have HM : Hid (((K.once N0).filter (K.lacks L k)).length ≤ 12 ∧ ∀ n ∈ (K.once N0).filter (K.lacks L k), n ∈ N0) := ⟨Nat.le_trans (List.length_filter_le _ _) (Nat.le_trans (K.once_len N0) hl), fun n hn => K.mem_once.1 (List.mem_filter.1 hn).1⟩
      have HGT := hide (K.get_took L N0 k)
      clear hs hs0 hal hsz c1 c2 hN
      obtain ⟨d1, d2⟩ := HC1.out w0 (Fr.refl _ _)
      go_enter Tryd.func9, Tryd.ntmps9
      go_wp2_with fail
      rw [← hw0]
      clear hw0
      refine HIS.out.mono ?_
      rintro o w1 ⟨rfl, hw1⟩
      rw [hw1]
      clear hw1 w1 HIS
      go_wp2_with fail
      refine HNY.out.mono ?_
      rintro o w1 ⟨u, rfl, hf1, hcase⟩
      clear HNY
      by_cases hc : K.first (K.code L k al) (K.once N0) ≠ 0
      · have e := errV_ne hc
        rw [e]
        go_wp2_with fail
        go_ret
        refine ⟨by rw [HTC.out, e]; rfl, L, (Lk.Did.fr' h (hf0.trans hf1 (fun _ _ e => e))).up (by omega), by omega, fun _ => rfl, fun h0 => ?_⟩
        rw [HTC.out] at h0
        exact absurd h0 hc
      · have hc0 : K.first (K.code L k al) (K.once N0) = 0 := by omega
        have ho1 := hcase hc0
        have HC0 := hide hc0
        have HNN : Hid (∀ n ∈ N0, N.name n = true) := fun n hn => K.code_name (K.first_zero hc0 n (K.mem_once.2 hn))
        clear hc hcase
        rw [hc0]
        clear hc0
        generalize hM0 : (K.once N0).filter (K.lacks L k) = M0 at *
        have e : errV 0 = .nilIface := rfl
        rw [e]
        have hs1 : Strs w1 u M0 := Strs.of_owns ho1
        have hfine : ∀ n ∈ M0, N.name n = true := fun n hn => HNN.out n (HM.out.2 n hn)
        have HCR := hide (checkRoom_any w1 B g D L u M0 ((h0.fr hf1).disk) h.inv.down h.on (by omega) hs1 HM.out.1 hfine)
        have HF1 := hide hf1
        have HO1 := hide ho1
        have HFN := hide hfine
        have HH := hide h
        have HF0 := hide hf0
        obtain ⟨d3, d4⟩ := HC1.out w1 hf1
        clear hs1 hf1 ho1 hfine h h0 hf0 e
        go_wp2_with fail
        refine HCR.out.mono ?_
        rintro o w2 ⟨rfl, hf2⟩
        have hf02 := HF1.out.trans hf2 (fun _ _ e => e)
        obtain ⟨d5, d6⟩ := HC1.out w2 hf02
        have hfw2 := HF0.out.trans hf02 (fun _ _ e => e)
        have hz := hf02.size
        have ho2 := owns_fr HO1.out hf2 (fun _ _ e => e)
        have hlow := HH.out.low
        have hFG := forTake_any w2 B g w.heap.size (w.heap.size + 1) w0.heap.size D L b k u M0 m0 (HH.out.fr hfw2) hm0 (by omega) HFN.out hk4 (by have := HM.out.1; omega) ho2 (fun y hy hB => by have := (ho2.lt y hy).1; have := hlow y hB; omega) d5 d6 (fun hB => by have := hlow _ hB; omega) (fun hB => by have := hlow _ hB; omega)
        have HFG := hide hFG
        have HFW := hide hfw2
        clear hf2 hf02 hfw2 ho2 hFG HCR hlow d3 d4
        go_wp2_with fail
        refine HFG.out.mono ?_
        rintro o w3 ⟨rfl, hd3⟩
        have HD3 := hide hd3
        clear hd3 HFG d5 d6
        go_wp2_with fail
        go_ret
        have hlen := K.puts_len (K.num k) M0 L
        have hm12 := HM.out.1
        have ht0 : K.takeCode L k al N0 = 0 := HTC.out.trans HC0.out
        exact ⟨by rw [ht0]; rfl, K.puts L M0 (K.num k), ((HD3.out.from HFW.out).up (by omega)).upm (Nat.zero_le _), by omega, fun e => absurd ht0 e, fun _ n => HGT.out n⟩
  · have hb1 : (decide (0 ≤ who) && decide (who < 4)) = false := by
      rw [Bool.and_eq_false_iff]
      by_cases h1 : 0 ≤ who
      · right; rw [decide_eq_false_iff_not]; exact fun h2 => hwho ⟨h1, h2⟩
      · left; rw [decide_eq_false_iff_not]; exact h1
    rw [hb1] at HIS
    have hfin : Took m0 w w0 B g L b who al N0 (.returned (.iface 59 (.int .i64 1))) := by
      have e1 : K.takeCode L who al N0 = 1 := by unfold K.takeCode; rw [if_neg hwho]
      unfold Took
      rw [e1]
      exact ⟨rfl, L, (Lk.Did.fr' h hf0).up (by omega), by omega, fun _ => rfl, fun e => absurd e (by decide)⟩
    have HFIN := hide hfin
    clear hfin h h0 hs hs0 hal hsz hf0 hb1
    go_enter Tryd.func9, Tryd.ntmps9
    go_wp2_with fail
    rw [← hw0]
    clear hw0
    refine HIS.out.mono ?_
    rintro o w1 ⟨rfl, hw1⟩
    rw [hw1]
    clear hw1 w1 HIS
    go_wp2_with fail
    go_ret
    exact HFIN.out
end Go.Proofs.YtckbfjoffbnjeaaDoor
