/- For TopLocks: forGood, for Take and for Give. -/
import Derived.Test.YtckbfjoffbnjeaaDoorLH
namespace Go.Proofs.YtckbfjoffbnjeaaDoor
open Go.RowKit
attribute [local go_sem ↓] Go.wp_at_zero Go.wp_at_succ
namespace K
def puts (L : Lo) (N0 : List ByteArray) (k : ByteArray) : Lo := N0.foldl (fun L n => put L n k) L
def lesses (L : Lo) (N0 : List ByteArray) : Lo := N0.foldl (fun L n => less L n) L
theorem puts_next {N0 : List ByteArray} {j : Nat} {n : ByteArray} (h : N0[j]? = some n) (L : Lo) (k : ByteArray) : puts L (N0.take (j + 1)) k = put (puts L (N0.take j) k) n k := by
  unfold puts
  rw [List.take_add_one, h, Option.toList_some, List.foldl_append]; rfl
theorem lesses_next {N0 : List ByteArray} {j : Nat} {n : ByteArray} (h : N0[j]? = some n) (L : Lo) : lesses L (N0.take (j + 1)) = less (lesses L (N0.take j)) n := by
  unfold lesses
  rw [List.take_add_one, h, Option.toList_some, List.foldl_append]; rfl
theorem puts_len (k : ByteArray) : ∀ (N0 : List ByteArray) (L : Lo), (puts L N0 k).length ≤ L.length + N0.length
  | [], L => Nat.le_refl _
  | n :: N0, L => by
    have h1 := puts_len k N0 (put L n k)
    have h2 := put_len L n k
    rw [List.length_cons]
    show (puts (put L n k) N0 k).length ≤ _
    omega
theorem beq_no {n m : ByteArray} (h : n ≠ m) : (n == m) = false := by
  cases q : (n == m) with
  | false => rfl
  | true => exact absurd ((beq_iff _ _).1 q) h
theorem get_lesses {n : ByteArray} : ∀ (N0 : List ByteArray) (L : Lo), n ∉ N0 → get (lesses L N0) n = get L n
  | [], L, _ => rfl
  | m :: N0, L, h => by
    rw [List.mem_cons, not_or] at h
    show get (lesses (less L m) N0) n = _
    rw [get_lesses N0 (less L m) h.2, get_less, beq_no (fun e => h.1 e.symm)]; simp
theorem not_before {N0 : List ByteArray} {j : Nat} {n : ByteArray} (hN : N0.Nodup) (h : N0[j]? = some n) : n ∉ N0.take j := by
  intro hm
  obtain ⟨i, hi, e⟩ := List.mem_iff_getElem.1 hm
  rw [List.length_take] at hi
  rw [List.getElem_take] at e
  obtain ⟨hj, e2⟩ := List.getElem?_eq_some_iff.1 h
  have := (List.getElem_inj (h₀ := by omega) (h₁ := hj) hN).1 (e.trans e2.symm)
  omega
end K
theorem Lk.Did.refl {w : World} {B : Nat → Prop} {g : Nat} {D : Dk} {L : K.Lo} {b : Int} {m : Nat} (h : Lk w B g D L b m) : Lk.Did w w B g L b m := ⟨B, D, h, fun _ hx => .inl hx, Fr.refl _ _⟩
theorem Lk.Did.trans {w w1 w2 : World} {B B1 : Nat → Prop} {g : Nat} {L : K.Lo} {b : Int} {m : Nat} (hf : Fr w w1 B) (hB : ∀ x, B1 x → B x ∨ w.heap.size ≤ x) (h : Lk.Did w1 w2 B1 g L b m) : Lk.Did w w2 B g L b m := by
  obtain ⟨B2, D2, h1, h2, h3⟩ := h
  refine ⟨B2, D2, h1, fun x hx => ?_, hf.trans h3 (fun c hc e => (hB c e).resolve_right (by omega))⟩
  rcases h2 x hx with h4 | h4
  · exact hB x h4
  · exact .inr (Nat.le_trans hf.size h4)
theorem strs_frx {w w' : World} {base : Nat} {ex : Nat → Prop} {v : Value} {N0 : List ByteArray} (h : w.ownsRow base 9 1 v N0.length (strs N0)) (hf : Fr w w' ex) (hne : ∀ y, v.ownBlock = some y → ¬ ex y) : Strs w' v N0 := Strs.of_owns (owns_fr h hf hne)
set_option maxRecDepth 100000 in
set_option maxHeartbeats 1000000 in
theorem forTake_any (w : World) (B : Nat → Prop) (g bd bw base : Nat) (D : Dk) (L : K.Lo) (b : Int) (k : Nat) (v : Value) (N0 : List ByteArray) (m0 : Nat) (h : Lk w B g D L b m0) (hm0 : m0 ≤ 900) (hb : b ≤ 90000) (hn : ∀ n ∈ N0, N.name n = true) (hk : k < 4) (hL : L.length + N0.length ≤ 40) (ho : w.ownsRow base 9 1 v N0.length (strs N0)) (hsep : ∀ y, v.ownBlock = some y → ¬ B y)
    (hd : w.cell? ⟨bd, 0, none⟩ = some (.pointer (some ⟨g, 0, none⟩))) (hw : w.cell? ⟨bw, 0, none⟩ = some (.int .i64 k)) (hbd : ¬ B bd) (hbw : ¬ B bw) :
    Calls Tryd.prog 25 #[.pointer (some ⟨g, 0, none⟩), v, .func (.func 26) #[] #[.pointer (some ⟨bd, 0, none⟩), .pointer (some ⟨bw, 0, none⟩)]] w fun o w' => o = .returned .nilIface ∧ Lk.Did w w' B g (K.puts L N0 (K.num k)) (b + N0.length + 1) 0 := by
  obtain ⟨a1, c1, rfl⟩ := owns_shape ho
  have HS : Hid (∀ w', Fr w w' B → Strs w' (.slice a1 N0.length c1) N0) := fun w' hf => strs_frx ho hf hsep
  have HC : Hid (∀ wx j n, N0[j]? = some n → Lk.Did w wx B g (K.puts L (N0.take j) (K.num k)) (b + j) (m0 + j) → Calls Tryd.prog 26 #[.string (K.pre n), .pointer (some ⟨bd, 0, none⟩), .pointer (some ⟨bw, 0, none⟩)] wx fun o w' => o = .returned .nilIface ∧ Lk.Did w w' B g (K.puts L (N0.take (j + 1)) (K.num k)) (b + ((j + 1 : Nat) : Int)) (m0 + (j + 1))) := by
    rintro wx j n hj ⟨B1, D1, h1, h2, h3⟩
    have hjl : j < N0.length := (List.getElem?_eq_some_iff.1 hj).1
    have hl := K.puts_len (K.num k) (N0.take j) L
    rw [List.length_take] at hl
    have lt1 := World.block_lt_of_cell? w _ hd
    have lt2 := World.block_lt_of_cell? w _ hw
    refine (takeFn_any wx B1 g bd bw D1 _ (b + j) (m0 + j) k n h1 (by omega) (by omega) (hn n (List.mem_of_getElem? hj)) hk (by omega) (cell_frx h3 hbd hd) (cell_frx h3 hbw hw) (fun e => ?_) (fun e => ?_)).mono ?_
    · rcases h2 _ e with h4 | h4
      · exact hbd h4
      · exact absurd lt1 (by simpa using h4)
    · rcases h2 _ e with h4 | h4
      · exact hbw h4
      · exact absurd lt2 (by simpa using h4)
    · rintro o w' ⟨rfl, hd2⟩
      refine ⟨rfl, ?_⟩
      rw [K.puts_next hj, show (b + ((j + 1 : Nat) : Int)) = b + j + 1 by omega]
      exact hd2.trans h3 h2
  have HY : Hid (∀ wx, Lk.Did w wx B g (K.puts L N0 (K.num k)) (b + N0.length) (m0 + N0.length) → Calls Tryd.prog 39 #[.pointer (some ⟨g, 0, none⟩)] wx fun o w' => o = .returned .nilIface ∧ Lk.Did w w' B g (K.puts L N0 (K.num k)) (b + N0.length + 1) 0) := by
    rintro wx ⟨B1, D1, h1, h2, h3⟩
    refine (lockSync_any wx B1 g D1 _ _ _ h1 (by omega) (by omega)).mono ?_
    rintro o w' ⟨rfl, hd2⟩
    exact ⟨rfl, hd2.trans h3 h2⟩
  have H0 : Hid (Lk.Did w w B g (K.puts L (N0.take 0) (K.num k)) (b + ((0 : Nat) : Int)) (m0 + 0)) := by
    show Lk.Did _ _ _ _ _ _ _
    simpa [K.puts] using Lk.Did.refl h
  have hsz : ∀ n ∈ N0, n.size ≤ 12 := fun n h => N.name_size (hn n h)
  have HSZ := hide hsz
  have hN40 : N0.length ≤ 40 := by omega
  clear h hb hn ho hsep hd hw hbd hbw hsz hL
  go_enter Tryd.func25, Tryd.ntmps25
  go_wp2_with fail
  go_loopw [12, 8, 9] (fun vi _ _ wx => ∃ j : Nat, j ≤ N0.length ∧ vi = .int .i64 j ∧ Lk.Did w wx B g (K.puts L (N0.take j) (K.num k)) (b + j) (m0 + j)) (fun vi _ _ _ => N0.length - (intOf vi).toNat)
  case atStart => exact ⟨0, Nat.zero_le _, rfl, H0.out⟩
  case round =>
    obtain ⟨wx, hwx⟩ : ∃ z, z = wr := ⟨_, rfl⟩
    subst hwx
    obtain ⟨j, hj, rfl, hdx⟩ := hrel
    by_cases hlt : j < N0.length
    · obtain ⟨n, hnj⟩ : ∃ n, N0[j]? = some n := ⟨_, List.getElem?_eq_getElem hlt⟩
      obtain ⟨b1, off, rfl, y0⟩ := (HS.out wx hdx.fr).at hnj
      have hn12 := HSZ.out n (List.mem_of_getElem? hnj)
      have HCC := hide (HC.out wx j n hnj hdx)
      unfold K.pre at HCC
      clear hdx hnj
      go_wp2_with (go_at_call 26; (with_reducible refine Calls.mono HCC.out ?_); rintro o w2 ⟨rfl, hd2⟩; have HD2 := hide hd2; clear hd2)
      go_roundw
      case rel => exact ⟨j + 1, by omega, by go_num, HD2.out⟩
      case measure => simp [intOf]; omega
    · have hjj : j = N0.length := by omega
      rw [hjj, List.take_length] at hdx
      have HYY := hide (HY.out wx hdx)
      clear hdx
      go_wp2_with (go_at_call 39; (with_reducible refine Calls.mono HYY.out ?_); rintro o w2 ⟨rfl, hd2⟩; have HD2 := hide hd2; clear hd2)
      go_ret
      exact ⟨rfl, HD2.out⟩
set_option maxRecDepth 100000 in
set_option maxHeartbeats 1000000 in
theorem forGive_any (w : World) (B : Nat → Prop) (g base : Nat) (D : Dk) (L : K.Lo) (b : Int) (v : Value) (N0 : List ByteArray) (m0 : Nat) (h : Lk w B g D L b m0) (hm0 : m0 ≤ 900) (hb : b ≤ 90000) (hn : ∀ n ∈ N0, N.name n = true) (hN : N0.Nodup) (hin : ∀ n ∈ N0, (K.get L n).isSome = true) (hL : N0.length ≤ 40) (ho : w.ownsRow base 9 1 v N0.length (strs N0)) (hsep : ∀ y, v.ownBlock = some y → ¬ B y) :
    Calls Tryd.prog 25 #[.pointer (some ⟨g, 0, none⟩), v, .func (.func 31) #[.pointer (some ⟨g, 0, none⟩)] #[]] w fun o w' => o = .returned .nilIface ∧ Lk.Did w w' B g (K.lesses L N0) (b + N0.length + 1) 0 := by
  obtain ⟨a1, c1, rfl⟩ := owns_shape ho
  have HS : Hid (∀ w', Fr w w' B → Strs w' (.slice a1 N0.length c1) N0) := fun w' hf => strs_frx ho hf hsep
  have HC : Hid (∀ wx j n, N0[j]? = some n → Lk.Did w wx B g (K.lesses L (N0.take j)) (b + j) (m0 + j) → Calls Tryd.prog 31 #[.pointer (some ⟨g, 0, none⟩), .string (K.pre n)] wx fun o w' => o = .returned .nilIface ∧ Lk.Did w w' B g (K.lesses L (N0.take (j + 1))) (b + ((j + 1 : Nat) : Int)) (m0 + (j + 1))) := by
    rintro wx j n hj ⟨B1, D1, h1, h2, h3⟩
    have hjl : j < N0.length := (List.getElem?_eq_some_iff.1 hj).1
    refine (lockRemove_any wx B1 g D1 _ (b + j) (m0 + j) n h1 (by omega) (by omega) ?_).mono ?_
    · rw [K.get_lesses _ _ (K.not_before hN hj)]; exact hin n (List.mem_of_getElem? hj)
    · rintro o w' ⟨rfl, hd2⟩
      refine ⟨rfl, ?_⟩
      rw [K.lesses_next hj, show (b + ((j + 1 : Nat) : Int)) = b + j + 1 by omega]
      exact hd2.trans h3 h2
  have HY : Hid (∀ wx, Lk.Did w wx B g (K.lesses L N0) (b + N0.length) (m0 + N0.length) → Calls Tryd.prog 39 #[.pointer (some ⟨g, 0, none⟩)] wx fun o w' => o = .returned .nilIface ∧ Lk.Did w w' B g (K.lesses L N0) (b + N0.length + 1) 0) := by
    rintro wx ⟨B1, D1, h1, h2, h3⟩
    refine (lockSync_any wx B1 g D1 _ _ _ h1 (by omega) (by omega)).mono ?_
    rintro o w' ⟨rfl, hd2⟩
    exact ⟨rfl, hd2.trans h3 h2⟩
  have H0 : Hid (Lk.Did w w B g (K.lesses L (N0.take 0)) (b + ((0 : Nat) : Int)) (m0 + 0)) := by
    show Lk.Did _ _ _ _ _ _ _
    simpa [K.lesses] using Lk.Did.refl h
  have hsz : ∀ n ∈ N0, n.size ≤ 12 := fun n h => N.name_size (hn n h)
  have HSZ := hide hsz
  have hN40 : N0.length ≤ 40 := by omega
  clear h hb hn ho hsep hsz hL hN hin
  go_enter Tryd.func25, Tryd.ntmps25
  go_wp2_with fail
  go_loopw [12, 8, 9] (fun vi _ _ wx => ∃ j : Nat, j ≤ N0.length ∧ vi = .int .i64 j ∧ Lk.Did w wx B g (K.lesses L (N0.take j)) (b + j) (m0 + j)) (fun vi _ _ _ => N0.length - (intOf vi).toNat)
  case atStart => exact ⟨0, Nat.zero_le _, rfl, H0.out⟩
  case round =>
    obtain ⟨wx, hwx⟩ : ∃ z, z = wr := ⟨_, rfl⟩
    subst hwx
    obtain ⟨j, hj, rfl, hdx⟩ := hrel
    by_cases hlt : j < N0.length
    · obtain ⟨n, hnj⟩ : ∃ n, N0[j]? = some n := ⟨_, List.getElem?_eq_getElem hlt⟩
      obtain ⟨b1, off, rfl, y0⟩ := (HS.out wx hdx.fr).at hnj
      have hn12 := HSZ.out n (List.mem_of_getElem? hnj)
      have HCC := hide (HC.out wx j n hnj hdx)
      unfold K.pre at HCC
      clear hdx hnj
      go_wp2_with (go_at_call 31; (with_reducible refine Calls.mono HCC.out ?_); rintro o w2 ⟨rfl, hd2⟩; have HD2 := hide hd2; clear hd2)
      go_roundw
      case rel => exact ⟨j + 1, by omega, by go_num, HD2.out⟩
      case measure => simp [intOf]; omega
    · have hjj : j = N0.length := by omega
      rw [hjj, List.take_length] at hdx
      have HYY := hide (HY.out wx hdx)
      clear hdx
      go_wp2_with (go_at_call 39; (with_reducible refine Calls.mono HYY.out ?_); rintro o w2 ⟨rfl, hd2⟩; have HD2 := hide hd2; clear hd2)
      go_ret
      exact ⟨rfl, HD2.out⟩
end Go.Proofs.YtckbfjoffbnjeaaDoor
