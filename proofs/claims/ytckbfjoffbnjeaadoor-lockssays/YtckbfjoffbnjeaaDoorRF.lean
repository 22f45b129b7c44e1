/- For LocksSays: LockAll, UnlockAll. -/
import Derived.Test.YtckbfjoffbnjeaaDoorRE
namespace Go.Proofs.YtckbfjoffbnjeaaDoor
open Go.RowKit
attribute [local go_sem ↓] Go.wp_at_zero Go.wp_at_succ
namespace J
def puts (F : List (ByteArray × ByteArray)) (N0 : List ByteArray) (d : ByteArray) : List (ByteArray × ByteArray) := N0.foldl (fun F n => M.put F n d) F
theorem puts_next {N0 : List ByteArray} {j : Nat} {n : ByteArray} (h : N0[j]? = some n) (F : List (ByteArray × ByteArray)) (d : ByteArray) : puts F (N0.take (j + 1)) d = M.put (puts F (N0.take j) d) n d := by
  unfold puts
  rw [List.take_add_one, h, Option.toList_some, List.foldl_append]; rfl
theorem puts_keys (d : ByteArray) : ∀ (N0 : List ByteArray) (F : List (ByteArray × ByteArray)), (F.map (·.1)).Nodup → ((puts F N0 d).map (·.1)).Nodup
  | [], _, h => h
  | n :: N0, F, h => puts_keys d N0 (M.put F n d) (put_keys h)
theorem get_puts_out {n : ByteArray} (d : ByteArray) : ∀ (N0 : List ByteArray) (F : List (ByteArray × ByteArray)), n ∉ N0 → K.get (puts F N0 d) n = K.get F n
  | [], _, _ => rfl
  | m :: N0, F, h => by
    rw [List.mem_cons, not_or] at h
    show K.get (puts (M.put F m d) N0 d) n = _
    rw [get_puts_out d N0 (M.put F m d) h.2, get_put, K.beq_no (fun e => h.1 e.symm)]; simp
theorem get_puts_in {n : ByteArray} (d : ByteArray) : ∀ (N0 : List ByteArray) (F : List (ByteArray × ByteArray)), n ∈ N0 → K.get (puts F N0 d) n = some d
  | [], _, h => by cases h
  | m :: N0, F, h => by
    show K.get (puts (M.put F m d) N0 d) n = _
    by_cases h2 : n ∈ N0
    · exact get_puts_in d N0 (M.put F m d) h2
    · have e : n = m := (List.mem_cons.1 h).resolve_right h2
      rw [get_puts_out d N0 (M.put F m d) h2, get_put, e, (K.beq_iff m m).2 rfl]; simp
/-- One lock given back, if it is his. -/
def gives1 (F : List (ByteArray × ByteArray)) (n d : ByteArray) : List (ByteArray × ByteArray) := if K.get F n = some d then M.del F n else F
def gives (F : List (ByteArray × ByteArray)) (N0 : List ByteArray) (d : ByteArray) : List (ByteArray × ByteArray) := N0.foldl (fun F n => gives1 F n d) F
theorem gives_next {N0 : List ByteArray} {j : Nat} {n : ByteArray} (h : N0[j]? = some n) (F : List (ByteArray × ByteArray)) (d : ByteArray) : gives F (N0.take (j + 1)) d = gives1 (gives F (N0.take j) d) n d := by
  unfold gives
  rw [List.take_add_one, h, Option.toList_some, List.foldl_append]; rfl
theorem gives1_keys {F : List (ByteArray × ByteArray)} {n d : ByteArray} (h : (F.map (·.1)).Nodup) : ((gives1 F n d).map (·.1)).Nodup := by
  unfold gives1
  by_cases e : K.get F n = some d
  · rw [if_pos e]; exact del_keys h
  · rw [if_neg e]; exact h
theorem gives_keys (d : ByteArray) : ∀ (N0 : List ByteArray) (F : List (ByteArray × ByteArray)), (F.map (·.1)).Nodup → ((gives F N0 d).map (·.1)).Nodup
  | [], _, h => h
  | n :: N0, F, h => gives_keys d N0 (gives1 F n d) (gives1_keys h)
theorem get_gives1 {F : List (ByteArray × ByteArray)} {n d : ByteArray} (h : (F.map (·.1)).Nodup) (m : ByteArray) : (m = n ∧ K.get F m = some d → K.get (gives1 F n d) m = none) ∧ (¬ (m = n ∧ K.get F m = some d) → K.get (gives1 F n d) m = K.get F m) := by
  unfold gives1
  by_cases e : K.get F n = some d
  · rw [if_pos e, get_del h]
    by_cases q : n = m
    · subst q
      rw [(K.beq_iff n n).2 rfl, if_pos rfl]
      exact ⟨fun _ => rfl, fun hh => absurd ⟨rfl, e⟩ hh⟩
    · rw [K.beq_no q, if_neg (by simp)]
      exact ⟨fun hh => absurd hh.1.symm q, fun _ => rfl⟩
  · rw [if_neg e]
    exact ⟨fun hh => absurd (by rw [← hh.1]; exact hh.2) e, fun _ => rfl⟩
theorem get_gives {m : ByteArray} (d : ByteArray) : ∀ (N0 : List ByteArray) (F : List (ByteArray × ByteArray)), (F.map (·.1)).Nodup → (m ∈ N0 ∧ K.get F m = some d → K.get (gives F N0 d) m = none) ∧ (¬ (m ∈ N0 ∧ K.get F m = some d) → K.get (gives F N0 d) m = K.get F m)
  | [], F, _ => ⟨fun h => (by cases h.1), fun _ => rfl⟩
  | n :: N0, F, h => by
    have ih := get_gives (m := m) d N0 (gives1 F n d) (gives1_keys h)
    have h1 := get_gives1 (n := n) (d := d) h m
    show (_ → K.get (gives (gives1 F n d) N0 d) m = none) ∧ (_ → K.get (gives (gives1 F n d) N0 d) m = _)
    by_cases e : m = n ∧ K.get F m = some d
    · have hn := h1.1 e
      have h2 : K.get (gives (gives1 F n d) N0 d) m = none := by
        rw [ih.2 (fun q => by rw [hn] at q; cases q.2), hn]
      exact ⟨fun _ => h2, fun q => absurd ⟨List.mem_cons.2 (.inl e.1), e.2⟩ q⟩
    · have hn := h1.2 e
      rw [hn] at ih
      refine ⟨fun q => ih.1 ⟨?_, q.2⟩, fun q => ih.2 (fun r => q ⟨List.mem_cons_of_mem _ r.1, r.2⟩)⟩
      rcases List.mem_cons.1 q.1 with r | r
      · exact absurd ⟨r, q.2⟩ e
      · exact r
theorem Tied.took {F : List (ByteArray × ByteArray)} {L L' : K.Lo} (h : Tied F L) {N0 : List ByteArray} {d : ByteArray} (hs : ∀ n, (n ∈ N0 → K.get L' n = some d) ∧ (n ∉ N0 → K.get L' n = K.get L n)) : Tied (puts F (K.once N0) d) L' := by
  refine ⟨puts_keys _ _ _ h.keys, fun n => ?_⟩
  by_cases hn : n ∈ N0
  · rw [get_puts_in d _ F (K.mem_once.2 hn), (hs n).1 hn]
  · rw [get_puts_out d _ F (fun q => hn (K.mem_once.1 q)), (hs n).2 hn, h.same]
theorem Tied.gave {F : List (ByteArray × ByteArray)} {L L' : K.Lo} (h : Tied F L) {N0 : List ByteArray} {d : ByteArray} (hs : ∀ n, (n ∈ N0 ∧ K.get L n = some d → K.get L' n = none) ∧ (¬ (n ∈ N0 ∧ K.get L n = some d) → K.get L' n = K.get L n)) : Tied (gives F N0 d) L' := by
  refine ⟨gives_keys _ _ _ h.keys, fun n => ?_⟩
  have h1 := get_gives (m := n) d N0 F h.keys
  have h2 := hs n
  rw [← h.same] at h2
  by_cases e : n ∈ N0 ∧ K.get F n = some d
  · rw [h1.1 e, h2.1 e]
  · rw [h1.2 e, h2.2 e]
end J
/-- What a fault of a name is, as Owner tells it. -/
theorem K.code_own {L : K.Lo} {who : Nat} {al : Nat → Bool} {n : ByteArray} : (∀ c, (K.own L n).2.2 = c → c ≠ 0 → K.code L who al n = c) ∧ ((K.own L n).2.2 = 0 → (K.own L n).2.1 = false → K.code L who al n = 0) ∧ (∀ k : Nat, K.own L n = ((k : Int), true, 0) → k < 4 ∧ K.code L who al n = if k = who then 0 else if al k then 14 else 0) := by
  unfold K.own K.code
  cases hm : N.name n with
  | false => simp
  | true =>
    cases hg : K.get L n with
    | none => simp
    | some t =>
      cases hw : K.who t with
      | none => simp [hw]
      | some k =>
        have hk := (K.who_some hw).1
        simp [hw]
        intro j hj
        have : j = k := by omega
        subst this
        exact ⟨hk, rfl⟩
theorem K.own_shape (L : K.Lo) (n : ByteArray) : K.own L n = (0, false, 3) ∨ K.own L n = (0, false, 5) ∨ K.own L n = (0, false, 0) ∨ ∃ k : Nat, k < 4 ∧ K.own L n = ((k : Int), true, 0) := by
  unfold K.own
  cases hm : N.name n with
  | false => simp
  | true =>
    cases hg : K.get L n with
    | none => simp
    | some t =>
      cases hw : K.who t with
      | none => simp [hw]
      | some k =>
        right; right; right
        exact ⟨k, (K.who_some hw).1, by simp [hw]⟩
theorem J.Is.fr {w w' : World} {b : Nat} {F : List (ByteArray × ByteArray)} {ex : Nat → Prop} (h : J.Is w b F) (hf : Fr w w' ex) (hb : ¬ ex b) : J.Is w' b F := h.at (hf.block b h.lt hb)
set_option maxRecDepth 100000 in
set_option maxHeartbeats 2000000 in
theorem refLock_any (w : World) (b : Nat) (F : List (ByteArray × ByteArray)) (L : K.Lo) (who : Int) (al : Nat → Bool) (lo hi : Nat) (v : Value) (N0 : List ByteArray) (hI : J.Is w b F) (hT : J.Tied F L) (hs : Strs w v N0) (hl : N0.length ≤ 12) (hsz : ∀ n ∈ N0, n.size ≤ maxLen)
    (hal : ∀ W (k : Nat), Fr w W (fun _ => False) → k < 4 → Calls Tryd.prog 7 #[.int .i64 k, .pointer (some ⟨lo, 0, none⟩), .pointer (some ⟨hi, 0, none⟩)] W fun o w' => o = .returned (.bool (al k)) ∧ w' = W) :
    Calls Tryd.prog 10 #[.map (some b), .int .i64 who, v, .func (.func 7) #[] #[.pointer (some ⟨lo, 0, none⟩), .pointer (some ⟨hi, 0, none⟩)]] w fun o w' => o = .returned (.int .i64 (K.takeCode L who al N0 : Int)) ∧ ∃ F', J.Is w' b F' ∧ Fr w w' (fun x => x = b) ∧ (K.takeCode L who al N0 ≠ 0 → F' = F) ∧ (K.takeCode L who al N0 = 0 → F' = J.puts F (K.once N0) (K.num who.toNat)) := by
  obtain ⟨av, cv, rfl, hs'⟩ := id hs
  clear hs'
  by_cases hwho : 0 ≤ who ∧ who < 4
  · obtain ⟨k, rfl⟩ : ∃ k : Nat, who = k := ⟨who.toNat, by omega⟩
    have hk4 : k < 4 := by omega
    have HTC : Hid (K.takeCode L k al N0 = K.first (K.code L k al) (K.once N0)) := by show _ = _; unfold K.takeCode; rw [if_pos hwho]; rfl
    have HO := hide (inOrder_any _ N0 w hs (by omega))
    have HOW : Hid (∀ W n, Fr w W (fun _ => False) → n.size ≤ maxLen → Calls Tryd.prog 16 #[.map (some b), .string n] W fun o w' => o = .returned (.tuple #[.int .i64 (K.own L n).1, .bool (K.own L n).2.1, .int .i64 ((K.own L n).2.2 : Int)]) ∧ Fr W w' (fun _ => False)) := fun W n hf hn => refOwner_any W b F L n (hI.fr hf (fun e => e)) hT hn
    have HAL := hide hal
    have HII := hide hI
    have HSZ : Hid (∀ n ∈ K.once N0, n.size ≤ maxLen) := fun n hn => hsz n (K.mem_once.1 hn)
    have hl1 : (K.once N0).length ≤ 12 := Nat.le_trans (K.once_len N0) hl
    have hkn : ¬ (k : Int) < 0 := by omega
    have hk3 : ¬ (3 : Int) < (k : Int) := by omega
    have htn : (k : Int).toNat = k := by omega
    rw [htn]
    clear hs hl hsz hal hI hT htn
    generalize K.once N0 = M0 at *
    go_enter Tryd.func10, Tryd.ntmps10
    go_wp2_with fail
    refine HO.out.mono ?_
    rintro o w1 ⟨u, rfl, ho1, hf1⟩
    obtain ⟨a1, c1, rfl⟩ := owns_shape ho1
    have HO1 := hide ho1
    have HF1 := hide hf1
    clear ho1 hf1 HO
    go_wp2_with fail
    go_loopw [10, 11, 12, 13] (fun vi _ _ _ wz => ∃ (j : Nat) (wu : World), j ≤ M0.length ∧ vi = .int .i64 j ∧ wu = wz ∧ (∀ n ∈ M0.take j, K.code L k al n = 0) ∧ Fr w1 wu (fun _ => False)) (fun vi _ _ _ _ => M0.length - (intOf vi).toNat)
    case atStart => exact ⟨0, _, Nat.zero_le _, rfl, rfl, by simp, Fr.refl _ _⟩
    case round =>
      obtain ⟨j, wu, hj, rfl, hwu, hall, hfu⟩ := hrel
      rw [← hwu]
      clear hwu
      have HALL := hide hall
      have HFU := hide hfu
      have HFW := hide (HF1.out.trans hfu (fun _ _ e => e))
      by_cases hlt : j < M0.length
      · obtain ⟨n, hnj⟩ : ∃ n, M0[j]? = some n := ⟨_, List.getElem?_eq_getElem hlt⟩
        have hmem := List.mem_of_getElem? hnj
        obtain ⟨b1, off, rfl, y0⟩ := (Strs.of_owns (own_frame HO1.out hfu)).at hnj
        have HAN : Hid (K.code L k al n = 0 → ∀ x ∈ M0.take (j + 1), K.code L k al x = 0) := fun h => K.all_next hnj hall h
        have HBAD : Hid (∀ c, K.code L k al n = c → c ≠ 0 → K.takeCode L k al N0 = c) := fun c h hh => HTC.out.trans ((K.first_at (by rw [h]; exact hh) hall hnj).trans h)
        have HOWN := hide (HOW.out wu n HFW.out (HSZ.out n hmem))
        have hco := K.code_own (L := L) (who := k) (al := al) (n := n)
        clear hall hfu hnj hmem
        rcases K.own_shape L n with hE | hE | hE | ⟨q, hq4, hE⟩
        · rw [hE] at HOWN hco
          have hbad := hco.1 3 rfl (by decide)
          clear hco hE
          go_wp2_with (go_at_call 16; (with_reducible refine Calls.mono HOWN.out ?_); rintro o w2 ⟨rfl, hf2⟩)
          go_ret
          refine ⟨by rw [HBAD.out 3 hbad (by decide)]; rfl, F, HII.out.fr (HFW.out.trans hf2 (fun _ _ e => e)) (fun e => e), (HFW.out.trans hf2 (fun _ _ e => e)).weak (fun _ _ e => e.elim), fun _ => rfl, fun h0 => ?_⟩
          rw [HBAD.out 3 hbad (by decide)] at h0; cases h0
        · rw [hE] at HOWN hco
          have hbad := hco.1 5 rfl (by decide)
          clear hco hE
          go_wp2_with (go_at_call 16; (with_reducible refine Calls.mono HOWN.out ?_); rintro o w2 ⟨rfl, hf2⟩)
          go_ret
          refine ⟨by rw [HBAD.out 5 hbad (by decide)]; rfl, F, HII.out.fr (HFW.out.trans hf2 (fun _ _ e => e)) (fun e => e), (HFW.out.trans hf2 (fun _ _ e => e)).weak (fun _ _ e => e.elim), fun _ => rfl, fun h0 => ?_⟩
          rw [HBAD.out 5 hbad (by decide)] at h0; cases h0
        · rw [hE] at HOWN hco
          have hok := hco.2.1 rfl rfl
          clear hco hE
          go_wp2_with (go_at_call 16; (with_reducible refine Calls.mono HOWN.out ?_); rintro o w2 ⟨rfl, hf2⟩; have HF2 := hide (HFU.out.trans hf2 (fun _ _ e => e)); clear hf2)
          go_roundw
          case rel => exact ⟨j + 1, _, by omega, by go_num, rfl, HAN.out hok, HF2.out⟩
          case measure => simp [intOf]; omega
        · rw [hE] at HOWN hco
          have hC := (hco.2.2 q rfl).2
          clear hco hE
          by_cases hqk : q = k
          · have hok : K.code L k al n = 0 := by rw [hC, if_pos hqk]
            subst hqk
            clear hC
            go_wp2_with (go_at_call 16; (with_reducible refine Calls.mono HOWN.out ?_); rintro o w2 ⟨rfl, hf2⟩; have HF2 := hide (HFU.out.trans hf2 (fun _ _ e => e)); clear hf2)
            go_roundw
            case rel => exact ⟨j + 1, _, by omega, by go_num, rfl, HAN.out hok, HF2.out⟩
            case measure => simp [intOf]; omega
          · have hne : ¬ (q : Int) = (k : Int) := by omega
            rw [if_neg hqk] at hC
            have HAK : Hid (∀ W, Fr w1 W (fun _ => False) → Calls Tryd.prog 7 #[.int .i64 q, .pointer (some ⟨lo, 0, none⟩), .pointer (some ⟨hi, 0, none⟩)] W fun o w' => o = .returned (.bool (al q)) ∧ w' = W) := fun W hf => HAL.out W q (HF1.out.trans hf (fun _ _ e => e)) hq4
            cases ha : al q with
            | true =>
              rw [ha] at HAK hC
              have hbad : K.code L k al n = 14 := hC
              clear hC ha hqk
              go_wp2_with (first
                | (go_at_call 16; (with_reducible refine Calls.mono HOWN.out ?_); rintro o w2 ⟨rfl, hf2⟩; have HF2 := hide (HFU.out.trans hf2 (fun _ _ e => e)))
                | (go_at_call 7; (with_reducible refine Calls.mono (HAK.out _ ?_) ?_); exact HF2.out; rintro o w3 ⟨rfl, hw3⟩; rw [hw3]; clear hw3 w3))
              go_ret
              refine ⟨by rw [HBAD.out 14 hbad (by decide)]; rfl, F, HII.out.fr (HFW.out.trans hf2 (fun _ _ e => e)) (fun e => e), (HFW.out.trans hf2 (fun _ _ e => e)).weak (fun _ _ e => e.elim), fun _ => rfl, fun h0 => ?_⟩
              rw [HBAD.out 14 hbad (by decide)] at h0; cases h0
            | false =>
              rw [ha] at HAK hC
              have hok : K.code L k al n = 0 := hC
              clear hC ha hqk
              go_wp2_with (first
                | (go_at_call 16; (with_reducible refine Calls.mono HOWN.out ?_); rintro o w2 ⟨rfl, hf2⟩; have HF2 := hide (HFU.out.trans hf2 (fun _ _ e => e)); clear hf2)
                | (go_at_call 7; (with_reducible refine Calls.mono (HAK.out _ ?_) ?_); exact HF2.out; rintro o w3 ⟨rfl, hw3⟩; rw [hw3]; clear hw3 w3))
              go_roundw
              case rel => exact ⟨j + 1, _, by omega, by go_num, rfl, HAN.out hok, HF2.out⟩
              case measure => simp [intOf]; omega
      · have hjj : j = M0.length := by omega
        rw [hjj, List.take_length] at hall
        have HT0 : Hid (K.takeCode L k al N0 = 0) := HTC.out.trans (K.first_all hall)
        rw [hjj]
        have HO2 := hide (own_frame HO1.out hfu)
        have HJ0 := hide (HII.out.fr HFW.out (fun e => e))
        clear hall hfu hjj hj hlt
        go_wp2_with fail
        go_loopw [14] (fun vi wz => ∃ (j : Nat) (wv : World), j ≤ M0.length ∧ vi = .int .i64 j ∧ wv = wz ∧ J.Is wv b (J.puts F (M0.take j) (K.num k)) ∧ Fr wu wv (fun x => x = b)) (fun vi _ => M0.length - (intOf vi).toNat)
        case atStart => exact ⟨0, _, Nat.zero_le _, rfl, rfl, HJ0.out, Fr.refl _ _⟩
        case round =>
          obtain ⟨j2, wv, hj2, rfl, hwv, hIv, hfv⟩ := hrel
          rw [← hwv]
          clear hwv
          have HIV := hide hIv
          have HFV := hide hfv
          by_cases hlt2 : j2 < M0.length
          · obtain ⟨n, hnj⟩ : ∃ n, M0[j2]? = some n := ⟨_, List.getElem?_eq_getElem hlt2⟩
            have HNX := hide (J.puts_next hnj F (K.num k))
            have hbw : b < w.heap.size := HII.out.lt
            have hbu : b < w1.heap.size := Nat.lt_of_lt_of_le hbw HF1.out.size
            obtain ⟨b1, off, hsh, y0⟩ := (Strs.of_owns (owns_fr HO2.out hfv (fun y hy e => by have := (HO2.out.lt y hy).1; omega))).at hnj
            have hb1 : b1 ≠ b := by
              intro e
              have := (HO2.out.lt b1 (by rw [hsh]; rfl)).1
              omega
            subst hsh
            have HKC : Hid (∀ W, Fr wv W (fun _ => False) → W.cell? ⟨b1, off + j2, none⟩ = some (.string n)) := fun W hf => cell_frx hf (fun e => e) y0
            have HUP : Hid (∀ W, Fr wv W (fun _ => False) → ∃ w', (Instr.mapUpdate 27 (.map (some b)) (.string n) (.string (K.num k))).run Tryd.prog W = .ok () w' ∧ J.Is w' b (M.put (J.puts F (M0.take j2) (K.num k)) n (K.num k)) ∧ W.grownBy w' (some b)) := fun W hf => J.update (HIV.out.fr hf (fun e => e)) n (K.num k)
            have HDE : Hid (∀ W, Calls Tryd.prog 29 #[.int .i64 (k : Nat)] W fun e w' => e = .returned (.string (K.num k)) ∧ Fr W w' (fun _ => False)) := fun W => dec_any k W (by omega)
            clear hnj hIv hfv
            go_wp2_with fail
            go_region_with (first | (go_at_call 29; refine (HDE.out _).mono ?_; rintro e w3 ⟨rfl, hf3⟩; have hf4 := (Fr.refl wv (fun _ => False)).drew.trans hf3 (fun _ _ e => e); have y3 := HKC.out w3 hf4; obtain ⟨w5, hr5, hI5, hg5⟩ := HUP.out w3 hf4))
            all_goals
              go_wp2_with fail
              go_roundw
              case rel => exact ⟨j2 + 1, _, by omega, by go_num, rfl, by rw [HNX.out]; exact hI5, (HFV.out.trans hf4 (fun _ _ e => e.elim)).grown hg5 (fun c e _ => (Option.some.inj e).symm)⟩
              case measure => simp [intOf]; omega
          · have hjj : j2 = M0.length := by omega
            rw [hjj, List.take_length] at hIv
            have HIE := hide hIv
            clear hIv hfv
            go_wp2_with fail
            go_ret
            exact ⟨by rw [HT0.out]; rfl, _, HIE.out, (HFW.out.weak (fun _ _ e => e.elim)).trans HFV.out (fun _ _ e => e), fun e => absurd HT0.out e, fun _ => rfl⟩
  · have e1 : K.takeCode L who al N0 = 1 := by unfold K.takeCode; rw [if_neg hwho]
    rw [e1]
    have HII := hide hI
    clear e1 hs hl hsz hal hI hT
    by_cases hneg : who < 0
    · go_enter Tryd.func10, Tryd.ntmps10
      go_wp2_with fail
      go_ret
      exact ⟨rfl, F, HII.out, Fr.refl _ _, fun _ => rfl, fun e => absurd e (by decide)⟩
    · have h3 : (3 : Int) < who := by omega
      clear hwho
      go_enter Tryd.func10, Tryd.ntmps10
      go_wp2_with fail
      go_ret
      exact ⟨rfl, HII.out, Fr.refl _ _⟩
set_option maxRecDepth 100000 in
set_option maxHeartbeats 2000000 in
theorem refUnlock_any (w : World) (b : Nat) (F : List (ByteArray × ByteArray)) (L : K.Lo) (who : Int) (v : Value) (N0 : List ByteArray) (hI : J.Is w b F) (hT : J.Tied F L) (hs : Strs w v N0) (hl : N0.length ≤ 12) (hsz : ∀ n ∈ N0, n.size ≤ maxLen) (hbs : N0 ≠ [] → ∀ a n c, v = .slice (some a) n c → a.block ≠ b) :
    Calls Tryd.prog 12 #[.map (some b), .int .i64 who, v] w fun o w' => o = .returned (.int .i64 (K.giveCode L who N0 : Int)) ∧ ∃ F', J.Is w' b F' ∧ Fr w w' (fun x => x = b) ∧ (K.giveCode L who N0 ≠ 0 → F' = F) ∧ (K.giveCode L who N0 = 0 → F' = J.gives F N0 (K.num who.toNat)) := by
  obtain ⟨av, cv, rfl, hs'⟩ := id hs
  clear hs'
  by_cases hwho : 0 ≤ who ∧ who < 4
  · obtain ⟨k, rfl⟩ : ∃ k : Nat, who = k := ⟨who.toNat, by omega⟩
    have hk4 : k < 4 := by omega
    have HTC : Hid (K.giveCode L k N0 = K.first (K.gcode L) N0) := by show _ = _; unfold K.giveCode; rw [if_pos hwho]
    have HOW : Hid (∀ W n, Fr w W (fun _ => False) → n.size ≤ maxLen → Calls Tryd.prog 16 #[.map (some b), .string n] W fun o w' => o = .returned (.tuple #[.int .i64 (K.own L n).1, .bool (K.own L n).2.1, .int .i64 ((K.own L n).2.2 : Int)]) ∧ Fr W w' (fun _ => False)) := fun W n hf hn => refOwner_any W b F L n (hI.fr hf (fun e => e)) hT hn
    have HII := hide hI
    have HKE := hide hT.keys
    have HSZ := hide hsz
    have HS : Hid (∀ W j n, Fr w W (fun x => x = b) → N0[j]? = some n → ∃ b1 off, av = some ⟨b1, off, none⟩ ∧ b1 ≠ b ∧ W.cell? ⟨b1, off + j, none⟩ = some (.string n)) := by
      intro W j n hf hj
      obtain ⟨b1, off, e, y0⟩ := hs.at hj
      have hne : b1 ≠ b := hbs (fun e0 => by rw [e0] at hj; simp at hj) ⟨b1, off, none⟩ _ _ (by rw [e])
      exact ⟨b1, off, e, hne, cell_frx hf hne y0⟩
    have hkn : ¬ (k : Int) < 0 := by omega
    have hk3 : ¬ (3 : Int) < (k : Int) := by omega
    have htn : (k : Int).toNat = k := by omega
    rw [htn]
    clear hs hsz hI hT htn hbs
    go_enter Tryd.func12, Tryd.ntmps12
    go_wp2_with fail
    go_loopw [7, 8, 9, 10] (fun vi _ _ _ wz => ∃ (j : Nat) (wu : World), j ≤ N0.length ∧ vi = .int .i64 j ∧ wu = wz ∧ (∀ n ∈ N0.take j, K.gcode L n = 0) ∧ Fr w wu (fun _ => False)) (fun vi _ _ _ _ => N0.length - (intOf vi).toNat)
    case atStart => exact ⟨0, _, Nat.zero_le _, rfl, rfl, by simp, Fr.refl _ _⟩
    case round =>
      obtain ⟨j, wu, hj, rfl, hwu, hall, hfu⟩ := hrel
      rw [← hwu]
      clear hwu
      have HALL := hide hall
      have HFU := hide hfu
      by_cases hlt : j < N0.length
      · obtain ⟨n, hnj⟩ : ∃ n, N0[j]? = some n := ⟨_, List.getElem?_eq_getElem hlt⟩
        have hmem := List.mem_of_getElem? hnj
        obtain ⟨b1, off, rfl, hb1, y0⟩ := HS.out wu j n (hfu.weak (fun _ _ e => e.elim)) hnj
        have HAN : Hid (K.gcode L n = 0 → ∀ x ∈ N0.take (j + 1), K.gcode L x = 0) := fun h => K.all_next hnj hall h
        have HBAD : Hid (∀ c, K.gcode L n = c → c ≠ 0 → K.giveCode L k N0 = c) := fun c h hh => HTC.out.trans ((K.first_at (by rw [h]; exact hh) hall hnj).trans h)
        have HOWN := hide (HOW.out wu n hfu (HSZ.out n hmem))
        have hgc : K.gcode L n = (K.own L n).2.2 := rfl
        clear hall hfu hnj hmem
        rcases K.own_shape L n with hE | hE | hE | ⟨q, hq4, hE⟩
        · rw [hE] at HOWN hgc
          have hbad : K.gcode L n = 3 := hgc
          clear hgc hE
          go_wp2_with (go_at_call 16; (with_reducible refine Calls.mono HOWN.out ?_); rintro o w2 ⟨rfl, hf2⟩)
          go_ret
          refine ⟨by rw [HBAD.out 3 hbad (by decide)]; rfl, F, HII.out.fr (HFU.out.trans hf2 (fun _ _ e => e)) (fun e => e), (HFU.out.trans hf2 (fun _ _ e => e)).weak (fun _ _ e => e.elim), fun _ => rfl, fun h0 => ?_⟩
          rw [HBAD.out 3 hbad (by decide)] at h0; cases h0
        · rw [hE] at HOWN hgc
          have hbad : K.gcode L n = 5 := hgc
          clear hgc hE
          go_wp2_with (go_at_call 16; (with_reducible refine Calls.mono HOWN.out ?_); rintro o w2 ⟨rfl, hf2⟩)
          go_ret
          refine ⟨by rw [HBAD.out 5 hbad (by decide)]; rfl, F, HII.out.fr (HFU.out.trans hf2 (fun _ _ e => e)) (fun e => e), (HFU.out.trans hf2 (fun _ _ e => e)).weak (fun _ _ e => e.elim), fun _ => rfl, fun h0 => ?_⟩
          rw [HBAD.out 5 hbad (by decide)] at h0; cases h0
        · rw [hE] at HOWN hgc
          have hok : K.gcode L n = 0 := hgc
          clear hgc hE
          go_wp2_with (go_at_call 16; (with_reducible refine Calls.mono HOWN.out ?_); rintro o w2 ⟨rfl, hf2⟩; have HF2 := hide (HFU.out.trans hf2 (fun _ _ e => e)); clear hf2)
          go_roundw
          case rel => exact ⟨j + 1, _, by omega, by go_num, rfl, HAN.out hok, HF2.out⟩
          case measure => simp [intOf]; omega
        · rw [hE] at HOWN hgc
          have hok : K.gcode L n = 0 := hgc
          clear hgc hE
          go_wp2_with (go_at_call 16; (with_reducible refine Calls.mono HOWN.out ?_); rintro o w2 ⟨rfl, hf2⟩; have HF2 := hide (HFU.out.trans hf2 (fun _ _ e => e)); clear hf2)
          go_roundw
          case rel => exact ⟨j + 1, _, by omega, by go_num, rfl, HAN.out hok, HF2.out⟩
          case measure => simp [intOf]; omega
      · have hjj : j = N0.length := by omega
        rw [hjj, List.take_length] at hall
        have HT0 : Hid (K.giveCode L k N0 = 0) := HTC.out.trans (K.first_all hall)
        rw [hjj]
        have HJ0 := hide (HII.out.fr hfu (fun e => e))
        clear hall hfu hjj hj hlt
        go_wp2_with fail
        go_loopw [11] (fun vi wz => ∃ (j : Nat) (wv : World), j ≤ N0.length ∧ vi = .int .i64 j ∧ wv = wz ∧ J.Is wv b (J.gives F (N0.take j) (K.num k)) ∧ Fr w wv (fun x => x = b)) (fun vi _ => N0.length - (intOf vi).toNat)
        case atStart => exact ⟨0, _, Nat.zero_le _, rfl, rfl, HJ0.out, HFU.out.weak (fun _ _ e => e.elim)⟩
        case round =>
          obtain ⟨j2, wv, hj2, rfl, hwv, hIv, hfv⟩ := hrel
          rw [← hwv]
          clear hwv
          have HIV := hide hIv
          have HFV := hide hfv
          by_cases hlt2 : j2 < N0.length
          · obtain ⟨n, hnj⟩ : ∃ n, N0[j2]? = some n := ⟨_, List.getElem?_eq_getElem hlt2⟩
            have HNX := hide (J.gives_next hnj F (K.num k))
            obtain ⟨b1, off, rfl, hb1, y0⟩ := HS.out wv j2 n hfv hnj
            have HKC : Hid (∀ W, Fr wv W (fun _ => False) → W.cell? ⟨b1, off + j2, none⟩ = some (.string n)) := fun W hf => cell_frx hf (fun e => e) y0
            have HLK : Hid (∀ W, Fr wv W (fun _ => False) → (Instr.lookup 27 (.map (some b)) (.string n) false).run Tryd.prog W = .ok (.string ((K.get (J.gives F (N0.take j2) (K.num k)) n).getD ⟨#[]⟩)) W) := fun W hf => J.look1 (HIV.out.fr hf (fun e => e)) n
            have HDL : Hid (∀ W, Fr wv W (fun _ => False) → ∃ w', (Builtin.delete_ #[27, 9] 0 #[.map (some b), .string n]).run Tryd.prog W = .ok (.tuple #[]) w' ∧ J.Is w' b (M.del (J.gives F (N0.take j2) (K.num k)) n) ∧ W.grownBy w' (some b)) := fun W hf => J.delete (HIV.out.fr hf (fun e => e)) n 0
            have HDE : Hid (∀ W, Calls Tryd.prog 29 #[.int .i64 (k : Nat)] W fun e w' => e = .returned (.string (K.num k)) ∧ Fr W w' (fun _ => False)) := fun W => dec_any k W (by omega)
            have hlk0 := HLK.out wv.drew ((Fr.refl wv _).drew)
            have HG1 : Hid (((((K.get (J.gives F (N0.take j2) (K.num k)) n).getD ⟨#[]⟩).toList == (K.num k).toList) = true → J.gives1 (J.gives F (N0.take j2) (K.num k)) n (K.num k) = M.del (J.gives F (N0.take j2) (K.num k)) n) ∧ (((((K.get (J.gives F (N0.take j2) (K.num k)) n).getD ⟨#[]⟩).toList == (K.num k).toList) = false → J.gives1 (J.gives F (N0.take j2) (K.num k)) n (K.num k) = J.gives F (N0.take j2) (K.num k)))) := by
              generalize J.gives F (N0.take j2) (K.num k) = G
              constructor
              · intro h
                have h2 := K.toList_inj h
                unfold J.gives1
                cases hg : K.get G n with
                | none =>
                  rw [hg] at h2
                  have h3 := congrArg ByteArray.size h2
                  rw [K.num_size (by omega)] at h3
                  cases h3
                | some t =>
                  rw [hg] at h2
                  have h3 : t = K.num k := h2
                  rw [h3, if_pos rfl]
              · intro h
                unfold J.gives1
                rw [if_neg]
                intro hg
                rw [hg] at h
                simp at h
            clear hnj hIv hfv
            generalize (K.get (J.gives F (N0.take j2) (K.num k)) n).getD ⟨#[]⟩ = tx at *
            cases hcmp : (tx.toList == (K.num k).toList) with
            | true =>
              have hgE := HG1.out.1 hcmp
              have HGE := hide hgE
              clear hgE
              go_wp2_with fail
              go_region_with (first | (go_at_call 29; refine (HDE.out _).mono ?_; rintro e w3 ⟨rfl, hf3⟩; have hf4 := (Fr.refl wv (fun _ => False)).drew.trans hf3 (fun _ _ e => e); have y3 := HKC.out w3 hf4; have hlk3 := HLK.out w3 hf4; obtain ⟨w5, hr5, hI5, hg5⟩ := HDL.out w3 hf4))
              all_goals
                go_wp2_with fail
                go_roundw
                case rel => exact ⟨j2 + 1, _, by omega, by go_num, rfl, by rw [HNX.out, HGE.out]; exact hI5, (HFV.out.trans hf4 (fun _ _ e => e.elim)).grown hg5 (fun c e _ => (Option.some.inj e).symm)⟩
                case measure => simp [intOf]; omega
            | false =>
              have hgE := HG1.out.2 hcmp
              have HGE := hide hgE
              clear hgE
              go_wp2_with fail
              go_region_with (first | (go_at_call 29; refine (HDE.out _).mono ?_; rintro e w3 ⟨rfl, hf3⟩; have hf4 := (Fr.refl wv (fun _ => False)).drew.trans hf3 (fun _ _ e => e); have y3 := HKC.out w3 hf4; have hlk3 := HLK.out w3 hf4))
              all_goals
                go_wp2_with fail
                go_roundw
                case rel => exact ⟨j2 + 1, _, by omega, by go_num, rfl, by rw [HNX.out, HGE.out]; exact HIV.out.fr hf4 (fun e => e), HFV.out.trans hf4 (fun _ _ e => e.elim)⟩
                case measure => simp [intOf]; omega
          · have hjj : j2 = N0.length := by omega
            rw [hjj, List.take_length] at hIv
            have HIE := hide hIv
            clear hIv hfv
            go_wp2_with fail
            go_ret
            exact ⟨by rw [HT0.out]; rfl, _, HIE.out, HFV.out, fun e => absurd HT0.out e, fun _ => rfl⟩
  · have e1 : K.giveCode L who N0 = 1 := by unfold K.giveCode; rw [if_neg hwho]
    rw [e1]
    have HII := hide hI
    clear e1 hs hl hsz hI hT hbs
    by_cases hneg : who < 0
    · go_enter Tryd.func12, Tryd.ntmps12
      go_wp2_with fail
      go_ret
      exact ⟨rfl, F, HII.out, Fr.refl _ _, fun _ => rfl, fun e => absurd e (by decide)⟩
    · have h3 : (3 : Int) < who := by omega
      clear hwho
      go_enter Tryd.func12, Tryd.ntmps12
      go_wp2_with fail
      go_ret
      exact ⟨rfl, HII.out, Fr.refl _ _⟩
end Go.Proofs.YtckbfjoffbnjeaaDoor
