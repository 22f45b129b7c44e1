/- walog: Open. -/
import Derived.Test.YtmlbcdofogffkabDP
namespace Go.Proofs.Ytmlbcdofogffkab
open Go.RowKit
attribute [local go_sem ↓] Go.wp_at_zero Go.wp_at_succ
theorem neq77 (w : World) : (binOp BinOp.neq 31 (.iface 128 (.int .i64 7)) (.iface 128 (.int .i64 7))).run Try.prog w = .ok (.bool false) w := by kernel_rfl
/-- The bytes of a file (none, if it is not there). -/
def Dk.bytes (D : Dk) (n : ByteArray) : ByteArray := (M.get D.files n).getD ⟨#[]⟩
/-- The change by which what is torn is cut off. -/
def Dk.cutCh (D : Dk) (n : ByteArray) : Ch := ⟨0, n, ⟨#[]⟩, (D.bytes n).extract 0 (N.size (N.all (D.bytes n)))⟩
/-- The disk behind Open. -/
def Dk.opened (D : Dk) (n : ByteArray) : Dk := if N.size (N.all (D.bytes n)) < (D.bytes n).size then D.wrote (D.cutCh n) else D
set_option maxRecDepth 100000 in
set_option maxHeartbeats 2000000 in
theorem open_any (w : World) (B : Nat → Prop) (g : Nat) (n : ByteArray) (D : Dk) (h : Disk w B g D) (hB : ∀ x, B x → x < w.heap.size) (hF : D.Fits n) (hn : n.size ≤ 1000) (hm : N.may n = true) (hd : D.down = false)
    (hcut : N.size (N.all (D.bytes n)) < (D.bytes n).size → (D.did (D.cutCh n)).Fits n ∧ D.fit n (D.cutCh n).data.size = 0 ∧ ¬ D.fails ∧ ¬ (D.did (D.cutCh n)).fails) :
    Calls Try.prog 46 #[.pointer (some ⟨g, 0, none⟩), .string n] w fun o w' => (∃ q, o = .returned (.tuple #[.pointer (some ⟨q, 0, none⟩), .nilIface]) ∧ Both w w' B (fun _ => False) q g n (D.opened n) (N.all (D.bytes n))) ∧ Fr w w' B := by
  have hnm := name_any n w (by unfold maxLen; omega)
  have hrd := read_any w B g D n h
  have hds : (D.bytes n).size ≤ 10000 := hF.file
  rw [hm] at hnm
  have hrv : D.read n = (D.bytes n, 0) ∨ D.read n = (D.bytes n, 7) := by
    unfold Dk.read Dk.bytes
    rw [if_neg (by rw [hd]; decide)]
    cases M.get D.files n with
    | none => exact .inr rfl
    | some x => exact .inl rfl
  have K1 : Hid (∀ w1, Fr w w1 (fun _ => False) → Calls Try.prog 94 #[.pointer (some ⟨w1.heap.size, 0, none⟩), .string (D.bytes n)] (w1.alloc (.cells #[.pointer (some ⟨g, 0, none⟩), .string n, .slice none 0 0, .int .i64 0] 162)) fun o w' => o = .returned (.tuple #[]) ∧ (∃ B2, Logs w' B2 w1.heap.size g n (N.all (D.bytes n)) ∧ Disk w' B g D ∧ (∀ x, B2 x → w.heap.size ≤ x ∧ x < w'.heap.size) ∧ ∀ x, B2 x → ¬ B x) ∧ Fr w w' (fun _ => False) ∧ N.size (N.all (D.bytes n)) ≤ (D.bytes n).size) := by
    intro w1 hf1
    have hL : Logs (w1.alloc (.cells #[.pointer (some ⟨g, 0, none⟩), .string n, .slice none 0 0, .int .i64 0] 162)) (fun x => x = w1.heap.size) w1.heap.size g n [] :=
      ⟨.slice none 0 0, heap_alloc_new _ _, World.ownsRow_nil .., rfl, fun c hc => by cases hc⟩
    refine (logRead_any _ _ _ g n (D.bytes n) hL hds).mono ?_
    rintro o w' ⟨rfl, ⟨B2, hL2, hB2⟩, hf2, hsz⟩
    have hfa : Fr w (w1.alloc (.cells #[.pointer (some ⟨g, 0, none⟩), .string n, .slice none 0 0, .int .i64 0] 162)) (fun _ => False) := hf1.alloc _
    have hfw : Fr w w' (fun _ => False) := hfa.trans hf2 (fun x hx e => by have := hf1.size; omega)
    have hge : ∀ x, (B2 x ∧ x < w'.heap.size) → w.heap.size ≤ x := by
      intro x hx
      have h1 := hf1.size
      rcases hB2 x hx.1 with h2 | h2
      · omega
      · have : w1.heap.size ≤ (w1.alloc (.cells #[.pointer (some ⟨g, 0, none⟩), .string n, .slice none 0 0, .int .i64 0] 162)).heap.size := by simp
        omega
    exact ⟨rfl, ⟨_, hL2.shrink, h.fr hfw (fun _ _ h => h), fun x hx => ⟨hge x hx, hx.2⟩, fun x hx hb => by have := hge x hx; have := hB x hb; omega⟩, hfw, hsz⟩
  have K2 : Hid (∀ w1 B2 q, Logs w1 B2 q g n (N.all (D.bytes n)) → Disk w1 B g D → (∀ x, B2 x → ¬ B x) → w.heap.size ≤ w1.heap.size → N.size (N.all (D.bytes n)) < (D.bytes n).size → Calls Try.prog 95 #[.pointer (some ⟨q, 0, none⟩), .string ((D.bytes n).extract 0 (N.size (N.all (D.bytes n))))] w1 fun o w' => o = .returned .nilIface ∧ (∃ B', Disk w' B' g (D.wrote (D.cutCh n)) ∧ ∀ x, B' x → B x ∨ w1.heap.size ≤ x) ∧ Fr w1 w' B) := by
    intro w1 B2 q hL hD hdis hle hlt
    obtain ⟨f1, f2, f3, f4⟩ := hcut hlt
    refine (rewrite_any w1 B B2 q g n _ _ D hD hL (fun x hx => Nat.lt_of_lt_of_le (hB x hx) hle) hdis hF hn (by simp; omega) f1).mono ?_
    rintro o w' ⟨⟨B', hk, hB'⟩, hf⟩
    rcases hk with ⟨h0, _⟩ | ⟨_, ⟨h0, _⟩ | ⟨_, h0, _⟩ | ⟨_, _, rfl, hD'⟩⟩
    · exact absurd f2 h0
    · exact absurd h0 f3
    · exact absurd h0 f4
    · exact ⟨rfl, ⟨B', hD', hB'⟩, hf⟩
  have HO1 : Hid (N.size (N.all (D.bytes n)) < (D.bytes n).size → D.opened n = D.wrote (D.cutCh n)) := fun hx => by unfold Dk.opened; rw [if_pos hx]
  have HO2 : Hid (¬ N.size (N.all (D.bytes n)) < (D.bytes n).size → D.opened n = D) := fun hx => by unfold Dk.opened; rw [if_neg hx]
  have HNM := hide hnm
  have HRD := hide hrd
  clear hnm hrd hcut h hB hF hd
  rcases hrv with e | e
  · rw [e] at HRD
    clear e
    generalize D.bytes n = d at *
    obtain ⟨A, hA⟩ : ∃ A, A = N.all d := ⟨_, rfl⟩
    rw [← hA] at K1 K2 HO1 HO2 ⊢
    clear hA
    go_enter Try.func46, Try.ntmps46
    go_wp2_with fail
    refine HNM.out.mono ?_
    rintro o w' ⟨rfl, hw⟩
    rw [hw]
    clear hw w'
    go_wp2_with fail
    refine HRD.out.mono ?_
    rintro o w1 ⟨rfl, hf1⟩
    rw [show errV 0 = .nilIface from rfl]
    have HK1 := hide (K1.out w1 hf1)
    have hle1 := hf1.size
    clear hf1 K1
    go_wp2_with fail
    refine HK1.out.mono ?_
    rintro o w2 ⟨rfl, ⟨B2, hL2, hD2, hB2, hdis⟩, hf2, hsz⟩
    have c3 : w2.cell? ⟨w1.heap.size, 3, none⟩ = some (.int .i64 (N.size A)) := by obtain ⟨rv, h1, _⟩ := hL2; exact cell_of_block h1 3 _ rfl
    have hle2 := hf2.size
    by_cases hlt : N.size A < d.size
    · have HR := hide (K2.out w2 B2 _ hL2 hD2 hdis hle2 hlt)
      have HO := hide (HO1.out hlt)
      have HL2 := hide hL2
      have HB2 := hide hB2
      have HDIS := hide hdis
      have HF2 := hide hf2
      clear hL2 hD2 hB2 hdis hf2 K2 HO1 HO2
      go_wp2_with fail
      refine HR.out.mono ?_
      rintro o w3 ⟨rfl, ⟨B3, hD3, hB3⟩, hf3⟩
      have hL3 := HL2.out.fr hf3 HDIS.out
      have hle3 := hf3.size
      have hboth : Both w w3 B (fun _ => False) w1.heap.size g n (D.opened n) A := by
        rw [HO.out]
        refine ⟨_, B2, hD3.shrink, hL3, fun x hx => ⟨?_, hx.2⟩, fun x hx => ⟨.inr (HB2.out x hx).1, Nat.lt_of_lt_of_le (HB2.out x hx).2 hle3⟩, fun x hx hb => ?_⟩
        · rcases hB3 x hx.1 with h | h
          · exact .inl h
          · exact .inr (Nat.le_trans hle2 h)
        · rcases hB3 x hb.1 with h | h
          · exact HDIS.out x hx h
          · have := (HB2.out x hx).2; omega
      have hfin : Fr w w3 B := (HF2.out.weak (fun _ _ h => h.elim)).trans hf3 (fun _ _ h => h)
      have HBO := hide hboth
      have HFN := hide hfin
      clear hboth hfin hD3 hB3 hf3 hL3 c3
      go_wp2_with fail
      go_ret2
      exact ⟨⟨_, rfl, HBO.out⟩, HFN.out⟩
    · have hboth : Both w w2 B (fun _ => False) w1.heap.size g n (D.opened n) A := by
        rw [HO2.out hlt]
        exact ⟨_, B2, hD2.shrink, hL2, fun x hx => ⟨.inl hx.1, hx.2⟩, fun x hx => ⟨.inr (hB2 x hx).1, (hB2 x hx).2⟩, fun x hx hb => hdis x hx hb.1⟩
      have HBO := hide hboth
      have HFN := hide (hf2.weak (ex1 := B) (fun _ _ h => h.elim))
      clear hboth hL2 hD2 hB2 hdis hf2 K2 HO1 HO2
      go_wp2_with fail
      go_ret2
      exact ⟨⟨_, rfl, HBO.out⟩, HFN.out⟩
  · rw [e] at HRD
    clear e
    generalize D.bytes n = d at *
    obtain ⟨A, hA⟩ : ∃ A, A = N.all d := ⟨_, rfl⟩
    rw [← hA] at K1 K2 HO1 HO2 ⊢
    clear hA
    go_enter Try.func46, Try.ntmps46
    go_wp2_with fail
    refine HNM.out.mono ?_
    rintro o w' ⟨rfl, hw⟩
    rw [hw]
    clear hw w'
    go_wp2_with fail
    refine HRD.out.mono ?_
    rintro o w1 ⟨rfl, hf1⟩
    rw [show errV 7 = .iface 128 (.int .i64 7) from rfl]
    have h77 := neq77 w1
    have HK1 := hide (K1.out w1 hf1)
    have hle1 := hf1.size
    clear hf1 K1
    go_wp2_with fail
    refine HK1.out.mono ?_
    rintro o w2 ⟨rfl, ⟨B2, hL2, hD2, hB2, hdis⟩, hf2, hsz⟩
    have c3 : w2.cell? ⟨w1.heap.size, 3, none⟩ = some (.int .i64 (N.size A)) := by obtain ⟨rv, h1, _⟩ := hL2; exact cell_of_block h1 3 _ rfl
    have hle2 := hf2.size
    by_cases hlt : N.size A < d.size
    · have HR := hide (K2.out w2 B2 _ hL2 hD2 hdis hle2 hlt)
      have HO := hide (HO1.out hlt)
      have HL2 := hide hL2
      have HB2 := hide hB2
      have HDIS := hide hdis
      have HF2 := hide hf2
      clear hL2 hD2 hB2 hdis hf2 K2 HO1 HO2
      go_wp2_with fail
      refine HR.out.mono ?_
      rintro o w3 ⟨rfl, ⟨B3, hD3, hB3⟩, hf3⟩
      have hL3 := HL2.out.fr hf3 HDIS.out
      have hle3 := hf3.size
      have hboth : Both w w3 B (fun _ => False) w1.heap.size g n (D.opened n) A := by
        rw [HO.out]
        refine ⟨_, B2, hD3.shrink, hL3, fun x hx => ⟨?_, hx.2⟩, fun x hx => ⟨.inr (HB2.out x hx).1, Nat.lt_of_lt_of_le (HB2.out x hx).2 hle3⟩, fun x hx hb => ?_⟩
        · rcases hB3 x hx.1 with h | h
          · exact .inl h
          · exact .inr (Nat.le_trans hle2 h)
        · rcases hB3 x hb.1 with h | h
          · exact HDIS.out x hx h
          · have := (HB2.out x hx).2; omega
      have hfin : Fr w w3 B := (HF2.out.weak (fun _ _ h => h.elim)).trans hf3 (fun _ _ h => h)
      have HBO := hide hboth
      have HFN := hide hfin
      clear hboth hfin hD3 hB3 hf3 hL3 c3
      go_wp2_with fail
      go_ret2
      exact ⟨⟨_, rfl, HBO.out⟩, HFN.out⟩
    · have hboth : Both w w2 B (fun _ => False) w1.heap.size g n (D.opened n) A := by
        rw [HO2.out hlt]
        exact ⟨_, B2, hD2.shrink, hL2, fun x hx => ⟨.inl hx.1, hx.2⟩, fun x hx => ⟨.inr (hB2 x hx).1, (hB2 x hx).2⟩, fun x hx hb => hdis x hx hb.1⟩
      have HBO := hide hboth
      have HFN := hide (hf2.weak (ex1 := B) (fun _ _ h => h.elim))
      clear hboth hL2 hD2 hB2 hdis hf2 K2 HO1 HO2
      go_wp2_with fail
      go_ret2
      exact ⟨⟨_, rfl, HBO.out⟩, HFN.out⟩
end Go.Proofs.Ytmlbcdofogffkab
