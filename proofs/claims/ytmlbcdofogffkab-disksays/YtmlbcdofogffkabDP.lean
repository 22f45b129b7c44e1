/- walog: Add. -/
import Derived.Test.YtmlbcdofogffkabDN
namespace Go.Proofs.Ytmlbcdofogffkab
open Go.RowKit
attribute [local go_sem ↓] Go.wp_at_zero Go.wp_at_succ
theorem Disk.shrink {w : World} {B : Nat → Prop} {g : Nat} {D : Dk} (h : Disk w B g D) : Disk w (fun x => B x ∧ x < w.heap.size) g D := by
  obtain ⟨bk, bf, cv, h1, h2, h3, h4, h5, h6, h7, h8, h9⟩ := h
  exact ⟨bk, bf, cv, h1, h2, h3, h4, h5, ⟨h6, (Array.getElem?_eq_some_iff.1 h1).1⟩, ⟨h7, h2.lt⟩, ⟨h8, h3.lt⟩, fun c hc => ⟨h9 c hc, (h4.lt c hc).2⟩⟩
theorem Logs.shrink {w : World} {B : Nat → Prop} {q g : Nat} {n : ByteArray} {R : List ByteArray} (h : Logs w B q g n R) : Logs w (fun x => B x ∧ x < w.heap.size) q g n R := by
  obtain ⟨rv, h1, h2, h3, h4⟩ := h
  exact ⟨rv, h1, h2, ⟨h3, (Array.getElem?_eq_some_iff.1 h1).1⟩, fun c hc => ⟨h4 c hc, (h2.lt c hc).2⟩⟩
/-- A disk and a log beside it, in blocks that were there, or are new. -/
def Both (w w' : World) (B B2 : Nat → Prop) (q g : Nat) (n : ByteArray) (D : Dk) (R : List ByteArray) : Prop :=
  ∃ B' B2', Disk w' B' g D ∧ Logs w' B2' q g n R ∧ (∀ x, B' x → (B x ∨ w.heap.size ≤ x) ∧ x < w'.heap.size) ∧ (∀ x, B2' x → (B2 x ∨ w.heap.size ≤ x) ∧ x < w'.heap.size) ∧ ∀ x, B2' x → ¬ B' x
/-- What Add answers. -/
def Added (w w' : World) (B B2 : Nat → Prop) (q g : Nat) (n : ByteArray) (D : Dk) (R : List ByteArray) (s : ByteArray) (c : Ch) (k : Nat) (o : Ending) : Prop :=
  (k ≠ 0 ∧ o = .returned (errV k) ∧ Both w w' B B2 q g n D R) ∨ (k = 0 ∧ ((D.fails ∧ o = .returned (errV 10) ∧ Both w w' B B2 q g n D.fell R) ∨ (¬ D.fails ∧ (D.did c).fails ∧ o = .returned (errV 10) ∧ Both w w' B B2 q g n (D.did c).fell R) ∨ (¬ D.fails ∧ ¬ (D.did c).fails ∧ o = .returned .nilIface ∧ Both w w' B B2 q g n (D.wrote c) (R ++ [s]))))
set_option maxRecDepth 100000 in
set_option maxHeartbeats 2000000 in
theorem add_any (w : World) (B B2 : Nat → Prop) (q g : Nat) (n s : ByteArray) (R : List ByteArray) (D : Dk) (h : Disk w B g D) (hl : Logs w B2 q g n R) (hB : ∀ x, B x → x < w.heap.size) (hBl : ∀ x, B2 x → x < w.heap.size) (hB2 : ∀ x, B2 x → ¬ B x) (hF : D.Fits n) (hn : n.size ≤ 1000) (hs : s.size ≤ 400) (hR : R.length ≤ 10000 ∧ N.size R ≤ 100000)
    (hF2 : (D.did ⟨1, n, ⟨#[]⟩, N.head s ++ s⟩).Fits n) :
    Calls Try.prog 52 #[.pointer (some ⟨q, 0, none⟩), .string s] w fun o w' => Added w w' B B2 q g n D R s ⟨1, n, ⟨#[]⟩, N.head s ++ s⟩ (D.more n (N.head s ++ s)) o ∧ Fr w w' (fun x => B x ∨ B2 x) := by
  have hcl : ∀ W, Fr w W B → W.cell? ⟨q, 0, none⟩ = some (.pointer (some ⟨g, 0, none⟩)) ∧ W.cell? ⟨q, 1, none⟩ = some (.string n) := by
    intro W hf
    obtain ⟨rv, h1, _, h3, _⟩ := hl
    have hb := (hf.block q (Array.getElem?_eq_some_iff.1 h1).1 (hB2 q h3)).trans h1
    exact ⟨cell_of_block hb 0 _ rfl, cell_of_block hb 1 _ rfl⟩
  have hfs : (N.head s ++ s).size = 6 + s.size := by rw [ByteArray.size_append, N.head_size]
  have hfm := fun W => framed_any s W (by omega)
  have hap : ∀ W, Fr w W (fun _ => False) → Calls Try.prog 25 #[.pointer (some ⟨g, 0, none⟩), .string n, .string (N.head s ++ s)] W fun o w' => Changed W w' B g D (D.did ⟨1, n, ⟨#[]⟩, N.head s ++ s⟩) (D.more n (N.head s ++ s)) o :=
    fun W hf => append_any W B g D n (N.head s ++ s) (h.fr hf (fun _ _ h => h)) (fun x hx => Nat.lt_of_lt_of_le (hB x hx) hf.size) (by unfold maxLen; omega) (by have := hF.files; omega) (by have := hF.steps; omega) hF.left ⟨by omega, by have := hF.file; omega⟩ (by have := hF.chg; omega)
  have hsy : ∀ w1 B1, Disk w1 B1 g (D.did ⟨1, n, ⟨#[]⟩, N.head s ++ s⟩) → Calls Try.prog 33 #[.pointer (some ⟨g, 0, none⟩)] w1 fun o w' => (((D.did ⟨1, n, ⟨#[]⟩, N.head s ++ s⟩).fails ∧ o = .returned (.iface 128 (.int .i64 10)) ∧ Disk w' B1 g (D.did ⟨1, n, ⟨#[]⟩, N.head s ++ s⟩).fell) ∨ (¬ (D.did ⟨1, n, ⟨#[]⟩, N.head s ++ s⟩).fails ∧ o = .returned .nilIface ∧ Disk w' B1 g (D.wrote ⟨1, n, ⟨#[]⟩, N.head s ++ s⟩))) ∧ Fr w1 w' B1 :=
    fun w1 B1 h1 => sync_any w1 B1 g _ h1 (by have := hF2.steps; omega) hF2.left (by have := hF2.chg; omega) hF2.kinds (fun k c _ hc => hF2.sizes k c hc)
  obtain ⟨c0, c1⟩ := hcl w (Fr.refl _ _)
  have KC : Hid (∀ W, Fr w W B → W.cell? ⟨q, 0, none⟩ = some (.pointer (some ⟨g, 0, none⟩)) ∧ W.cell? ⟨q, 1, none⟩ = some (.string n)) := hcl
  have KT : Hid (∀ W, Fr w W B → Logs W B2 q g n R) := fun W hf => hl.fr hf hB2
  have KTK : Hid (∀ W, Logs W B2 q g n R → Calls Try.prog 99 #[.pointer (some ⟨q, 0, none⟩), .string s] W fun o w' => o = .returned (.tuple #[]) ∧ (∃ B', Logs w' B' q g n (R ++ [s]) ∧ ∀ x, B' x → B2 x ∨ W.heap.size ≤ x) ∧ Fr W w' B2) := fun W hL => take_any W B2 q g n R s hL (by omega) ⟨by omega, by omega⟩
  have KF : Hid (∀ W, Fr w.drew W (fun _ => False) → Fr w W (fun _ => False)) := fun W hf => ⟨hf.os, hf.tape, hf.output, hf.size, hf.block⟩
  have KB : Hid (∀ W W2, Fr w W (fun _ => False) → Fr W W2 B → Fr w W2 B) := fun W W2 h1 h2 => (h1.weak (fun _ _ h => h.elim)).trans h2 (fun _ _ h => h)
  have HFM := hide hfm
  have HAP := hide hap
  have HSY := hide hsy
  have HD := hide h
  have HB := hide hB
  have HBL := hide hBl
  have HB2 := hide hB2
  clear hap hfm hsy hcl h hl hF hF2 hB2 hB hBl
  generalize hc0 : (⟨1, n, ⟨#[]⟩, N.head s ++ s⟩ : Ch) = c at *
  clear hc0
  obtain ⟨k, hk⟩ : ∃ k, k = D.more n (N.head s ++ s) := ⟨_, rfl⟩
  rw [← hk] at HAP ⊢
  clear hk
  generalize N.head s ++ s = F at *
  go_enter Try.func52, Try.ntmps52
  go_wp2_with fail
  go_region_held3 (fun W' => W'.cell? ⟨q, 0, none⟩ = some (.pointer (some ⟨g, 0, none⟩)) ∧ W'.cell? ⟨q, 1, none⟩ = some (.string n)) (first | exact ⟨c0, c1⟩ | exact ⟨v0, v1⟩ | exact ⟨t0, t1⟩ | go_keep)
    (first
      | (go_at_call 98; (with_reducible refine Calls.mono (HFM.out _) ?_); rintro o w0 ⟨rfl, hf0⟩; have hf00 := KF.out w0 hf0; obtain ⟨v0, v1⟩ := KC.out w0 (KB.out _ _ hf00 (Fr.refl _ _)))
      | (go_at_call 25; (with_reducible refine Calls.mono (HAP.out _ hf00) ?_); rintro o w1 hch; obtain ⟨u, rfl, hfr, hu⟩ := hch.shape; have hf1 := KB.out _ _ hf00 hfr; obtain ⟨t0, t1⟩ := KC.out w1 hf1))
  have hw0 : w.heap.size ≤ w0.heap.size := hf00.size
  have hL1 := KT.out w1 hf1
  have HF1 := hide hf1
  have HL1 := hide hL1
  rcases hu with ⟨rfl, hk0, hnf, B1, hD1, hB1⟩ | ⟨m, rfl, hrest⟩
  · have hS := HSY.out w1 _ hD1.shrink
    have hdis : ∀ x, B2 x → ¬ (B1 x ∧ x < w1.heap.size) := by
      intro x hx hb
      rcases hB1 x hb.1 with h | h
      · exact HB2.out x hx h
      · have := HBL.out x hx; omega
    have hin : ∀ x, (B1 x ∧ x < w1.heap.size) → (B x ∨ w.heap.size ≤ x) := by
      intro x hx
      rcases hB1 x hx.1 with h | h
      · exact .inl h
      · exact .inr (Nat.le_trans hw0 h)
    have HS := hide hS
    have HDIS := hide hdis
    have HIN := hide hin
    have HK0 := hide hk0
    have HNF := hide hnf
    clear hD1 hk0 hnf hB1 hch hfr hf1 c0 c1 hS hdis hin hL1 hf0 hf00 v0 v1
    go_wp2_with fail
    refine HS.out.mono ?_
    rintro o w2 ⟨ho, hf2⟩
    have hL2 := HL1.out.fr hf2 HDIS.out
    have hf12 : Fr w w2 (fun x => B x ∨ B2 x) := (HF1.out.weak (fun _ _ h => .inl h)).trans hf2 (fun x hx e => by
      rcases HIN.out x e with h | h
      · exact .inl h
      · omega)
    have HF12 := hide hf12
    have HL2 := hide hL2
    have hle12 := hf2.size
    have hle1 := HF1.out.size
    rcases ho with ⟨a, rfl, b⟩ | ⟨a, rfl, b⟩
    · have HA := hide a
      have HBB := hide b
      clear a b hf2 hf12 hL2 t0 t1
      go_wp2_with fail
      go_ret
      exact ⟨.inr ⟨HK0.out, .inr (.inl ⟨HNF.out, HA.out, rfl, _, B2, HBB.out, HL2.out, fun x hx => ⟨HIN.out x hx, Nat.lt_of_lt_of_le hx.2 hle12⟩, fun x hx => ⟨.inl hx, by have := HBL.out x hx; omega⟩, HDIS.out⟩)⟩, HF12.out⟩
    · have hT := KTK.out w2 hL2
      have HA := hide a
      have HBB := hide b
      have HT := hide hT
      clear a b hf2 hf12 hL2 t0 t1 hT
      go_wp2_with fail
      refine HT.out.mono ?_
      rintro o w3 ⟨rfl, ⟨B3, hL3, hB3⟩, hf3⟩
      have hD3 := HBB.out.fr hf3 (fun c hc e => HDIS.out c e hc)
      have hf13 : Fr w w3 (fun x => B x ∨ B2 x) := HF12.out.trans hf3 (fun _ _ e => .inr e)
      have hle3 := hf3.size
      have hboth : Both w w3 B B2 q g n (D.wrote c) (R ++ [s]) := by
        refine ⟨_, _, hD3, hL3.shrink, fun x hx => ⟨HIN.out x hx, by have := hx.2; omega⟩, fun x hx => ⟨?_, hx.2⟩, fun x hx hb => ?_⟩
        · rcases hB3 x hx.1 with h | h
          · exact .inl h
          · exact .inr (by omega)
        · rcases hB3 x hx.1 with h | h
          · exact HDIS.out x h hb
          · have := hb.2; omega
      have HBO := hide hboth
      have HF13 := hide hf13
      clear hboth hf13 hD3 hL3 hB3 hf3
      go_wp2_with fail
      go_ret
      exact ⟨.inr ⟨HK0.out, .inr (.inr ⟨HNF.out, HA.out, rfl, HBO.out⟩)⟩, HF13.out⟩
  · have HR := hide hrest
    have hle1 := HF1.out.size
    have HW0 : Hid (Fr w0 w1 (fun _ => False) → Disk w1 B g D) := fun hh => HD.out.fr (hf00.trans hh (fun _ _ h => h)) (fun _ _ h => h)
    clear hrest hch hfr hf1 c0 c1 t0 t1 hL1 hf0 hf00 v0 v1
    go_wp2_with fail
    go_ret
    have hb1 : ∀ x, B x → (B x ∨ w.heap.size ≤ x) ∧ x < w1.heap.size := fun x hx => ⟨.inl hx, by have := HB.out x hx; omega⟩
    have hb2 : ∀ x, B2 x → (B2 x ∨ w.heap.size ≤ x) ∧ x < w1.heap.size := fun x hx => ⟨.inl hx, by have := HBL.out x hx; omega⟩
    rcases HR.out with ⟨a, b, c2⟩ | ⟨a, b, c2, d2⟩
    · exact ⟨.inl ⟨a, by rw [← b]; rfl, B, B2, HW0.out c2, HL1.out, hb1, hb2, HB2.out⟩, HF1.out.weak (fun _ _ h => .inl h)⟩
    · exact ⟨.inr ⟨a, .inl ⟨b, by rw [← c2]; rfl, B, B2, d2, HL1.out, hb1, hb2, HB2.out⟩⟩, HF1.out.weak (fun _ _ h => .inl h)⟩
end Go.Proofs.Ytmlbcdofogffkab
