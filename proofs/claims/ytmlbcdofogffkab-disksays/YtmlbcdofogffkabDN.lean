/- walog: rewrite, Add. -/
import Derived.Test.YtmlbcdofogffkabDM
namespace Go.Proofs.Ytmlbcdofogffkab
open Go.RowKit
attribute [local go_sem ↓] Go.wp_at_zero Go.wp_at_succ
/-- What is asked of a disk, that its methods go through. -/
structure Dk.Fits (D : Dk) (n : ByteArray) : Prop where
  steps : 0 ≤ D.steps ∧ D.steps ≤ 100000
  left : -9223372036854775808 ≤ D.left ∧ D.left ≤ 9223372036854775807
  files : D.files.length ≤ 1000
  file : ((M.get D.files n).getD ⟨#[]⟩).size ≤ 10000
  chg : D.chg.length ≤ 1000
  kinds : ∀ c ∈ D.chg, c.kind = 0 ∨ c.kind = 1
  sizes : ∀ k c, D.chg[k]? = some c → c.data.size ≤ 1000000 ∧ ((M.get (D.keepTo k) c.name).getD ⟨#[]⟩).size ≤ 1000000
/-- The disk behind a change and a Sync. -/
def Dk.wrote (D : Dk) (c : Ch) : Dk := (D.did c).synced
/-- What a change that is kept at once answers: refused; a fall ahead of it; a fall behind it; done. -/
def Kept (w' : World) (B : Nat → Prop) (g : Nat) (D : Dk) (c : Ch) (k : Nat) (o : Ending) : Prop :=
  (k ≠ 0 ∧ o = .returned (errV k) ∧ Disk w' B g D) ∨ (k = 0 ∧ ((D.fails ∧ o = .returned (errV 10) ∧ Disk w' B g D.fell) ∨ (¬ D.fails ∧ (D.did c).fails ∧ o = .returned (errV 10) ∧ Disk w' B g (D.did c).fell) ∨ (¬ D.fails ∧ ¬ (D.did c).fails ∧ o = .returned .nilIface ∧ Disk w' B g (D.wrote c))))
theorem errV10 : errV 10 = .iface 128 (.int .i64 10) := rfl
theorem Disk.more {w : World} {B B2 : Nat → Prop} {g : Nat} {D : Dk} (h : Disk w B g D) (hB : ∀ x, B x → B2 x) : Disk w B2 g D := by
  obtain ⟨bk, bf, cv, h1, h2, h3, h4, h5, h6, h7, h8, h9⟩ := h
  exact ⟨bk, bf, cv, h1, h2, h3, h4, h5, hB _ h6, hB _ h7, hB _ h8, fun c hc => hB _ (h9 c hc)⟩
theorem Changed.shape {w w' : World} {B : Nat → Prop} {g : Nat} {D D' : Dk} {k : Nat} {o : Ending} (h : Changed w w' B g D D' k o) :
    ∃ u, o = .returned u ∧ Fr w w' B ∧ ((u = .nilIface ∧ k = 0 ∧ ¬ D.fails ∧ ∃ B', Disk w' B' g D' ∧ ∀ x, B' x → B x ∨ w.heap.size ≤ x) ∨ ∃ m : Int, u = .iface 128 (.int .i64 m) ∧ ((k ≠ 0 ∧ u = errV k ∧ Fr w w' (fun _ => False)) ∨ (k = 0 ∧ D.fails ∧ u = errV 10 ∧ Disk w' B g D.fell))) := by
  rcases h with ⟨h1, rfl, h3⟩ | ⟨h1, h2, h3⟩
  · exact ⟨_, rfl, h3.weak (fun _ _ h => h.elim), .inr ⟨k, errV_ne h1, .inl ⟨h1, rfl, h3⟩⟩⟩
  · rcases h2 with ⟨a, rfl, b⟩ | ⟨a, rfl, b⟩
    · exact ⟨_, rfl, h3, .inr ⟨10, rfl, .inr ⟨h1, a, rfl, b⟩⟩⟩
    · exact ⟨_, rfl, h3, .inl ⟨rfl, h1, a, b⟩⟩
set_option maxRecDepth 100000 in
set_option maxHeartbeats 1000000 in
theorem rewrite_any (w : World) (B B2 : Nat → Prop) (q g : Nat) (n d : ByteArray) (R : List ByteArray) (D : Dk) (h : Disk w B g D) (hl : Logs w B2 q g n R) (hB : ∀ x, B x → x < w.heap.size) (hB2 : ∀ x, B2 x → ¬ B x) (hF : D.Fits n) (hn : n.size ≤ 1000) (hd : d.size ≤ 10000)
    (hF2 : (D.did ⟨0, n, ⟨#[]⟩, d⟩).Fits n) :
    Calls Try.prog 95 #[.pointer (some ⟨q, 0, none⟩), .string d] w fun o w' => (∃ B', Kept w' B' g D ⟨0, n, ⟨#[]⟩, d⟩ (D.fit n d.size) o ∧ ∀ x, B' x → B x ∨ w.heap.size ≤ x) ∧ Fr w w' B := by
  have hcl : ∀ W, Fr w W B → W.cell? ⟨q, 0, none⟩ = some (.pointer (some ⟨g, 0, none⟩)) ∧ W.cell? ⟨q, 1, none⟩ = some (.string n) := by
    intro W hf
    obtain ⟨rv, h1, _, h3, _⟩ := hl
    have hb := (hf.block q (Array.getElem?_eq_some_iff.1 h1).1 (hB2 q h3)).trans h1
    exact ⟨cell_of_block hb 0 _ rfl, cell_of_block hb 1 _ rfl⟩
  have hdr : Fr w w.drew B := (Fr.refl _ _).drew
  have hwr := write_any w.drew B g D n d (h.fr ((Fr.refl w (fun _ => False)).drew) (fun _ _ h => h)) hB (by unfold maxLen; omega) (by have := hF.files; omega) (by have := hF.steps; omega) hF.left ⟨by omega, by have := hF.file; omega⟩ (by have := hF.chg; omega)
  have hsy : ∀ w1 B1, Disk w1 B1 g (D.did ⟨0, n, ⟨#[]⟩, d⟩) → Calls Try.prog 33 #[.pointer (some ⟨g, 0, none⟩)] w1 fun o w' => (((D.did ⟨0, n, ⟨#[]⟩, d⟩).fails ∧ o = .returned (.iface 128 (.int .i64 10)) ∧ Disk w' B1 g (D.did ⟨0, n, ⟨#[]⟩, d⟩).fell) ∨ (¬ (D.did ⟨0, n, ⟨#[]⟩, d⟩).fails ∧ o = .returned .nilIface ∧ Disk w' B1 g (D.wrote ⟨0, n, ⟨#[]⟩, d⟩))) ∧ Fr w1 w' B1 :=
    fun w1 B1 h1 => sync_any w1 B1 g _ h1 (by have := hF2.steps; omega) hF2.left (by have := hF2.chg; omega) hF2.kinds (fun k c _ hc => hF2.sizes k c hc)
  obtain ⟨c0, c1⟩ := hcl w (Fr.refl _ _)
  have KC : Hid (∀ W, Fr w.drew W B → Fr w W B ∧ W.cell? ⟨q, 0, none⟩ = some (.pointer (some ⟨g, 0, none⟩)) ∧ W.cell? ⟨q, 1, none⟩ = some (.string n)) := fun W hf => ⟨hdr.trans hf (fun _ _ h => h), hcl W (hdr.trans hf (fun _ _ h => h))⟩
  have HWR := hide hwr
  have HSY := hide hsy
  have HD := hide h
  clear hwr hsy hcl h hl hF hF2 hB2
  generalize hc0 : (⟨0, n, ⟨#[]⟩, d⟩ : Ch) = c at *
  clear hc0
  obtain ⟨k, hk⟩ : ∃ k, k = D.fit n d.size := ⟨_, rfl⟩
  rw [← hk] at HWR ⊢
  clear hk
  go_enter Try.func95, Try.ntmps95
  go_wp2_with fail
  go_region_held3 (fun W' => W'.cell? ⟨q, 0, none⟩ = some (.pointer (some ⟨g, 0, none⟩)) ∧ W'.cell? ⟨q, 1, none⟩ = some (.string n)) (first | exact ⟨c0, c1⟩ | exact ⟨t0, t1⟩ | go_keep)
    (first | (go_at_call 23; (with_reducible refine Calls.mono HWR.out ?_); rintro o w1 hch; obtain ⟨u, rfl, hfr, hu⟩ := hch.shape; obtain ⟨hf1, t0, t1⟩ := KC.out w1 hfr))
  have HF1 := hide hf1
  rcases hu with ⟨rfl, hk0, hnf, B1, hD1, hB1⟩ | ⟨m, rfl, hrest⟩
  · have HS := hide (HSY.out w1 B1 hD1)
    have HK0 := hide hk0
    have HNF := hide hnf
    have HB1 := hide hB1
    clear hD1 hk0 hnf hB1 hch hfr hf1 c0 c1
    go_wp2_with fail
    refine HS.out.mono ?_
    rintro o w2 ⟨ho, hf2⟩
    have hf12 : Fr w w2 B := HF1.out.trans hf2 (fun x hx e => by
      rcases HB1.out x e with h | h
      · exact h
      · have : w.drew.heap.size = w.heap.size := rfl
        omega)
    have HF12 := hide hf12
    clear hf2 hf12 t0 t1
    rcases ho with ⟨a, rfl, b⟩ | ⟨a, rfl, b⟩
    · have HA := hide a
      have HBB := hide b
      clear a b
      go_wp2_with fail
      go_ret
      exact ⟨⟨B1, .inr ⟨HK0.out, .inr (.inl ⟨HNF.out, HA.out, rfl, HBB.out⟩)⟩, HB1.out⟩, HF12.out⟩
    · have HA := hide a
      have HBB := hide b
      clear a b
      go_wp2_with fail
      go_ret
      exact ⟨⟨B1, .inr ⟨HK0.out, .inr (.inr ⟨HNF.out, HA.out, rfl, HBB.out⟩)⟩, HB1.out⟩, HF12.out⟩
  · have HR := hide hrest
    clear hrest hch hfr hf1 c0 c1 t0 t1
    go_wp2_with fail
    go_ret
    rcases HR.out with ⟨a, b, c2⟩ | ⟨a, b, c2, d2⟩
    · exact ⟨⟨B, .inl ⟨a, by rw [← b]; rfl, HD.out.fr (w' := w1) (ex := fun _ => False) ⟨c2.os, c2.tape, c2.output, c2.size, c2.block⟩ (fun _ _ h => h)⟩, fun x hx => .inl hx⟩, HF1.out⟩
    · exact ⟨⟨B, .inr ⟨a, .inl ⟨b, by rw [← c2]; rfl, d2⟩⟩, fun x hx => .inl hx⟩, HF1.out⟩
end Go.Proofs.Ytmlbcdofogffkab
