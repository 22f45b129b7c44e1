/- For TopLocks: one lock's file written; forGood. -/
import Derived.Test.YtckbfjoffbnjeaaDoorLG
import Derived.Test.YtckbfjoffbnjeaaDoorFC
namespace Go.Proofs.YtckbfjoffbnjeaaDoor
open Go.RowKit
attribute [local go_sem ↓] Go.wp_at_zero Go.wp_at_succ
/-- A disk in memory that has not fallen, with just these locks on it. -/
structure Lk (w : World) (B : Nat → Prop) (g : Nat) (D : Dk) (L : K.Lo) (b : Int) (m : Nat) : Prop where
  disk : Disk w B g D
  low : ∀ x, B x → x < w.heap.size
  inv : Inv D b m
  on : K.On D.files L
theorem Lk.fr {w w' : World} {B : Nat → Prop} {g : Nat} {D : Dk} {L : K.Lo} {b : Int} {m : Nat} (h : Lk w B g D L b m) (hf : Fr w w' (fun _ => False)) : Lk w' B g D L b m :=
  ⟨h.disk.fr hf (fun _ _ h => h), fun x hx => Nat.lt_of_lt_of_le (h.low x hx) hf.size, h.inv, h.on⟩
theorem Disk.clip {w : World} {B : Nat → Prop} {g : Nat} {D : Dk} (h : Disk w B g D) : Disk w (fun x => B x ∧ x < w.heap.size) g D := by
  obtain ⟨bk, bf, cv, h1, h2, h3, h4, h5, h6, h7, h8, h9⟩ := h
  exact ⟨bk, bf, cv, h1, h2, h3, h4, h5, ⟨h6, (Array.getElem?_eq_some_iff.1 h1).1⟩, ⟨h7, h2.lt⟩, ⟨h8, h3.lt⟩, fun c hc => ⟨h9 c hc, (h4.lt c hc).2⟩⟩
theorem K.num_size {k : Nat} (h : k < 10) : (K.num k).size = 1 := by
  unfold K.num
  rw [K.digits h]; rfl
/-- What a change of a lock's file leaves. -/
def Lk.Did (w w' : World) (B : Nat → Prop) (g : Nat) (L : K.Lo) (b : Int) (m : Nat) : Prop := ∃ B' D', Lk w' B' g D' L b m ∧ (∀ x, B' x → B x ∨ w.heap.size ≤ x) ∧ Fr w w' B
theorem Lk.Did.fr {w w' : World} {B : Nat → Prop} {g : Nat} {L : K.Lo} {b : Int} {m : Nat} (h : Lk.Did w w' B g L b m) : Fr w w' B := by
  obtain ⟨_, _, _, _, h⟩ := h; exact h
theorem cell_frx {w w' : World} {ex : Nat → Prop} {b o : Nat} {v : Value} (hf : Fr w w' ex) (hb : ¬ ex b) (h : w.cell? ⟨b, o, none⟩ = some v) : w'.cell? ⟨b, o, none⟩ = some v := by
  have hlt : b < w.heap.size := by
    cases hh : w.heap[b]? with
    | none => simp [World.cell?, hh] at h
    | some x => exact (Array.getElem?_eq_some_iff.1 hh).1
  simp only [World.cell?, hf.block b hlt hb] at h ⊢
  exact h
/-- A lock's file is written. -/
theorem lockWrite_any (w : World) (B : Nat → Prop) (g : Nat) (D : Dk) (L : K.Lo) (b : Int) (m : Nat) (n t : ByteArray) (h : Lk w B g D L b m) (hb : b ≤ 100000) (hm : m ≤ 1000) (hn : N.name n = true) (hk : t.size ≤ 4000) (hL : L.length < 40) :
    Calls Tryd.prog 14 #[.pointer (some ⟨g, 0, none⟩), .string (K.pre n), .string t] w fun o w' => o = .returned .nilIface ∧ Lk.Did w w' B g (K.put L n t) (b + 1) (m + 1) := by
  have hsz := N.name_size hn
  have hps := K.pre_size n
  have hgd := h.inv.goodF
  have hfl : D.files.length < 40 := by rw [h.on.perm.length_eq, List.length_map]; exact hL
  have hg4 := hgd.get (K.pre n)
  have hst := h.inv.steps
  have hle := h.inv.len
  have hfit : D.fit (K.pre n) t.size = 0 := by
    unfold Dk.fit
    rw [K.may_pre hn, if_neg (by decide), if_neg (by omega)]
  have hgp : M.Good (M.put D.files (K.pre n) t) := hgd.put (by omega) (by omega) (.inr hfl)
  refine (write4 w B g D (K.pre n) t h.disk h.low (by unfold maxLen; omega) (by omega) (by omega) (by rw [h.inv.left]; decide) (by omega) (by omega)).mono ?_
  rintro o w' (⟨hx, _⟩ | ⟨_, hd, hf⟩)
  · exact absurd hfit hx
  · rcases hd with ⟨hx, _⟩ | ⟨_, rfl, B', hB', hBB⟩
    · exact absurd hx h.inv.not_fails
    · exact ⟨rfl, _, _, ⟨hB'.clip, fun x hx => hx.2, h.inv.did (.inl rfl) (hk) hgp, h.on.put hn hk⟩, fun x hx => hBB x hx.1, hf⟩
/-- A lock's file is removed. -/
theorem lockRemove_any (w : World) (B : Nat → Prop) (g : Nat) (D : Dk) (L : K.Lo) (b : Int) (m : Nat) (n : ByteArray) (h : Lk w B g D L b m) (hb : b ≤ 100000) (hm : m ≤ 1000) (hn : (K.get L n).isSome = true) :
    Calls Tryd.prog 31 #[.pointer (some ⟨g, 0, none⟩), .string (K.pre n)] w fun o w' => o = .returned .nilIface ∧ Lk.Did w w' B g (K.less L n) (b + 1) (m + 1) := by
  have hgd := h.inv.goodF
  have hg4 := hgd.get (K.pre n)
  have hst := h.inv.steps
  have hle := h.inv.len
  have hgo : D.gone (K.pre n) = 0 := by
    unfold Dk.gone
    rw [if_pos]
    rw [h.on.get]; exact hn
  have hgp : M.Good (M.del D.files (K.pre n)) := hgd.del _
  refine (remove4 w B g D (K.pre n) h.disk h.low (by omega) (by rw [h.inv.left]; decide) (by omega) (by omega)).mono ?_
  rintro o w' (⟨hx, _⟩ | ⟨_, hd, hf⟩)
  · exact absurd hgo hx
  · rcases hd with ⟨hx, _⟩ | ⟨_, rfl, B', hB', hBB⟩
    · exact absurd hx h.inv.not_fails
    · exact ⟨rfl, _, _, ⟨hB'.clip, fun x hx => hx.2, h.inv.did (.inr (.inr (.inr rfl))) (Nat.zero_le _) hgp, h.on.rm n⟩, fun x hx => hBB x hx.1, hf⟩
/-- What was changed is kept. -/
theorem lockSync_any (w : World) (B : Nat → Prop) (g : Nat) (D : Dk) (L : K.Lo) (b : Int) (m : Nat) (h : Lk w B g D L b m) (hb : b ≤ 100000) (hm : m ≤ 1000) :
    Calls Tryd.prog 39 #[.pointer (some ⟨g, 0, none⟩)] w fun o w' => o = .returned .nilIface ∧ Lk.Did w w' B g L (b + 1) 0 := by
  have hst := h.inv.steps
  have hle := h.inv.len
  refine (sync4 w B g D h.disk (by omega) (by rw [h.inv.left]; decide) (by omega) h.inv.kinds (fun k c _ hc => h.inv.sizes k c hc)).mono ?_
  rintro o w' ⟨⟨hx, _⟩ | ⟨_, rfl, hB'⟩, hf⟩
  · exact absurd hx h.inv.not_fails
  · exact ⟨rfl, _, _, ⟨hB'.clip, fun x hx => hx.2, h.inv.sync, h.on⟩, fun x hx => .inl hx.1, hf⟩
set_option maxRecDepth 100000 in
set_option maxHeartbeats 1000000 in
theorem takeFn_any (w : World) (B : Nat → Prop) (g bd bw : Nat) (D : Dk) (L : K.Lo) (b : Int) (m k : Nat) (n : ByteArray) (h : Lk w B g D L b m) (hb : b ≤ 100000) (hm : m ≤ 1000) (hn : N.name n = true) (hk : k < 4) (hL : L.length < 40)
    (hd : w.cell? ⟨bd, 0, none⟩ = some (.pointer (some ⟨g, 0, none⟩))) (hw : w.cell? ⟨bw, 0, none⟩ = some (.int .i64 k)) (hbd : ¬ B bd) (hbw : ¬ B bw) :
    Calls Tryd.prog 26 #[.string (K.pre n), .pointer (some ⟨bd, 0, none⟩), .pointer (some ⟨bw, 0, none⟩)] w fun o w' => o = .returned .nilIface ∧ Lk.Did w w' B g (K.put L n (K.num k)) (b + 1) (m + 1) := by
  have HW : Hid (∀ W, Fr w W (fun _ => False) → Calls Tryd.prog 14 #[.pointer (some ⟨g, 0, none⟩), .string (K.pre n), .string ⟨(Lib.decDigits k).toArray⟩] W fun o w' => o = .returned .nilIface ∧ Lk.Did w w' B g (K.put L n (K.num k)) (b + 1) (m + 1)) := by
    intro W hf
    refine (lockWrite_any W B g D L b m n (K.num k) (h.fr hf) hb hm hn (by rw [K.num_size (by omega)]; omega) hL).mono ?_
    rintro o w' ⟨rfl, B', D', h1, h2, h3⟩
    exact ⟨rfl, B', D', h1, fun x hx => (h2 x hx).imp id (fun e => Nat.le_trans hf.size e), (hf.weak (fun _ _ e => e.elim)).trans h3 (fun _ _ e => e)⟩
  have HI : Hid (∀ W, Calls Tryd.prog 27 #[.int .i64 k] W fun e w' => e = .returned (.string ⟨(Lib.decDigits k).toArray⟩) ∧ w' = W) := fun W => sh_strconv_Itoa_small k (by omega) W
  have HKP : Hid (∀ w', Fr w w' B → w'.cell? ⟨bd, 0, none⟩ = some (.pointer (some ⟨g, 0, none⟩)) ∧ w'.cell? ⟨bw, 0, none⟩ = some (.int .i64 k)) := fun w' hf => ⟨cell_frx hf hbd hd, cell_frx hf hbw hw⟩
  clear h hb hm hn hL hbd hbw
  go_enter Tryd.func26, Tryd.ntmps26
  go_wp2_with fail
  go_region_held3 (fun W' => W'.cell? ⟨bd, 0, none⟩ = some (.pointer (some ⟨g, 0, none⟩)) ∧ W'.cell? ⟨bw, 0, none⟩ = some (.int .i64 k)) (first | exact ⟨hd, hw⟩ | exact HKP.out _ hdid.fr | go_keep)
    (first
      | (go_at_call 27; (with_reducible refine Calls.mono (HI.out _) ?_); rintro o w2 ⟨rfl, rfl⟩)
      | (go_at_call 14; (with_reducible refine Calls.mono (HW.out _ ?_) ?_); exact (Fr.refl _ _).drew; rintro o w3 ⟨rfl, hdid⟩))
  have HDD := hide hdid
  clear hdid
  go_wp2_with fail
  go_ret
  exact ⟨rfl, HDD.out⟩
end Go.Proofs.YtckbfjoffbnjeaaDoor
