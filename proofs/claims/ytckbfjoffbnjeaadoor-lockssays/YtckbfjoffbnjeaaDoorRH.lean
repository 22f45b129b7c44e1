/- For LocksSays: the law's state in memory; shuts. -/
import Derived.Test.YtckbfjoffbnjeaaDoorRO
namespace Go.Proofs.YtckbfjoffbnjeaaDoor
open Go.RowKit
attribute [local go_sem ↓] Go.wp_at_zero Go.wp_at_succ
/-- The law's state in memory: the disk, the reference's map, who is alive. -/
structure Sx (w wx : World) (g bh bl bu : Nat) (B : Nat → Prop) (D : Dk) (L : K.Lo) (F : List (ByteArray × ByteArray)) (lo hi b : Int) (m : Nat) : Prop where
  lk : Lk wx B g D L b m
  up : ∀ x, B x → w.heap.size ≤ x
  map : J.Is wx bh F
  clo : wx.heap[bl]? = some (.cells #[.int .i64 lo] 3 (0, 0))
  chi : wx.heap[bu]? = some (.cells #[.int .i64 hi] 3 (0, 0))
  nb : ¬ B bh
  nl : ¬ B bl
  nu : ¬ B bu
  e1 : bh ≠ bl
  e2 : bh ≠ bu
  e3 : bl ≠ bu
  ub : w.heap.size ≤ bh
  ul : w.heap.size ≤ bl
  uu : w.heap.size ≤ bu
  below : Below w.heap.size w wx
section
variable {w wx wy : World} {g bh bl bu : Nat} {B : Nat → Prop} {D : Dk} {L L' : K.Lo} {F F' : List (ByteArray × ByteArray)} {lo hi b b' : Int} {m m' : Nat}
theorem Sx.bl_lt (h : Sx w wx g bh bl bu B D L F lo hi b m) : bl < wx.heap.size := (Array.getElem?_eq_some_iff.1 h.clo).1
theorem Sx.bu_lt (h : Sx w wx g bh bl bu B D L F lo hi b m) : bu < wx.heap.size := (Array.getElem?_eq_some_iff.1 h.chi).1
theorem Sx.fr (h : Sx w wx g bh bl bu B D L F lo hi b m) (hf : Fr wx wy (fun _ => False)) : Sx w wy g bh bl bu B D L F lo hi b m :=
  ⟨h.lk.fr hf, h.up, h.map.at (hf.block bh h.map.lt (fun e => e)), (hf.block bl h.bl_lt (fun e => e)).trans h.clo, (hf.block bu h.bu_lt (fun e => e)).trans h.chi, h.nb, h.nl, h.nu, h.e1, h.e2, h.e3, h.ub, h.ul, h.uu, h.below.trans (hf.below h.below.size (fun _ e => e.elim))⟩
theorem Sx.did (h : Sx w wx g bh bl bu B D L F lo hi b m) (hd : Lk.Did wx wy B g L' b' m') : ∃ B' D', Sx w wy g bh bl bu B' D' L' F lo hi b' m' := by
  obtain ⟨B', D', h1, h2, h3⟩ := hd
  have hsz := h.below.size
  have key : ∀ y, y < wx.heap.size → ¬ B y → ¬ B' y := fun y hy hn e => by
    rcases h2 y e with h4 | h4
    · exact hn h4
    · omega
  refine ⟨B', D', h1, fun x hx => ?_, h.map.at (h3.block bh h.map.lt h.nb), (h3.block bl h.bl_lt h.nl).trans h.clo, (h3.block bu h.bu_lt h.nu).trans h.chi, key bh h.map.lt h.nb, key bl h.bl_lt h.nl, key bu h.bu_lt h.nu, h.e1, h.e2, h.e3, h.ub, h.ul, h.uu, h.below.trans (h3.below hsz h.up)⟩
  rcases h2 x hx with h4 | h4
  · exact h.up x h4
  · omega
theorem Lk.frx {b : Int} {m : Nat} {ex : Nat → Prop} (h : Lk wx B g D L b m) (hf : Fr wx wy ex) (hx : ∀ c, B c → ¬ ex c) : Lk wy B g D L b m := ⟨h.disk.fr hf hx, fun x hx => Nat.lt_of_lt_of_le (h.low x hx) hf.size, h.inv, h.on⟩
theorem Sx.mapd (h : Sx w wx g bh bl bu B D L F lo hi b m) (hf : Fr wx wy (fun x => x = bh)) (hI : J.Is wy bh F') : Sx w wy g bh bl bu B D L F' lo hi b m :=
  ⟨h.lk.frx hf (fun c hc e => h.nb (e ▸ hc)), h.up, hI, (hf.block bl h.bl_lt (fun e => h.e1 e.symm)).trans h.clo, (hf.block bu h.bu_lt (fun e => h.e2 e.symm)).trans h.chi, h.nb, h.nl, h.nu, h.e1, h.e2, h.e3, h.ub, h.ul, h.uu, h.below.trans (hf.below h.below.size (fun c e => by rw [e]; exact h.ub))⟩
theorem Sx.setlo (h : Sx w wx g bh bl bu B D L F lo hi b m) (d : Int) : Sx w (wx.setCell ⟨bl, 0, none⟩ (.int .i64 d)) g bh bl bu B D L F d hi b m := by
  have hf : Fr wx (wx.setCell ⟨bl, 0, none⟩ (.int .i64 d)) (fun c => c = bl) := Fr.set1 wx bl 0 (.int .i64 d)
  refine ⟨h.lk.frx hf (fun c hc e => h.nl (e ▸ hc)), h.up, h.map.at (hf.block bh h.map.lt h.e1), ?_, (hf.block bu h.bu_lt (fun e => h.e3 e.symm)).trans h.chi, h.nb, h.nl, h.nu, h.e1, h.e2, h.e3, h.ub, h.ul, h.uu, h.below.trans (hf.below h.below.size (fun c e => by rw [e]; exact h.ul))⟩
  have := h.clo
  simp [World.setCell, Array.getElem?_modify, this]
theorem Sx.sethi (h : Sx w wx g bh bl bu B D L F lo hi b m) (d : Int) : Sx w (wx.setCell ⟨bu, 0, none⟩ (.int .i64 d)) g bh bl bu B D L F lo d b m := by
  have hf : Fr wx (wx.setCell ⟨bu, 0, none⟩ (.int .i64 d)) (fun c => c = bu) := Fr.set1 wx bu 0 (.int .i64 d)
  refine ⟨h.lk.frx hf (fun c hc e => h.nu (e ▸ hc)), h.up, h.map.at (hf.block bh h.map.lt h.e2), (hf.block bl h.bl_lt h.e3).trans h.clo, ?_, h.nb, h.nl, h.nu, h.e1, h.e2, h.e3, h.ub, h.ul, h.uu, h.below.trans (hf.below h.below.size (fun c e => by rw [e]; exact h.uu))⟩
  have := h.chi
  simp [World.setCell, Array.getElem?_modify, this]
theorem Sx.more (h : Sx w wx g bh bl bu B D L F lo hi b m) (hb : b ≤ b') (hm : m ≤ m') : Sx w wx g bh bl bu B D L F lo hi b' m' :=
  ⟨⟨h.lk.disk, h.lk.low, h.lk.inv.up hb hm, h.lk.on⟩, h.up, h.map, h.clo, h.chi, h.nb, h.nl, h.nu, h.e1, h.e2, h.e3, h.ub, h.ul, h.uu, h.below⟩
end
theorem K.on_nil : K.On [] [] := ⟨List.Perm.refl _, List.nodup_nil, fun x hx => by cases hx⟩
def K.aName : ByteArray := ⟨#[97]⟩
set_option maxRecDepth 100000 in
set_option maxHeartbeats 1000000 in
theorem shuts_any (w : World) : Calls Tryd.prog 4 #[] w fun o w' => o = .returned (.bool true) ∧ Below w.heap.size w w' := by
  go_enter Tryd.func4, Tryd.ntmps4
  go_wp2_with fail
  refine (new_any w).mono ?_
  rintro o w1 ⟨g, rfl, hD1, hf1⟩
  have hlk1 : Lk w1 _ g Dk.new [] 0 0 := ⟨hD1.clip, fun x hx => hx.2, Inv.new, K.on_nil⟩
  obtain ⟨w2, hw2⟩ : ∃ w2, w2 = w1.alloc (.cells #[.string K.aName] 9) := ⟨_, rfl⟩
  have hf12 : Fr w1 w2 (fun _ => False) := by rw [hw2]; exact (Fr.refl _ _).alloc _
  have hs2 : Strs w2 (.slice (some ⟨w1.heap.size, 0, none⟩) 1 1) [K.aName] := ⟨_, _, rfl, .inr ⟨w1.heap.size, 0, rfl, fun i x hx => by
    have hi : i = 0 := by have := (List.getElem?_eq_some_iff.1 hx).1; simp at this; omega
    subst hi
    have : K.aName = x := by simpa using hx
    subst this
    rw [hw2]; exact cell_of_block (heap_alloc_new w1 _) 0 _ rfl⟩⟩
  have HT := hide (take20_any w2 _ g Dk.new [] 0 2 (fun _ => true) _ [K.aName] (hlk1.fr hf12) (by decide) (by decide) (by decide) hs2 (by decide) (fun n hn => by
    have : n = K.aName := by simpa using hn
    subst this; decide) (fun W k _ => alive20_any k W))
  have HF12 := hide (hf1.trans hf12 (fun _ _ e => e))
  clear hD1 hlk1 hs2 hf12 hf1
  go_wp2_with fail
  have hw2' : w1.alloc (.cells #[.string ⟨#[97]⟩] 9) = w2 := hw2.symm
  rw [hw2']
  clear hw2 hw2'
  refine HT.out.mono ?_
  have hc0 : K.takeCode [] 2 (fun _ => true) [K.aName] = 0 := by
    unfold K.takeCode
    rw [if_pos (by decide)]
    refine K.first_all (fun x hx => ?_)
    have : x = K.aName := by simpa using K.mem_once.1 hx
    subst this
    unfold K.code
    rw [if_neg (by decide)]
    rfl
  rintro o w3 ⟨ho, L3, hd3, hl3, _, hg3⟩
  rw [hc0] at ho
  subst ho
  obtain ⟨B3, D3, hk3, hB3, hf3⟩ := hd3
  have hget : K.get L3 K.aName = some (K.num 2) := ((hg3 hc0) K.aName).1 (by simp)
  have hown : K.own L3 K.aName = (2, true, 0) := by
    unfold K.own
    rw [if_neg (by decide), hget]
    show (match K.who (K.num 2) with | some k => ((k : Int), true, 0) | none => (0, false, 5)) = _
    rw [K.who_num (by decide)]; rfl
  have hO := owner_any w3 B3 g D3 L3 K.aName hk3.disk hk3.inv.down hk3.on (by decide)
  rw [hown] at hO
  have HO := hide hO
  have hb3 : Below w.heap.size w w3 := (HF12.out.below (Nat.le_refl _) (fun _ e => e.elim)).trans (hf3.below HF12.out.size (fun x hx => hx.1))
  have HB3 := hide hb3
  clear hO hown hget hg3 hl3 hk3 hB3 hf3 hb3 HT hc0
  have e0 : errV 0 = .nilIface := rfl
  rw [e0]
  clear e0
  go_wp2_with fail
  have HO2 : Hid (Calls Tryd.prog 15 #[.pointer (some ⟨g, 0, none⟩), .string ⟨#[97]⟩] w3 fun o w' => o = .returned (.tuple #[.int .i64 2, .bool true, .nilIface]) ∧ Fr w3 w' (fun _ => False)) := HO.out
  refine HO2.out.mono ?_
  rintro o w4 ⟨rfl, hf4⟩
  have HB4 := hide (HB3.out.trans (hf4.below HB3.out.size (fun _ e => e.elim)))
  have HSM : Hid (∀ W, Calls Tryd.prog 8 #[.nilIface, .int .i64 0] W fun e w' => e = .returned (.bool true) ∧ w' = W) := fun W => same_any 0 W
  clear hf4 HO HO2 HB3
  go_wp2_with (go_at_call 8; (with_reducible refine Calls.mono (HSM.out _) ?_); rintro o w5 ⟨rfl, hw5⟩; rw [hw5]; clear hw5 w5)
  go_ret
  exact ⟨rfl, HB4.out⟩
end Go.Proofs.YtckbfjoffbnjeaaDoor
