/- The document's Waves: level by level. -/
import Derived.Test.YtienhelohfhhfaaGR
namespace Go.Proofs.Ytienhelohfhhfaa
open Go.RowKit
attribute [local go_sem ↓] Go.wp_at_zero Go.wp_at_succ
open Gr (Ints Lists Bools hide cells On ofN lists onb D wave Low Hi)
namespace Gr
/-- Levels, as a list. -/
def lv (l : List Nat) (i : Nat) : Nat := l.getD i 0
theorem lv_some {l : List Nat} {i x : Nat} (h : l[i]? = some x) : lv l i = x := by unfold lv; rw [List.getD_eq_getElem?_getD, h]; rfl
theorem lv_get {l : List Nat} {i : Nat} (h : i < l.length) : l[i]? = some (lv l i) := by
  obtain ⟨x, hx⟩ := getElem_some h
  rw [hx, lv_some hx]
theorem lv_set_self {l : List Nat} {i x : Nat} (h : i < l.length) : lv (l.set i x) i = x := lv_some (List.getElem?_set_self h)
theorem lv_set_ne {l : List Nat} {i j x : Nat} (h : i ≠ j) : lv (l.set i x) j = lv l j := by
  unfold lv; rw [List.getD_eq_getElem?_getD, List.getD_eq_getElem?_getD, List.getElem?_set_ne h]
/-- Inside round r: all below i are new. -/
structure Lev (N : Net) (n r i : Nat) (l : List Nat) : Prop where
  len : l.length = n
  new : ∀ j, j < i → Low N (lv l) (r + 1) j
  old : ∀ j, j < n → Low N (lv l) r j
  hi : ∀ j, j < n → Hi N (lv l) j
  top : ∀ j, j < n → lv l j ≤ n
theorem Lev.start (N : Net) (n : Nat) : Lev N n 0 0 (List.replicate n 0) := by
  have h0 : ∀ j, lv (List.replicate n 0) j = 0 := by
    intro j; unfold lv; rw [List.getD_eq_getElem?_getD, List.getElem?_replicate]; split <;> rfl
  refine ⟨by simp, fun j hj => absurd hj (by omega), fun j _ k hk => absurd hk (by omega), fun j _ k _ => ?_, fun j _ => ?_⟩
  · rw [h0]; exact Nat.zero_le _
  · rw [h0]; exact Nat.zero_le _
theorem Lev.next {N : Net} {n r : Nat} {l : List Nat} (h : Lev N n r n l) : Lev N n (r + 1) 0 l :=
  ⟨h.len, fun j hj => absurd hj (by omega), h.new, h.hi, h.top⟩
theorem Lev.put {N : Net} {n r i : Nat} {l : List Nat} (h : Lev N n r i l) (hi : i < n) (hN : ∀ j ∈ N i, j < n) (ht : up (lv l) (N i) ≤ n) : Lev N n r (i + 1) (l.set i (up (lv l) (N i))) := by
  have hil : i < l.length := by rw [h.len]; exact hi
  have hlow := up_low N n (lv l) r h.old i hN
  have hhi := up_hi N n (lv l) h.hi i hN
  refine ⟨by simp [h.len], ?_, ?_, ?_, ?_⟩
  · intro j hj k hk hd
    by_cases e : j = i
    · subst e; rw [lv_set_self hil]; exact hlow k hk hd
    · rw [lv_set_ne (Ne.symm e)]; exact h.new j (by omega) k hk hd
  · intro j hj k hk hd
    by_cases e : j = i
    · subst e; rw [lv_set_self hil]; exact hlow k (by omega) hd
    · rw [lv_set_ne (Ne.symm e)]; exact h.old j hj k hk hd
  · intro j hj k hd
    by_cases e : j = i
    · subst e; rw [lv_set_self hil]; exact hhi k hd
    · rw [lv_set_ne (Ne.symm e)]; exact h.hi j hj k hd
  · intro j hj
    by_cases e : j = i
    · subst e; rw [lv_set_self hil]; exact ht
    · rw [lv_set_ne (Ne.symm e)]; exact h.top j hj
/-- One above the first k. -/
def upTo (f : Nat → Nat) (l : List Nat) (k : Nat) : Nat := up f (l.take k)
theorem upTo_next {f : Nat → Nat} {l : List Nat} {k x : Nat} (h : l[k]? = some x) : upTo f l (k + 1) = max (upTo f l k) (1 + f x) := by
  unfold upTo up; rw [take_next h, List.foldl_append]; rfl
theorem upTo_le {f : Nat → Nat} {l : List Nat} {k b : Nat} (hb : 1 ≤ b) (h : ∀ j ∈ l, 1 + f j ≤ b) : upTo f l k ≤ b :=
  up_fold_le f b _ 1 hb (fun j hj => h j (List.mem_of_mem_take hj))
/-- Lists that are kept: a row of slices, each with its own row. -/
structure KeptL (w : World) (base : Nat) (v : Value) (L : List (List Int)) (V : List Value) : Prop where
  row : w.ownsRow base 37 1 v L.length V
  own : ∀ (j : Nat) u l, V[j]? = some u → L[j]? = some l → w.ownsRow base 3 1 u l.length (cells l)
theorem KeptL.len {w : World} {base : Nat} {v : Value} {L : List (List Int)} {V : List Value} (h : KeptL w base v L V) : V.length = L.length := by have := h.row.1; omega
theorem KeptL.keep {w w' : World} {base : Nat} {v : Value} {L : List (List Int)} {V : List Value} (h : KeptL w base v L V) (hb : Below w.heap.size w w') : KeptL w' base v L V := by
  have hg : w.grownBy w' none := ⟨hb.os, hb.tape, hb.output, hb.size, fun c hc _ => hb.block c hc⟩
  exact ⟨h.row.kept hg (by cases v.ownBlock <;> simp), fun j u l hu hl => (h.own j u l hu hl).kept hg (by cases u.ownBlock <;> simp)⟩
theorem KeptL.more {w w' : World} {base : Nat} {v v' u : Value} {L : List (List Int)} {l : List Int} {V : List Value} (h : KeptL w base v L V) (hu : w.ownsRow base 3 1 u l.length (cells l))
    (hr : w'.ownsRow base 37 1 v' (L.length + 1) (V ++ [u])) (hg : w.grownBy w' v.ownBlock) : KeptL w' base v' (L ++ [l]) (V ++ [u]) := by
  refine ⟨by rw [List.length_append]; exact hr, fun j x m hx hm => ?_⟩
  by_cases hj : j < L.length
  · rw [List.getElem?_append_left (by rw [h.len]; exact hj)] at hx
    rw [List.getElem?_append_left hj] at hm
    exact (h.own j x m hx hm).kept hg (apart (h.own j x m hx hm) h.row (by decide))
  · rw [List.getElem?_append_right (by rw [h.len]; omega), h.len] at hx
    rw [List.getElem?_append_right (by omega)] at hm
    have hjk : j - L.length = 0 := by
      have := (List.getElem?_eq_some_iff.1 hx).1
      simp at this
      omega
    rw [hjk] at hx hm
    cases hx
    cases hm
    exact hu.kept hg (apart hu h.row (by decide))
theorem KeptL.lists {w : World} {base : Nat} {v : Value} {L : List (List Int)} {V : List Value} (h : KeptL w base v L V) : Lists w v L := by
  rcases h.row.2 with ⟨rfl, h0⟩ | ⟨g, cap, cur, rfl, _, hg, _⟩
  · have : L = [] := List.eq_nil_of_length_eq_zero h0
    subst this
    exact ⟨none, 0, rfl, .inl rfl⟩
  · refine ⟨some ⟨g, 0, none⟩, cap, rfl, .inr ⟨g, 0, rfl, fun i l hi => ?_⟩⟩
    obtain ⟨u, hu⟩ := getElem_some (l := V) (k := i) (by rw [h.len]; exact (List.getElem?_eq_some_iff.1 hi).1)
    have := h.row.cells (g := g) rfl i u hu
    rw [addr_add] at this
    exact ⟨u, by rw [Nat.zero_add]; exact this, Ints.of_owns (h.own i u l hu hi)⟩
/-- The waves that are not empty, of the first k, as they lie in memory. -/
def full (N : Net) (n k : Nat) : List (List Int) := ((List.range k).map (wave N n)).filter (fun l => !l.isEmpty) |>.map ofN
theorem full_succ (N : Net) (n k : Nat) : full N n (k + 1) = if wave N n k = [] then full N n k else full N n k ++ [ofN (wave N n k)] := by
  unfold full
  rw [List.range_succ, List.map_append, List.filter_append, List.map_append]
  by_cases h : wave N n k = []
  · rw [if_pos h]; simp [h]
  · rw [if_neg h]; simp [h]
theorem full_le (N : Net) (n k : Nat) : (full N n k).length ≤ k := by
  unfold full
  rw [List.length_map]
  have := List.length_filter_le (fun l : List Nat => !l.isEmpty) ((List.range k).map (wave N n))
  rw [List.length_map, List.length_range] at this
  exact this
/-- Those of the first k whose level is w. -/
def at_ (f : Nat → Nat) (w k : Nat) : List Nat := (List.range k).filter (fun i => f i == w)
theorem at_succ (f : Nat → Nat) (w k : Nat) : at_ f w (k + 1) = if f k = w then at_ f w k ++ [k] else at_ f w k := by
  unfold at_
  rw [List.range_succ, List.filter_append]
  by_cases h : f k = w
  · rw [if_pos h]; simp [h]
  · rw [if_neg h]; simp [h]
theorem at_le (f : Nat → Nat) (w k : Nat) : (at_ f w k).length ≤ k := by
  have := List.length_filter_le (fun i => f i == w) (List.range k)
  rwa [List.length_range] at this
end Gr
/-- What the document's Waves says. -/
def Gr.WavesR (N : Gr.Net) (n : Nat) (w : World) (e : Ending) (w' : World) : Prop :=
  (((∃ i, i < n ∧ D N n i = false) ∧ e = .returned (.tuple #[.slice none 0 0, .int .i64 8])) ∨
   ((∀ i, i < n → D N n i = true) ∧ ∃ v, e = .returned (.tuple #[v, .int .i64 0]) ∧ Lists w' v (Gr.full N n n))) ∧ Below w.heap.size w w'
set_option maxRecDepth 100000 in
set_option maxHeartbeats 4000000 in
theorem wavesR_any (NZ : List (List Int)) (n : Nat) (nv : Value) (w : World) (hn0 : NZ.length = n) (hn : n ≤ 100) (hL : Lists w nv NZ)
    (hrl : ∀ a, a < n → (Gr.row NZ a).length ≤ 1000) (hok : ∀ a, a < n → ∀ x ∈ Gr.row NZ a, 0 ≤ x ∧ x < n) :
    Calls Try.prog 18 #[nv] w (Gr.WavesR (Gr.netOf NZ) n w) := by
  obtain ⟨i0, hi0, hz0, hz1, hz2⟩ := info_parts info3
  obtain ⟨j0, hj0, hy0, hy1, hy2⟩ := info_parts info37
  have hmk := info3n n (by omega)
  obtain ⟨an, cn, rfl, _⟩ := id hL
  rw [hn0] at hL ⊢
  have hnb : ∀ i, i < n → ∀ j ∈ Gr.netOf NZ i, j < n := by
    intro i hi j hj
    unfold Gr.netOf at hj
    obtain ⟨x, hx, rfl⟩ := List.mem_map.1 hj
    have := hok i hi x hx
    omega
  have HL := hide hL
  have HOK := hide hok
  have HRL := hide hrl
  have HNB := hide hnb
  clear hL hok hrl hnb
  have hP0 : (w.alloc (.cells (List.replicate n (.int .i64 0)).toArray 3)).heap[w.heap.size]? = some (.cells (cells (ofN (List.replicate n 0))).toArray 3 (0, 0)) := by
    rw [heap_alloc_new]; unfold cells ofN; rw [List.map_replicate, List.map_replicate]; rfl
  have HP0 := hide hP0
  have HBP := hide (show Below w.heap.size w (w.alloc (.cells (List.replicate n (.int .i64 0)).toArray 3)) from (Below.refl _ _).alloc (Nat.le_refl _) _)
  have HSP := hide (show w.heap.size + 1 ≤ (w.alloc (.cells (List.replicate n (.int .i64 0)).toArray 3)).heap.size by simp)
  clear hP0
  go_enter Try.func18, Try.ntmps18
  go_wp2_with fail
  go_loopw [6, 7, 8, 9] (fun vr _ _ _ wx => ∃ (r : Nat) (l : List Nat), r ≤ n + 1 ∧ vr = .int .i64 r ∧ Gr.Lev (Gr.netOf NZ) n r 0 l ∧ wx.heap[w.heap.size]? = some (.cells (cells (ofN l)).toArray 3 (0, 0)) ∧ Below w.heap.size w wx ∧ w.heap.size + 1 ≤ wx.heap.size) (fun vr _ _ _ _ => n + 1 - (intOf vr).toNat)
  case atStart => exact ⟨0, _, Nat.zero_le _, rfl, Gr.Lev.start _ _, HP0.out, HBP.out, HSP.out⟩
  case round =>
    obtain ⟨r, l, hr, rfl, hlev, hfx, hB, hsz⟩ := hrel
    clear HP0 HBP HSP hmk
    by_cases hrn : r ≤ n
    · have HLEV := hide hlev
      have HFX := hide hfx
      have HB := hide hB
      clear hlev hfx hB
      go_wp2_with fail
      go_loopw [7, 8, 9] (fun vi _ _ wx => ∃ (i : Nat) (l : List Nat), i ≤ n ∧ vi = .int .i64 i ∧ Gr.Lev (Gr.netOf NZ) n r i l ∧ wx.heap[w.heap.size]? = some (.cells (cells (ofN l)).toArray 3 (0, 0)) ∧ Below w.heap.size w wx ∧ w.heap.size + 1 ≤ wx.heap.size) (fun vi _ _ _ => n - (intOf vi).toNat)
      case atStart => exact ⟨0, l, Nat.zero_le _, rfl, HLEV.out, HFX.out, HB.out, hsz⟩
      case round =>
        obtain ⟨i, l2, hi, rfl, hlev, hfx, hB, hsz2⟩ := hrel
        clear HLEV HFX HB hsz
        by_cases hil : i < n
        · obtain ⟨nd, hnd⟩ := getElem_some (l := NZ) (k := i) (by omega)
          have hrow := Gr.row_some hnd
          obtain ⟨b5, o5, c5, au, cu, e1, c1, h1⟩ := Gr.Lists.get (HL.out.kept hB (Nat.le_refl _)) hnd
          simp only [Value.slice.injEq] at e1
          obtain ⟨rfl, hzz, rfl⟩ := e1
          clear hzz
          have hll := HRL.out i hil
          rw [hrow] at hll
          have hnl : (Gr.netOf NZ i).length = nd.length := by rw [Gr.netOf_len, hrow]
          have htop := hlev.top
          have hlen := hlev.len
          have hub : ∀ k, Gr.upTo (Gr.lv l2) (Gr.netOf NZ i) k ≤ n + 1 := fun k => Gr.upTo_le (by omega) (fun j hj => by have := htop j (HNB.out i hil j hj); omega)
          have hcl : ∀ z, z < n → wr.cell? ⟨w.heap.size, z, none⟩ = some (.int .i64 (Gr.lv l2 z)) := fun z hz => Gr.row_cell (V := cells (ofN l2)) hfx (by unfold cells; rw [List.getElem?_map, Gr.ofN_get (Gr.lv_get (by omega))]; rfl)
          have hfr : wr.frozen? ⟨w.heap.size, i, none⟩ = false := Gr.row_free (V := cells (ofN l2)) hfx
          have hci := hcl i hil
          have HLEV := hide hlev
          have HFX := hide hfx
          have HB := hide hB
          have HI1 := hide h1
          have HROW := hide hrow
          have HUB := hide hub
          have HCL := hide hcl
          have HTOP := hide htop
          clear hlev hfx hB h1 hrow hub hcl htop hnd
          go_wp2_with fail
          go_loop [8, 9] (fun vu vk => ∃ k : Nat, k ≤ nd.length ∧ vk = .int .i64 k ∧ vu = .int .i64 (Gr.upTo (Gr.lv l2) (Gr.netOf NZ i) k)) (fun _ vk => nd.length - (intOf vk).toNat)
          case atStart => exact ⟨0, Nat.zero_le _, rfl, rfl⟩
          case round =>
            obtain ⟨k, hk, rfl, rfl⟩ := hrel
            have hu1 := HUB.out k
            by_cases hkl : k < nd.length
            · obtain ⟨y, hy⟩ := getElem_some hkl
              have hym := List.mem_of_getElem? hy
              have hyr := HOK.out i hil y (by rw [HROW.out]; exact hym)
              obtain ⟨z, rfl⟩ : ∃ z : Nat, y = (z : Int) := ⟨y.toNat, by omega⟩
              have hzn : z < n := by omega
              have hNg : (Gr.netOf NZ i)[k]? = some z := Gr.netOf_get (by rw [HROW.out]; exact hy)
              obtain ⟨b7, o7, rfl, cy⟩ := HI1.out.at hy
              have cz := HCL.out z hzn
              have hun := Gr.upTo_next (f := Gr.lv l2) hNg
              have htz := HTOP.out z hzn
              have HUN := hide hun
              clear hun hNg hy hym hyr
              generalize Gr.lv l2 z = Z at *
              generalize Gr.upTo (Gr.lv l2) (Gr.netOf NZ i) k = u0 at *
              go_wp2_with fail
              all_goals
                go_round
                case rel => exact ⟨k + 1, by omega, by go_num, by rw [HUN.out]; go_num⟩
                case measure => simp [intOf]; omega
            · have hkk : k = nd.length := by omega
              have hup : Gr.upTo (Gr.lv l2) (Gr.netOf NZ i) k = Gr.up (Gr.lv l2) (Gr.netOf NZ i) := by
                unfold Gr.upTo; rw [List.take_of_length_le (by omega)]
              rw [hup] at hu1 ⊢
              by_cases hgt : n < Gr.up (Gr.lv l2) (Gr.netOf NZ i)
              · have hbad : D (Gr.netOf NZ) n i = false := by
                  cases hd : D (Gr.netOf NZ) n i with
                  | false => rfl
                  | true =>
                    have := Gr.up_hi (Gr.netOf NZ) n (Gr.lv l2) HLEV.out.hi i (HNB.out i hil) n hd
                    omega
                have HBAD := hide hbad
                clear hbad hup
                generalize Gr.up (Gr.lv l2) (Gr.netOf NZ i) = u1 at *
                go_wp2_with fail
                go_ret2
                exact ⟨.inl ⟨⟨i, hil, HBAD.out⟩, rfl⟩, HB.out.setCell (p := ⟨w.heap.size, i, none⟩) (Nat.le_refl _) _⟩
              · have hput := HLEV.out.put hil (HNB.out i hil) (by omega)
                have HPUT := hide hput
                clear hput hup
                generalize Gr.up (Gr.lv l2) (Gr.netOf NZ i) = u1 at *
                go_wp2_with fail
                go_roundw
                case rel =>
                  refine ⟨i + 1, _, by omega, by go_num, HPUT.out, ?_, HB.out.setCell (p := ⟨w.heap.size, i, none⟩) (Nat.le_refl _) _, by simpa using hsz2⟩
                  rw [Gr.row_set (V := cells (ofN l2)) (.int .i64 u1) HFX.out]
                  unfold cells ofN
                  rw [List.map_set, List.map_set]; rfl
                case measure => simp [intOf]; omega
        · have hii : i = n := by omega
          subst hii
          have hnx := hlev.next
          have HNX := hide hnx
          have HFX := hide hfx
          have HB := hide hB
          clear hnx hlev hfx hB
          go_wp2_with fail
          go_roundw
          case rel => exact ⟨r + 1, l2, by omega, by go_num, HNX.out, HFX.out, HB.out, hsz2⟩
          case measure => simp [intOf]; omega
    · have hrr : r = n + 1 := by omega
      rw [hrr] at hlev
      clear hrr
      have hall := Gr.all_done (Gr.netOf NZ) n (Gr.lv l) hlev.old hlev.top
      have hwv : ∀ k, k < n → Gr.at_ (Gr.lv l) (k + 1) n = wave (Gr.netOf NZ) n k := fun k hk => Gr.lev_wave (Gr.netOf NZ) n (Gr.lv l) hlev.old hlev.hi k hk
      have hlen := hlev.len
      have HALL := hide hall
      have HWV := hide hwv
      have HFX := hide hfx
      have HB := hide hB
      have hcl : ∀ (wx : World), wx.heap[w.heap.size]? = some (.cells (cells (ofN l)).toArray 3 (0, 0)) → ∀ z, z < n → wx.cell? ⟨w.heap.size, z, none⟩ = some (.int .i64 (Gr.lv l z)) := fun wx h z hz => Gr.row_cell (V := cells (ofN l)) h (by unfold cells; rw [List.getElem?_map, Gr.ofN_get (Gr.lv_get (by omega))]; rfl)
      have HCL := hide hcl
      clear hlev hall hwv hfx hB hcl
      go_wp2_with fail
      go_loopw [11, 10, 12, 13] (fun vq vo _ _ wx => ∃ (q q1 : Nat) (ao : Option Addr) (cap : Nat) (V : List Value), q ≤ n ∧ q1 = q + 1 ∧ vq = .int .i64 q1 ∧ vo = .slice ao (Gr.full (Gr.netOf NZ) n q).length cap ∧ Gr.KeptL wx (w.heap.size + 1) (.slice ao (Gr.full (Gr.netOf NZ) n q).length cap) (Gr.full (Gr.netOf NZ) n q) V ∧
          wx.heap[w.heap.size]? = some (.cells (cells (ofN l)).toArray 3 (0, 0)) ∧ Below w.heap.size w wx ∧ w.heap.size + 1 ≤ wx.heap.size) (fun vq _ _ _ _ => n + 1 - (intOf vq).toNat)
      case atStart => exact ⟨0, 1, none, 0, [], Nat.zero_le _, rfl, rfl, rfl, ⟨World.ownsRow_nil _ _ _ _, fun j u m hu => by simp at hu⟩, HFX.out, HB.out, hsz⟩
      case round =>
        obtain ⟨q, q1, ao, cap, V, hq, hq1, rfl, rfl, hK, hfx, hB, hsz3⟩ := hrel
        clear HFX HB hsz
        have hfl := Gr.full_le (Gr.netOf NZ) n q
        by_cases hqn : q < n
        · obtain ⟨wq, rfl⟩ : ∃ wq : World, wq = wr := ⟨_, rfl⟩
          have HQ1 := hide hq1
          have hq1n : q1 ≤ n := by omega
          have hq11 : 1 ≤ q1 := by omega
          clear hq1
          have HK := hide hK
          have HFX := hide hfx
          have HB := hide hB
          clear hK hfx hB
          go_wp2_with fail
          go_loopw [13, 12] (fun vi vs wx => ∃ (i : Nat) (as1 : Option Addr) (cs : Nat), i ≤ n ∧ vi = .int .i64 i ∧ vs = .slice as1 (Gr.at_ (Gr.lv l) (q + 1) i).length cs ∧ wx.ownsRow wq.heap.size 3 1 (.slice as1 (Gr.at_ (Gr.lv l) (q + 1) i).length cs) (Gr.at_ (Gr.lv l) (q + 1) i).length (cells (ofN (Gr.at_ (Gr.lv l) (q + 1) i))) ∧ Below wq.heap.size wq wx) (fun vi _ _ => n - (intOf vi).toNat)
          case atStart => exact ⟨0, none, 0, Nat.zero_le _, rfl, rfl, World.ownsRow_nil _ _ _ _, Below.refl _ _⟩
          case round =>
            obtain ⟨i, as1, cs, hi, rfl, rfl, hown, hBq⟩ := hrel
            have hBs := hBq.size
            have hfx := (hBq.block w.heap.size (by omega)).trans HFX.out
            have hal := Gr.at_le (Gr.lv l) (q + 1) i
            by_cases hil : i < n
            · have ci := HCL.out wr hfx i hil
              have hsc := Gr.at_succ (Gr.lv l) (q + 1) i
              have HOW := hide hown
              have HBQ := hide hBq
              have HSC := hide hsc
              clear hown hBq hsc hfx
              have hq1 := HQ1.out
              by_cases hlv : Gr.lv l i = q + 1
              · have hlvi : ((Gr.lv l i : Nat) : Int) = (q1 : Int) := by omega
                have HLV := hide hlv
                clear hlv hq1
                go_wp2_with (at_builtin; go_must (refine wpList_append_lies _ rfl (.tmp 73) (.tmp 75) 37 rfl wq.heap.size 3 i0 (.int .i64 0) 1 8 Try.underlying37 hi0 hz0 hz1 hz2 rfl (by decide) (.slice as1 (Gr.at_ (Gr.lv l) (q + 1) i).length cs) (Gr.at_ (Gr.lv l) (q + 1) i).length (cells (ofN (Gr.at_ (Gr.lv l) (q + 1) i))) rfl (HOW.out.alloc _) ⟨wr.heap.size, 0, none⟩ 1 1 [.int .i64 i] rfl rfl (news_alloc _ #[.int .i64 i] _ _ rfl) (by simp [Value.oneCell']) (by decide) (by unfold maxLen; omega) (by omega) (by simp; omega) _ rfl ?_); intro g cap' w4 hown4 hgrow hat hlt4)
                go_roundw
                case rel =>
                  have e2 : Gr.at_ (Gr.lv l) (q + 1) (i + 1) = Gr.at_ (Gr.lv l) (q + 1) i ++ [i] := by rw [HSC.out, if_pos HLV.out]
                  refine ⟨i + 1, some ⟨g, 0, none⟩, cap', by omega, by go_num, ?_, ?_, (HBQ.out.alloc (by omega) _).grown hgrow (by simp; omega) (fun k hk => (HOW.out.lt k hk).1)⟩
                  · rw [e2, List.length_append]; rfl
                  · rw [e2, List.length_append, Gr.ofN_append, Gr.cells_append]; exact hown4
                case measure => simp [intOf]; omega
              · have hlvi : ¬ ((Gr.lv l i : Nat) : Int) = (q1 : Int) := by omega
                have HLV := hide hlv
                clear hlv hq1
                go_wp2_with fail
                go_roundw
                case rel =>
                  refine ⟨i + 1, as1, cs, by omega, by go_num, ?_, ?_, HBQ.out⟩
                  · rw [HSC.out, if_neg HLV.out]
                  · rw [HSC.out, if_neg HLV.out]; exact HOW.out
                case measure => simp [intOf]; omega
            · have hii : i = n := by omega
              subst hii
              rw [HWV.out q hqn] at hown hal ⊢
              have hK2 := HK.out.keep hBq
              have hB2 := HB.out.trans (hBq.mono (by omega))
              have hfs := Gr.full_succ (Gr.netOf NZ) i q
              have HOW := hide (owns_lower hown (show w.heap.size + 1 ≤ _ from hsz3))
              have HK2 := hide hK2
              have HB2 := hide hB2
              have HFX2 := hide hfx
              have HFS := hide hfs
              clear hown hK2 hB2 hfx hfs hBq
              by_cases hwe : wave (Gr.netOf NZ) i q = []
              · have hl0 : (wave (Gr.netOf NZ) i q).length = 0 := by rw [hwe]; rfl
                have HWE := hide hwe
                clear hwe
                go_wp2_with fail
                go_roundw
                case rel =>
                  refine ⟨q + 1, q1 + 1, ao, cap, V, by omega, by rw [HQ1.out], by go_num, ?_, ?_, HFX2.out, HB2.out, by omega⟩
                  · rw [HFS.out, if_pos HWE.out]
                  · rw [HFS.out, if_pos HWE.out]; exact HK2.out
                case measure => simp [intOf]; omega
              · have hl0 : 0 < (wave (Gr.netOf NZ) i q).length := List.length_pos_iff.2 hwe
                have HWE := hide hwe
                clear hwe
                go_wp2_with (at_builtin; go_must (refine wpList_append_lies _ rfl (.tmp 80) (.tmp 82) 36 rfl (w.heap.size + 1) 37 j0 (.slice none 0 0) 1 24 Try.underlying36 hj0 hy0 hy1 hy2 rfl (by decide) (.slice ao (Gr.full (Gr.netOf NZ) i q).length cap) (Gr.full (Gr.netOf NZ) i q).length V rfl (HK2.out.row.alloc _) ⟨wr.heap.size, 0, none⟩ 1 1 [.slice as1 (wave (Gr.netOf NZ) i q).length cs] rfl rfl (news_alloc _ #[.slice as1 (wave (Gr.netOf NZ) i q).length cs] _ _ rfl) (by simp [Value.oneCell']) (by decide) (by unfold maxLen; omega) (by omega) (by simp; omega) _ rfl ?_); intro g cap' w4 hown4 hgrow hat hlt4)
                go_roundw
                case rel =>
                  have e2 : Gr.full (Gr.netOf NZ) i (q + 1) = Gr.full (Gr.netOf NZ) i q ++ [ofN (wave (Gr.netOf NZ) i q)] := by rw [HFS.out, if_neg HWE.out]
                  have hgw : wr.grownBy w4 (Value.slice ao (Gr.full (Gr.netOf NZ) i q).length cap).ownBlock := grown_trans (World.grownBy_alloc wr _ _) hgrow
                  have hmo := HK2.out.more (l := ofN (wave (Gr.netOf NZ) i q)) (by rw [Gr.ofN_length]; exact HOW.out) hown4 hgw
                  refine ⟨q + 1, q1 + 1, some ⟨g, 0, none⟩, cap', V ++ [.slice as1 (wave (Gr.netOf NZ) i q).length cs], by omega, by rw [HQ1.out], by go_num, ?_, ?_, ?_, HB2.out.grown hgw (by omega) (fun c hc => by have := (HK2.out.row.lt _ hc).1; omega), by have := hgw.size; omega⟩
                  · rw [e2, List.length_append]; rfl
                  · rw [e2, List.length_append]; exact hmo
                  · rw [hgw.block w.heap.size (by omega) (fun e => by have := (HK2.out.row.lt _ e.symm).1; omega)]; exact HFX2.out
                case measure => simp [intOf]; omega
        · have hqq : q = n := by omega
          have hq1n : ¬ q1 ≤ n := by omega
          subst hqq
          clear hq1
          have HK := hide hK
          have HB := hide hB
          clear hK hB hfx
          go_wp2_with fail
          go_ret2
          exact ⟨.inr ⟨HALL.out, _, rfl, HK.out.lists⟩, HB.out⟩
end Go.Proofs.Ytienhelohfhhfaa
