/- Expressions in memory: a plain tree, and what cells hold it; lang.roomLeft. -/
import Derived.Test.YtienhelohfhhfaaVY
namespace Go.Proofs.Ytienhelohfhhfaa.Vx
open Go.RowKit
/-- An expression of package api, as a plain tree. -/
structure Ex where
  kind : Int
  v : Val
  s : ByteArray
  t : ByteArray
  a : List Ex
  n : List ByteArray
namespace X
/-- These ten cells hold that tree (m: how deep it is looked into). -/
def Mem : Nat → World → Ex → List Value → Prop
  | 0, _, _, _ => False
  | m + 1, w, e, cs => ∃ c0 c1 c2 c3 c4 av nv, cs = [.int .i64 e.kind, c0, c1, c2, c3, c4, .string e.s, .string e.t, av, nv] ∧ V.Mem (m + 1) w e.v [c0, c1, c2, c3, c4] ∧
      V.Row w av e.a.length 10 (fun i c => ∃ x, e.a[i]? = some x ∧ Mem m w x c) ∧ V.Row w nv e.n.length 1 (fun i c => ∃ x, e.n[i]? = some x ∧ c = [.string x])
theorem Mem.kept : ∀ (m : Nat) {w w' : World} {e : Ex} {cs : List Value}, Mem m w e cs → Below w.heap.size w w' → Mem m w' e cs
  | 0, _, _, _, _, h, _ => h.elim
  | m + 1, _, _, _, _, ⟨c0, c1, c2, c3, c4, av, nv, h1, h2, h3, h4⟩, hb =>
    ⟨c0, c1, c2, c3, c4, av, nv, h1, V.Mem.kept _ h2 hb, h3.kept hb (fun _ _ ⟨x, hx, hm⟩ => ⟨x, hx, Mem.kept m hm hb⟩), h4.kept hb (fun _ _ h => h)⟩
def sumA (g : Ex → Nat) (l : List Ex) : Nat := (l.map g).sum
def sumN (l : List ByteArray) : Nat := (l.map ByteArray.size).sum
def bulk : Nat → Ex → Nat
  | 0, _ => 0
  | m + 1, e => 1 + e.s.size + e.t.size + V.bulk (m + 1) e.v + e.a.length + e.n.length + sumN e.n + sumA (bulk m) e.a
theorem sum_le {α : Type} (g : α → Nat) (l : List α) (x : α) (h : x ∈ l) : g x ≤ (l.map g).sum := by
  induction l with
  | nil => simp at h
  | cons a t ih =>
    simp only [List.map_cons, List.sum_cons]
    rcases List.mem_cons.1 h with rfl | h
    · omega
    · have := ih h; omega
theorem bulk_a (m : Nat) (e : Ex) (x : Ex) (h : x ∈ e.a) (B : Nat) (hB : bulk (m + 1) e ≤ B) : bulk m x ≤ B := by
  have := sum_le (bulk m) e.a x h
  rw [bulk] at hB
  unfold sumA at hB
  omega
theorem bulk_n (m : Nat) (e : Ex) (x : ByteArray) (h : x ∈ e.n) (B : Nat) (hB : bulk (m + 1) e ≤ B) : x.size ≤ B := by
  have := sum_le ByteArray.size e.n x h
  rw [bulk] at hB
  unfold sumN at hB
  omega
/-- One expression of a list, cell by cell. -/
theorem elemA {w : World} {v : Value} {n m : Nat} {l : List Ex} (h : V.Row w v n 10 (fun i c => ∃ x, l[i]? = some x ∧ Mem m w x c)) (i : Nat) (hi : i < n) :
    ∃ b off cap x d0 d1 d2 d3 d4 d5 d6 d7 d8 d9, v = .slice (some ⟨b, off, none⟩) n cap ∧ l[i]? = some x ∧ Mem m w x [d0, d1, d2, d3, d4, d5, d6, d7, d8, d9] ∧
      w.cell? ⟨b, off + i * 10, none⟩ = some d0 ∧ w.cell? ⟨b, off + i * 10 + 1, none⟩ = some d1 ∧ w.cell? ⟨b, off + i * 10 + 2, none⟩ = some d2 ∧ w.cell? ⟨b, off + i * 10 + 3, none⟩ = some d3 ∧ w.cell? ⟨b, off + i * 10 + 4, none⟩ = some d4 ∧
      w.cell? ⟨b, off + i * 10 + 5, none⟩ = some d5 ∧ w.cell? ⟨b, off + i * 10 + 6, none⟩ = some d6 ∧ w.cell? ⟨b, off + i * 10 + 7, none⟩ = some d7 ∧ w.cell? ⟨b, off + i * 10 + 8, none⟩ = some d8 ∧ w.cell? ⟨b, off + i * 10 + 9, none⟩ = some d9 := by
  obtain ⟨ao, cap, rfl, h | ⟨b, off, rfl, h⟩⟩ := h
  · omega
  · obtain ⟨cs, h1, h2, x, hx, hm⟩ := h i hi
    match cs, h1 with
    | [d0, d1, d2, d3, d4, d5, d6, d7, d8, d9], _ => exact ⟨b, off, cap, x, d0, d1, d2, d3, d4, d5, d6, d7, d8, d9, rfl, hx, hm, h2 0 (by omega), h2 1 (by omega), h2 2 (by omega), h2 3 (by omega), h2 4 (by omega), h2 5 (by omega), h2 6 (by omega), h2 7 (by omega), h2 8 (by omega), h2 9 (by omega)⟩
/-- lang.roomLeft, as it goes. -/
def room : Nat → Ex → Int → Int → Int
  | 0, _, _, r => r
  | m + 1, e, d, r => if 6 < d then -1 else e.a.foldl (fun r x => if 0 ≤ r then room m x (d + 1) r else r) (r - 1)
/-- .. and after the first k. -/
def roomTo (m : Nat) (e : Ex) (d r : Int) (k : Nat) : Int := (e.a.take k).foldl (fun r x => if 0 ≤ r then room m x (d + 1) r else r) (r - 1)
theorem roomTo_next {m : Nat} {e : Ex} {d r : Int} {k : Nat} {x : Ex} (h : e.a[k]? = some x) (h0 : 0 ≤ roomTo m e d r k) : roomTo m e d r (k + 1) = room m x (d + 1) (roomTo m e d r k) := by
  have h1 : e.a.take (k + 1) = e.a.take k ++ [x] := by rw [List.take_add_one, h]; rfl
  unfold roomTo at h0 ⊢
  rw [h1, List.foldl_append, List.foldl_cons, List.foldl_nil, if_pos h0]
theorem fold_stop {m : Nat} {d : Int} : ∀ (l : List Ex) (r : Int), r < 0 → l.foldl (fun r x => if 0 ≤ r then room m x (d + 1) r else r) r = r
  | [], _, _ => rfl
  | a :: t, r, h => by rw [List.foldl_cons, if_neg (by omega)]; exact fold_stop t r h
theorem roomTo_all {m : Nat} {e : Ex} {d r : Int} {k : Nat} (h : e.a.length ≤ k ∨ roomTo m e d r k < 0) (hd : ¬ 6 < d) : room (m + 1) e d r = roomTo m e d r k := by
  rw [room, if_neg hd]
  rcases h with h | h
  · unfold roomTo; rw [List.take_of_length_le h]
  · have : e.a = e.a.take k ++ e.a.drop k := (List.take_append_drop k e.a).symm
    unfold roomTo at h ⊢
    conv => lhs; rw [this]
    rw [List.foldl_append, fold_stop _ _ h]
theorem room_in : ∀ (m : Nat) (e : Ex) (d r : Int), 0 ≤ r → -1 ≤ room m e d r ∧ room m e d r ≤ r
  | 0, _, _, r, h => ⟨by unfold room; omega, Int.le_refl _⟩
  | m + 1, e, d, r, h => by
    rw [room]
    split
    · omega
    · have key : ∀ (l : List Ex) (q : Int), -1 ≤ q → q ≤ r → -1 ≤ l.foldl (fun r x => if 0 ≤ r then room m x (d + 1) r else r) q ∧ l.foldl (fun r x => if 0 ≤ r then room m x (d + 1) r else r) q ≤ r := by
        intro l
        induction l with
        | nil => intro q h1 h2; exact ⟨h1, h2⟩
        | cons a t ih =>
          intro q h1 h2
          rw [List.foldl_cons]
          by_cases hq : 0 ≤ q
          · rw [if_pos hq]
            have := room_in m a (d + 1) q hq
            exact ih _ (by omega) (by omega)
          · rw [if_neg hq]; exact ih _ h1 h2
      exact key e.a (r - 1) (by omega) (by omega)
theorem roomTo_in (m : Nat) (e : Ex) (d r : Int) (k : Nat) (h : 0 ≤ r) : -1 ≤ roomTo m e d r k ∧ roomTo m e d r k ≤ r := by
  have h1 := room_in (m + 1) ⟨e.kind, e.v, e.s, e.t, e.a.take k, e.n⟩ 0 r h
  have key : ∀ (l : List Ex) (q : Int), -1 ≤ q → q ≤ r → -1 ≤ l.foldl (fun r x => if 0 ≤ r then room m x (d + 1) r else r) q ∧ l.foldl (fun r x => if 0 ≤ r then room m x (d + 1) r else r) q ≤ r := by
    intro l
    induction l with
    | nil => intro q h1 h2; exact ⟨h1, h2⟩
    | cons a t ih =>
      intro q h1 h2
      rw [List.foldl_cons]
      by_cases hq : 0 ≤ q
      · rw [if_pos hq]
        have := room_in m a (d + 1) q hq
        exact ih _ (by omega) (by omega)
      · rw [if_neg hq]; exact ih _ h1 h2
  exact key _ (r - 1) (by omega) (by omega)
end X
set_option maxRecDepth 100000 in
set_option maxHeartbeats 1600000 in
theorem xroom_any (m : Nat) : ∀ (w : World) (e : Ex) (d r : Int) (d0 d1 d2 d3 d4 d5 d6 d7 d8 d9 : Value), X.Mem m w e [d0, d1, d2, d3, d4, d5, d6, d7, d8, d9] → X.bulk m e ≤ 2000000 → 0 ≤ d → d ≤ 10 → 0 ≤ r → r ≤ 100 →
    Calls Try.prog 102 #[.agg #[d0, d1, d2, d3, d4, d5, d6, d7, d8, d9], .int .i64 d, .int .i64 r] w fun o w' => o = .returned (.int .i64 (X.room m e d r)) ∧ Below w.heap.size w w' := by
  induction m with
  | zero => intro w e d r d0 d1 d2 d3 d4 d5 d6 d7 d8 d9 h; exact h.elim
  | succ m ih =>
    intro w e d r d0 d1 d2 d3 d4 d5 d6 d7 d8 d9 ⟨c0, c1, c2, c3, c4, av, nv, hcs, hv, ha, hn⟩ hbk hd1 hd2 hr1 hr2
    simp only [List.cons.injEq, and_true] at hcs
    obtain ⟨rfl, rfl, rfl, rfl, rfl, rfl, rfl, rfl, rfl, rfl⟩ := hcs
    obtain ⟨aa, ca, rfl⟩ := ha.shape
    obtain ⟨an, cn, rfl⟩ := hn.shape
    have IH : Hid _ := ih
    have hal : e.a.length ≤ 2000000 := by rw [X.bulk] at hbk; omega
    have hbL : Below w.heap.size w (w.alloc (.cells #[.int .i64 e.kind, d1, d2, d3, d4, d5, .string e.s, .string e.t, .slice aa e.a.length ca, .slice an e.n.length cn] 109)) := (Below.refl _ _).alloc (Nat.le_refl _) _
    have hblk0 : (w.alloc (.cells #[.int .i64 e.kind, d1, d2, d3, d4, d5, .string e.s, .string e.t, .slice aa e.a.length ca, .slice an e.n.length cn] 109)).heap[w.heap.size]? = some (.cells #[.int .i64 e.kind, d1, d2, d3, d4, d5, .string e.s, .string e.t, .slice aa e.a.length ca, .slice an e.n.length cn] 109 (0, 0)) := heap_alloc_new _ _
    have HBL := hide hbL
    have HBK0 := hide hblk0
    have HBK := hide hbk
    have HA := hide ha
    clear ih hbL hblk0 hbk ha hn hv
    by_cases hd : 6 < d
    · have E : Hid (X.room (m + 1) e d r = -1) := by show _ = _; rw [X.room, if_pos hd]
      go_enter Try.func102, Try.ntmps102
      go_wp2_with fail
      go_ret
      exact ⟨ret_int E.out.symm, HBL.out⟩
    · go_enter Try.func102, Try.ntmps102
      go_wp2_with fail
      go_loopw [7, 2] (fun vi vr wr => ∃ k : Nat, k ≤ e.a.length ∧ vi = .int .i64 k ∧ vr = .int .i64 (X.roomTo m e d r k) ∧
          wr.heap[w.heap.size]? = some (.cells #[.int .i64 e.kind, d1, d2, d3, d4, d5, .string e.s, .string e.t, .slice aa e.a.length ca, .slice an e.n.length cn] 109 (0, 0)) ∧ Below w.heap.size w wr)
        (fun vi _ _ => e.a.length - (intOf vi).toNat)
      case atStart => exact ⟨0, Nat.zero_le _, rfl, by unfold X.roomTo; simp, HBK0.out, HBL.out⟩
      case round =>
        clear HBK0 HBL
        obtain ⟨k, hk, rfl, rfl, hblk, hB⟩ := hrel
        have b8 := cell_of_block hblk 8 _ rfl
        have hri := X.roomTo_in m e d r k hr1
        by_cases hgo : k < e.a.length ∧ 0 ≤ X.roomTo m e d r k
        · obtain ⟨hlt, hge⟩ := hgo
          obtain ⟨b, off, cap, x, f0, f1, f2, f3, f4, f5, f6, f7, f8, f9, e1, hx, hm, y0, y1, y2, y3, y4, y5, y6, y7, y8, y9⟩ := X.elemA (HA.out.kept hB (fun _ _ ⟨x, hx, hm⟩ => ⟨x, hx, X.Mem.kept m hm hB⟩)) k hlt
          simp only [Value.slice.injEq] at e1
          obtain ⟨rfl, _, rfl⟩ := e1
          have hnx := X.roomTo_next (r := r) (d := d) hx hge
          have hI := IH.out wr x (d + 1) (X.roomTo m e d r k) f0 f1 f2 f3 f4 f5 f6 f7 f8 f9 hm (X.bulk_a m e x (List.mem_of_getElem? hx) _ HBK.out) (by omega) (by omega) hge (by omega)
          rw [← hnx] at hI
          have HI := hide hI
          have HBB := hide hB
          have HBLK := hide hblk
          have hlt2 : w.heap.size < wr.heap.size := (Array.getElem?_eq_some_iff.1 hblk).1
          clear hI hnx hm hx hB hblk
          generalize X.roomTo m e d r k = R0 at *
          go_wp2_with (go_at_call 102; refine Calls.mono HI.out ?_; rintro o w3 ⟨rfl, hb3⟩)
          go_roundw
          case rel => exact ⟨k + 1, by omega, by go_num, rfl, (hb3.block w.heap.size hlt2).trans HBLK.out, HBB.out.trans (hb3.mono HBB.out.size)⟩
          case measure => simp [intOf]; omega
        · have E := hide (X.roomTo_all (m := m) (e := e) (d := d) (r := r) (k := k) (by omega) (by omega))
          have HB := hide hB
          clear hB hblk
          have hcase : ¬ k < e.a.length ∨ (k < e.a.length ∧ X.roomTo m e d r k < 0) := by omega
          generalize X.roomTo m e d r k = R0 at *
          clear hgo
          rcases hcase with h1 | ⟨h1, h2⟩
          · go_wp2_with fail
            go_ret
            exact ⟨ret_int E.out.symm, HB.out⟩
          · go_wp2_with fail
            go_ret
            exact ⟨ret_int E.out.symm, HB.out⟩
end Go.Proofs.Ytienhelohfhhfaa.Vx
