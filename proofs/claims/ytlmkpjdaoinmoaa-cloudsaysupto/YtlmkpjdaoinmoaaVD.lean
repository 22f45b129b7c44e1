/- value.roomLeft: what is left of the room is told by parts and depth. -/
import Derived.Test.YtlmkpjdaoinmoaaVC
namespace Go.Proofs.Ytlmkpjdaoinmoaa
open Go.RowKit
namespace V
def room : Nat → Val → Int → Int → Int
  | 0, _, d, r => if 7 < d then -1 else r
  | m + 1, v, d, r => if 6 < d then -1 else
      v.f.foldl (fun r x => if 0 ≤ r then room m x.2 (d + 1) r else r) (v.l.foldl (fun r x => if 0 ≤ r then room m x (d + 1) r else r) (r - 1))
/-- What is left: all that is told, if it is enough; else -1. -/
def Left (p e : Nat) (d r q : Int) : Prop := ((e : Int) + d ≤ 7 ∧ (p : Int) ≤ r → q = r - p) ∧ (¬ ((e : Int) + d ≤ 7 ∧ (p : Int) ≤ r) → q = -1)
theorem foldl_neg {α : Type} (g : α → Int → Int) : ∀ (l : List α), l.foldl (fun r x => if 0 ≤ r then g x r else r) (-1) = -1
  | [] => rfl
  | a :: l => by rw [List.foldl_cons, if_neg (by decide)]; exact foldl_neg g l
theorem foldl_room {α : Type} (g : α → Int → Int) (p e : α → Nat) (d : Int) : ∀ (l : List α) (r : Int), 0 ≤ r → (∀ x ∈ l, ∀ r, 0 ≤ r → Left (p x) (e x) d r (g x r)) → (e0 : Nat) → (e0 : Int) + d ≤ 7 →
    Left ((l.map p).sum) (l.foldl (fun a x => max a (e x)) e0) d r (l.foldl (fun r x => if 0 ≤ r then g x r else r) r)
  | [], r, hr, _, e0, he => ⟨fun _ => by simp, fun h => absurd ⟨he, by simpa using hr⟩ h⟩
  | a :: l, r, hr, h, e0, he => by
    rw [List.foldl_cons, List.foldl_cons, if_pos hr, List.map_cons, List.sum_cons]
    have ha := h a (by simp) r hr
    have mono : ∀ (l : List α) (z : Nat), z ≤ l.foldl (fun a x => max a (e x)) z := by
      intro l
      induction l with
      | nil => intro z; exact Nat.le_refl _
      | cons b l ih => intro z; rw [List.foldl_cons]; have := ih (max z (e b)); omega
    by_cases hok : (e a : Int) + d ≤ 7 ∧ (p a : Int) ≤ r
    · have hq := ha.1 hok
      rw [hq]
      have := foldl_room g p e d l (r - p a) (by omega) (fun x hx => h x (by simp [hx])) (max e0 (e a)) (by omega)
      refine ⟨fun hh => ?_, fun hh => ?_⟩
      · rw [this.1 ⟨hh.1, by omega⟩]; omega
      · exact this.2 (fun hc => hh ⟨hc.1, by omega⟩)
    · have hq := ha.2 hok
      rw [hq, foldl_neg]
      have hm := mono l (max e0 (e a))
      refine ⟨fun hh => absurd ⟨by omega, by omega⟩ hok, fun _ => rfl⟩
theorem room_left (m : Nat) : ∀ (v : Val) (d r : Int), 0 ≤ r → Left (parts m v) (deep m v) d r (room m v d r) := by
  induction m with
  | zero =>
    intro v d r hr
    rw [room, parts, deep]
    refine ⟨fun h => by rw [if_neg (by omega)]; omega, fun h => by rw [if_pos (by omega)]⟩
  | succ m ih =>
    intro v d r hr
    rw [room, parts, deep]
    by_cases hd : 6 < d
    · rw [if_pos hd]
      exact ⟨fun h => absurd h.1 (by omega), fun _ => rfl⟩
    · rw [if_neg hd]
      by_cases h0 : r = 0
      · subst h0
        rw [show (0 : Int) - 1 = -1 from rfl, foldl_neg, foldl_neg]
        exact ⟨fun h => absurd h.2 (by omega), fun _ => rfl⟩
      · have h1 := foldl_room (fun x r => room m x (d + 1) r) (parts m) (deep m) (d + 1) v.l (r - 1) (by omega) (fun x _ r hr => ih x (d + 1) r hr) 0 (by omega)
        by_cases hok : ((v.l.foldl (fun a x => max a (deep m x)) 0 : Nat) : Int) + (d + 1) ≤ 7 ∧ (((v.l.map (parts m)).sum : Nat) : Int) ≤ r - 1
        · rw [h1.1 hok]
          have h2 := foldl_room (fun x r => room m x.2 (d + 1) r) (fun x : ByteArray × Val => parts m x.2) (fun x => deep m x.2) (d + 1) v.f (r - 1 - ((v.l.map (parts m)).sum : Nat)) (by omega) (fun x _ r hr => ih x.2 (d + 1) r hr) _ hok.1
          refine ⟨fun hh => ?_, fun hh => ?_⟩
          · rw [h2.1 ⟨by omega, by unfold sumL sumF at hh; omega⟩]; unfold sumL sumF; omega
          · exact h2.2 (fun hc => hh ⟨by omega, by unfold sumL sumF; omega⟩)
        · rw [h1.2 hok, foldl_neg]
          have mono : ∀ (l : List (ByteArray × Val)) (z : Nat), z ≤ l.foldl (fun a x => max a (deep m x.2)) z := by
            intro l
            induction l with
            | nil => intro z; exact Nat.le_refl _
            | cons b l ih => intro z; rw [List.foldl_cons]; have := ih (max z (deep m b.2)); omega
          have hm := mono v.f (v.l.foldl (fun a x => max a (deep m x)) 0)
          exact ⟨fun hh => absurd ⟨by omega, by unfold sumL at hh; omega⟩ hok, fun _ => rfl⟩
theorem room_bd (m : Nat) (v : Val) (d r : Int) (hr : 0 ≤ r) : -1 ≤ room m v d r ∧ room m v d r ≤ r := by
  have h := room_left m v d r hr
  by_cases hok : (deep m v : Int) + d ≤ 7 ∧ (parts m v : Int) ≤ r
  · rw [h.1 hok]; omega
  · rw [h.2 hok]; omega
theorem foldl_bd {α : Type} (g : α → Int → Int) (B : Int) (hg : ∀ x r, 0 ≤ r → -1 ≤ g x r ∧ g x r ≤ r) : ∀ (l : List α) (r : Int), -1 ≤ r → r ≤ B → -1 ≤ l.foldl (fun r x => if 0 ≤ r then g x r else r) r ∧ l.foldl (fun r x => if 0 ≤ r then g x r else r) r ≤ B
  | [], _, h1, h2 => ⟨h1, h2⟩
  | a :: l, r, h1, h2 => by
    rw [List.foldl_cons]
    by_cases hr : 0 ≤ r
    · rw [if_pos hr]; have := hg a r hr; exact foldl_bd g B hg l _ (by omega) (by omega)
    · rw [if_neg hr]; exact foldl_bd g B hg l _ h1 h2
theorem foldl_snoc {α β : Type} (g : β → α → β) (l : List α) (z : β) (k : Nat) (x : α) (h : l[k]? = some x) : (l.take (k + 1)).foldl g z = g ((l.take k).foldl g z) x := by
  rw [List.take_add_one, h]; simp
theorem foldl_stop {α : Type} (g : α → Int → Int) (l : List α) (z : Int) (k : Nat) (h : (l.take k).foldl (fun r x => if 0 ≤ r then g x r else r) z = -1) : l.foldl (fun r x => if 0 ≤ r then g x r else r) z = -1 := by
  rw [← List.take_append_drop k l, List.foldl_append, h]; exact foldl_neg g _
end V
set_option maxRecDepth 100000 in
set_option maxHeartbeats 1600000 in
theorem roomLeft_any (m : Nat) : ∀ (w : World) (v : Val) (c0 c1 c2 c3 c4 : Value) (d r : Int), V.Mem m w v [c0, c1, c2, c3, c4] → V.bulk m v ≤ 2000000 → 0 ≤ d → d ≤ 7 → 0 ≤ r → r ≤ 1000 →
    Calls Try.prog 65 #[.agg #[c0, c1, c2, c3, c4], .int .i64 d, .int .i64 r] w fun e w' => e = .returned (.int .i64 (V.room m v d r)) ∧ Below w.heap.size w w' := by
  induction m with
  | zero => intro w v c0 c1 c2 c3 c4 d r h; exact h.elim
  | succ m ih =>
    intro w v c0 c1 c2 c3 c4 d r ⟨lv, fv, hcs, hl, hf⟩ hbk hd0 hd7 hr0 hr1
    simp only [List.cons.injEq, and_true] at hcs
    obtain ⟨rfl, rfl, rfl, rfl, rfl⟩ := hcs
    have IH : Hid _ := ih
    clear ih
    obtain ⟨al, cl, rfl⟩ := hl.shape
    obtain ⟨af, cf, rfl⟩ := hf.shape
    rw [V.bulk] at hbk
    have hbL : Below w.heap.size w (w.alloc (.cells #[.int .i64 v.kind, .int .i64 v.n, .string v.s, .slice al v.l.length cl, .slice af v.f.length cf] 40)) := (Below.refl _ _).alloc (Nat.le_refl _) _
    by_cases hd : 6 < d
    · have E : Hid (V.room (m + 1) v d r = -1) := by show _ = _; rw [V.room, if_pos hd]
      go_enter Try.func65, Try.ntmps65
      go_wp2_with fail
      go_ret
      exact ⟨ret_int E.out.symm, hbL⟩
    have E : Hid (V.room (m + 1) v d r = v.f.foldl (fun r x => if 0 ≤ r then V.room m x.2 (d + 1) r else r) (v.l.foldl (fun r x => if 0 ≤ r then V.room m x (d + 1) r else r) (r - 1))) := by show _ = _; rw [V.room, if_neg hd]
    go_enter Try.func65, Try.ntmps65
    go_wp2_with fail
    go_loopw [2, 7] (fun vr vi wr => ∃ k : Nat, k ≤ v.l.length ∧ vi = .int .i64 k ∧ vr = .int .i64 ((v.l.take k).foldl (fun r x => if 0 ≤ r then V.room m x (d + 1) r else r) (r - 1)) ∧
        wr.heap[w.heap.size]? = some (.cells #[.int .i64 v.kind, .int .i64 v.n, .string v.s, .slice al v.l.length cl, .slice af v.f.length cf] 40 (0, 0)) ∧ Below w.heap.size w wr)
      (fun _ vi _ => v.l.length - (intOf vi).toNat)
    case atStart => exact ⟨0, Nat.zero_le _, rfl, rfl, heap_alloc_new _ _, hbL⟩
    case round =>
      obtain ⟨k, hk, rfl, rfl, hblk, hB⟩ := hrel
      have b3 := cell_of_block hblk 3 _ rfl
      have b4 := cell_of_block hblk 4 _ rfl
      have hqb := V.foldl_bd (fun x r => V.room m x (d + 1) r) 1000 (fun x r hr => V.room_bd m x (d + 1) r hr) (v.l.take k) (r - 1) (by omega) (by omega)
      have hgo : (k < v.l.length ∧ 0 ≤ (v.l.take k).foldl (fun r x => if 0 ≤ r then V.room m x (d + 1) r else r) (r - 1)) ∨ (v.l.take k).foldl (fun r x => if 0 ≤ r then V.room m x (d + 1) r else r) (r - 1) = v.l.foldl (fun r x => if 0 ≤ r then V.room m x (d + 1) r else r) (r - 1) ∧ ¬ (k < v.l.length ∧ 0 ≤ (v.l.take k).foldl (fun r x => if 0 ≤ r then V.room m x (d + 1) r else r) (r - 1)) := by
        by_cases hc : k < v.l.length ∧ 0 ≤ (v.l.take k).foldl (fun r x => if 0 ≤ r then V.room m x (d + 1) r else r) (r - 1)
        · exact .inl hc
        · refine .inr ⟨?_, hc⟩
          by_cases hlt : k < v.l.length
          · have hneg : (v.l.take k).foldl (fun r x => if 0 ≤ r then V.room m x (d + 1) r else r) (r - 1) = -1 := by omega
            rw [hneg, V.foldl_stop (fun x r => V.room m x (d + 1) r) v.l (r - 1) k hneg]
          · rw [List.take_of_length_le (by omega)]
      rcases hgo with ⟨hlt, hpos⟩ | ⟨hfin, hno⟩
      · obtain ⟨b, off, cap, x, d0, d1, d2, d3, d4, e1, hx, hm, y0, y1, y2, y3, y4⟩ := V.elemL (hl.kept hB (fun _ _ ⟨x, hx, hm⟩ => ⟨x, hx, V.Mem.kept m hm hB⟩)) k hlt
        simp only [Value.slice.injEq] at e1
        obtain ⟨rfl, _, rfl⟩ := e1
        have hsn := V.foldl_snoc (fun (r : Int) x => if 0 ≤ r then V.room m x (d + 1) r else r) v.l (r - 1) k x hx
        rw [if_pos hpos] at hsn
        have s1 := V.sumL_le (V.bulk m) v.l k x hx
        generalize (v.l.take k).foldl (fun r x => if 0 ≤ r then V.room m x (d + 1) r else r) (r - 1) = q at *
        have HSN : Hid _ := hsn
        have hlt2 : w.heap.size < wr.heap.size := (Array.getElem?_eq_some_iff.1 hblk).1
        have hI := IH.out wr x d0 d1 d2 d3 d4 (d + 1) q hm (by omega) (by omega) (by omega) (by omega) (by omega)
        have HI : Hid _ := hI
        clear hsn hI hm hx
        go_wp2_with fail
        refine Calls.mono HI.out ?_
        rintro e w3 ⟨rfl, hb3⟩
        have hblk3 := (hb3.block w.heap.size hlt2).trans hblk
        have hB3 := hB.trans (hb3.mono hB.size)
        clear hb3 hB hblk y0 y1 y2 y3 y4 b3 b4
        go_wp2_with fail
        go_roundw
        case rel => exact ⟨k + 1, by omega, by go_num, by rw [HSN.out], hblk3, hB3⟩
        case measure => simp [intOf]; omega
      · rw [hfin] at hno hqb ⊢
        have hqb2 := V.foldl_bd (fun x r => V.room m x (d + 1) r) 1000 (fun x r hr => V.room_bd m x (d + 1) r hr) v.l (r - 1) (by omega) (by omega)
        generalize v.l.foldl (fun r x => if 0 ≤ r then V.room m x (d + 1) r else r) (r - 1) = z at *
        clear hfin hqb
        have hex : ¬ k < v.l.length ∨ (k < v.l.length ∧ z < 0) := by omega
        clear hno
        rcases hex with hlt | ⟨hlt, hneg⟩
        all_goals
          go_wp2_with fail
          go_loopw [2, 8] (fun vr vi wx => ∃ k : Nat, k ≤ v.f.length ∧ vi = .int .i64 k ∧ vr = .int .i64 ((v.f.take k).foldl (fun r x => if 0 ≤ r then V.room m x.2 (d + 1) r else r) z) ∧
              wx.heap[w.heap.size]? = some (.cells #[.int .i64 v.kind, .int .i64 v.n, .string v.s, .slice al v.l.length cl, .slice af v.f.length cf] 40 (0, 0)) ∧ Below w.heap.size w wx)
            (fun _ vi _ => v.f.length - (intOf vi).toNat)
          case atStart => exact ⟨0, Nat.zero_le _, rfl, rfl, hblk, hB⟩
          case round =>
            obtain ⟨k, hk, rfl, rfl, hblk, hB⟩ := hrel
            have b4 := cell_of_block hblk 4 _ rfl
            have hqb := V.foldl_bd (fun (x : ByteArray × Val) r => V.room m x.2 (d + 1) r) 1000 (fun x r hr => V.room_bd m x.2 (d + 1) r hr) (v.f.take k) z (by omega) (by omega)
            have hgo : (k < v.f.length ∧ 0 ≤ (v.f.take k).foldl (fun r x => if 0 ≤ r then V.room m x.2 (d + 1) r else r) z) ∨ (v.f.take k).foldl (fun r x => if 0 ≤ r then V.room m x.2 (d + 1) r else r) z = v.f.foldl (fun r x => if 0 ≤ r then V.room m x.2 (d + 1) r else r) z ∧ ¬ (k < v.f.length ∧ 0 ≤ (v.f.take k).foldl (fun r x => if 0 ≤ r then V.room m x.2 (d + 1) r else r) z) := by
              by_cases hc : k < v.f.length ∧ 0 ≤ (v.f.take k).foldl (fun r x => if 0 ≤ r then V.room m x.2 (d + 1) r else r) z
              · exact .inl hc
              · refine .inr ⟨?_, hc⟩
                by_cases hlf : k < v.f.length
                · have hng : (v.f.take k).foldl (fun r x => if 0 ≤ r then V.room m x.2 (d + 1) r else r) z = -1 := by omega
                  rw [hng, V.foldl_stop (fun (x : ByteArray × Val) r => V.room m x.2 (d + 1) r) v.f z k hng]
                · rw [List.take_of_length_le (by omega)]
            rcases hgo with ⟨hlf, hpos⟩ | ⟨hfin, hno⟩
            · obtain ⟨b, off, cap, x, d0, d1, d2, d3, d4, e1, hx, hm, yn, y0, y1, y2, y3, y4⟩ := V.elemF (hf.kept hB (fun _ _ ⟨x, c', hx, hc, hm⟩ => ⟨x, c', hx, hc, V.Mem.kept m hm hB⟩)) k hlf
              simp only [Value.slice.injEq] at e1
              obtain ⟨rfl, _, rfl⟩ := e1
              have hsn := V.foldl_snoc (fun (r : Int) (x : ByteArray × Val) => if 0 ≤ r then V.room m x.2 (d + 1) r else r) v.f z k x hx
              rw [if_pos hpos] at hsn
              have s1 := V.sumF_le (fun x => x.1.size + V.bulk m x.2) v.f k x hx
              generalize (v.f.take k).foldl (fun r x => if 0 ≤ r then V.room m x.2 (d + 1) r else r) z = q at *
              have HSN : Hid _ := hsn
              have hlt2 : w.heap.size < wr.heap.size := (Array.getElem?_eq_some_iff.1 hblk).1
              have hI := IH.out wr x.2 d0 d1 d2 d3 d4 (d + 1) q hm (by omega) (by omega) (by omega) (by omega) (by omega)
              have HI : Hid _ := hI
              clear hsn hI hm hx
              go_wp2_with fail
              refine Calls.mono HI.out ?_
              rintro e w3 ⟨rfl, hb3⟩
              have hblk3 := (hb3.block w.heap.size hlt2).trans hblk
              have hB3 := hB.trans (hb3.mono hB.size)
              clear hb3 hB hblk yn y0 y1 y2 y3 y4 b4
              go_wp2_with fail
              go_roundw
              case rel => exact ⟨k + 1, by omega, by go_num, by rw [HSN.out], hblk3, hB3⟩
              case measure => simp [intOf]; omega
            · rw [hfin] at hno hqb ⊢
              rw [show v.f.foldl (fun r x => if 0 ≤ r then V.room m x.2 (d + 1) r else r) z = V.room (m + 1) v d r from E.out.symm] at hno hqb ⊢
              generalize hq : V.room (m + 1) v d r = q at *
              have HQ : Hid _ := hq
              clear hq
              have hex : ¬ k < v.f.length ∨ (k < v.f.length ∧ q < 0) := by omega
              clear hno hfin
              rcases hex with hlf | ⟨hlf, hng⟩
              all_goals
                go_wp2_with fail
                go_ret
                exact ⟨ret_int HQ.out.symm, hB⟩
end Go.Proofs.Ytlmkpjdaoinmoaa
