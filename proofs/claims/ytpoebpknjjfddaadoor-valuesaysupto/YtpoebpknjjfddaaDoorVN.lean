/- What a value's text is, and how long. -/
import Derived.Test.YtpoebpknjjfddaaDoorVM
namespace Go.Proofs.YtpoebpknjjfddaaDoor
open Go.RowKit
namespace V
def trueB : List UInt8 := [116, 114, 117, 101]
def falseB : List UInt8 := [102, 97, 108, 115, 101]
def nullB : List UInt8 := [110, 117, 108, 108]
/-- The text of a value. -/
def text : Nat → Val → List UInt8
  | 0, _ => []
  | m + 1, v => if v.kind = 1 then Lib.itoa v.n else if v.kind = 2 then quote (bl v.s) else if v.kind = 3 then (if v.n = 1 then trueB else falseB)
      else if v.kind = 4 then 91 :: (Lib.join (v.l.map (text m)) [44, 32] ++ [93]) else if v.kind = 5 then 123 :: (Lib.join (v.f.map (fun x => bl x.1 ++ ([58, 32] ++ text m x.2))) [44, 32] ++ [125]) else nullB
theorem decDigits_len : ∀ (k u : Nat), u < 10 ^ (k + 1) → (Lib.decDigits u).length ≤ k + 1
  | 0, u, h => by rw [Lib.decDigits, dif_pos (by simpa using h)]; simp
  | k + 1, u, h => by
    rw [Lib.decDigits]
    split
    · simp
    · rw [List.length_append]
      have := decDigits_len k (u / 10) (by rw [Nat.pow_succ] at h; omega)
      simp; omega
theorem itoa_len (n : Int) (h0 : -1000000000 ≤ n) (h1 : n ≤ 1000000000) : (Lib.itoa n).length ≤ 11 := by
  rw [Lib.itoa]
  split
  · have := decDigits_len 9 n.natAbs (by show _ < 10000000000; omega); simp; omega
  · have := decDigits_len 9 n.toNat (by show _ < 10000000000; omega); omega
theorem tail_len (sep : List UInt8) : ∀ (r : List (List UInt8)), (Lib.joinTail sep r).length = (r.map (fun x => sep.length + x.length)).sum
  | [] => rfl
  | a :: r => by
    have := tail_len sep r
    unfold Lib.joinTail at *
    rw [List.map_cons, List.flatten_cons, List.length_append, this, List.map_cons, List.sum_cons, List.length_append]
theorem join_len (sep : List UInt8) : ∀ (xs : List (List UInt8)), (Lib.join xs sep).length ≤ (xs.map (fun x => sep.length + x.length)).sum
  | [] => by rw [Lib.join_nil]; simp
  | a :: r => by rw [Lib.join_cons, List.length_append, tail_len, List.map_cons, List.sum_cons]; omega
theorem sum_le {α : Type} (l : List α) (g h : α → Nat) (c : Nat) (hh : ∀ x ∈ l, g x ≤ 40 * h x + c) : (l.map g).sum ≤ 40 * (l.map h).sum + c * l.length := by
  induction l with
  | nil => simp
  | cons a l ih =>
    rw [List.map_cons, List.sum_cons, List.map_cons, List.sum_cons, List.length_cons]
    have h1 := hh a (by simp)
    have h2 := ih (fun x hx => hh x (by simp [hx]))
    rw [Nat.mul_add, Nat.mul_add]; omega
theorem flat_le (l : List UInt8) : (quote l).length ≤ 4 * l.length + 2 := by
  rw [quote, List.length_cons, List.length_append]; have := flat_len l; simp only [List.length_cons, List.length_nil]; omega
theorem shaped_parts (m : Nat) (v : Val) (h : shaped (m + 1) v = true) : spare v.kind v.n v.s v.l.length v.f.length = true ∧ fits v.kind v.n v.s (rise v.f) = true ∧ (∀ x ∈ v.l, shaped m x = true) ∧ (∀ x ∈ v.f, shaped m x.2 = true) := by
  rw [shaped] at h
  simp only [Bool.and_eq_true, List.all_eq_true] at h
  exact ⟨h.1.1, h.1.2, h.2.1, h.2.2⟩
theorem fits_num (n : Int) (s : ByteArray) (r : Bool) (h : fits 1 n s r = true) : -1000000000 ≤ n ∧ n ≤ 1000000000 := by
  unfold fits at h
  simp only [decide_eq_true_eq] at h
  omega
theorem text_len (m : Nat) : ∀ (v : Val), shaped m v = true → (text m v).length ≤ 40 * bulk m v := by
  induction m with
  | zero => intro v _; simp [text]
  | succ m ih =>
    intro v h
    obtain ⟨_, hf, hl, hff⟩ := shaped_parts m v h
    rw [text, bulk]
    split
    · rename_i hk
      rw [hk] at hf
      have := fits_num _ _ _ hf
      have := itoa_len v.n this.1 this.2
      omega
    split
    · have := flat_le (bl v.s); rw [length_bl] at this; omega
    split
    · split
      · simp [trueB]; omega
      · simp [falseB]; omega
    split
    · have h1 := join_len [44, 32] (v.l.map (text m))
      rw [List.map_map] at h1
      have h2 := sum_le v.l ((fun x => [44, 32].length + x.length) ∘ text m) (bulk m) 2 (fun x hx => by have := ih x (hl x hx); simp; omega)
      rw [List.length_cons, List.length_append]
      unfold sumL
      simp only [List.length_cons, List.length_nil] at *
      omega
    split
    · have h1 := join_len [44, 32] (v.f.map (fun x => bl x.1 ++ ([58, 32] ++ text m x.2)))
      rw [List.map_map] at h1
      have h2 := sum_le v.f ((fun x => [44, 32].length + x.length) ∘ (fun x : ByteArray × Val => bl x.1 ++ ([58, 32] ++ text m x.2))) (fun x => x.1.size + bulk m x.2) 4 (fun x hx => by
        have := ih x.2 (hff x hx)
        simp only [Function.comp, List.length_append, List.length_cons, List.length_nil, length_bl]; omega)
      rw [List.length_cons, List.length_append]
      unfold sumF
      simp only [List.length_cons, List.length_nil] at *
      omega
    · simp [nullB]; omega
end V
/-- What the five cells look like. -/
theorem V.Mem.form {m : Nat} {w : World} {v : Val} {c0 c1 c2 c3 c4 : Value} (h : V.Mem m w v [c0, c1, c2, c3, c4]) :
    ∃ al cl af cf, c0 = .int .i64 v.kind ∧ c1 = .int .i64 v.n ∧ c2 = .string v.s ∧ c3 = .slice al v.l.length cl ∧ c4 = .slice af v.f.length cf := by
  cases m with
  | zero => exact h.elim
  | succ m =>
    obtain ⟨lv, fv, hcs, hl, hf⟩ := h
    simp only [List.cons.injEq, and_true] at hcs
    obtain ⟨rfl, rfl, rfl, rfl, rfl⟩ := hcs
    obtain ⟨al, cl, rfl⟩ := hl.shape
    obtain ⟨af, cf, rfl⟩ := hf.shape
    exact ⟨al, cl, af, cf, rfl, rfl, rfl, rfl, rfl⟩
theorem tab_below {w w' : World} {zs : List Int} (h : Lib.TabIs Tryd.prog w "internal/strconv.uint64pow10" .u64 zs) (hb : Below w.heap.size w w') : Lib.TabIs Tryd.prog w' "internal/strconv.uint64pow10" .u64 zs := by
  unfold Lib.TabIs World.var? at *
  cases hg : Tryd.prog.globalNamed "internal/strconv.uint64pow10" with
  | none => rw [hg] at h; simp at h
  | some g =>
    rw [hg] at h
    simp only [Option.bind_some] at h ⊢
    have hlt : g < w.heap.size := by
      rcases Nat.lt_or_ge g w.heap.size with h' | h'
      · exact h'
      · simp [Array.getElem?_eq_none h'] at h
    rw [hb.block g hlt]
    exact h
theorem owns_below {w w1 : World} {b e n m : Nat} {v : Value} {xs : List Value} (h : w.ownsRow b e m v n xs) (hb : Below w.heap.size w w1) : w1.ownsRow b e m v n xs :=
  h.kept (⟨hb.os, hb.tape, hb.output, hb.size, fun j hj _ => hb.block j hj⟩ : w.grownBy w1 none) (by cases v.ownBlock <;> simp)
theorem info9 : (Tryd.prog.info? 9).map (fun i => (i.zero, i.size, i.bytes)) = some (some (.string ⟨#[]⟩), 1, 16) := by kernel_rfl
def V.strsV (l : List (List UInt8)) : List Value := l.map (fun x => .string (V.str x))
set_option maxRecDepth 100000 in
set_option maxHeartbeats 1600000 in
theorem itemTexts_of (m : Nat) (IH : Hid (∀ (w : World) (v : Val) (c0 c1 c2 c3 c4 : Value), V.Mem m w v [c0, c1, c2, c3, c4] → V.shaped m v = true → V.bulk m v ≤ 2000000 → Lib.TabIs Tryd.prog w "internal/strconv.uint64pow10" .u64 Lib.pow10Tab →
      Calls Tryd.prog 31 #[.agg #[c0, c1, c2, c3, c4]] w fun e w' => e = .returned (.string (V.str (V.text m v))) ∧ Below w.heap.size w w'))
    (w : World) (lv : Value) (l : List Val) (hl : V.Row w lv l.length 5 (fun i c => ∃ x, l[i]? = some x ∧ V.Mem m w x c)) (hsh : ∀ x ∈ l, V.shaped m x = true) (hbk : V.sumL (V.bulk m) l + l.length ≤ 2000000)
    (htab : Lib.TabIs Tryd.prog w "internal/strconv.uint64pow10" .u64 Lib.pow10Tab) :
    Calls Tryd.prog 48 #[lv] w fun e w' => (∃ ao cap, e = .returned (.slice ao l.length cap) ∧ w'.ownsRow w.heap.size 9 1 (.slice ao l.length cap) l.length (V.strsV (l.map (V.text m)))) ∧ Below w.heap.size w w' := by
  obtain ⟨i0, hi, hz0, hz1, hz2⟩ := info_parts info9
  obtain ⟨al, cl, rfl⟩ := hl.shape
  have HL : Hid _ := hl
  have HSH : Hid _ := hsh
  have HTAB : Hid _ := htab
  clear hl hsh htab
  go_enter Tryd.func48, Tryd.ntmps48
  go_wp2_with fail
  go_loopw [3, 5, 8] (fun vt _ vi wr => ∃ (k : Nat) (ao : Option Addr) (cap : Nat), k ≤ l.length ∧ vi = .int .i64 k ∧ vt = .slice ao k cap ∧ wr.ownsRow w.heap.size 9 1 (.slice ao k cap) k (V.strsV ((l.take k).map (V.text m))) ∧ Below w.heap.size w wr)
    (fun _ _ vi _ => l.length - (intOf vi).toNat)
  case atStart => exact ⟨0, none, 0, Nat.zero_le _, rfl, rfl, World.ownsRow_nil _ _ _ _, Below.refl _ _⟩
  case round =>
    obtain ⟨k, ao, cap, hk, rfl, rfl, hown, hB⟩ := hrel
    by_cases hlt : k < l.length
    · obtain ⟨b, off, cap2, x, d0, d1, d2, d3, d4, e1, hx, hm, y0, y1, y2, y3, y4⟩ := V.elemL (V.Row.kept HL.out hB (fun _ _ ⟨x, hx, hm⟩ => ⟨x, hx, V.Mem.kept m hm hB⟩)) k hlt
      simp only [Value.slice.injEq] at e1
      obtain ⟨rfl, _, rfl⟩ := e1
      have s1 := V.sumL_le (V.bulk m) l k x hx
      obtain ⟨xal, xcl, xaf, xcf, rfl, rfl, rfl, rfl, rfl⟩ := V.Mem.form hm
      have HM : Hid _ := hm
      have HX : Hid _ := hx
      clear hm hx
      go_wp2_with fail
      have hb2 : Below wr.heap.size wr (wr.alloc (.cells #[.int .i64 x.kind, .int .i64 x.n, .string x.s, .slice xal x.l.length xcl, .slice xaf x.f.length xcf] 34)) := (Below.refl _ _).alloc (Nat.le_refl _) _
      refine (IH.out _ x _ _ _ _ _ (V.Mem.kept m HM.out hb2) (HSH.out x (List.mem_of_getElem? HX.out)) (by omega) (tab_below HTAB.out (hB.trans (hb2.mono hB.size)))).mono ?_
      rintro e w3 ⟨rfl, hb3⟩
      have hown3 := owns_below (owns_below hown hb2) hb3
      have hB3 := (hB.trans (hb2.mono hB.size)).trans (hb3.mono (by have := hB.size; simp; omega))
      have hs3 := hB3.size
      generalize ht : V.str (V.text m x) = t
      have HT : Hid _ := ht
      clear ht hb2 hb3 y0 y1 y2 y3 y4 hown hB
      go_wp2_with (at_builtin; go_must (refine wpList_append_lies _ rfl (.tmp 12) (.tmp 15) 82 rfl w.heap.size 9 i0 (.string ⟨#[]⟩) 1 16 Tryd.underlying82 hi hz0 hz1 hz2 rfl (by decide) (.slice ao k cap) k (V.strsV ((l.take k).map (V.text m))) rfl (hown3.alloc _) ⟨w3.heap.size, 0, none⟩ 1 1 [.string t] rfl rfl (news_alloc _ #[.string t] _ _ rfl) (by simp [Value.oneCell']) (by decide) (by unfold maxLen; omega) (by omega) (by simp; omega) _ rfl ?_); intro g cap' w4 hown4 hgrow hat hlt4)
      go_roundw
      case rel =>
        refine ⟨k + 1, some ⟨g, 0, none⟩, cap', by omega, by go_num, rfl, ?_, (hB3.alloc hs3 _).grown hgrow (by simp; omega) (fun k hk => (hown3.lt k hk).1)⟩
        have e2 : V.strsV ((l.take (k + 1)).map (V.text m)) = V.strsV ((l.take k).map (V.text m)) ++ [.string t] := by
          rw [List.take_add_one, HX.out, ← HT.out]; simp [V.strsV]
        rw [e2]; exact hown4
      case measure => simp [intOf]; omega
    · have hkk : k = l.length := by omega
      subst hkk
      rw [List.take_length] at hown
      go_wp2_with fail
      go_ret
      exact ⟨⟨ao, cap, rfl, hown⟩, hB⟩
set_option maxRecDepth 100000 in
set_option maxHeartbeats 1600000 in
theorem fieldTexts_of (m : Nat) (IH : Hid (∀ (w : World) (v : Val) (c0 c1 c2 c3 c4 : Value), V.Mem m w v [c0, c1, c2, c3, c4] → V.shaped m v = true → V.bulk m v ≤ 2000000 → Lib.TabIs Tryd.prog w "internal/strconv.uint64pow10" .u64 Lib.pow10Tab →
      Calls Tryd.prog 31 #[.agg #[c0, c1, c2, c3, c4]] w fun e w' => e = .returned (.string (V.str (V.text m v))) ∧ Below w.heap.size w w'))
    (w : World) (fv : Value) (l : List (ByteArray × Val)) (hf : V.Row w fv l.length 6 (fun i c => ∃ x c', l[i]? = some x ∧ c = .string x.1 :: c' ∧ V.Mem m w x.2 c')) (hsh : ∀ x ∈ l, V.shaped m x.2 = true) (hbk : V.sumF (fun x => x.1.size + V.bulk m x.2) l + l.length ≤ 2000000)
    (htab : Lib.TabIs Tryd.prog w "internal/strconv.uint64pow10" .u64 Lib.pow10Tab) :
    Calls Tryd.prog 49 #[fv] w fun e w' => (∃ ao cap, e = .returned (.slice ao l.length cap) ∧ w'.ownsRow w.heap.size 9 1 (.slice ao l.length cap) l.length (V.strsV (l.map (fun x => V.bl x.1 ++ ([58, 32] ++ V.text m x.2))))) ∧ Below w.heap.size w w' := by
  obtain ⟨i0, hi, hz0, hz1, hz2⟩ := info_parts info9
  obtain ⟨al, cl, rfl⟩ := hf.shape
  have HL : Hid _ := hf
  have HSH : Hid _ := hsh
  have HTAB : Hid _ := htab
  clear hf hsh htab
  go_enter Tryd.func49, Tryd.ntmps49
  go_wp2_with fail
  go_loopw [3, 5, 8] (fun vt _ vi wr => ∃ (k : Nat) (ao : Option Addr) (cap : Nat), k ≤ l.length ∧ vi = .int .i64 k ∧ vt = .slice ao k cap ∧ wr.ownsRow w.heap.size 9 1 (.slice ao k cap) k (V.strsV ((l.take k).map (fun x => V.bl x.1 ++ ([58, 32] ++ V.text m x.2)))) ∧ Below w.heap.size w wr)
    (fun _ _ vi _ => l.length - (intOf vi).toNat)
  case atStart => exact ⟨0, none, 0, Nat.zero_le _, rfl, rfl, World.ownsRow_nil _ _ _ _, Below.refl _ _⟩
  case round =>
    obtain ⟨k, ao, cap, hk, rfl, rfl, hown, hB⟩ := hrel
    by_cases hlt : k < l.length
    · obtain ⟨b, off, cap2, x, d0, d1, d2, d3, d4, e1, hx, hm, yn, y0, y1, y2, y3, y4⟩ := V.elemF (V.Row.kept HL.out hB (fun _ _ ⟨x, c', hx, hc, hm⟩ => ⟨x, c', hx, hc, V.Mem.kept m hm hB⟩)) k hlt
      simp only [Value.slice.injEq] at e1
      obtain ⟨rfl, _, rfl⟩ := e1
      have s1 := V.sumF_le (fun x => x.1.size + V.bulk m x.2) l k x hx
      have s2 := V.text_len m x.2 (HSH.out x (List.mem_of_getElem? hx))
      obtain ⟨xal, xcl, xaf, xcf, rfl, rfl, rfl, rfl, rfl⟩ := V.Mem.form hm
      have HM : Hid _ := hm
      have HX : Hid _ := hx
      clear hm hx
      go_wp2_with fail
      have hb2 : Below wr.heap.size wr (wr.alloc (.cells #[.string x.1, .int .i64 x.2.kind, .int .i64 x.2.n, .string x.2.s, .slice xal x.2.l.length xcl, .slice xaf x.2.f.length xcf] 37)) := (Below.refl _ _).alloc (Nat.le_refl _) _
      have hblk : (wr.alloc (.cells #[.string x.1, .int .i64 x.2.kind, .int .i64 x.2.n, .string x.2.s, .slice xal x.2.l.length xcl, .slice xaf x.2.f.length xcf] 37)).heap[wr.heap.size]? = some (.cells #[.string x.1, .int .i64 x.2.kind, .int .i64 x.2.n, .string x.2.s, .slice xal x.2.l.length xcl, .slice xaf x.2.f.length xcf] 37 (0, 0)) := heap_alloc_new _ _
      generalize wr.alloc (.cells #[.string x.1, .int .i64 x.2.kind, .int .i64 x.2.n, .string x.2.s, .slice xal x.2.l.length xcl, .slice xaf x.2.f.length xcf] 37) = W1 at *
      have hB1 := hB.trans (hb2.mono hB.size)
      have hC : Calls Tryd.prog 31 #[.agg #[.int .i64 x.2.kind, .int .i64 x.2.n, .string x.2.s, .slice xal x.2.l.length xcl, .slice xaf x.2.f.length xcf]] W1.drew fun e w3 =>
          (∃ t, e = .returned (.string t) ∧ Hid (t = V.str (V.text m x.2)) ∧ t.size ≤ 80000000) ∧ (w3.cell? ⟨wr.heap.size, 0, none⟩ = some (.string x.1) ∧ w3.cell? ⟨wr.heap.size, 1, none⟩ = some (.int .i64 x.2.kind) ∧ w3.cell? ⟨wr.heap.size, 2, none⟩ = some (.int .i64 x.2.n) ∧ w3.cell? ⟨wr.heap.size, 3, none⟩ = some (.string x.2.s) ∧ w3.cell? ⟨wr.heap.size, 4, none⟩ = some (.slice xal x.2.l.length xcl) ∧ w3.cell? ⟨wr.heap.size, 5, none⟩ = some (.slice xaf x.2.f.length xcf)) ∧ Hid (w3.ownsRow w.heap.size 9 1 (.slice ao k cap) k (V.strsV ((l.take k).map (fun x => V.bl x.1 ++ ([58, 32] ++ V.text m x.2))))) ∧ Hid (Below w.heap.size w w3) := by
        have hb3 : Below W1.heap.size W1 W1.drew := below_drewN (Below.refl _ _) 1
        refine (IH.out W1.drew x.2 _ _ _ _ _ (V.Mem.kept m (V.Mem.kept m HM.out hb2) hb3) (HSH.out x (List.mem_of_getElem? HX.out)) (by omega) (tab_below HTAB.out (hB1.trans (hb3.mono hB1.size)))).mono ?_
        rintro e w3 ⟨rfl, hb4⟩
        have hb5 : Below W1.heap.size W1 w3 := hb3.trans (hb4.mono hb3.size)
        have hblk3 := (hb5.block wr.heap.size (Array.getElem?_eq_some_iff.1 hblk).1).trans hblk
        exact ⟨⟨_, rfl, rfl, by rw [str_size]; omega⟩, ⟨cell_of_block hblk3 0 _ rfl, cell_of_block hblk3 1 _ rfl, cell_of_block hblk3 2 _ rfl, cell_of_block hblk3 3 _ rfl, cell_of_block hblk3 4 _ rfl, cell_of_block hblk3 5 _ rfl⟩, owns_below (owns_below hown hb2) hb5, hB1.trans (hb5.mono hB1.size)⟩
      have HC : Hid _ := hC
      have z0 := cell_of_block hblk 0 _ rfl
      have z1 := cell_of_block hblk 1 _ rfl
      have z2 := cell_of_block hblk 2 _ rfl
      have z3 := cell_of_block hblk 3 _ rfl
      have z4 := cell_of_block hblk 4 _ rfl
      have z5 := cell_of_block hblk 5 _ rfl
      have hxs : x.1.size ≤ 2000000 := by omega
      have hg1 : ¬ 9223372036854775807 < x.1.size + 2 := by omega
      have KG : Hid (∀ (w3 : World) (o : Obj) (w4 : World), (w3.cell? ⟨wr.heap.size, 0, none⟩ = some (.string x.1) ∧ w3.cell? ⟨wr.heap.size, 1, none⟩ = some (.int .i64 x.2.kind) ∧ w3.cell? ⟨wr.heap.size, 2, none⟩ = some (.int .i64 x.2.n) ∧ w3.cell? ⟨wr.heap.size, 3, none⟩ = some (.string x.2.s) ∧ w3.cell? ⟨wr.heap.size, 4, none⟩ = some (.slice xal x.2.l.length xcl) ∧ w3.cell? ⟨wr.heap.size, 5, none⟩ = some (.slice xaf x.2.f.length xcf)) → (w3.alloc o).grownBy w4 (Value.slice ao k cap).ownBlock → w4.cell? ⟨wr.heap.size, 0, none⟩ = some (.string x.1) ∧ w4.cell? ⟨wr.heap.size, 1, none⟩ = some (.int .i64 x.2.kind) ∧ w4.cell? ⟨wr.heap.size, 2, none⟩ = some (.int .i64 x.2.n) ∧ w4.cell? ⟨wr.heap.size, 3, none⟩ = some (.string x.2.s) ∧ w4.cell? ⟨wr.heap.size, 4, none⟩ = some (.slice xal x.2.l.length xcl) ∧ w4.cell? ⟨wr.heap.size, 5, none⟩ = some (.slice xaf x.2.f.length xcf)) := by
        have hne : ∀ (w3 : World) (o : Obj) (w4 : World) (j : Nat) (u : Value), (w3.alloc o).grownBy w4 (Value.slice ao k cap).ownBlock → w3.cell? ⟨wr.heap.size, j, none⟩ = some u → w4.cell? ⟨wr.heap.size, j, none⟩ = some u := by
          intro w3 o w4 j u hg hc
          have hlt3 := World.block_lt_of_cell? w3 _ hc
          have hbk := hg.block wr.heap.size (by simp at hlt3 ⊢; omega) (fun e => by have := (hown.lt _ e.symm).2; omega)
          rw [heap_alloc_old w3 o hlt3] at hbk
          unfold World.cell? at hc ⊢
          simp only at hc ⊢
          rw [hbk]; exact hc
        intro w3 o w4 ⟨t0, t1, t2, t3, t4, t5⟩ hg
        exact ⟨hne _ _ _ _ _ hg t0, hne _ _ _ _ _ hg t1, hne _ _ _ _ _ hg t2, hne _ _ _ _ _ hg t3, hne _ _ _ _ _ hg t4, hne _ _ _ _ _ hg t5⟩
      have hxs2 : (x.1 ++ (⟨#[58, 32]⟩ : ByteArray)).size = x.1.size + 2 := by rw [ByteArray.size_append]; rfl
      clear hC hb2 hB1 hB hown hblk yn y0 y1 y2 y3 y4
      go_region_held3 (fun W' => W'.cell? ⟨wr.heap.size, 0, none⟩ = some (.string x.1) ∧ W'.cell? ⟨wr.heap.size, 1, none⟩ = some (.int .i64 x.2.kind) ∧ W'.cell? ⟨wr.heap.size, 2, none⟩ = some (.int .i64 x.2.n) ∧ W'.cell? ⟨wr.heap.size, 3, none⟩ = some (.string x.2.s) ∧ W'.cell? ⟨wr.heap.size, 4, none⟩ = some (.slice xal x.2.l.length xcl) ∧ W'.cell? ⟨wr.heap.size, 5, none⟩ = some (.slice xaf x.2.f.length xcf)) (go_keep)
        (first
          | (go_at_call 31; refine Calls.mono HC.out ?_; rintro e w3 ⟨⟨t, rfl, ht, htz⟩, ⟨t0, t1, t2, t3, t4, t5⟩, HO3, HB3⟩; have hs3 := HB3.out.size; have hg2 : ¬ 9223372036854775807 < x.1.size + 2 + t.size := (by omega))
          | (refine step_append_lies _ ?_ (.tmp 12) (.tmp 20) 82 ?_ w.heap.size 9 i0 (.string ⟨#[]⟩) 1 16 Tryd.underlying82 hi hz0 hz1 hz2 rfl Nat.one_pos (.slice ao k cap) k (V.strsV ((l.take k).map (fun x => V.bl x.1 ++ ([58, 32] ++ V.text m x.2)))) ?_ ?_ ⟨w3.heap.size, 0, none⟩ 1 1 [.string (x.1 ++ ⟨#[58, 32]⟩ ++ t)] ?_ rfl ?_ ?_ Nat.one_pos ?_ ?_ ?_ _ rfl ?_; rfl; rfl; rfl; exact (HO3.out.alloc _); rfl; exact news_alloc w3 #[.string (x.1 ++ ⟨#[58, 32]⟩ ++ t)] 9 _ rfl; simp [Value.oneCell']; (unfold maxLen; omega); omega; (simp; omega); intro g cap' w4 hown4 hgrow hat hlt4; obtain ⟨r0, r1, r2, r3, r4, r5⟩ := KG.out _ _ _ ⟨t0, t1, t2, t3, t4, t5⟩ hgrow))
      all_goals
        go_wp2_with fail
        go_roundw
        case rel =>
          refine ⟨k + 1, some ⟨g, 0, none⟩, cap', by omega, by go_num, rfl, ?_, (HB3.out.alloc hs3 _).grown hgrow (by simp; omega) (fun k hk => (HO3.out.lt k hk).1)⟩
          have e2 : V.strsV ((l.take (k + 1)).map (fun x => V.bl x.1 ++ ([58, 32] ++ V.text m x.2))) = V.strsV ((l.take k).map (fun x => V.bl x.1 ++ ([58, 32] ++ V.text m x.2))) ++ [.string (x.1 ++ ⟨#[58, 32]⟩ ++ t)] := by
            have e3 : x.1 ++ (⟨#[58, 32]⟩ : ByteArray) ++ t = V.str (V.bl x.1 ++ ([58, 32] ++ V.text m x.2)) := by
              rw [ht.out, ← V.str_append, ← V.str_append, V.str_bl, ByteArray.append_assoc]; rfl
            rw [List.take_add_one, HX.out, e3]; simp [V.strsV]
          rw [e2]; exact hown4
        case measure => simp [intOf]; omega
    · have hkk : k = l.length := by omega
      subst hkk
      rw [List.take_length] at hown
      go_wp2_with fail
      go_ret
      exact ⟨⟨ao, cap, rfl, hown⟩, hB⟩
end Go.Proofs.YtpoebpknjjfddaaDoor
