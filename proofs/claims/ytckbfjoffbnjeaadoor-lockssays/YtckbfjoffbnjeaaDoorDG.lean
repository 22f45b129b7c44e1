/- disk: Read, keep, Sync. -/
import Derived.Test.YtckbfjoffbnjeaaDoorDF
namespace Go.Proofs.YtckbfjoffbnjeaaDoor
open Go.RowKit
attribute [local go_sem ↓] Go.wp_at_zero Go.wp_at_succ
/-- What Read answers: the bytes, and an error's number. -/
def Dk.read (D : Dk) (n : ByteArray) : ByteArray × Nat := if D.down = true then (⟨#[]⟩, 10) else match M.get D.files n with | none => (⟨#[]⟩, 7) | some d => (d, 0)
set_option maxRecDepth 100000 in
set_option maxHeartbeats 1000000 in
theorem read_any (w : World) (B : Nat → Prop) (g : Nat) (D : Dk) (n : ByteArray) (h : Disk w B g D) :
    Calls Tryd.prog 35 #[.pointer (some ⟨g, 0, none⟩), .string n] w fun o w' => o = .returned (.tuple #[.string (D.read n).1, errV (D.read n).2]) ∧ Fr w w' (fun _ => False) := by
  have hha := has_any w B g D n h
  have hD1 : Hid (∀ w1, Fr w w1 (fun _ => False) → Disk w1 B g D) := fun w1 hf => h.fr hf (fun _ _ h => h)
  obtain ⟨bk, bf, cv, h1, h2, h3, h4, h5, h6, h7, h8, h9⟩ := h
  have c5 := cell_of_block h1 5 _ rfl
  have HHA := hide hha
  clear hha h1 h2 h3 h4 h5 h6 h7 h8 h9
  cases hd : D.down with
  | true =>
    rw [hd] at c5
    have HR : Hid (D.read n = (⟨#[]⟩, 10)) := by show _ = _; unfold Dk.read; rw [if_pos hd]
    go_enter Tryd.func35, Tryd.ntmps35
    go_wp2_with fail
    go_ret2
    rw [HR.out]
    exact ⟨rfl, Fr.refl _ _⟩
  | false =>
    rw [hd] at c5
    cases hg : M.get D.files n with
    | none =>
      have HR : Hid (D.read n = (⟨#[]⟩, 7)) := by show _ = _; unfold Dk.read; rw [if_neg (by rw [hd]; decide), hg]
      rw [hg] at HHA
      go_enter Tryd.func35, Tryd.ntmps35
      go_wp2_with fail
      refine HHA.out.mono ?_
      rintro o w1 ⟨rfl, hf1⟩
      have HF1 := hide hf1
      clear hf1 c5
      simp only [Option.isSome_none]
      go_wp2_with fail
      go_ret2
      rw [HR.out]
      exact ⟨rfl, HF1.out⟩
    | some d =>
      have HR : Hid (D.read n = (d, 0)) := by show _ = _; unfold Dk.read; rw [if_neg (by rw [hd]; decide), hg]
      rw [hg] at HHA
      go_enter Tryd.func35, Tryd.ntmps35
      go_wp2_with fail
      refine HHA.out.mono ?_
      rintro o w1 ⟨rfl, hf1⟩
      have hD := hD1.out w1 hf1
      obtain ⟨bk, bf, cv, h1, h2, h3, h4, h5, h6, h7, h8, h9⟩ := hD
      have c1 := cell_of_block h1 1 _ rfl
      have hlk : (Instr.lookup 55 (.map (some bf)) (.string n) false).run Tryd.prog w1 = .ok (.agg #[.string d]) w1 := by
        rw [M.look h3 n false]
        unfold M.get at hg
        cases ha : M.at_ n D.files 0 with
        | none => rw [ha] at hg; cases hg
        | some p =>
          rw [ha] at hg
          have : p.2 = d := by simpa using hg
          rw [← this]; rfl
      have hfd := fun w => field127 d w
      have HF1 := hide hf1
      clear hf1 h1 h2 h3 h4 h5 h6 h7 h8 h9 c5
      simp only [Option.isSome_some]
      go_wp2_with fail
      go_ret2
      rw [HR.out]
      exact ⟨rfl, HF1.out⟩
theorem flat4 : ∀ (Q : List (List Value)), (∀ c ∈ Q, c.length = 4) → ∀ (i j : Nat) c, Q[i]? = some c → j < 4 → Q.flatten[i * 4 + j]? = c[j]?
  | [], _, i, j, c, h, _ => by simp at h
  | a :: Q, hQ, i, j, c, h, hj => by
    have ha : a.length = 4 := hQ a (by simp)
    rw [List.flatten_cons]
    cases i with
    | zero =>
      have e : a = c := by simpa using h
      subst e
      rw [Nat.zero_mul, Nat.zero_add, List.getElem?_append_left (by omega)]
    | succ i =>
      rw [List.getElem?_append_right (by omega), show (i + 1) * 4 + j - a.length = i * 4 + j by omega]
      exact flat4 Q (fun c hc => hQ c (by simp [hc])) i j c (by simpa using h) hj
/-- Files behind the first k changes. -/
def Dk.keepTo (D : Dk) (k : Nat) : List (ByteArray × ByteArray) := (D.chg.take k).foldl (fun F c => c.on F) D.kept
theorem Dk.keep_next {D : Dk} {k : Nat} {c : Ch} (h : D.chg[k]? = some c) : D.keepTo (k + 1) = c.on (D.keepTo k) := by
  unfold Dk.keepTo
  rw [List.take_add_one, h, Option.toList_some, List.foldl_append]; rfl
/-- One change, cell by cell. -/
theorem chg_at {w : World} {cv : Value} {l : List Ch} (h : w.ownsRow 0 70 4 cv l.length (l.map Ch.cells).flatten) {k : Nat} {c : Ch} (hc : l[k]? = some c) :
    ∃ gc cap, cv = .slice (some ⟨gc, 0, none⟩) l.length cap ∧ w.cell? ⟨gc, k * 4, none⟩ = some (.int .i64 c.kind) ∧ w.cell? ⟨gc, k * 4 + 1, none⟩ = some (.string c.name) ∧ w.cell? ⟨gc, k * 4 + 2, none⟩ = some (.string c.dest) ∧ w.cell? ⟨gc, k * 4 + 3, none⟩ = some (.string c.data) := by
  rcases h.2 with ⟨rfl, h0⟩ | ⟨gc, cap, cur, rfl, _, hg, _⟩
  · have := (List.getElem?_eq_some_iff.1 hc).1; omega
  · have key : ∀ j u, j < 4 → c.cells[j]? = some u → w.cell? ⟨gc, k * 4 + j, none⟩ = some u := by
      intro j u hj hu
      have hf := flat4 (l.map Ch.cells) (fun c hc => by obtain ⟨x, _, rfl⟩ := List.mem_map.1 hc; rfl) k j c.cells (by rw [List.getElem?_map, hc]; rfl) hj
      rw [hu] at hf
      have h3 := h.cells (g := gc) rfl (k * 4 + j) u hf
      have e : (⟨gc, 0, none⟩ : Addr).add (k * 4 + j) = ⟨gc, k * 4 + j, none⟩ := by unfold Addr.add; split <;> simp_all
      rw [e] at h3; exact h3
    exact ⟨gc, cap, rfl, key 0 _ (by omega) rfl, key 1 _ (by omega) rfl, key 2 _ (by omega) rfl, key 3 _ (by omega) rfl⟩
set_option maxRecDepth 100000 in
set_option maxHeartbeats 2000000 in
theorem keep_any (w : World) (B : Nat → Prop) (g : Nat) (D : Dk) (n : Nat) (h : Disk w B g D) (hn : n ≤ D.chg.length) (hch : D.chg.length ≤ 100000) (hk : ∀ c ∈ D.chg, c.kind = 0 ∨ c.kind = 1) (hsz : ∀ k c, k < n → D.chg[k]? = some c → c.data.size ≤ 1000000 ∧ ((M.get (D.keepTo k) c.name).getD ⟨#[]⟩).size ≤ 1000000) :
    Calls Tryd.prog 54 #[.pointer (some ⟨g, 0, none⟩), .int .i64 n] w fun o w' => o = .returned (.tuple #[]) ∧ Disk w' B g { D with kept := D.keepTo n } ∧ Fr w w' B := by
  obtain ⟨bk, bf, cv, h1, h2, h3, h4, h5, h6, h7, h8, h9⟩ := h
  have hkg : bk ≠ g := fun e => by
    obtain ⟨es, c, hb, _⟩ := h2
    rw [e, h1] at hb; cases hb
  have hkc : ∀ c, cv.ownBlock = some c → c ≠ bk := fun c hc e => by
    obtain ⟨es, c2, hb, _⟩ := h2
    exact owns_ne h4 hb (fun cs x hh => by cases hh) (by rw [← e]; exact hc)
  have KF : Hid (∀ wx, M.Is wx bk (D.keepTo n) → Fr w wx (fun x => x = bk) → Disk wx B g { D with kept := D.keepTo n } ∧ Fr w wx B) := by
    intro wx hI hf
    exact ⟨⟨bk, bf, cv, (hf.block g (Array.getElem?_eq_some_iff.1 h1).1 (fun e => hkg e.symm)).trans h1, hI, is_fr h3 hf (fun e => h5 e.symm), owns_fr h4 hf hkc, h5, h6, h7, h8, h9⟩, hf.weak (fun x _ e => by rw [e]; exact h7)⟩
  have c2 := cell_of_block h1 2 _ rfl
  have KC : Hid (∀ wx, Fr w wx (fun x => x = bk) → wx.cell? ⟨g, 0, none⟩ = some (.map (some bk))) := by
    intro wx hf
    exact cell_of_block ((hf.block g (Array.getElem?_eq_some_iff.1 h1).1 (fun e => hkg e.symm)).trans h1) 0 _ rfl
  have KE : Hid (∀ wx, Fr w wx (fun x => x = bk) → wx.ownsRow 0 70 4 cv D.chg.length (D.chg.map Ch.cells).flatten) := fun wx hf => owns_fr h4 hf hkc
  have hI0 : M.Is w bk (D.keepTo 0) := h2
  have hgl : g < w.heap.size := (Array.getElem?_eq_some_iff.1 h1).1
  have hbl : bk < w.heap.size := h2.lt
  have HI0 := hide hI0
  have HK := hide hk
  have HSZ := hide hsz
  obtain ⟨av, cp, rfl⟩ := owns_shape h4
  have hcap : D.chg.length ≤ cp := by
    rcases h4.2 with ⟨e, h0⟩ | ⟨gc, cap, cur, e, _, _, h0, _⟩
    · simp only [Value.slice.injEq] at e; omega
    · simp only [Value.slice.injEq] at e; omega
  clear h1 h2 h3 h4 h5 h6 h7 h8 h9 hkg hkc hI0 hk hsz
  go_enter Tryd.func54, Tryd.ntmps54
  go_wp2_with fail
  go_loopw [13, 5] (fun vi _ wx => ∃ k : Nat, k ≤ n ∧ vi = .int .i64 k ∧ M.Is wx bk (D.keepTo k) ∧ Fr w wx (fun x => x = bk)) (fun vi _ _ => n - (intOf vi).toNat)
  case atStart => exact ⟨0, Nat.zero_le _, rfl, HI0.out, Fr.refl _ _⟩
  case round =>
    obtain ⟨wx, hwx⟩ : ∃ z, z = wr := ⟨_, rfl⟩
    subst hwx
    obtain ⟨k, hkn, rfl, hIx, hfx⟩ := hrel
    by_cases hlt : k < n
    · obtain ⟨c, hc⟩ : ∃ c, D.chg[k]? = some c := ⟨_, List.getElem?_eq_getElem (by omega)⟩
      obtain ⟨gc, cap2, ecv, y0, y1, y2, y3⟩ := chg_at (KE.out wx hfx) hc
      simp only [Value.slice.injEq] at ecv
      obtain ⟨rfl, _, rfl⟩ := ecv
      have hfv := (hfx.alloc (.cells #[.int .i64 c.kind, .string c.name, .string c.dest, .string c.data] 70))
      have hIv0 : M.Is (wx.alloc (.cells #[.int .i64 c.kind, .string c.name, .string c.dest, .string c.data] 70)) bk (D.keepTo k) := hIx.kept (World.grownBy_alloc _ _ none) (by simp)
      have hIv : M.Is (wx.alloc (.cells #[.int .i64 c.kind, .string c.name, .string c.dest, .string c.data] 70)).drew bk (D.keepTo k) := hIv0
      have hon := on_any _ bk c (D.keepTo k) hIv (HK.out c (List.mem_of_getElem? hc)) (HSZ.out k c hlt hc)
      have hEv : (wx.alloc (.cells #[.int .i64 c.kind, .string c.name, .string c.dest, .string c.data] 70)).heap[wx.heap.size]? = some (.cells #[.int .i64 c.kind, .string c.name, .string c.dest, .string c.data] 70 (0, 0)) := heap_alloc_new _ _
      have c0 := KC.out _ hfv
      have HNX : Hid (D.keepTo (k + 1) = c.on (D.keepTo k)) := Dk.keep_next hc
      have K2 : Hid (∀ w2, Fr (wx.alloc (.cells #[.int .i64 c.kind, .string c.name, .string c.dest, .string c.data] 70)).drew w2 (fun x => x = bk) → Fr w w2 (fun x => x = bk) ∧ w2.cell? ⟨g, 0, none⟩ = some (.map (some bk)) ∧ w2.heap[wx.heap.size]? = some (.cells #[.int .i64 c.kind, .string c.name, .string c.dest, .string c.data] 70 (0, 0))) := by
        intro w2 hf0
        have hf : Fr (wx.alloc (.cells #[.int .i64 c.kind, .string c.name, .string c.dest, .string c.data] 70)) w2 (fun x => x = bk) := ⟨hf0.os, hf0.tape, hf0.output, hf0.size, hf0.block⟩
        have h1 := hfv.trans hf (fun _ _ e => e)
        exact ⟨h1, KC.out _ h1, (hf.block wx.heap.size (Array.getElem?_eq_some_iff.1 hEv).1 (by show ¬ wx.heap.size = bk; have := hfx.size; omega)).trans hEv⟩
      have e0 := cell_of_block hEv 0 _ rfl
      have e1 := cell_of_block hEv 1 _ rfl
      have e2 := cell_of_block hEv 2 _ rfl
      have e3 := cell_of_block hEv 3 _ rfl
      have HON := hide hon
      clear hon hIv hIv0 hEv hc hIx hfx hfv
      go_wp2_with fail
      generalize wx.alloc (.cells #[.int .i64 c.kind, .string c.name, .string c.dest, .string c.data] 70) = wv at *
      go_region_held3 (fun W' => W'.cell? ⟨wx.heap.size, 0, none⟩ = some (.int .i64 c.kind) ∧ W'.cell? ⟨wx.heap.size, 1, none⟩ = some (.string c.name) ∧ W'.cell? ⟨wx.heap.size, 2, none⟩ = some (.string c.dest) ∧ W'.cell? ⟨wx.heap.size, 3, none⟩ = some (.string c.data) ∧ W'.cell? ⟨g, 0, none⟩ = some (.map (some bk))) (first | exact ⟨e0, e1, e2, e3, c0⟩ | exact ⟨t0, t1, t2, t3, t4⟩ | go_keep)
        (first | (go_at_call 47; (with_reducible refine Calls.mono HON.out ?_); rintro o w2 ⟨rfl, hI2, hf2⟩; obtain ⟨k1, t4, k4⟩ := K2.out w2 hf2; have t0 := cell_of_block k4 0 _ rfl; have t1 := cell_of_block k4 1 _ rfl; have t2 := cell_of_block k4 2 _ rfl; have t3 := cell_of_block k4 3 _ rfl))
      have HI2 := hide hI2
      have HK1 := hide k1
      clear hI2 k1 k4 hf2 t0 t1 t2 t3 t4 e0 e1 e2 e3 c0 y0 y1 y2 y3
      go_wp2_with fail
      go_roundw
      case rel => exact ⟨k + 1, by omega, by go_num, by rw [HNX.out]; exact HI2.out, HK1.out⟩
      case measure => simp [intOf]; omega
    · have hkk : k = n := by omega
      subst hkk
      have HFI := hide (KF.out wx hIx hfx)
      clear hIx hfx
      go_wp2_with fail
      go_end0
      exact ⟨rfl, HFI.out⟩
end Go.Proofs.YtckbfjoffbnjeaaDoor
