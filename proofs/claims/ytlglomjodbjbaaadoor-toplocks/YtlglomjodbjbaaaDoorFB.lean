/- do, Write, Append, keep, Sync: with changes of any kind. -/
import Derived.Test.YtlglomjodbjbaaaDoorFA
namespace Go.Proofs.YtlglomjodbjbaaaDoor
open Go.RowKit
attribute [local go_sem ↓] Go.wp_at_zero Go.wp_at_succ
/-- A disk behind a change that was done. -/
def Dk.did4 (D : Dk) (c : Ch) : Dk := { D.step with files := c.act D.files, chg := D.chg ++ [c] }
set_option maxRecDepth 100000 in
set_option maxHeartbeats 2000000 in
theorem do4 (w : World) (B : Nat → Prop) (g : Nat) (D : Dk) (c : Ch) (h : Disk w B g D) (hB : ∀ x, B x → x < w.heap.size) (hs : 0 ≤ D.steps ∧ D.steps ≤ 1000000) (hl : -9223372036854775808 ≤ D.left ∧ D.left ≤ 9223372036854775807) (hk : c.kinds) (hlen : c.data.size ≤ 1000000 ∧ ((M.get D.files c.name).getD ⟨#[]⟩).size ≤ 1000000) (hch : D.chg.length ≤ 100000) :
    Calls Tryd.prog 29 #[.pointer (some ⟨g, 0, none⟩), .agg #[.int .i64 c.kind, .string c.name, .string c.dest, .string c.data]] w fun o w' => Doing w w' B g D (D.did4 c) o := by
  have hf0 : Fr w (w.alloc (.cells #[.int .i64 c.kind, .string c.name, .string c.dest, .string c.data] 68)) (fun _ => False) := (Fr.refl _ _).alloc _
  have hD0 := h.fr hf0 (fun _ _ h => h)
  have hE0 : (w.alloc (.cells #[.int .i64 c.kind, .string c.name, .string c.dest, .string c.data] 68)).heap[w.heap.size]? = some (.cells #[.int .i64 c.kind, .string c.name, .string c.dest, .string c.data] 68 (0, 0)) := heap_alloc_new _ _
  have hst := step_any _ B g D hD0 hs hl
  have hBg : B g := by obtain ⟨_, _, _, _, _, _, _, _, h6, _⟩ := h; exact h6
  have hgl := hB g hBg
  have HST := hide hst
  have HE0 := hide hE0
  have HF0 := hide hf0
  have HB := hide hB
  clear hst hE0 hf0 hD0 h hB
  go_enter Tryd.func29, Tryd.ntmps29
  go_wp2_with fail
  generalize w.alloc (.cells #[.int .i64 c.kind, .string c.name, .string c.dest, .string c.data] 68) = w0 at *
  go_fit HST.out
  rintro o w1 ⟨hst1, hf1⟩
  have hf01 := (HF0.out.weak (ex1 := fun c => c = g) (fun _ _ h => h.elim)).trans hf1 (fun _ _ h => h)
  have hE1 := (hf1.block w.heap.size (Array.getElem?_eq_some_iff.1 HE0.out).1 (by show ¬ w.heap.size = g; omega)).trans HE0.out
  have hs01 := HF0.out.size
  clear HST HE0
  rcases hst1 with ⟨hfa, rfl, hD1⟩ | ⟨hnf, rfl, hD1⟩
  · have HFA := hide hfa
    have HD1 := hide hD1
    have HF01 := hide hf01
    clear hfa hD1 hf01 hf1 hE1
    go_wp2_with fail
    go_ret
    exact ⟨.inl ⟨HFA.out, rfl, HD1.out⟩, HF01.out.weak (fun c _ e => by rw [e]; exact hBg)⟩
  · obtain ⟨bk, bf, cv, h1, h2, h3, h4, h5, h6, h7, h8, h9⟩ := hD1
    have hon := act_any w1.drew bf c D.files h3 hk hlen
    have e0 := cell_of_block hE1 0 _ rfl
    have e1 := cell_of_block hE1 1 _ rfl
    have e2 := cell_of_block hE1 2 _ rfl
    have e3 := cell_of_block hE1 3 _ rfl
    have c1 := cell_of_block h1 1 _ rfl
    obtain ⟨av, cp, ecv⟩ := owns_shape h4
    subst ecv
    have hbg : bf ≠ g := fun e => by
      obtain ⟨es, c, hb, _⟩ := h3
      rw [e, h1] at hb; cases hb
    have hbw : bf ≠ w.heap.size := fun e => by
      obtain ⟨es, c, hb, _⟩ := h3
      rw [e, hE1] at hb; cases hb
    have K2 : Hid (∀ w2, Fr w1.drew w2 (fun x => x = bf) → w2.heap[g]? = some (.cells #[.map (some bk), .map (some bf), .slice av D.chg.length cp, .int .i64 D.step.steps, .int .i64 D.step.left, .bool D.step.down] 48 (0, 0)) ∧ M.Is w2 bk D.kept ∧ w2.ownsRow 0 68 4 (.slice av D.chg.length cp) D.chg.length (D.chg.map Ch.cells).flatten ∧ w2.heap[w.heap.size]? = some (.cells #[.int .i64 c.kind, .string c.name, .string c.dest, .string c.data] 68 (0, 0))) := by
      intro w2 hf0
      have hf : Fr w1 w2 (fun x => x = bf) := ⟨hf0.os, hf0.tape, hf0.output, hf0.size, hf0.block⟩
      exact ⟨(hf.block g (Array.getElem?_eq_some_iff.1 h1).1 (fun e => hbg e.symm)).trans h1, is_fr h2 hf h5, owns_fr h4 hf (fun x hx e => by
        obtain ⟨es, c, hb, _⟩ := h3
        exact owns_ne h4 hb (fun cs x hh => by cases hh) (by rw [← e]; exact hx)), (hf.block w.heap.size (Array.getElem?_eq_some_iff.1 hE1).1 (fun e => hbw e.symm)).trans hE1⟩
    have HON := hide hon
    have HNF := hide hnf
    have HF01 := hide hf01
    have H9 := hide h9
    have H678 := hide (And.intro h6 (And.intro h7 h8))
    have H5 := hide h5
    clear hon hnf hf01 hf1 hE1 h1 h2 h3 h4 h5 h6 h7 h8 h9 hbg hbw
    go_wp2_with fail
    go_region_held3 (fun W' => W'.cell? ⟨w.heap.size, 0, none⟩ = some (.int .i64 c.kind) ∧ W'.cell? ⟨w.heap.size, 1, none⟩ = some (.string c.name) ∧ W'.cell? ⟨w.heap.size, 2, none⟩ = some (.string c.dest) ∧ W'.cell? ⟨w.heap.size, 3, none⟩ = some (.string c.data) ∧ W'.cell? ⟨g, 1, none⟩ = some (.map (some bf))) (first | exact ⟨e0, e1, e2, e3, c1⟩ | exact ⟨t0, t1, t2, t3, t4⟩ | go_keep)
      (first | (go_at_call 44; (with_reducible refine Calls.mono HON.out ?_); rintro o w2 ⟨rfl, hI2, hf2⟩; obtain ⟨k1, k2, k3, k4⟩ := K2.out w2 hf2; have t0 := cell_of_block k4 0 _ rfl; have t1 := cell_of_block k4 1 _ rfl; have t2 := cell_of_block k4 2 _ rfl; have t3 := cell_of_block k4 3 _ rfl; have t4 := cell_of_block k1 1 _ rfl))
    have hf12 : Fr w w2 B := (HF01.out.weak (fun x _ e => by rw [e]; exact hBg)).trans (⟨hf2.os, hf2.tape, hf2.output, hf2.size, hf2.block⟩ : Fr w1 w2 (fun x => x = bf)) (fun x _ e => by rw [e]; exact H678.out.2.2)
    have c2 := cell_of_block k1 2 _ rfl
    have f2 := free_of_block k1 2
    have hle2 : w.heap.size ≤ w2.heap.size := hf12.size
    have KG : Hid (∀ ob wA, (w2.alloc ob).drew.grownBy wA (Value.slice av D.chg.length cp).ownBlock → wA.cell? ⟨g, 2, none⟩ = some (.slice av D.chg.length cp) ∧ wA.frozen? ⟨g, 2, none⟩ = false) := by
      intro ob wA hg
      have h := grown_fr ((Fr.refl w2 _).alloc ob).drew hg
      have hb := (h.block g (Array.getElem?_eq_some_iff.1 k1).1 (owns_ne k3 k1 (fun cs x hh => by cases hh))).trans k1
      exact ⟨cell_of_block hb 2 _ rfl, free_of_block hb 2⟩
    have c2a : ∀ ob, (w2.alloc ob).cell? ⟨g, 2, none⟩ = some (.slice av D.chg.length cp) := fun ob => kept_cell ((Below.refl _ _).alloc (Nat.le_refl _) ob) c2
    have K1 := hide k1
    have KK2 := hide k2
    have K3 := hide k3
    have HI2 := hide hI2
    have HF12 := hide hf12
    clear k1 k2 k3 hI2 hf12 hf2 k4 HON K2 HF01
    obtain ⟨i0, hi0, hz0, hz1, hz2⟩ := info_parts info119
    have h4pos : 0 < 4 := by decide
    go_wp2_with fail
    go_region_law
      (first
        | (refine step_append_lies _ ?_ (.tmp 21) (.tmp 23) 46 ?_ 0 68 i0 (.agg #[.int .i64 0, .string ⟨#[]⟩, .string ⟨#[]⟩, .string ⟨#[]⟩]) 4 56 u113 hi0 hz0 hz1 hz2 rfl h4pos (.slice av D.chg.length cp) D.chg.length (D.chg.map Ch.cells).flatten ?_ ?_ ⟨w2.heap.size, 0, none⟩ 1 1 [.int .i64 c.kind, .string c.name, .string c.dest, .string c.data] ?_ rfl ?_ ?_ Nat.one_pos ?_ ?_ ?_ _ rfl ?_; rfl; rfl; rfl; exact (K3.out.alloc _).drew; rfl; exact news_alloc_drew w2 #[.int .i64 c.kind, .string c.name, .string c.dest, .string c.data] 68 _ rfl; simp [Value.oneCell']; (unfold maxLen; omega); omega; exact Nat.zero_le _; intro gA capA wA hownA hgrowA hatA hltA; obtain ⟨r2, s2⟩ := KG.out _ wA hgrowA))
    all_goals
      have hown2 : wA.ownsRow 0 68 4 (.slice (some ⟨gA, 0, none⟩) (D.chg.length + 1) capA) (D.did4 c).chg.length ((D.did4 c).chg.map Ch.cells).flatten := by
        have e1 : (D.did4 c).chg = D.chg ++ [c] := rfl
        rw [e1, List.length_append, List.map_append, List.flatten_append]
        exact hownA
      have hnew := Disk.pushed (B := B) (D' := D.did4 c) (gA := gA) K1.out KK2.out HI2.out K3.out H5.out H678.out.1 H678.out.2.1 H678.out.2.2 ((Fr.refl w2 _).alloc _).drew hgrowA hown2 rfl rfl rfl rfl
      have hfin : Fr w (wA.setCell ⟨g, 2, none⟩ (.slice (some ⟨gA, 0, none⟩) (D.chg.length + 1) capA)) B := ((HF12.out.alloc _).drew.grown hgrowA (fun x hx _ => H9.out x hx)).set _ _ (fun _ => hBg)
      have hin : ∀ x, (B x ∨ x = gA) → B x ∨ w.heap.size ≤ x := by
        intro x hx
        rcases hx with hx | rfl
        · exact .inl hx
        · rcases hatA with h | h
          · exact .inl (H9.out _ h)
          · right
            simp at h
            omega
      have HNEW := hide hnew
      have HFIN := hide hfin
      have HIN := hide hin
      clear hnew hfin hin hown2 hownA hgrowA hatA
      go_wp2_with fail
      go_ret
      exact ⟨.inr ⟨HNF.out, rfl, _, HNEW.out, HIN.out⟩, HFIN.out⟩
set_option maxRecDepth 100000 in
set_option maxHeartbeats 1000000 in
theorem write4 (w : World) (B : Nat → Prop) (g : Nat) (D : Dk) (n d : ByteArray) (h : Disk w B g D) (hB : ∀ x, B x → x < w.heap.size) (hn : n.size ≤ maxLen) (hF : D.files.length ≤ 1000000) (hs : 0 ≤ D.steps ∧ D.steps ≤ 1000000) (hl : -9223372036854775808 ≤ D.left ∧ D.left ≤ 9223372036854775807) (hlen : d.size ≤ 1000000 ∧ ((M.get D.files n).getD ⟨#[]⟩).size ≤ 1000000) (hch : D.chg.length ≤ 100000) :
    Calls Tryd.prog 17 #[.pointer (some ⟨g, 0, none⟩), .string n, .string d] w fun o w' => Changed w w' B g D (D.did4 ⟨0, n, ⟨#[]⟩, d⟩) (D.fit n d.size) o := by
  have hfi := fits_any w B g D n d.size h hn hF
  have K : Hid (∀ w1, Fr w w1 (fun _ => False) → Calls Tryd.prog 29 #[.pointer (some ⟨g, 0, none⟩), .agg #[.int .i64 0, .string n, .string ⟨#[]⟩, .string d]] w1 fun o w' => Doing w w' B g D (D.did4 ⟨0, n, ⟨#[]⟩, d⟩) o) := by
    intro w1 hf
    exact (do4 w1 B g D ⟨0, n, ⟨#[]⟩, d⟩ (h.fr hf (fun _ _ h => h)) (fun x hx => Nat.lt_of_lt_of_le (hB x hx) hf.size) hs hl (.inl rfl) hlen hch).mono (fun o w' hh => hh.up hf)
  have HFI := hide hfi
  clear hfi h hB hF hs hl hlen hch
  go_enter Tryd.func17, Tryd.ntmps17
  go_wp2_with fail
  refine HFI.out.mono ?_
  rintro o w1 ⟨rfl, hf1⟩
  by_cases hk : D.fit n d.size = 0
  · rw [show errV (D.fit n d.size) = .nilIface by rw [hk]; rfl]
    have HK := hide hk
    have HF1 := hide hf1
    clear hk hf1
    go_wp2_with fail
    refine (K.out w1 HF1.out).mono ?_
    rintro o w2 hd
    obtain ⟨u, hu⟩ : ∃ u, o = .returned u ∧ (u = .nilIface ∨ u = .iface 49 (.int .i64 10)) := by
      rcases hd.1 with ⟨_, e, _⟩ | ⟨_, e, _⟩
      · exact ⟨_, e, .inr rfl⟩
      · exact ⟨_, e, .inl rfl⟩
    obtain ⟨rfl, hu⟩ := hu
    have HD := hide hd
    clear hd
    rcases hu with rfl | rfl
    · go_wp2_with fail
      go_ret
      exact .inr ⟨HK.out, HD.out⟩
    · go_wp2_with fail
      go_ret
      exact .inr ⟨HK.out, HD.out⟩
  · rw [errV_ne hk]
    have HK := hide hk
    have HF1 := hide hf1
    clear hk hf1
    obtain ⟨G, hG⟩ : ∃ G, G = D.fit n d.size := ⟨_, rfl⟩
    have HG := hide hG
    rw [← hG]
    clear hG
    go_wp2_with fail
    go_ret
    exact .inl ⟨HK.out, by rw [errV_ne HK.out, ← HG.out]; rfl, HF1.out⟩

/-- What is kept with the first changes. -/
def Dk.keep4 (D : Dk) (k : Nat) : List (ByteArray × ByteArray) := (D.chg.take k).foldl (fun F c => c.act F) D.kept
theorem Dk.keep4_next {D : Dk} {k : Nat} {c : Ch} (h : D.chg[k]? = some c) : D.keep4 (k + 1) = c.act (D.keep4 k) := by
  unfold Dk.keep4
  rw [List.take_add_one, h, Option.toList_some, List.foldl_append]; rfl
set_option maxRecDepth 100000 in
set_option maxHeartbeats 2000000 in
theorem keep4_any (w : World) (B : Nat → Prop) (g : Nat) (D : Dk) (n : Nat) (h : Disk w B g D) (hn : n ≤ D.chg.length) (hch : D.chg.length ≤ 100000) (hk : ∀ c ∈ D.chg, c.kinds) (hsz : ∀ k c, k < n → D.chg[k]? = some c → c.data.size ≤ 1000000 ∧ ((M.get (D.keep4 k) c.name).getD ⟨#[]⟩).size ≤ 1000000) :
    Calls Tryd.prog 42 #[.pointer (some ⟨g, 0, none⟩), .int .i64 n] w fun o w' => o = .returned (.tuple #[]) ∧ Disk w' B g { D with kept := D.keep4 n } ∧ Fr w w' B := by
  obtain ⟨bk, bf, cv, h1, h2, h3, h4, h5, h6, h7, h8, h9⟩ := h
  have hkg : bk ≠ g := fun e => by
    obtain ⟨es, c, hb, _⟩ := h2
    rw [e, h1] at hb; cases hb
  have hkc : ∀ c, cv.ownBlock = some c → c ≠ bk := fun c hc e => by
    obtain ⟨es, c2, hb, _⟩ := h2
    exact owns_ne h4 hb (fun cs x hh => by cases hh) (by rw [← e]; exact hc)
  have KF : Hid (∀ wx, M.Is wx bk (D.keep4 n) → Fr w wx (fun x => x = bk) → Disk wx B g { D with kept := D.keep4 n } ∧ Fr w wx B) := by
    intro wx hI hf
    exact ⟨⟨bk, bf, cv, (hf.block g (Array.getElem?_eq_some_iff.1 h1).1 (fun e => hkg e.symm)).trans h1, hI, is_fr h3 hf (fun e => h5 e.symm), owns_fr h4 hf hkc, h5, h6, h7, h8, h9⟩, hf.weak (fun x _ e => by rw [e]; exact h7)⟩
  have c2 := cell_of_block h1 2 _ rfl
  have KC : Hid (∀ wx, Fr w wx (fun x => x = bk) → wx.cell? ⟨g, 0, none⟩ = some (.map (some bk))) := by
    intro wx hf
    exact cell_of_block ((hf.block g (Array.getElem?_eq_some_iff.1 h1).1 (fun e => hkg e.symm)).trans h1) 0 _ rfl
  have KE : Hid (∀ wx, Fr w wx (fun x => x = bk) → wx.ownsRow 0 68 4 cv D.chg.length (D.chg.map Ch.cells).flatten) := fun wx hf => owns_fr h4 hf hkc
  have hI0 : M.Is w bk (D.keep4 0) := h2
  have hgl : g < w.heap.size := (Array.getElem?_eq_some_iff.1 h1).1
  have hbl : bk < w.heap.size := h2.lt
  have HI0 := hide hI0
  have HK := hide hk
  have HSZ := hide hsz
  obtain ⟨av, cp, rfl⟩ := owns_shape h4
  have hcap : D.chg.length ≤ cp := by
    rcases h4.2 with ⟨e, h0⟩ | ⟨gc, cap, cur, e, _, _, h0, _⟩
    · simp only [Value.slice.injEq] at e; omega
    · simp only [Value.slice.injEq] at e; omega
  clear h1 h2 h3 h4 h5 h6 h7 h8 h9 hkg hkc hI0 hk hsz
  go_enter Tryd.func42, Tryd.ntmps42
  go_wp2_with fail
  go_loopw [13, 5] (fun vi _ wx => ∃ k : Nat, k ≤ n ∧ vi = .int .i64 k ∧ M.Is wx bk (D.keep4 k) ∧ Fr w wx (fun x => x = bk)) (fun vi _ _ => n - (intOf vi).toNat)
  case atStart => exact ⟨0, Nat.zero_le _, rfl, HI0.out, Fr.refl _ _⟩
  case round =>
    obtain ⟨wx, hwx⟩ : ∃ z, z = wr := ⟨_, rfl⟩
    subst hwx
    obtain ⟨k, hkn, rfl, hIx, hfx⟩ := hrel
    by_cases hlt : k < n
    · obtain ⟨c, hc⟩ : ∃ c, D.chg[k]? = some c := ⟨_, List.getElem?_eq_getElem (by omega)⟩
      obtain ⟨gc, cap2, ecv, y0, y1, y2, y3⟩ := chg_at (KE.out wx hfx) hc
      simp only [Value.slice.injEq] at ecv
      obtain ⟨rfl, _, rfl⟩ := ecv
      have hfv := (hfx.alloc (.cells #[.int .i64 c.kind, .string c.name, .string c.dest, .string c.data] 68))
      have hIv0 : M.Is (wx.alloc (.cells #[.int .i64 c.kind, .string c.name, .string c.dest, .string c.data] 68)) bk (D.keep4 k) := hIx.kept (World.grownBy_alloc _ _ none) (by simp)
      have hIv : M.Is (wx.alloc (.cells #[.int .i64 c.kind, .string c.name, .string c.dest, .string c.data] 68)).drew bk (D.keep4 k) := hIv0
      have hon := act_any _ bk c (D.keep4 k) hIv (HK.out c (List.mem_of_getElem? hc)) (HSZ.out k c hlt hc)
      have hEv : (wx.alloc (.cells #[.int .i64 c.kind, .string c.name, .string c.dest, .string c.data] 68)).heap[wx.heap.size]? = some (.cells #[.int .i64 c.kind, .string c.name, .string c.dest, .string c.data] 68 (0, 0)) := heap_alloc_new _ _
      have c0 := KC.out _ hfv
      have HNX : Hid (D.keep4 (k + 1) = c.act (D.keep4 k)) := Dk.keep4_next hc
      have K2 : Hid (∀ w2, Fr (wx.alloc (.cells #[.int .i64 c.kind, .string c.name, .string c.dest, .string c.data] 68)).drew w2 (fun x => x = bk) → Fr w w2 (fun x => x = bk) ∧ w2.cell? ⟨g, 0, none⟩ = some (.map (some bk)) ∧ w2.heap[wx.heap.size]? = some (.cells #[.int .i64 c.kind, .string c.name, .string c.dest, .string c.data] 68 (0, 0))) := by
        intro w2 hf0
        have hf : Fr (wx.alloc (.cells #[.int .i64 c.kind, .string c.name, .string c.dest, .string c.data] 68)) w2 (fun x => x = bk) := ⟨hf0.os, hf0.tape, hf0.output, hf0.size, hf0.block⟩
        have h1 := hfv.trans hf (fun _ _ e => e)
        exact ⟨h1, KC.out _ h1, (hf.block wx.heap.size (Array.getElem?_eq_some_iff.1 hEv).1 (by show ¬ wx.heap.size = bk; have := hfx.size; omega)).trans hEv⟩
      have e0 := cell_of_block hEv 0 _ rfl
      have e1 := cell_of_block hEv 1 _ rfl
      have e2 := cell_of_block hEv 2 _ rfl
      have e3 := cell_of_block hEv 3 _ rfl
      have HON := hide hon
      clear hon hIv hIv0 hEv hc hIx hfx hfv
      go_wp2_with fail
      generalize wx.alloc (.cells #[.int .i64 c.kind, .string c.name, .string c.dest, .string c.data] 68) = wv at *
      go_region_held3 (fun W' => W'.cell? ⟨wx.heap.size, 0, none⟩ = some (.int .i64 c.kind) ∧ W'.cell? ⟨wx.heap.size, 1, none⟩ = some (.string c.name) ∧ W'.cell? ⟨wx.heap.size, 2, none⟩ = some (.string c.dest) ∧ W'.cell? ⟨wx.heap.size, 3, none⟩ = some (.string c.data) ∧ W'.cell? ⟨g, 0, none⟩ = some (.map (some bk))) (first | exact ⟨e0, e1, e2, e3, c0⟩ | exact ⟨t0, t1, t2, t3, t4⟩ | go_keep)
        (first | (go_at_call 44; (with_reducible refine Calls.mono HON.out ?_); rintro o w2 ⟨rfl, hI2, hf2⟩; obtain ⟨k1, t4, k4⟩ := K2.out w2 hf2; have t0 := cell_of_block k4 0 _ rfl; have t1 := cell_of_block k4 1 _ rfl; have t2 := cell_of_block k4 2 _ rfl; have t3 := cell_of_block k4 3 _ rfl))
      have HI2 := hide hI2
      have HK1 := hide k1
      clear hI2 k1 k4 hf2 t0 t1 t2 t3 t4 e0 e1 e2 e3 c0 y0 y1 y2 y3
      go_wp2_with fail
      go_roundw
      case rel => exact ⟨k + 1, by omega, by go_num, by rw [HNX.out]; exact HI2.out, HK1.out⟩
      case measure => simp [intOf]; omega
    · have hkk : k = n := by omega
      subst hkk
      have HFI := hide (KF.out wx hIx hfx)
      clear hIx hfx
      go_wp2_with fail
      go_end0
      exact ⟨rfl, HFI.out⟩
/-- A disk behind Sync. -/
def Dk.synced4 (D : Dk) : Dk := { D.step with kept := D.keep4 D.chg.length, chg := [] }
set_option maxRecDepth 100000 in
set_option maxHeartbeats 1000000 in
theorem sync4 (w : World) (B : Nat → Prop) (g : Nat) (D : Dk) (h : Disk w B g D) (hs : 0 ≤ D.steps ∧ D.steps ≤ 1000000) (hl : -9223372036854775808 ≤ D.left ∧ D.left ≤ 9223372036854775807) (hch : D.chg.length ≤ 100000) (hk : ∀ c ∈ D.chg, c.kinds) (hsz : ∀ k c, k < D.chg.length → D.chg[k]? = some c → c.data.size ≤ 1000000 ∧ ((M.get (D.keep4 k) c.name).getD ⟨#[]⟩).size ≤ 1000000) :
    Calls Tryd.prog 27 #[.pointer (some ⟨g, 0, none⟩)] w fun o w' => ((D.fails ∧ o = .returned (.iface 49 (.int .i64 10)) ∧ Disk w' B g D.fell) ∨ (¬ D.fails ∧ o = .returned .nilIface ∧ Disk w' B g D.synced4)) ∧ Fr w w' B := by
  have hst := step_any w B g D h hs hl
  have hBg : B g := by obtain ⟨_, _, _, _, _, _, _, _, h6, _⟩ := h; exact h6
  have K : Hid (∀ w1, Disk w1 B g D.step → Calls Tryd.prog 42 #[.pointer (some ⟨g, 0, none⟩), .int .i64 D.chg.length] w1 fun o w' => o = .returned (.tuple #[]) ∧ Disk w' B g { D.step with kept := D.keep4 D.chg.length } ∧ Fr w1 w' B) :=
    fun w1 h1 => keep4_any w1 B g D.step D.chg.length h1 (Nat.le_refl _) hch hk hsz
  have HST := hide hst
  clear hst h hsz hk hs hl
  go_enter Tryd.func27, Tryd.ntmps27
  go_wp2_with fail
  refine HST.out.mono ?_
  rintro o w1 ⟨hst1, hf1⟩
  rcases hst1 with ⟨hfa, rfl, hD1⟩ | ⟨hnf, rfl, hD1⟩
  · have HFA := hide hfa
    have HD1 := hide hD1
    have HF1 := hide hf1
    clear hfa hD1 hf1
    go_wp2_with fail
    go_ret
    exact ⟨.inl ⟨HFA.out, rfl, HD1.out⟩, HF1.out.weak (fun c _ e => by rw [e]; exact hBg)⟩
  · have HK := hide (K.out w1 hD1)
    obtain ⟨bk, bf, cv, h1, h2, h3, h4, h5, h6, h7, h8, h9⟩ := hD1
    obtain ⟨av, cp, rfl⟩ := owns_shape h4
    have c2 := cell_of_block h1 2 _ rfl
    have HNF := hide hnf
    have HF1 := hide hf1
    clear hnf hf1 h1 h2 h3 h4 h5 h6 h7 h8 h9 K
    have e1 : D.step.chg.length = D.chg.length := rfl
    rw [e1] at c2
    go_wp2_with fail
    refine HK.out.mono ?_
    rintro o w2 ⟨rfl, hD2, hf2⟩
    have HC := hide hD2.cut
    obtain ⟨bk, bf, cv, h1, h2, h3, h4, h5, h6, h7, h8, h9⟩ := hD2
    have c3 := cell_of_block h1 2 _ rfl
    have f3 := free_of_block h1 2
    have HF2 := hide hf2
    clear hf2 h1 h2 h3 h4 h5 h6 h7 h8 h9 c2
    go_wp2_with fail
    go_ret
    refine ⟨.inr ⟨HNF.out, rfl, HC.out⟩, ?_⟩
    exact ((HF1.out.weak (ex1 := B) (fun c _ e => by rw [e]; exact hBg)).trans HF2.out (fun _ _ e => e)).set ⟨g, 2, none⟩ _ (fun _ => hBg)
end Go.Proofs.YtlglomjodbjbaaaDoor
