/- disk: do. -/
import Derived.Test.YtckbfjoffbnjeaaDoorDC
import Derived.Deep.RegionLaw
import Derived.Deep.DeepFit
import Derived.OwnWalk
namespace Go.Proofs.YtckbfjoffbnjeaaDoor
open Go.RowKit
attribute [local go_sem ↓] Go.wp_at_zero Go.wp_at_succ
theorem info119 : (Tryd.prog.info? 70).map (fun i => (i.zero, i.size, i.bytes)) = some (some (.agg #[.int .i64 0, .string ⟨#[]⟩, .string ⟨#[]⟩, .string ⟨#[]⟩]), 4, 56) := by kernel_rfl
theorem news_of {w : World} {g : Nat} {cs : Array Value} {e : TypeId} {fr : Nat × Nat} (h : w.heap[g]? = some (.cells cs e fr)) : ∀ j u, cs.toList[j]? = some u → w.cell? ((⟨g, 0, none⟩ : Addr).add j) = some u := World.news_of_block h
theorem news_alloc (w : World) (cs : Array Value) (e : TypeId) (g : Nat) (h : w.heap.size = g) : ∀ j u, cs.toList[j]? = some u → (w.alloc (.cells cs e)).cell? ((⟨g, 0, none⟩ : Addr).add j) = some u := by
  subst h
  exact news_of (heap_alloc_new w _)
theorem news_alloc_drew (w : World) (cs : Array Value) (e : TypeId) (g : Nat) (h : w.heap.size = g) : ∀ j u, cs.toList[j]? = some u → (w.alloc (.cells cs e)).drew.cell? ((⟨g, 0, none⟩ : Addr).add j) = some u := news_alloc w cs e g h
theorem u113 : Tryd.prog.underlying 56 = some (.slice 70) := by kernel_rfl
theorem owns_shape {w : World} {base n z : Nat} {t : TypeId} {v : Value} {xs : List Value} (h : w.ownsRow base t z v n xs) : ∃ a c, v = .slice a n c := by
  rcases h.2 with ⟨rfl, h0⟩ | ⟨g, cap, cur, rfl, _⟩
  · exact ⟨none, 0, by rw [h0]⟩
  · exact ⟨_, _, rfl⟩
theorem grown_fr {w w1 w2 : World} {row : Option Nat} (hf : Fr w w1 (fun _ => False)) (hg : w1.grownBy w2 row) : Fr w w2 (fun c => row = some c) := (hf.weak (fun _ _ h => h.elim)).grown hg (fun _ e _ => e)
/-- One change more is laid down. -/
theorem Disk.pushed {w W wA : World} {B : Nat → Prop} {g bk bf gA : Nat} {cv nv : Value} {st lf : Int} {dn : Bool} {D' : Dk} {n : Nat} {xs : List Value} (h1 : w.heap[g]? = some (.cells #[.map (some bk), .map (some bf), cv, .int .i64 st, .int .i64 lf, .bool dn] 58 (0, 0)))
    (h2 : M.Is w bk D'.kept) (h3 : M.Is w bf D'.files) (h4 : w.ownsRow 0 70 4 cv n xs) (h5 : bk ≠ bf) (h6 : B g) (h7 : B bk) (h8 : B bf) (hf : Fr w W (fun _ => False)) (hg : W.grownBy wA cv.ownBlock)
    (ho : wA.ownsRow 0 70 4 nv D'.chg.length (D'.chg.map Ch.cells).flatten) (hn : nv.ownBlock = some gA) (e1 : D'.steps = st) (e2 : D'.left = lf) (e3 : D'.down = dn) : Disk (wA.setCell ⟨g, 2, none⟩ nv) (fun x => B x ∨ x = gA) g D' := by
  have hfA := grown_fr hf hg
  have hgA : wA.heap[g]? = some (.cells #[.map (some bk), .map (some bf), cv, .int .i64 st, .int .i64 lf, .bool dn] 58 (0, 0)) :=
    (hfA.block g (Array.getElem?_eq_some_iff.1 h1).1 (owns_ne h4 h1 (fun cs x hh => by cases hh))).trans h1
  have hkA := is_fr h2 hfA (by obtain ⟨es, c, hb, _⟩ := h2; exact owns_ne h4 hb (fun cs x hh => by cases hh))
  have hfA2 := is_fr h3 hfA (by obtain ⟨es, c, hb, _⟩ := h3; exact owns_ne h4 hb (fun cs x hh => by cases hh))
  have hset := Fr.set1 wA g 2 nv
  have hk : bk ≠ g := fun e => by
    obtain ⟨es, c, hb, _⟩ := h2
    rw [e, h1] at hb; cases hb
  have hf2 : bf ≠ g := fun e => by
    obtain ⟨es, c, hb, _⟩ := h3
    rw [e, h1] at hb; cases hb
  refine ⟨bk, bf, nv, ?_, is_fr hkA hset hk, is_fr hfA2 hset hf2, owns_fr ho hset (fun c hc e => owns_ne ho hgA (fun cs x hh => by cases hh) (by rw [← e]; exact hc)), h5, .inl h6, .inl h7, .inl h8, fun c hc => .inr (by rw [hn] at hc; exact (Option.some.inj hc).symm)⟩
  rw [e1, e2, e3]
  exact block_set (i := 2) hgA _
/-- A disk behind a change that was done. -/
def Dk.did (D : Dk) (c : Ch) : Dk := { D.step with files := c.on D.files, chg := D.chg ++ [c] }
/-- What the methods that change files say. -/
def Doing (w w' : World) (B : Nat → Prop) (g : Nat) (D D' : Dk) (o : Ending) : Prop :=
  ((D.fails ∧ o = .returned (.iface 59 (.int .i64 10)) ∧ Disk w' B g D.fell) ∨ (¬ D.fails ∧ o = .returned .nilIface ∧ ∃ B', Disk w' B' g D' ∧ ∀ x, B' x → B x ∨ w.heap.size ≤ x)) ∧ Fr w w' B
set_option maxRecDepth 100000 in
set_option maxHeartbeats 2000000 in
theorem do_any (w : World) (B : Nat → Prop) (g : Nat) (D : Dk) (c : Ch) (h : Disk w B g D) (hB : ∀ x, B x → x < w.heap.size) (hs : 0 ≤ D.steps ∧ D.steps ≤ 1000000) (hl : -9223372036854775808 ≤ D.left ∧ D.left ≤ 9223372036854775807) (hk : c.kind = 0 ∨ c.kind = 1) (hlen : c.data.size ≤ 1000000 ∧ ((M.get D.files c.name).getD ⟨#[]⟩).size ≤ 1000000) (hch : D.chg.length ≤ 100000) :
    Calls Tryd.prog 33 #[.pointer (some ⟨g, 0, none⟩), .agg #[.int .i64 c.kind, .string c.name, .string c.dest, .string c.data]] w fun o w' => Doing w w' B g D (D.did c) o := by
  have hf0 : Fr w (w.alloc (.cells #[.int .i64 c.kind, .string c.name, .string c.dest, .string c.data] 70)) (fun _ => False) := (Fr.refl _ _).alloc _
  have hD0 := h.fr hf0 (fun _ _ h => h)
  have hE0 : (w.alloc (.cells #[.int .i64 c.kind, .string c.name, .string c.dest, .string c.data] 70)).heap[w.heap.size]? = some (.cells #[.int .i64 c.kind, .string c.name, .string c.dest, .string c.data] 70 (0, 0)) := heap_alloc_new _ _
  have hst := step_any _ B g D hD0 hs hl
  have hBg : B g := by obtain ⟨_, _, _, _, _, _, _, _, h6, _⟩ := h; exact h6
  have hgl := hB g hBg
  have HST := hide hst
  have HE0 := hide hE0
  have HF0 := hide hf0
  have HB := hide hB
  clear hst hE0 hf0 hD0 h hB
  go_enter Tryd.func33, Tryd.ntmps33
  go_wp2_with fail
  generalize w.alloc (.cells #[.int .i64 c.kind, .string c.name, .string c.dest, .string c.data] 70) = w0 at *
  go_fit HST.out
  rintro o w1 ⟨hst1, hf1⟩
  have hf01 := (HF0.out.weak (ex1 := fun c => c = g) (fun _ _ h => h.elim)).trans hf1 (fun _ _ h => h)
  have hE1 := (hf1.block w.heap.size (Array.getElem?_eq_some_iff.1 HE0.out).1 (by show ¬ w.heap.size = g; omega)).trans HE0.out
  have hs01 := HF0.out.size
  clear HST HE0
  rcases hst1 with ⟨hfa, rfl, hD1⟩ | ⟨hnf, rfl, hD1⟩
  · have HFA := hide hfa
    have HD1 := hide hD1
    have HF01 := hide hf01
    clear hfa hD1 hf01 hf1 hE1
    go_wp2_with fail
    go_ret
    exact ⟨.inl ⟨HFA.out, rfl, HD1.out⟩, HF01.out.weak (fun c _ e => by rw [e]; exact hBg)⟩
  · obtain ⟨bk, bf, cv, h1, h2, h3, h4, h5, h6, h7, h8, h9⟩ := hD1
    have hon := on_any w1.drew bf c D.files h3 hk hlen
    have e0 := cell_of_block hE1 0 _ rfl
    have e1 := cell_of_block hE1 1 _ rfl
    have e2 := cell_of_block hE1 2 _ rfl
    have e3 := cell_of_block hE1 3 _ rfl
    have c1 := cell_of_block h1 1 _ rfl
    obtain ⟨av, cp, ecv⟩ := owns_shape h4
    subst ecv
    have hbg : bf ≠ g := fun e => by
      obtain ⟨es, c, hb, _⟩ := h3
      rw [e, h1] at hb; cases hb
    have hbw : bf ≠ w.heap.size := fun e => by
      obtain ⟨es, c, hb, _⟩ := h3
      rw [e, hE1] at hb; cases hb
    have K2 : Hid (∀ w2, Fr w1.drew w2 (fun x => x = bf) → w2.heap[g]? = some (.cells #[.map (some bk), .map (some bf), .slice av D.chg.length cp, .int .i64 D.step.steps, .int .i64 D.step.left, .bool D.step.down] 58 (0, 0)) ∧ M.Is w2 bk D.kept ∧ w2.ownsRow 0 70 4 (.slice av D.chg.length cp) D.chg.length (D.chg.map Ch.cells).flatten ∧ w2.heap[w.heap.size]? = some (.cells #[.int .i64 c.kind, .string c.name, .string c.dest, .string c.data] 70 (0, 0))) := by
      intro w2 hf0
      have hf : Fr w1 w2 (fun x => x = bf) := ⟨hf0.os, hf0.tape, hf0.output, hf0.size, hf0.block⟩
      exact ⟨(hf.block g (Array.getElem?_eq_some_iff.1 h1).1 (fun e => hbg e.symm)).trans h1, is_fr h2 hf h5, owns_fr h4 hf (fun x hx e => by
        obtain ⟨es, c, hb, _⟩ := h3
        exact owns_ne h4 hb (fun cs x hh => by cases hh) (by rw [← e]; exact hx)), (hf.block w.heap.size (Array.getElem?_eq_some_iff.1 hE1).1 (fun e => hbw e.symm)).trans hE1⟩
    have HON := hide hon
    have HNF := hide hnf
    have HF01 := hide hf01
    have H9 := hide h9
    have H678 := hide (And.intro h6 (And.intro h7 h8))
    have H5 := hide h5
    clear hon hnf hf01 hf1 hE1 h1 h2 h3 h4 h5 h6 h7 h8 h9 hbg hbw
    go_wp2_with fail
    go_region_held3 (fun W' => W'.cell? ⟨w.heap.size, 0, none⟩ = some (.int .i64 c.kind) ∧ W'.cell? ⟨w.heap.size, 1, none⟩ = some (.string c.name) ∧ W'.cell? ⟨w.heap.size, 2, none⟩ = some (.string c.dest) ∧ W'.cell? ⟨w.heap.size, 3, none⟩ = some (.string c.data) ∧ W'.cell? ⟨g, 1, none⟩ = some (.map (some bf))) (first | exact ⟨e0, e1, e2, e3, c1⟩ | exact ⟨t0, t1, t2, t3, t4⟩ | go_keep)
      (first | (go_at_call 47; (with_reducible refine Calls.mono HON.out ?_); rintro o w2 ⟨rfl, hI2, hf2⟩; obtain ⟨k1, k2, k3, k4⟩ := K2.out w2 hf2; have t0 := cell_of_block k4 0 _ rfl; have t1 := cell_of_block k4 1 _ rfl; have t2 := cell_of_block k4 2 _ rfl; have t3 := cell_of_block k4 3 _ rfl; have t4 := cell_of_block k1 1 _ rfl))
    have hf12 : Fr w w2 B := (HF01.out.weak (fun x _ e => by rw [e]; exact hBg)).trans (⟨hf2.os, hf2.tape, hf2.output, hf2.size, hf2.block⟩ : Fr w1 w2 (fun x => x = bf)) (fun x _ e => by rw [e]; exact H678.out.2.2)
    have c2 := cell_of_block k1 2 _ rfl
    have f2 := free_of_block k1 2
    have hle2 : w.heap.size ≤ w2.heap.size := hf12.size
    have KG : Hid (∀ ob wA, (w2.alloc ob).drew.grownBy wA (Value.slice av D.chg.length cp).ownBlock → wA.cell? ⟨g, 2, none⟩ = some (.slice av D.chg.length cp) ∧ wA.frozen? ⟨g, 2, none⟩ = false) := by
      intro ob wA hg
      have h := grown_fr ((Fr.refl w2 _).alloc ob).drew hg
      have hb := (h.block g (Array.getElem?_eq_some_iff.1 k1).1 (owns_ne k3 k1 (fun cs x hh => by cases hh))).trans k1
      exact ⟨cell_of_block hb 2 _ rfl, free_of_block hb 2⟩
    have c2a : ∀ ob, (w2.alloc ob).cell? ⟨g, 2, none⟩ = some (.slice av D.chg.length cp) := fun ob => kept_cell ((Below.refl _ _).alloc (Nat.le_refl _) ob) c2
    have K1 := hide k1
    have KK2 := hide k2
    have K3 := hide k3
    have HI2 := hide hI2
    have HF12 := hide hf12
    clear k1 k2 k3 hI2 hf12 hf2 k4 HON K2 HF01
    obtain ⟨i0, hi0, hz0, hz1, hz2⟩ := info_parts info119
    have h4pos : 0 < 4 := by decide
    go_wp2_with fail
    go_region_law
      (first
        | (refine step_append_lies _ ?_ (.tmp 21) (.tmp 23) 56 ?_ 0 70 i0 (.agg #[.int .i64 0, .string ⟨#[]⟩, .string ⟨#[]⟩, .string ⟨#[]⟩]) 4 56 u113 hi0 hz0 hz1 hz2 rfl h4pos (.slice av D.chg.length cp) D.chg.length (D.chg.map Ch.cells).flatten ?_ ?_ ⟨w2.heap.size, 0, none⟩ 1 1 [.int .i64 c.kind, .string c.name, .string c.dest, .string c.data] ?_ rfl ?_ ?_ Nat.one_pos ?_ ?_ ?_ _ rfl ?_; rfl; rfl; rfl; exact (K3.out.alloc _).drew; rfl; exact news_alloc_drew w2 #[.int .i64 c.kind, .string c.name, .string c.dest, .string c.data] 70 _ rfl; simp [Value.oneCell']; (unfold maxLen; omega); omega; exact Nat.zero_le _; intro gA capA wA hownA hgrowA hatA hltA; obtain ⟨r2, s2⟩ := KG.out _ wA hgrowA))
    all_goals
      have hown2 : wA.ownsRow 0 70 4 (.slice (some ⟨gA, 0, none⟩) (D.chg.length + 1) capA) (D.did c).chg.length ((D.did c).chg.map Ch.cells).flatten := by
        have e1 : (D.did c).chg = D.chg ++ [c] := rfl
        rw [e1, List.length_append, List.map_append, List.flatten_append]
        exact hownA
      have hnew := Disk.pushed (B := B) (D' := D.did c) (gA := gA) K1.out KK2.out HI2.out K3.out H5.out H678.out.1 H678.out.2.1 H678.out.2.2 ((Fr.refl w2 _).alloc _).drew hgrowA hown2 rfl rfl rfl rfl
      have hfin : Fr w (wA.setCell ⟨g, 2, none⟩ (.slice (some ⟨gA, 0, none⟩) (D.chg.length + 1) capA)) B := ((HF12.out.alloc _).drew.grown hgrowA (fun x hx _ => H9.out x hx)).set _ _ (fun _ => hBg)
      have hin : ∀ x, (B x ∨ x = gA) → B x ∨ w.heap.size ≤ x := by
        intro x hx
        rcases hx with hx | rfl
        · exact .inl hx
        · rcases hatA with h | h
          · exact .inl (H9.out _ h)
          · right
            simp at h
            omega
      have HNEW := hide hnew
      have HFIN := hide hfin
      have HIN := hide hin
      clear hnew hfin hin hown2 hownA hgrowA hatA
      go_wp2_with fail
      go_ret
      exact ⟨.inr ⟨HNF.out, rfl, _, HNEW.out, HIN.out⟩, HFIN.out⟩
end Go.Proofs.YtckbfjoffbnjeaaDoor
