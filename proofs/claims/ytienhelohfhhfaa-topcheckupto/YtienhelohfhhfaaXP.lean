/- check.allNeeds. -/
import Derived.Test.YtienhelohfhhfaaXO
import Derived.OwnWalk
namespace Go.Proofs.Ytienhelohfhhfaa.Vx
open Go.RowKit
attribute [local go_sem ↓] Go.wp_at_zero Go.wp_at_succ
theorem info36 : (Try.prog.info? 36).map (fun i => (i.zero, i.size, i.bytes)) = some (some (.slice none 0 0), 1, 24) := by kernel_rfl
namespace X
/-- One stack more. -/
def an1 (all : List Sk) (m : Nat) (st : Sk) (p : List (List (List Nat)) × List (List Nat)) : Option (List (List (List Nat)) × List (List Nat)) := (la all st m).map (fun q => (p.1 ++ [q.1], p.2 ++ [q.2]))
/-- check.allNeeds, of these stacks. -/
def anTo (all : List Sk) (m : Nat) (l : List Sk) : Option (List (List (List Nat)) × List (List Nat)) := l.foldl (fun o st => o.bind (an1 all m st)) (some ([], []))
/-- What lies in the two lists, while they are made. -/
structure AN (w : World) (base : Nat) (rv sv : Value) (VR VS : List Value) (RES : List (List (List Nat))) (SS : List (List Nat)) : Prop where
  rr : w.ownsRow base 36 1 rv VR.length VR
  ss : w.ownsRow base 37 1 sv VS.length VS
  lr : VR.length = RES.length
  ls : VS.length = SS.length
  each : ∀ (i : Nat) r L, VR[i]? = some r → RES[i]? = some L → ∃ lo hi, hi ≤ w.heap.size ∧ (∀ c, rv.ownBlock = some c ∨ sv.ownBlock = some c → ¬ (lo ≤ c ∧ c < hi)) ∧ ∀ w'' : World, (∀ c, lo ≤ c → c < hi → w''.heap[c]? = w.heap[c]?) → Gr.Lists w'' r (L.map Gr.ofN)
  some_ : ∀ (i : Nat) s S, VS[i]? = some s → SS[i]? = some S → ∃ lo hi, base ≤ lo ∧ hi ≤ w.heap.size ∧ (∀ c, rv.ownBlock = some c ∨ sv.ownBlock = some c → ¬ (lo ≤ c ∧ c < hi)) ∧ ∀ w'' : World, (∀ c, lo ≤ c → c < hi → w''.heap[c]? = w.heap[c]?) → Gr.Ints w'' s (Gr.ofN S)
  le : base ≤ w.heap.size
/-- What the appends may change. -/
def ExA (rv sv : Value) (c : Nat) : Prop := rv.ownBlock = some c ∨ sv.ownBlock = some c
theorem get_snoc {α : Type} {l : List α} {a v : α} {i : Nat} (h : (l ++ [a])[i]? = some v) : l[i]? = some v ∨ (i = l.length ∧ v = a) := by
  by_cases hi : i < l.length
  · rw [List.getElem?_append_left hi] at h; exact .inl h
  · rw [List.getElem?_append_right (by omega)] at h
    have h1 := (List.getElem?_eq_some_iff.1 h).1
    simp at h1
    have : i - l.length = 0 := by omega
    rw [this] at h
    exact .inr ⟨by omega, by simpa using h.symm⟩
theorem AN.push {w w5 : World} {base lo : Nat} {rv sv rv' sv' r s : Value} {VR VS : List Value} {RES : List (List (List Nat))} {SS : List (List Nat)} {L : List (List Nat)} {S : List Nat} (h : AN w base rv sv VR VS RES SS)
    (hf : Frame w w5 (ExA rv sv)) (hr : w5.ownsRow base 36 1 rv' (VR ++ [r]).length (VR ++ [r])) (hs : w5.ownsRow base 37 1 sv' (VS ++ [s]).length (VS ++ [s])) (hra : After w rv rv') (hsa : After w sv sv')
    (hlo : ∀ c, ExA rv sv c → c < lo) (hbl : base ≤ lo) (hnew : ∀ w'' : World, (∀ c, lo ≤ c → c < w.heap.size → w''.heap[c]? = w.heap[c]?) → Gr.Lists w'' r (L.map Gr.ofN) ∧ Gr.Ints w'' s (Gr.ofN S)) : AN w5 base rv' sv' (VR ++ [r]) (VS ++ [s]) (RES ++ [L]) (SS ++ [S]) := by
  have hex : ∀ (a b : Nat), b ≤ w.heap.size → (∀ c, rv.ownBlock = some c ∨ sv.ownBlock = some c → ¬ (a ≤ c ∧ c < b)) → ∀ c, rv'.ownBlock = some c ∨ sv'.ownBlock = some c → ¬ (a ≤ c ∧ c < b) := by
    intro a b hb h1 c hc hab
    rcases hc with hc | hc
    · rcases hra with e | ⟨g, e, hg⟩
      · exact h1 c (.inl (e ▸ hc)) hab
      · rw [e] at hc; have : g = c := by simpa using hc
        omega
    · rcases hsa with e | ⟨g, e, hg⟩
      · exact h1 c (.inr (e ▸ hc)) hab
      · rw [e] at hc; have : g = c := by simpa using hc
        omega
  have hkp : ∀ (a b : Nat), b ≤ w.heap.size → (∀ c, rv.ownBlock = some c ∨ sv.ownBlock = some c → ¬ (a ≤ c ∧ c < b)) → ∀ w'' : World, (∀ c, a ≤ c → c < b → w''.heap[c]? = w5.heap[c]?) → ∀ c, a ≤ c → c < b → w''.heap[c]? = w.heap[c]? := by
    intro a b hb h1 w'' hk c hc1 hc2
    rw [hk c hc1 hc2, hf.block c (by omega) (fun he => h1 c he ⟨hc1, hc2⟩)]
  have hn1 : ∀ c, rv.ownBlock = some c ∨ sv.ownBlock = some c → ¬ (lo ≤ c ∧ c < w.heap.size) := fun c hc hh => by have := hlo c hc; omega
  refine ⟨hr, hs, by simp [h.lr], by simp [h.ls], ?_, ?_, Nat.le_trans h.le hf.size⟩
  · intro i r2 L2 hv hl
    rcases get_snoc hv with hv | ⟨e, rfl⟩
    · have hi : i < RES.length := by rw [← h.lr]; exact (List.getElem?_eq_some_iff.1 hv).1
      rw [List.getElem?_append_left hi] at hl
      obtain ⟨a, b, h1, h2, h3⟩ := h.each i r2 L2 hv hl
      exact ⟨a, b, Nat.le_trans h1 hf.size, hex a b h1 h2, fun w'' hk => h3 w'' (hkp a b h1 h2 w'' hk)⟩
    · have e2 : L2 = L := by
        rw [e, h.lr, List.getElem?_append_right (Nat.le_refl _)] at hl
        simpa using hl.symm
      rw [e2]
      exact ⟨lo, w.heap.size, hf.size, hex lo _ (Nat.le_refl _) hn1, fun w'' hk => (hnew w'' (hkp lo _ (Nat.le_refl _) hn1 w'' hk)).1⟩
  · intro i r2 L2 hv hl
    rcases get_snoc hv with hv | ⟨e, rfl⟩
    · have hi : i < SS.length := by rw [← h.ls]; exact (List.getElem?_eq_some_iff.1 hv).1
      rw [List.getElem?_append_left hi] at hl
      obtain ⟨a, b, h0, h1, h2, h3⟩ := h.some_ i r2 L2 hv hl
      exact ⟨a, b, h0, Nat.le_trans h1 hf.size, hex a b h1 h2, fun w'' hk => h3 w'' (hkp a b h1 h2 w'' hk)⟩
    · have e2 : L2 = S := by
        rw [e, h.ls, List.getElem?_append_right (Nat.le_refl _)] at hl
        simpa using hl.symm
      rw [e2]
      exact ⟨lo, w.heap.size, hbl, hf.size, hex lo _ (Nat.le_refl _) hn1, fun w'' hk => (hnew w'' (hkp lo _ (Nat.le_refl _) hn1 w'' hk)).2⟩
theorem AN.keep {w w' : World} {base : Nat} {rv sv : Value} {VR VS : List Value} {RES : List (List (List Nat))} {SS : List (List Nat)} (h : AN w base rv sv VR VS RES SS) (hb : Below w.heap.size w w') : AN w' base rv sv VR VS RES SS := by
  have hf := Frame.of_below hb (fun _ => False)
  refine ⟨ownsT_frame h.rr hf (fun _ _ h => h), ownsT_frame h.ss hf (fun _ _ h => h), h.lr, h.ls, ?_, ?_, Nat.le_trans h.le hb.size⟩
  · intro i r L hv hl
    obtain ⟨a, b, h1, h2, h3⟩ := h.each i r L hv hl
    exact ⟨a, b, Nat.le_trans h1 hb.size, h2, fun w'' hk => h3 w'' (fun c hc1 hc2 => by rw [hk c hc1 hc2, hb.block c (by omega)])⟩
  · intro i r L hv hl
    obtain ⟨a, b, h0, h1, h2, h3⟩ := h.some_ i r L hv hl
    exact ⟨a, b, h0, Nat.le_trans h1 hb.size, h2, fun w'' hk => h3 w'' (fun c hc1 hc2 => by rw [hk c hc1 hc2, hb.block c (by omega)])⟩
/-- What allNeeds says: of each stack the rows of its resources, and the stacks. -/
def AllNeeds (w w' : World) (r : Option (List (List (List Nat)) × List (List Nat))) (o : Ending) : Prop :=
  (r = none ∧ o = .returned (.tuple #[.slice none 0 0, .slice none 0 0, .iface 68 (.int .i64 7)])) ∨
  (∃ p ar cr sv, r = some p ∧ o = .returned (.tuple #[.slice ar p.1.length cr, sv, .nilIface]) ∧ (∀ w'' : World, (∀ c, w.heap.size ≤ c → c < w'.heap.size → w''.heap[c]? = w'.heap[c]?) → Gr.Lists w'' sv (p.2.map Gr.ofN)) ∧
    (p.1.length = 0 ∨ ∃ b off, ar = some ⟨b, off, none⟩ ∧ ∀ (i : Nat) L, p.1[i]? = some L → ∃ u, w'.cell? ⟨b, off + i, none⟩ = some u ∧ Gr.Lists w' u (L.map Gr.ofN)))
theorem AN.done {w : World} {base : Nat} {rv sv : Value} {VR VS : List Value} {RES : List (List (List Nat))} {SS : List (List Nat)} (h : AN w base rv sv VR VS RES SS) :
    (∀ w'' : World, (∀ c, base ≤ c → c < w.heap.size → w''.heap[c]? = w.heap[c]?) → Gr.Lists w'' sv (SS.map Gr.ofN)) ∧ ∃ ar cr, rv = .slice ar RES.length cr ∧ (RES.length = 0 ∨ ∃ b off, ar = some ⟨b, off, none⟩ ∧ ∀ (i : Nat) L, RES[i]? = some L → ∃ u, w.cell? ⟨b, off + i, none⟩ = some u ∧ Gr.Lists w u (L.map Gr.ofN)) := by
  have hadd : ∀ g i : Nat, (⟨g, 0, none⟩ : Addr).add i = ⟨g, i, none⟩ := fun g i => by unfold Addr.add; split <;> simp_all
  constructor
  · intro w'' hw
    have hss := owns_at h.ss hw
    rcases h.ss.2 with ⟨e, h0⟩ | ⟨g, cap, cur, e, _, hg, _⟩
    · subst e
      have : SS = [] := List.eq_nil_of_length_eq_zero (by have := h.ls; omega)
      subst this
      exact ⟨none, 0, rfl, .inl rfl⟩
    · subst e
      refine ⟨some ⟨g, 0, none⟩, cap, by simp [h.ls], .inr ⟨g, 0, rfl, fun i l hl => ?_⟩⟩
      rw [List.getElem?_map] at hl
      obtain ⟨S, hS, rfl⟩ := Option.map_eq_some_iff.1 hl
      have hi : i < VS.length := by rw [h.ls]; exact (List.getElem?_eq_some_iff.1 hS).1
      have h1 := hss.cells (g := g) rfl i VS[i] (List.getElem?_eq_getElem hi)
      rw [hadd] at h1
      obtain ⟨a, b, ha, hb, _, h3⟩ := h.some_ i VS[i] S (List.getElem?_eq_getElem hi) hS
      exact ⟨VS[i], by rw [Nat.zero_add]; exact h1, h3 w'' (fun c hc1 hc2 => hw c (by omega) (by omega))⟩
  · rcases h.rr.2 with ⟨e, h0⟩ | ⟨g, cap, cur, e, _, hg, _⟩
    · exact ⟨none, 0, by rw [e, ← h.lr, h0], .inl (by have := h.lr; omega)⟩
    · refine ⟨some ⟨g, 0, none⟩, cap, by rw [e, h.lr], .inr ⟨g, 0, rfl, fun i L hL => ?_⟩⟩
      have hi : i < VR.length := by rw [h.lr]; exact (List.getElem?_eq_some_iff.1 hL).1
      have h1 := h.rr.cells (g := g) (by rw [e]; rfl) i VR[i] (List.getElem?_eq_getElem hi)
      rw [hadd] at h1
      obtain ⟨a, b, _, _, h3⟩ := h.each i VR[i] L (List.getElem?_eq_getElem hi) hL
      exact ⟨VR[i], by rw [Nat.zero_add]; exact h1, h3 w (fun _ _ _ => rfl)⟩
theorem Frame.grown {w w1 w2 : World} {ex : Nat → Prop} {row : Option Nat} (h : Frame w w1 ex) (hg : w1.grownBy w2 row) (hx : ∀ c, row = some c → ex c) : Frame w w2 ex :=
  h.trans (ex1 := fun c => row = some c) ⟨hg.os, hg.tape, hg.output, hg.size, fun c hc he => hg.block c hc (fun e => he e.symm)⟩ (fun c _ e => hx c e)
theorem Frame.weak {w w1 : World} (h : Frame w w1 (fun _ => False)) (ex : Nat → Prop) : Frame w w1 ex := ⟨h.os, h.tape, h.output, h.size, fun c hc _ => h.block c hc (fun f => f)⟩
theorem Frame.drew {w w1 : World} {ex : Nat → Prop} (h : Frame w w1 ex) : Frame w w1.drew ex := ⟨h.os, h.tape, h.output, h.size, h.block⟩
/-- What was built ahead. -/
theorem news1 {w : World} (cs : Array Value) (e : TypeId) (o : Obj) : ∀ j u, cs.toList[j]? = some u → ((w.alloc (.cells cs e)).alloc o).drew.cell? ((⟨w.heap.size, 0, none⟩ : Addr).add j) = some u := by
  refine news_of (e := e) (fr := (0, 0)) ?_
  show ((w.alloc (.cells cs e)).alloc o).heap[w.heap.size]? = _
  rw [heap_alloc_old _ _ (lt_alloc _ _)]; exact heap_alloc_new _ _
theorem news2 {w : World} (cs : Array Value) (e : TypeId) (o : Obj) : ∀ j u, cs.toList[j]? = some u → ((w.alloc o).alloc (.cells cs e)).drew.cell? ((⟨w.heap.size + 1, 0, none⟩ : Addr).add j) = some u := by
  refine news_of (e := e) (fr := (0, 0)) ?_
  have h1 : (w.alloc o).heap.size = w.heap.size + 1 := by simp
  rw [← h1]; exact heap_alloc_new _ _
theorem news3 {w w' : World} {row : Option Nat} (cs : Array Value) (e : TypeId) (o : Obj) (hg : ((w.alloc (.cells cs e)).alloc o).drew.grownBy w' row) (hr : ∀ c, row = some c → c < w.heap.size) : ∀ j u, cs.toList[j]? = some u → w'.cell? ((⟨w.heap.size, 0, none⟩ : Addr).add j) = some u := by
  refine news_of (e := e) (fr := (0, 0)) ?_
  rw [hg.block w.heap.size (by show _ < ((w.alloc _).alloc _).heap.size; simp; omega) (fun e => by have := hr _ e.symm; omega)]
  show ((w.alloc (.cells cs e)).alloc o).heap[w.heap.size]? = _
  rw [heap_alloc_old _ _ (lt_alloc _ _)]; exact heap_alloc_new _ _
theorem news4 {w w' : World} {row : Option Nat} (cs : Array Value) (e : TypeId) (o : Obj) (hg : ((w.alloc o).alloc (.cells cs e)).drew.grownBy w' row) (hr : ∀ c, row = some c → c < w.heap.size) : ∀ j u, cs.toList[j]? = some u → w'.cell? ((⟨w.heap.size + 1, 0, none⟩ : Addr).add j) = some u := by
  refine news_of (e := e) (fr := (0, 0)) ?_
  have h1 : (w.alloc o).heap.size = w.heap.size + 1 := by simp
  rw [hg.block (w.heap.size + 1) (by show _ < ((w.alloc _).alloc _).heap.size; simp) (fun e => by have := hr _ e.symm; omega)]
  rw [← h1]; exact heap_alloc_new _ _
end X
set_option maxRecDepth 100000 in
set_option maxHeartbeats 8000000 in
theorem allNeeds_any (m : Nat) (l : List Sk) (v : Value) (w : World) (h : X.Stks m w v l) (h8 : l.length ≤ 8) (hr8 : ∀ x : Sk, x ∈ l → x.res.length ≤ 8 ∧ (∀ r : Rs, r ∈ x.res → r.parts.length ≤ 6)) (hbk : ∀ x : Sk, x ∈ l → X.bulkS m x ≤ 2000000) :
    Calls Try.prog 41 #[v] w fun o w' => X.AllNeeds w w' (X.anTo l m l) o ∧ Below w.heap.size w w' := by
  obtain ⟨aA, cA, rfl⟩ := V.Row.shape h
  have H := hide h
  have HBK := hide hbk
  have HR8 := hide hr8
  clear h hbk hr8
  go_enter Try.func41, Try.ntmps41
  go_wp2_with fail
  go_loopw [11, 2, 3, 6, 7, 8] (fun vi vr vs _ _ _ wr => ∃ (k : Nat) (VR VS : List Value) (RES : List (List (List Nat))) (SS : List (List Nat)), k ≤ l.length ∧ vi = .int .i64 k ∧ X.anTo l m (l.take k) = some (RES, SS) ∧ RES.length = k ∧ X.AN wr w.heap.size vr vs VR VS RES SS ∧ Below w.heap.size w wr) (fun vi _ _ _ _ _ _ => l.length - (intOf vi).toNat)
  case atStart => exact ⟨0, [], [], [], [], Nat.zero_le _, rfl, rfl, rfl, ⟨World.ownsRow_nil .., World.ownsRow_nil .., rfl, rfl, (fun _ _ _ hv => by cases hv), (fun _ _ _ hv => by cases hv), Nat.le_refl _⟩, Below.refl _ _⟩
  case round =>
    obtain ⟨wO, hwO⟩ : ∃ z, z = wr := ⟨_, rfl⟩
    subst hwO
    obtain ⟨k, VR, VS, RES, SS, hk, rfl, hAn, hRl, hAN, hB⟩ := hrel
    obtain ⟨a2, c2, e2⟩ := owns_shape hAN.rr
    obtain ⟨a3, c3, e3⟩ := owns_shape hAN.ss
    by_cases hlt : k < l.length
    · obtain ⟨b, off, cap, x, ai, ci, ar, cr, ao, co, e1, hx, hI, hR, hO, y0, y1, y2, y3⟩ := X.elemS H.out k hlt
      simp only [Value.slice.injEq] at e1
      obtain ⟨rfl, _, rfl⟩ := e1
      replace y0 := kept_cell hB y0
      replace y1 := kept_cell hB y1
      replace y2 := kept_cell hB y2
      replace y3 := kept_cell hB y3
      have hxm : x ∈ l := List.mem_of_getElem? hx
      have hbs := HBK.out x hxm
      have hbs2 := id hbs
      unfold X.bulkS at hbs2
      have hsrc : Hid (X.Src m w l x (some ⟨b, off, none⟩) ai ar cA ci cr) := ⟨H.out, hI, hR, by omega, by omega, by omega, fun z hz => by have := HBK.out z hz; unfold X.bulkS at this; omega⟩
      have hbA : Below wO.heap.size wO ((wO.alloc (.cells #[.string x.name, .slice ai x.ins.length ci, .slice ar x.res.length cr, .slice ao x.outs.length co] 66)).alloc (.cells #[.slice (some ⟨b, off, none⟩) l.length cA, .string x.name, .slice ai x.ins.length ci, .slice ar x.res.length cr, .slice ao x.outs.length co, .slice none 0 0, .slice none 0 0] 133)) := ((Below.refl _ _).alloc (Nat.le_refl _) _).alloc (by simp) _
      have hn0 : ((wO.alloc (.cells #[.string x.name, .slice ai x.ins.length ci, .slice ar x.res.length cr, .slice ao x.outs.length co] 66)).alloc (.cells #[.slice (some ⟨b, off, none⟩) l.length cA, .string x.name, .slice ai x.ins.length ci, .slice ar x.res.length cr, .slice ao x.outs.length co, .slice none 0 0, .slice none 0 0] 133)).heap[wO.heap.size + 1]? = some (.cells #[.slice (some ⟨b, off, none⟩) l.length cA, .string x.name, .slice ai x.ins.length ci, .slice ar x.res.length cr, .slice ao x.outs.length co, .slice none 0 0, .slice none 0 0] 133 (0, 0)) := by
        have h0 := heap_alloc_new (wO.alloc (.cells #[.string x.name, .slice ai x.ins.length ci, .slice ar x.res.length cr, .slice ao x.outs.length co] 66)) (.cells #[.slice (some ⟨b, off, none⟩) l.length cA, .string x.name, .slice ai x.ins.length ci, .slice ar x.res.length cr, .slice ao x.outs.length co, .slice none 0 0, .slice none 0 0] 133)
        have h1 : (wO.alloc (.cells #[.string x.name, .slice ai x.ins.length ci, .slice ar x.res.length cr, .slice ao x.outs.length co] 66)).heap.size = wO.heap.size + 1 := by simp
        rw [h1] at h0; exact h0
      have hlook := lookAll_any m w l x (some ⟨b, off, none⟩) ai ar ao cA ci cr co (wO.heap.size + 1) hsrc hO h8 (HR8.out x hxm).1 hbs (HR8.out x hxm).2 (by have := hB.size; omega) ((wO.alloc (.cells #[.string x.name, .slice ai x.ins.length ci, .slice ar x.res.length cr, .slice ao x.outs.length co] 66)).alloc (.cells #[.slice (some ⟨b, off, none⟩) l.length cA, .string x.name, .slice ai x.ins.length ci, .slice ar x.res.length cr, .slice ao x.outs.length co, .slice none 0 0, .slice none 0 0] 133)) (hB.trans (hbA.mono hB.size)) hn0
      have hAn1 : X.anTo l m (l.take (k + 1)) = X.an1 l m x (RES, SS) := by
        have h1 : X.anTo l m (l.take (k + 1)) = (X.anTo l m (l.take k)).bind (X.an1 l m x) := X.foldB_next (X.an1 l m) (some ([], [])) hx
        rw [h1, hAn]; rfl
      have hAns : X.anTo l m (l.take (k + 1)) = none → X.anTo l m l = none := fun h => X.foldB_stop (X.an1 l m) (some ([], [])) h
      have HLOOK := hide hlook
      have HAN := hide hAN
      have HB := hide hB
      have HBA := hide hbA
      have HAN1 := hide hAn1
      have HANS := hide hAns
      clear hlook hAN hB hbA hAn1 hAns hsrc hbs hbs2 hI hR hO hx hAn
      subst e2 e3
      go_wp2_with fail
      refine HLOOK.out.mono ?_
      rintro o w2 hl2
      rcases hl2 with ⟨hr, rfl, hb2⟩ | ⟨p, rvn, svn, hr, rfl, hn2, hnew, hF2⟩
      · have HR := hide hr
        have HB2 := hide hb2
        clear hr hb2 y0 y1 y2 y3 HLOOK
        go_wp2_with fail
        go_ret3
        refine ⟨.inl ⟨HANS.out ?_, rfl⟩, ?_⟩
        · rw [HAN1.out, X.an1, HR.out]; rfl
        · exact (HB.out.trans (HBA.out.mono HB.out.size)).trans HB2.out
      · have hW1 : ((wO.alloc (.cells #[.string x.name, .slice ai x.ins.length ci, .slice ar x.res.length cr, .slice ao x.outs.length co] 66)).alloc (.cells #[.slice (some ⟨b, off, none⟩) l.length cA, .string x.name, .slice ai x.ins.length ci, .slice ar x.res.length cr, .slice ao x.outs.length co, .slice none 0 0, .slice none 0 0] 133)).heap.size = wO.heap.size + 2 := by simp
        have hB2 : Below wO.heap.size wO w2 := HBA.out.trans (hF2.below HBA.out.size (fun c e => by omega))
        have hAN2 := HAN.out.keep hB2
        obtain ⟨⟨a7, c7, e7, _⟩, ⟨a8, c8, e8, _⟩⟩ := hnew w2 (fun _ _ _ => rfl)
        rw [List.length_map] at e7
        rw [Gr.ofN_length] at e8
        subst e7 e8
        have hres : X.anTo l m (l.take (k + 1)) = some (RES ++ [p.1], SS ++ [p.2]) := by rw [HAN1.out, X.an1, hr]; rfl
        have c5 : w2.cell? ⟨wO.heap.size + 1, 5, none⟩ = some (.slice a7 p.1.length c7) := cell_of_block hn2 5 _ rfl
        have c6 : w2.cell? ⟨wO.heap.size + 1, 6, none⟩ = some (.slice a8 p.2.length c8) := cell_of_block hn2 6 _ rfl
        have hVl : VR.length ≤ 8 := by have := HAN.out.lr; omega
        have hSl : SS.length = RES.length := by
          have key : ∀ (l2 : List Sk) (q q' : List (List (List Nat)) × List (List Nat)), q.2.length = q.1.length → l2.foldl (fun o st => o.bind (X.an1 l m st)) (some q) = some q' → q'.2.length = q'.1.length := fun l2 q q' hq h => X.foldB_keeps (X.an1 l m) (fun q => q.2.length = q.1.length) (fun x b b' hb hx => by unfold X.an1 at hx; obtain ⟨z, _, rfl⟩ := Option.map_eq_some_iff.1 hx; simp [hb]) l2 q q' hq h
          have h1 := key _ _ _ rfl hres
          simp at h1; omega
        have hVs : VS.length ≤ 8 := by have := HAN.out.ls; omega
        have HAN2 := hide hAN2
        have HB2 := hide hB2
        have HRES := hide hres
        have HNEW := hide hnew
        have HN2 := hide hn2
        have HW1 := hide hW1
        clear hr hnew hn2 hF2 hAN2 hB2 hW1 hres HLOOK y0 y1 y2 y3 hSl
        have hle2 : w.heap.size ≤ w2.heap.size := HAN2.out.le
        have HRR := hide HAN2.out.rr
        have HSS := hide HAN2.out.ss
        obtain ⟨i6, hi6, hx0, hx1, hx2⟩ := info_parts info36
        obtain ⟨i7, hi7, hz0, hz1, hz2⟩ := info_parts info37
        have KC5 : Hid (∀ W, X.Frame w2 W (X.ExA (.slice a2 VR.length c2) (.slice a3 VS.length c3)) → W.cell? ⟨wO.heap.size + 1, 5, none⟩ = some (.slice a7 p.1.length c7)) := by
          intro W hW
          have h1 := hW.block (wO.heap.size + 1) (Array.getElem?_eq_some_iff.1 HN2.out).1 (fun e => e.elim (X.ownsT_type HRR.out HN2.out (by decide)) (X.ownsT_type HSS.out HN2.out (by decide)))
          exact cell_of_block (h1.trans HN2.out) 5 _ rfl
        have KC6 : Hid (∀ W, X.Frame w2 W (X.ExA (.slice a2 VR.length c2) (.slice a3 VS.length c3)) → W.cell? ⟨wO.heap.size + 1, 6, none⟩ = some (.slice a8 p.2.length c8)) := by
          intro W hW
          have h1 := hW.block (wO.heap.size + 1) (Array.getElem?_eq_some_iff.1 HN2.out).1 (fun e => e.elim (X.ownsT_type HRR.out HN2.out (by decide)) (X.ownsT_type HSS.out HN2.out (by decide)))
          exact cell_of_block (h1.trans HN2.out) 6 _ rfl
        have HB1 : Hid (∀ ob, X.Frame w2 (w2.alloc ob).drew (fun _ => False)) := fun ob => ((X.Frame.refl _ _).alloc ob).drew
        have HB3 : Hid (∀ ob ob2, X.Frame w2 ((w2.alloc ob).alloc ob2).drew (fun _ => False)) := fun ob ob2 => (((X.Frame.refl _ _).alloc ob).alloc ob2).drew
        have KA1 : Hid (∀ W wA, X.Frame w2 W (fun _ => False) → W.grownBy wA (Value.slice a2 VR.length c2).ownBlock → X.Frame w2 wA (X.ExA (.slice a2 VR.length c2) (.slice a3 VS.length c3))) := fun W wA hW hg => (hW.weak _).grown hg (fun c e => .inl e)
        have KB1 : Hid (∀ W wB, X.Frame w2 W (fun _ => False) → W.grownBy wB (Value.slice a3 VS.length c3).ownBlock → X.Frame w2 wB (X.ExA (.slice a2 VR.length c2) (.slice a3 VS.length c3))) := fun W wB hW hg => (hW.weak _).grown hg (fun c e => .inr e)
        have KA2 : Hid (∀ W wA, X.Frame w2 W (fun _ => False) → W.grownBy wA (Value.slice a2 VR.length c2).ownBlock → wA.ownsRow w.heap.size 37 1 (.slice a3 VS.length c3) VS.length VS) := fun W wA hW hg => (X.ownsT_frame HSS.out hW (fun _ _ h => h)).kept hg (X.owns_two HSS.out HRR.out (by decide))
        have KB2 : Hid (∀ W wB, X.Frame w2 W (fun _ => False) → W.grownBy wB (Value.slice a3 VS.length c3).ownBlock → wB.ownsRow w.heap.size 36 1 (.slice a2 VR.length c2) VR.length VR) := fun W wB hW hg => (X.ownsT_frame HRR.out hW (fun _ _ h => h)).kept hg (X.owns_two HRR.out HSS.out (by decide))
        have LA : Hid (∀ c, (Value.slice a2 VR.length c2).ownBlock = some c → c < w2.heap.size) := fun c e => (HRR.out.lt c e).2
        have LB : Hid (∀ c, (Value.slice a3 VS.length c3).ownBlock = some c → c < w2.heap.size) := fun c e => (HSS.out.lt c e).2
        have c5a := KC5.out (w2.alloc (.cells #[.slice a8 p.2.length c8] 37)).drew ((X.Frame.refl _ _).alloc _).drew
        have c6a := KC6.out (w2.alloc (.cells #[.slice a7 p.1.length c7] 36)).drew ((X.Frame.refl _ _).alloc _).drew
        go_wp2_with fail
        go_region_law
          (first
            | (refine step_append_lies _ ?_ (.tmp 22) (.tmp 25) 91 ?_ w.heap.size 36 i6 (.slice none 0 0) 1 24 Try.underlying91 hi6 hx0 hx1 hx2 rfl Nat.one_pos (.slice a2 VR.length c2) VR.length VR ?_ ?_ ⟨w2.heap.size, 0, none⟩ 1 1 [.slice a7 p.1.length c7] ?_ rfl ?_ ?_ Nat.one_pos ?_ ?_ ?_ _ rfl ?_; rfl; rfl; rfl; exact (HRR.out.alloc _).drew; rfl; exact news_alloc_drew w2 #[.slice a7 p.1.length c7] 36 _ rfl; simp [Value.oneCell']; (unfold maxLen; omega); omega; (first | omega | (simp; omega)); intro gA capA wA hownA hgrowA hatA hltA; have nA := KA1.out _ wA (HB1.out _) hgrowA; have q5 := KC5.out _ nA; have q6 := KC6.out _ nA; have oB := KA2.out _ wA (HB1.out _) hgrowA; have leA := nA.size)
            | (refine step_append_lies _ ?_ (.tmp 22) (.tmp 25) 91 ?_ w.heap.size 36 i6 (.slice none 0 0) 1 24 Try.underlying91 hi6 hx0 hx1 hx2 rfl Nat.one_pos (.slice a2 VR.length c2) VR.length VR ?_ ?_ ⟨w2.heap.size, 0, none⟩ 1 1 [.slice a7 p.1.length c7] ?_ rfl ?_ ?_ Nat.one_pos ?_ ?_ ?_ _ rfl ?_; rfl; rfl; rfl; exact ((HRR.out.alloc _).alloc _).drew; rfl; exact X.news1 #[.slice a7 p.1.length c7] 36 _; simp [Value.oneCell']; (unfold maxLen; omega); omega; (first | omega | (simp; omega)); intro gA capA wA hownA hgrowA hatA hltA; have nA := KA1.out _ wA (HB3.out _ _) hgrowA; have q5 := KC5.out _ nA; have q6 := KC6.out _ nA; have oB := KA2.out _ wA (HB3.out _ _) hgrowA; have leA := nA.size)
            | (refine step_append_lies _ ?_ (.tmp 22) (.tmp 25) 91 ?_ w.heap.size 36 i6 (.slice none 0 0) 1 24 Try.underlying91 hi6 hx0 hx1 hx2 rfl Nat.one_pos (.slice a2 VR.length c2) VR.length VR ?_ ?_ ⟨w2.heap.size + 1, 0, none⟩ 1 1 [.slice a7 p.1.length c7] ?_ rfl ?_ ?_ Nat.one_pos ?_ ?_ ?_ _ rfl ?_; rfl; rfl; rfl; exact ((HRR.out.alloc _).alloc _).drew; rfl; exact X.news2 #[.slice a7 p.1.length c7] 36 _; simp [Value.oneCell']; (unfold maxLen; omega); omega; (first | omega | (simp; omega)); intro gA capA wA hownA hgrowA hatA hltA; have nA := KA1.out _ wA (HB3.out _ _) hgrowA; have q5 := KC5.out _ nA; have q6 := KC6.out _ nA; have oB := KA2.out _ wA (HB3.out _ _) hgrowA; have leA := nA.size)
            | (refine step_append_lies _ ?_ (.tmp 27) (.tmp 30) 36 ?_ w.heap.size 37 i7 (.slice none 0 0) 1 24 Try.underlying36 hi7 hz0 hz1 hz2 rfl Nat.one_pos (.slice a3 VS.length c3) VS.length VS ?_ ?_ ⟨wA.heap.size, 0, none⟩ 1 1 [.slice a8 p.2.length c8] ?_ rfl ?_ ?_ Nat.one_pos ?_ ?_ ?_ _ rfl ?_; rfl; rfl; rfl; exact oB.alloc _; rfl; exact news_alloc wA #[.slice a8 p.2.length c8] 37 _ rfl; simp [Value.oneCell']; (unfold maxLen; omega); omega; (first | omega | (simp; omega)); intro gB capB wB hownB hgrowB hatB hltB; skip)
            | (refine step_append_lies _ ?_ (.tmp 27) (.tmp 30) 36 ?_ w.heap.size 37 i7 (.slice none 0 0) 1 24 Try.underlying36 hi7 hz0 hz1 hz2 rfl Nat.one_pos (.slice a3 VS.length c3) VS.length VS ?_ ?_ ⟨w2.heap.size, 0, none⟩ 1 1 [.slice a8 p.2.length c8] ?_ rfl ?_ ?_ Nat.one_pos ?_ ?_ ?_ _ rfl ?_; rfl; rfl; rfl; exact oB; rfl; exact X.news3 #[.slice a8 p.2.length c8] 37 _ hgrowA LA.out; simp [Value.oneCell']; (unfold maxLen; omega); omega; (first | omega | (simp; omega)); intro gB capB wB hownB hgrowB hatB hltB; skip)
            | (refine step_append_lies _ ?_ (.tmp 27) (.tmp 30) 36 ?_ w.heap.size 37 i7 (.slice none 0 0) 1 24 Try.underlying36 hi7 hz0 hz1 hz2 rfl Nat.one_pos (.slice a3 VS.length c3) VS.length VS ?_ ?_ ⟨w2.heap.size + 1, 0, none⟩ 1 1 [.slice a8 p.2.length c8] ?_ rfl ?_ ?_ Nat.one_pos ?_ ?_ ?_ _ rfl ?_; rfl; rfl; rfl; exact oB; rfl; exact X.news4 #[.slice a8 p.2.length c8] 37 _ hgrowA LA.out; simp [Value.oneCell']; (unfold maxLen; omega); omega; (first | omega | (simp; omega)); intro gB capB wB hownB hgrowB hatB hltB; skip))
        all_goals
          have hfr : X.Frame w2 wB (X.ExA (.slice a2 VR.length c2) (.slice a3 VS.length c3)) := by
            first
              | exact (nA.alloc _).grown hgrowB (fun c e => .inr e)
              | exact nA.grown hgrowB (fun c e => .inr e)
          have hrr : wB.ownsRow w.heap.size 36 1 (.slice (some ⟨gA, 0, none⟩) (VR.length + 1) capA) (VR ++ [Value.slice a7 p.1.length c7]).length (VR ++ [Value.slice a7 p.1.length c7]) := by
            rw [List.length_append]
            first
              | exact (World.ownsRow.alloc hownA _).kept hgrowB (X.owns_two hownA oB (by decide))
              | exact World.ownsRow.kept hownA hgrowB (X.owns_two hownA oB (by decide))
          have hss : wB.ownsRow w.heap.size 37 1 (.slice (some ⟨gB, 0, none⟩) (VS.length + 1) capB) (VS ++ [Value.slice a8 p.2.length c8]).length (VS ++ [Value.slice a8 p.2.length c8]) := by
            rw [List.length_append]; exact hownB
          have hra : X.After w2 (.slice a2 VR.length c2) (.slice (some ⟨gA, 0, none⟩) (VR.length + 1) capA) := by
            rcases hatA with h | h
            · exact .inl h.symm
            · exact .inr ⟨gA, rfl, by first | omega | (simp at h; omega)⟩
          have hsa : X.After w2 (.slice a3 VS.length c3) (.slice (some ⟨gB, 0, none⟩) (VS.length + 1) capB) := by
            rcases hatB with h | h
            · exact .inl h.symm
            · exact .inr ⟨gB, rfl, by first | omega | (simp at h; omega)⟩
          have hlo : ∀ c, (X.ExA (.slice a2 VR.length c2) (.slice a3 VS.length c3)) c → c < wO.heap.size + 2 := by
            intro c e
            rcases e with e | e
            · have := (HAN.out.rr.lt c e).2; omega
            · have := (HAN.out.ss.lt c e).2; omega
          have hAN5 := HAN2.out.push hfr hrr hss hra hsa hlo (Nat.le_trans HAN.out.le (Nat.le_add_right _ 2)) (fun w'' hk => HNEW.out w'' (fun c h1 h2 => hk c (by have := HW1.out; omega) h2))
          have hB5 : Below w.heap.size w wB := (HB.out.trans (HB2.out.mono HB.out.size)).trans (hfr.below hle2 (fun c e => by
            rcases e with e | e
            · exact (HRR.out.lt c e).1
            · exact (HSS.out.lt c e).1))
          have HAN5 := hide hAN5
          have HB5 := hide hB5
          clear hAN5 hB5 hlo hra hsa hss hrr hfr hownA hownB hgrowA hgrowB hatA hatB nA q5 q6 oB
          go_wp2_with fail
          go_roundw
          case rel => exact ⟨k + 1, _, _, _, _, by omega, by go_num, HRES.out, by simp [hRl], HAN5.out, HB5.out⟩
          case measure => simp [intOf]; omega
    · have hfin : X.anTo l m l = some (RES, SS) := by rw [← hAn, List.take_of_length_le (by omega)]
      have HFIN := hide hfin
      have HAN := hide hAN
      have HB := hide hB
      subst e2 e3
      clear hfin hAN hB hAn
      go_wp2_with fail
      go_ret3
      obtain ⟨h1, ar, cr, e, h2⟩ := HAN.out.done
      rw [e]
      exact ⟨.inr ⟨(RES, SS), ar, cr, _, HFIN.out, rfl, h1, h2⟩, HB.out⟩
end Go.Proofs.Ytienhelohfhhfaa.Vx
