/- For DiskSays: the reference's List, Restart. -/
import Derived.Test.YtmlbcdofogffkabHIc
import Derived.Deep.RegionLaw
import Derived.Deep.RegionWith
import Derived.Deep.DeepFit
import Derived.OwnWalk
import Derived.Test.YtmlbcdofogffkabDR
import Derived.Deep.Upon
import Derived.Lib.AppendZeros
import Derived.Deep.CutBlock
namespace Go.Proofs.Ytmlbcdofogffkab
open Go.RowKit
attribute [local go_sem ↓] Go.wp_at_zero Go.wp_at_succ
theorem info125 : (Try.prog.info? 151).map (fun i => (i.zero, i.size, i.bytes)) = some (some (.agg #[.int .i64 0, .string ⟨#[]⟩, .string ⟨#[]⟩, .string ⟨#[]⟩]), 4, 56) := by kernel_rfl
theorem u73 : Try.prog.underlying 73 = some (.slice 151) := by kernel_rfl
theorem owns_apart {w : World} {base base2 n m z y : Nat} {s t : TypeId} {v u : Value} {xs ys : List Value} (h : w.ownsRow base s z v n xs) (k : w.ownsRow base2 t y u m ys) (hne : s ≠ t) (c : Nat) (hc : v.ownBlock = some c) : u.ownBlock ≠ some c := by
  rcases h.2 with ⟨rfl, _⟩ | ⟨g, cap, cur, rfl, _, hg, _⟩
  · cases hc
  · have e : g = c := by simpa [Value.ownBlock] using hc
    subst e
    exact owns_ne k hg (fun cs x hh => hne (by cases hh; rfl))
theorem owns_base' {w : World} {base n z c : Nat} {s : TypeId} {v : Value} {xs : List Value} (h : w.ownsRow base s z v n xs) (hc : v.ownBlock = some c) : base ≤ c := by
  rcases h.2 with ⟨rfl, _⟩ | ⟨g, cap, cur, rfl, hb, hg, _⟩
  · cases hc
  · have e : g = c := by simpa [Value.ownBlock] using hc
    subst e
    exact hb
namespace R
/-- A turn that may be. -/
def Tn.ok (t : Tn) : Prop := t.kind = 1 ∨ t.kind = 2 ∨ t.kind = 4 ∨ t.kind = 5
def Tn.row (t : Tn) : List Value := [.int .i64 t.kind, .string t.name, .string t.data, .string t.dest]
/-- The reference's disk, as plain lists. -/
structure Rk where
  kept : List Fl
  now : List Fl
  wait : List Tn
  fuse : Int
  down : Bool
  steps : Int
/-- Block g is this disk; its blocks are in C. -/
def Lies (w : World) (C : Nat → Prop) (g : Nat) (X : Rk) : Prop :=
  ∃ kv nv wv, w.heap[g]? = some (blk kv nv wv X.fuse X.down X.steps) ∧ w.ownsRow 0 148 2 kv X.kept.length (flat X.kept) ∧ w.ownsRow 0 148 2 nv X.now.length (flat X.now) ∧ w.ownsRow 0 151 4 wv X.wait.length (X.wait.map Tn.row).flatten ∧ C g ∧ (∀ c, kv.ownBlock = some c → C c) ∧ (∀ c, nv.ownBlock = some c → C c) ∧ ∀ c, wv.ownBlock = some c → C c
theorem Lies.fr {w w' : World} {C ex : Nat → Prop} {g : Nat} {X : Rk} (h : Lies w C g X) (hf : Fr w w' ex) (hne : ∀ c, C c → ¬ ex c) : Lies w' C g X := by
  obtain ⟨kv, nv, wv, h1, h2, h3, h4, h5, h6, h7, h8⟩ := h
  exact ⟨kv, nv, wv, (hf.block g (Array.getElem?_eq_some_iff.1 h1).1 (hne g h5)).trans h1, owns_fr h2 hf (fun c hc => hne c (h6 c hc)), owns_fr h3 hf (fun c hc => hne c (h7 c hc)), owns_fr h4 hf (fun c hc => hne c (h8 c hc)), h5, h6, h7, h8⟩
theorem owns_lt {w : World} {base n z c : Nat} {s : TypeId} {v : Value} {xs : List Value} (h : w.ownsRow base s z v n xs) (hc : v.ownBlock = some c) : c < w.heap.size := by
  rcases h.2 with ⟨rfl, _⟩ | ⟨g, cap, cur, rfl, _, hg, _⟩
  · cases hc
  · have e : g = c := by simpa [Value.ownBlock] using hc
    subst e
    exact (Array.getElem?_eq_some_iff.1 hg).1
theorem Lies.shrink {w : World} {C : Nat → Prop} {g : Nat} {X : Rk} (h : Lies w C g X) : Lies w (fun x => C x ∧ x < w.heap.size) g X := by
  obtain ⟨kv, nv, wv, h1, h2, h3, h4, h5, h6, h7, h8⟩ := h
  exact ⟨kv, nv, wv, h1, h2, h3, h4, ⟨h5, (Array.getElem?_eq_some_iff.1 h1).1⟩, fun c hc => ⟨h6 c hc, owns_lt h2 hc⟩, fun c hc => ⟨h7 c hc, owns_lt h3 hc⟩, fun c hc => ⟨h8 c hc, owns_lt h4 hc⟩⟩
/-- What a step answers, and what is then. -/
def Rk.code (X : Rk) : Int := (R.step X.fuse X.down X.steps).1
def Rk.step (X : Rk) : Rk := { X with fuse := (R.step X.fuse X.down X.steps).2.1, down := (R.step X.fuse X.down X.steps).2.2.1, steps := (R.step X.fuse X.down X.steps).2.2.2 }
def Rk.did (X : Rk) (t : Tn) : Rk := if X.code = 0 then { X.step with now := turned X.now t, wait := X.wait ++ [t] } else X.step
theorem code_or (X : Rk) : X.code = 0 ∨ X.code = 10 := by
  unfold Rk.code R.step
  split
  · exact .inr rfl
  · split
    · exact .inr rfl
    · exact .inl rfl
end R
theorem turned_any (w : World) (v : Value) (S : List R.Fl) (t : R.Tn) (h : R.Fls w v S) (hl : S.length ≤ 1000000) (hk : t.ok) (hsz : (R.has S t.name).size + t.data.size ≤ 100000) :
    Calls Try.prog 90 #[v, .agg #[.int .i64 t.kind, .string t.name, .string t.data, .string t.dest]] w fun o w' => ∃ u, o = .returned u ∧ w'.ownsRow w.heap.size 148 2 u (R.turned S t).length (R.flat (R.turned S t)) ∧ Fr w w' (fun _ => False) := by
  rcases hk with hk | hk | hk | hk
  · exact turned1 w v S t h hl hk
  · exact turned2 w v S t h hl hk hsz
  · exact turned4 w v S t h hl hk
  · exact turned5 w v S t h hl hk
set_option maxRecDepth 100000 in
set_option maxHeartbeats 1000000 in
theorem refStep_lies (w : World) (C : Nat → Prop) (g : Nat) (X : R.Rk) (h : R.Lies w C g X) (hs : 0 ≤ X.steps ∧ X.steps ≤ 1000000) (hl : -9223372036854775808 ≤ X.fuse ∧ X.fuse ≤ 9223372036854775807) :
    Calls Try.prog 36 #[.pointer (some ⟨g, 0, none⟩)] w fun o w' => o = .returned (.int .i64 X.code) ∧ R.Lies w' C g X.step ∧ Fr w w' (fun c => c = g) := by
  obtain ⟨kv, nv, wv, h1, h2, h3, h4, h5, h6, h7, h8⟩ := h
  refine (refStep_any w g kv nv wv _ _ _ h1 hs hl).mono ?_
  rintro o w' ⟨ho, hb, hf⟩
  have ne : ∀ {s : TypeId} {n z : Nat} {v : Value} {xs : List Value}, w.ownsRow 0 s z v n xs → s ≠ 75 → ∀ c, v.ownBlock = some c → ¬ c = g := fun k hs c hc e => owns_ne k h1 (fun cs x hh => hs (by unfold R.blk at hh; cases hh; rfl)) (by rw [← e]; exact hc)
  exact ⟨ho, ⟨kv, nv, wv, hb, owns_fr h2 hf (ne h2 (by decide)), owns_fr h3 hf (ne h3 (by decide)), owns_fr h4 hf (ne h4 (by decide)), h5, h6, h7, h8⟩, hf⟩
/-- One turn more is laid down. -/
theorem R.Lies.pushed {w W wA : World} {C : Nat → Prop} {g gA n : Nat} {kv nv wv uv : Value} {fu st : Int} {dn : Bool} {X' : R.Rk} {xs : List Value} (h1 : w.heap[g]? = some (R.blk kv nv wv fu dn st)) (h2 : w.ownsRow 0 148 2 kv X'.kept.length (R.flat X'.kept)) (h3 : w.ownsRow 0 148 2 nv X'.now.length (R.flat X'.now)) (h4 : w.ownsRow 0 151 4 wv n xs)
    (h5 : C g) (h6 : ∀ c, kv.ownBlock = some c → C c) (h7 : ∀ c, nv.ownBlock = some c → C c) (hf : Fr w W (fun _ => False)) (hg : W.grownBy wA wv.ownBlock) (ho : wA.ownsRow 0 151 4 uv X'.wait.length (X'.wait.map R.Tn.row).flatten) (hn : uv.ownBlock = some gA) (e1 : X'.fuse = fu) (e2 : X'.down = dn) (e3 : X'.steps = st) :
    R.Lies (wA.setCell ⟨g, 2, none⟩ uv) (fun x => C x ∨ x = gA) g X' := by
  have hfA := grown_fr hf hg
  have hgA : wA.heap[g]? = some (R.blk kv nv wv fu dn st) := (hfA.block g (Array.getElem?_eq_some_iff.1 h1).1 (owns_ne h4 h1 (fun cs x hh => by unfold R.blk at hh; cases hh))).trans h1
  have h2A := owns_fr h2 hfA (fun c hc e => owns_apart h2 h4 (by decide) c hc e)
  have h3A := owns_fr h3 hfA (fun c hc e => owns_apart h3 h4 (by decide) c hc e)
  have hset := Fr.set1 wA g 2 uv
  have ne : ∀ {s : TypeId} {n z b : Nat} {v : Value} {xs : List Value}, wA.ownsRow b s z v n xs → s ≠ 75 → ∀ c, v.ownBlock = some c → ¬ c = g := fun k hs c hc e => owns_ne k hgA (fun cs x hh => hs (by unfold R.blk at hh; cases hh; rfl)) (by rw [← e]; exact hc)
  refine ⟨kv, nv, uv, ?_, owns_fr h2A hset (ne h2A (by decide)), owns_fr h3A hset (ne h3A (by decide)), owns_fr ho hset (ne ho (by decide)), .inl h5, fun c hc => .inl (h6 c hc), fun c hc => .inl (h7 c hc), fun c hc => .inr (by rw [hn] at hc; exact (Option.some.inj hc).symm)⟩
  rw [e1, e2, e3]
  exact block_set (i := 2) hgA _
set_option maxRecDepth 100000 in
set_option maxHeartbeats 2000000 in
theorem refDo_any (w : World) (C : Nat → Prop) (g : Nat) (X : R.Rk) (t : R.Tn) (h : R.Lies w C g X) (hC : ∀ x, C x → x < w.heap.size) (hs : 0 ≤ X.steps ∧ X.steps ≤ 1000000) (hl : -9223372036854775808 ≤ X.fuse ∧ X.fuse ≤ 9223372036854775807) (hk : t.ok) (hn : X.now.length ≤ 1000000) (hsz : (R.has X.now t.name).size + t.data.size ≤ 100000) (hw : X.wait.length ≤ 100000) :
    Calls Try.prog 85 #[.pointer (some ⟨g, 0, none⟩), .agg #[.int .i64 t.kind, .string t.name, .string t.data, .string t.dest]] w fun o w' => o = .returned (.int .i64 X.code) ∧ (∃ C', R.Lies w' C' g (X.did t) ∧ ∀ x, C' x → C x ∨ w.heap.size ≤ x) ∧ Fr w w' C := by
  have hf0 : Fr w (w.alloc (.cells #[.int .i64 t.kind, .string t.name, .string t.data, .string t.dest] 151)) (fun _ => False) := (Fr.refl _ _).alloc _
  have hE0 : (w.alloc (.cells #[.int .i64 t.kind, .string t.name, .string t.data, .string t.dest] 151)).heap[w.heap.size]? = some (.cells #[.int .i64 t.kind, .string t.name, .string t.data, .string t.dest] 151 (0, 0)) := heap_alloc_new _ _
  have HST := hide (refStep_lies _ C g X (h.fr hf0 (fun _ _ h => h)) hs hl)
  have hCg : C g := by obtain ⟨_, _, _, _, _, _, _, h5, _⟩ := h; exact h5
  have hgl := hC g hCg
  have HE0 := hide hE0
  have HF0 := hide hf0
  have HC := hide hC
  clear hE0 hf0 h hC
  go_enter Try.func85, Try.ntmps85
  go_wp2_with fail
  generalize w.alloc (.cells #[.int .i64 t.kind, .string t.name, .string t.data, .string t.dest] 151) = w0 at *
  go_fit HST.out
  rintro o w1 ⟨rfl, hD1, hf1⟩
  have hf01 := (HF0.out.weak (ex1 := fun c => c = g) (fun _ _ h => h.elim)).trans hf1 (fun _ _ h => h)
  have hE1 := (hf1.block w.heap.size (Array.getElem?_eq_some_iff.1 HE0.out).1 (by show ¬ w.heap.size = g; omega)).trans HE0.out
  have hs01 := HF0.out.size
  clear HST HE0
  rcases R.code_or X with hc | hc
  · have HDID : Hid (X.did t = { X.step with now := R.turned X.now t, wait := X.wait ++ [t] }) := by show _ = _; unfold R.Rk.did; rw [if_pos hc]
    have HX0 := hide hc
    rw [hc]
    obtain ⟨kv, nv, wv, h1, h2, h3, h4, h5, h6, h7, h8⟩ := hD1
    have e0 := cell_of_block hE1 0 _ rfl
    have e1 := cell_of_block hE1 1 _ rfl
    have e2 := cell_of_block hE1 2 _ rfl
    have e3 := cell_of_block hE1 3 _ rfl
    have c1 := cell_of_block h1 1 _ rfl
    have q1 := free_of_block h1 1
    have HT := hide (turned_any w1.drew nv X.now t (R.Fls.of_owns (w := w1) h3) hn hk hsz)
    obtain ⟨a1, p1, env⟩ := owns_shape h3
    obtain ⟨a2, p2, ewv⟩ := owns_shape h4
    subst env ewv
    have ne : ∀ {s : TypeId} {n z : Nat} {v : Value} {xs : List Value}, w1.ownsRow 0 s z v n xs → s ≠ 75 → ∀ c, v.ownBlock = some c → ¬ c = g := fun k hs c hc e => owns_ne k h1 (fun cs x hh => hs (by unfold R.blk at hh; cases hh; rfl)) (by rw [← e]; exact hc)
    have HNE2 := hide (ne h2 (by decide))
    have HNE4 := hide (ne h4 (by decide))
    have K2 : Hid (∀ w2, Fr w1.drew w2 (fun _ => False) → w2.heap[g]? = some (R.blk kv (.slice a1 X.now.length p1) (.slice a2 X.wait.length p2) X.step.fuse X.step.down X.step.steps) ∧ w2.ownsRow 0 148 2 kv X.kept.length (R.flat X.kept) ∧ w2.ownsRow 0 151 4 (.slice a2 X.wait.length p2) X.wait.length (X.wait.map R.Tn.row).flatten ∧ w2.heap[w.heap.size]? = some (.cells #[.int .i64 t.kind, .string t.name, .string t.data, .string t.dest] 151 (0, 0))) := by
      intro w2 hf0
      have hf : Fr w1 w2 (fun _ => False) := ⟨hf0.os, hf0.tape, hf0.output, hf0.size, hf0.block⟩
      exact ⟨(hf.block g (Array.getElem?_eq_some_iff.1 h1).1 (fun e => e)).trans h1, owns_fr h2 hf (fun _ _ e => e), owns_fr h4 hf (fun _ _ e => e), (hf.block w.heap.size (Array.getElem?_eq_some_iff.1 hE1).1 (fun e => e)).trans hE1⟩
    have HF01 := hide hf01
    have H678 := hide (And.intro h6 (And.intro h7 h8))
    clear hf01 hf1 hE1 h1 h2 h3 h4 h5 h6 h7 h8 hc ne
    go_wp2_with fail
    go_region_with (first | (go_at_call 90; (with_reducible refine Calls.mono HT.out ?_); rintro o w2 ⟨u, rfl, ho2, hf2⟩; obtain ⟨a3, p3, rfl⟩ := owns_shape ho2; obtain ⟨k1, k2, k3, k4⟩ := K2.out w2 hf2; have t4 := free_of_block k1 1; have t5 := cell_of_block k1 1 _ rfl))
    all_goals
      have hs2 : w.heap.size ≤ w1.heap.size := HF01.out.size
      have hs3 : w1.heap.size ≤ w2.heap.size := hf2.size
      have hnv : ∀ c, (Value.slice a3 (R.turned X.now t).length p3).ownBlock = some c → C c ∨ w.heap.size ≤ c := fun c hc => .inr (by
        have := owns_base' ho2 hc
        have e : w1.drew.heap.size = w1.heap.size := rfl
        omega)
      have hfr2 : Fr w w2 C := (HF01.out.weak (fun x _ e => by rw [e]; exact hCg)).trans (⟨hf2.os, hf2.tape, hf2.output, hf2.size, hf2.block⟩ : Fr w1 w2 (fun _ => False)) (fun _ _ e => e.elim)
      have hset := Fr.set1 w2 g 1 (.slice a3 (R.turned X.now t).length p3)
      have ne : ∀ {s : TypeId} {n z b : Nat} {v : Value} {xs : List Value}, w2.ownsRow b s z v n xs → s ≠ 75 → ∀ c, v.ownBlock = some c → ¬ c = g := fun k hs c hc e => owns_ne k k1 (fun cs x hh => hs (by unfold R.blk at hh; cases hh; rfl)) (by rw [← e]; exact hc)
      have m1 := block_set (i := 1) k1 (.slice a3 (R.turned X.now t).length p3)
      have m2 := owns_fr k2 hset (ne k2 (by decide))
      have m3 := owns_base (owns_fr ho2 hset (ne ho2 (by decide))) (Nat.zero_le _)
      have m4 := owns_fr k3 hset (ne k3 (by decide))
      have m5 := (hset.block w.heap.size (Array.getElem?_eq_some_iff.1 k4).1 (by show ¬ w.heap.size = g; omega)).trans k4
      have hfr3 : Fr w (w2.setCell ⟨g, 1, none⟩ (.slice a3 (R.turned X.now t).length p3)) C := hfr2.trans hset (fun x _ e => by rw [e]; exact hCg)
      have HNV := hide hnv
      clear k1 k2 k3 k4 hf2 hfr2 hset ne ho2 HT K2 HF01 t4 t5 e0 e1 e2 e3 c1 q1 hnv
      generalize w2.setCell ⟨g, 1, none⟩ (.slice a3 (R.turned X.now t).length p3) = w3 at *
      have e0 := cell_of_block m5 0 _ rfl
      have e1 := cell_of_block m5 1 _ rfl
      have e2 := cell_of_block m5 2 _ rfl
      have e3 := cell_of_block m5 3 _ rfl
      have c2 := cell_of_block m1 2 _ rfl
      have f2 := free_of_block m1 2
      have KG : Hid (∀ ob wA, (w3.alloc ob).drew.grownBy wA (Value.slice a2 X.wait.length p2).ownBlock → wA.cell? ⟨g, 2, none⟩ = some (.slice a2 X.wait.length p2) ∧ wA.frozen? ⟨g, 2, none⟩ = false) := by
        intro ob wA hg
        have h := grown_fr ((Fr.refl w3 _).alloc ob).drew hg
        have hb := (h.block g (Array.getElem?_eq_some_iff.1 m1).1 (owns_ne m4 m1 (fun cs x hh => by cases hh))).trans m1
        exact ⟨cell_of_block hb 2 _ rfl, free_of_block hb 2⟩
      have c2a : ∀ ob, (w3.alloc ob).cell? ⟨g, 2, none⟩ = some (.slice a2 X.wait.length p2) := fun ob => kept_cell ((Below.refl _ _).alloc (Nat.le_refl _) ob) c2
      have hle3 : w.heap.size ≤ w3.heap.size := hfr3.size
      have M1 : Hid (w3.heap[g]? = some (R.blk kv (.slice a3 (R.turned X.now t).length p3) (.slice a2 X.wait.length p2) X.step.fuse X.step.down X.step.steps)) := m1
      have M2 := hide m2
      have M3 := hide m3
      have M4 := hide m4
      have HFR := hide hfr3
      clear m1 m2 m3 m4 m5 hfr3
      obtain ⟨i0, hi0, hz0, hz1, hz2⟩ := info_parts info125
      have h4pos : 0 < 4 := by decide
      go_wp2_with fail
      go_region_law
        (first
          | (refine step_append_lies _ ?_ (.tmp 23) (.tmp 25) 73 ?_ 0 151 i0 (.agg #[.int .i64 0, .string ⟨#[]⟩, .string ⟨#[]⟩, .string ⟨#[]⟩]) 4 56 u73 hi0 hz0 hz1 hz2 rfl h4pos (.slice a2 X.wait.length p2) X.wait.length (X.wait.map R.Tn.row).flatten ?_ ?_ ⟨w3.heap.size, 0, none⟩ 1 1 [.int .i64 t.kind, .string t.name, .string t.data, .string t.dest] ?_ rfl ?_ ?_ Nat.one_pos ?_ ?_ ?_ _ rfl ?_; rfl; rfl; rfl; exact (M4.out.alloc _).drew; rfl; exact news_alloc_drew w3 #[.int .i64 t.kind, .string t.name, .string t.data, .string t.dest] 151 _ rfl; simp [Value.oneCell']; (unfold maxLen; omega); omega; exact Nat.zero_le _; intro gA capA wA hownA hgrowA hatA hltA; obtain ⟨r2, s2⟩ := KG.out _ wA hgrowA))
      all_goals
        have hown2 : wA.ownsRow 0 151 4 (.slice (some ⟨gA, 0, none⟩) (X.wait.length + 1) capA) (X.wait ++ [t]).length ((X.wait ++ [t]).map R.Tn.row).flatten := by
          rw [List.length_append, List.map_append, List.flatten_append]
          exact hownA
        have hnew := R.Lies.pushed (C := fun x => C x ∨ w.heap.size ≤ x) (X' := { X.step with now := R.turned X.now t, wait := X.wait ++ [t] }) (gA := gA) M1.out M2.out M3.out M4.out (.inl hCg) (fun c hc => .inl (H678.out.1 c hc)) HNV.out ((Fr.refl w3 _).alloc _).drew hgrowA hown2 rfl rfl rfl rfl
        have hfin : Fr w (wA.setCell ⟨g, 2, none⟩ (.slice (some ⟨gA, 0, none⟩) (X.wait.length + 1) capA)) C := ((HFR.out.alloc _).drew.grown hgrowA (fun x hx _ => H678.out.2.2 x hx)).set _ _ (fun _ => hCg)
        have hin : ∀ x, ((C x ∨ w.heap.size ≤ x) ∨ x = gA) → C x ∨ w.heap.size ≤ x := by
          intro x hx
          rcases hx with hx | rfl
          · exact hx
          · rcases hatA with h | h
            · exact .inl (H678.out.2.2 _ h)
            · right
              simp at h
              omega
        have HNEW := hide hnew
        have HFIN := hide hfin
        have HIN := hide hin
        clear hnew hfin hin hown2 hownA hgrowA hatA
        go_wp2_with fail
        go_ret
        refine ⟨?_, ⟨_, ?_, HIN.out⟩, HFIN.out⟩
        · rw [HX0.out]; rfl
        · rw [HDID.out]; exact HNEW.out
  · have HDID : Hid (X.did t = X.step) := by show _ = _; unfold R.Rk.did; rw [if_neg (by rw [hc]; decide)]
    have HC2 := hide hc
    rw [hc]
    have HD1 := hide hD1
    have HF01 := hide hf01
    clear hD1 hf01 hf1 hE1 hc
    go_wp2_with fail
    go_ret
    exact ⟨by rw [HC2.out]; rfl, ⟨C, by rw [HDID.out]; exact HD1.out, fun _ h => .inl h⟩, HF01.out.weak (fun c _ e => by rw [e]; exact hCg)⟩
end Go.Proofs.Ytmlbcdofogffkab
namespace Go.Proofs.Ytmlbcdofogffkab
open Go.RowKit
attribute [local go_sem ↓] Go.wp_at_zero Go.wp_at_succ
namespace R
/-- What a call that changes the reference's disk says. -/
def Did (w w' : World) (C : Nat → Prop) (g : Nat) (X' : Rk) (k : Int) (o : Ending) : Prop := o = .returned (.int .i64 k) ∧ (∃ C', Lies w' C' g X' ∧ ∀ x, C' x → C x ∨ w.heap.size ≤ x) ∧ Fr w w' C
/-- What is wrong with a Put. -/
def Rk.puts (X : Rk) (how : Int) (n d : ByteArray) : Int :=
  if how = 2 ∧ 4000 < d.size then 2 else if N.may n = false then 3
  else if (4000 < d.size + (if how = 2 then (has X.now n).size else 0) ∨ (place X.now n < 0 ∧ 40 ≤ X.now.length)) then 2
  else if how = 3 ∧ 0 ≤ place X.now n then 6 else 0
def Rk.putK (X : Rk) (how : Int) (n d : ByteArray) : Int := if X.puts how n d = 0 then X.code else X.puts how n d
def Rk.putX (X : Rk) (how : Int) (n d : ByteArray) : Rk := if X.puts how n d = 0 then X.did ⟨if how = 3 then 1 else how, n, d, ⟨#[]⟩⟩ else X
theorem Did.no {w : World} {C : Nat → Prop} {g : Nat} {X : Rk} {k k2 : Int} {X2 : Rk} (h : Lies w C g X) (e1 : k2 = k) (e2 : X2 = X) : Did w w C g X2 k2 (.returned (.int .i64 k)) := by
  subst e1 e2
  exact ⟨rfl, ⟨C, h, fun _ h => .inl h⟩, Fr.refl _ _⟩
end R
set_option maxRecDepth 100000 in
set_option maxHeartbeats 1000000 in
theorem refPut1 (w : World) (C : Nat → Prop) (g : Nat) (X : R.Rk) (n d : ByteArray) (h : R.Lies w C g X) (hC : ∀ x, C x → x < w.heap.size) (hns : n.size ≤ maxLen) (hs : 0 ≤ X.steps ∧ X.steps ≤ 1000000) (hl : -9223372036854775808 ≤ X.fuse ∧ X.fuse ≤ 9223372036854775807) (hn : X.now.length ≤ 1000000) (hsz : ∀ n, (R.has X.now n).size ≤ 4000) (hw : X.wait.length ≤ 100000) :
    Calls Try.prog 24 #[.pointer (some ⟨g, 0, none⟩), .int .i64 1, .string n, .string d] w fun o w' => R.Did w w' C g (X.putX 1 n d) (X.putK 1 n d) o := by
  have HDo : Hid (d.size ≤ 4000 → Calls Try.prog 85 #[.pointer (some ⟨g, 0, none⟩), .agg #[.int .i64 1, .string n, .string d, .string ⟨#[]⟩]] w fun o w' => o = .returned (.int .i64 X.code) ∧ (∃ C', R.Lies w' C' g (X.did ⟨1, n, d, ⟨#[]⟩⟩) ∧ ∀ x, C' x → C x ∨ w.heap.size ≤ x) ∧ Fr w w' C) := fun hds => refDo_any w C g X ⟨1, n, d, ⟨#[]⟩⟩ h hC hs hl (.inl rfl) hn (by have := hsz n; show (R.has X.now n).size + d.size ≤ 100000; omega) hw
  have HH := hide h
  have HMay := hide (fileMay_any n w hns)
  have hszn := hsz n
  obtain ⟨kv, nv, wv, h1, h2, h3, h4, h5, h6, h7, h8⟩ := h
  have c1 := cell_of_block h1 1 _ rfl
  have HHas := hide (refHas_any w nv X.now n (R.Fls.of_owns h3) hn)
  have HFL := hide (R.Fls.of_owns h3)
  obtain ⟨a1, p1, env⟩ := owns_shape h3
  subst env
  clear h1 h2 h3 h4 h5 h6 h7 h8 hC hs hl hsz hw hns
  cases hm : N.may n with
  | false =>
    rw [hm] at HMay
    have HP : Hid (X.puts 1 n d = 3) := by show _ = _; unfold R.Rk.puts; rw [if_neg (by intro h; cases h.1)]; rw [if_pos hm]
    clear HFL HDo
    go_enter Try.func24, Try.ntmps24
    go_wp2_with (first | (go_at_call 84; (with_reducible refine Calls.mono HHas.out ?_); rintro o w2 ⟨rfl, rfl⟩) | (go_at_call 41; (with_reducible refine Calls.mono HMay.out ?_); rintro o w2 ⟨rfl, rfl⟩))
    go_ret
    exact R.Did.no HH.out (by unfold R.Rk.putK; rw [HP.out]; rfl) (by unfold R.Rk.putX; rw [HP.out]; rfl)
  | true =>
    rw [hm] at HMay
    have HM := hide hm
    clear hm
    by_cases hbig : 4000 < d.size
    · have HP : Hid (X.puts 1 n d = 2) := by show _ = _; unfold R.Rk.puts; rw [if_neg (by intro h; cases h.1)]; rw [if_neg (by rw [HM.out]; decide)]; rw [if_pos (.inl (by omega))]
      clear HFL HDo
      go_enter Try.func24, Try.ntmps24
      go_wp2_with (first | (go_at_call 84; (with_reducible refine Calls.mono HHas.out ?_); rintro o w2 ⟨rfl, rfl⟩) | (go_at_call 41; (with_reducible refine Calls.mono HMay.out ?_); rintro o w2 ⟨rfl, rfl⟩))
      go_ret
      exact R.Did.no HH.out (by unfold R.Rk.putK; rw [HP.out]; rfl) (by unfold R.Rk.putX; rw [HP.out]; rfl)
    rcases R.place_at X.now n with ⟨hp, hh⟩ | ⟨k, x, hp, hx, hh⟩
    · rw [hp] at HHas
      clear hh
      by_cases hful : 40 ≤ X.now.length
      · have HP : Hid (X.puts 1 n d = 2) := by show _ = _; unfold R.Rk.puts; rw [if_neg (by intro h; cases h.1)]; rw [if_neg (by rw [HM.out]; decide)]; rw [if_pos (.inr ⟨by rw [hp]; decide, hful⟩)]
        clear hp hszn
        clear HFL HDo
        go_enter Try.func24, Try.ntmps24
        go_wp2_with (first | (go_at_call 84; (with_reducible refine Calls.mono HHas.out ?_); rintro o w2 ⟨rfl, rfl⟩) | (go_at_call 41; (with_reducible refine Calls.mono HMay.out ?_); rintro o w2 ⟨rfl, rfl⟩))
        go_ret
        exact R.Did.no HH.out (by unfold R.Rk.putK; rw [HP.out]; rfl) (by unfold R.Rk.putX; rw [HP.out]; rfl)
      · have HP : Hid (X.puts 1 n d = 0) := by show _ = _; unfold R.Rk.puts; rw [if_neg (by intro h; cases h.1)]; rw [if_neg (by rw [HM.out]; decide)]; rw [if_neg (by rw [if_neg (by decide)]; intro h; rcases h with h | h <;> omega), if_neg (by rw [hp]; intro h; exact absurd h.2 (by decide))]
        clear hp hszn
        have HDo := hide (HDo.out (by omega))
        clear HFL
        go_enter Try.func24, Try.ntmps24
        go_wp2_with (first | (go_at_call 84; (with_reducible refine Calls.mono HHas.out ?_); rintro o w2 ⟨rfl, rfl⟩) | (go_at_call 41; (with_reducible refine Calls.mono HMay.out ?_); rintro o w2 ⟨rfl, rfl⟩) | (go_at_call 85; (with_reducible refine Calls.mono HDo.out ?_); rintro o w3 ⟨rfl, hL3, hf3⟩))
        go_ret
        refine ⟨?_, ?_, hf3⟩
        · unfold R.Rk.putK; rw [if_pos HP.out]; rfl
        · unfold R.Rk.putX; rw [if_pos HP.out]; exact hL3
    · rw [hp] at HHas
      clear hh hx hszn
      have HP : Hid (X.puts 1 n d = 0) := by show _ = _; unfold R.Rk.puts; rw [if_neg (by intro h; cases h.1)]; rw [if_neg (by rw [HM.out]; decide)]; rw [if_neg (by rw [if_neg (by decide)]; intro h; rcases h with h | h <;> omega), if_neg (by intro h; cases h.1)]
      clear hp
      have HDo := hide (HDo.out (by omega))
      clear HFL
      go_enter Try.func24, Try.ntmps24
      go_wp2_with (first | (go_at_call 84; (with_reducible refine Calls.mono HHas.out ?_); rintro o w2 ⟨rfl, rfl⟩) | (go_at_call 41; (with_reducible refine Calls.mono HMay.out ?_); rintro o w2 ⟨rfl, rfl⟩) | (go_at_call 85; (with_reducible refine Calls.mono HDo.out ?_); rintro o w3 ⟨rfl, hL3, hf3⟩))
      go_ret
      refine ⟨?_, ?_, hf3⟩
      · unfold R.Rk.putK; rw [if_pos HP.out]; rfl
      · unfold R.Rk.putX; rw [if_pos HP.out]; exact hL3
set_option maxRecDepth 100000 in
set_option maxHeartbeats 1000000 in
theorem refPut2 (w : World) (C : Nat → Prop) (g : Nat) (X : R.Rk) (n d : ByteArray) (h : R.Lies w C g X) (hC : ∀ x, C x → x < w.heap.size) (hns : n.size ≤ maxLen) (hs : 0 ≤ X.steps ∧ X.steps ≤ 1000000) (hl : -9223372036854775808 ≤ X.fuse ∧ X.fuse ≤ 9223372036854775807) (hn : X.now.length ≤ 1000000) (hsz : ∀ n, (R.has X.now n).size ≤ 4000) (hw : X.wait.length ≤ 100000) :
    Calls Try.prog 24 #[.pointer (some ⟨g, 0, none⟩), .int .i64 2, .string n, .string d] w fun o w' => R.Did w w' C g (X.putX 2 n d) (X.putK 2 n d) o := by
  have HDo : Hid (d.size ≤ 4000 → Calls Try.prog 85 #[.pointer (some ⟨g, 0, none⟩), .agg #[.int .i64 2, .string n, .string d, .string ⟨#[]⟩]] w fun o w' => o = .returned (.int .i64 X.code) ∧ (∃ C', R.Lies w' C' g (X.did ⟨2, n, d, ⟨#[]⟩⟩) ∧ ∀ x, C' x → C x ∨ w.heap.size ≤ x) ∧ Fr w w' C) := fun hds => refDo_any w C g X ⟨2, n, d, ⟨#[]⟩⟩ h hC hs hl (.inr (.inl rfl)) hn (by have := hsz n; show (R.has X.now n).size + d.size ≤ 100000; omega) hw
  have HH := hide h
  have HMay := hide (fileMay_any n w hns)
  have hszn := hsz n
  obtain ⟨kv, nv, wv, h1, h2, h3, h4, h5, h6, h7, h8⟩ := h
  have c1 := cell_of_block h1 1 _ rfl
  have HHas := hide (refHas_any w nv X.now n (R.Fls.of_owns h3) hn)
  have HFL := hide (R.Fls.of_owns h3)
  obtain ⟨a1, p1, env⟩ := owns_shape h3
  subst env
  clear h1 h2 h3 h4 h5 h6 h7 h8 hC hs hl hsz hw hns
  by_cases hbig : 4000 < d.size
  · have HP : Hid (X.puts 2 n d = 2) := by show _ = _; unfold R.Rk.puts; rw [if_pos ⟨rfl, hbig⟩]
    clear HFL HDo
    go_enter Try.func24, Try.ntmps24
    go_wp2_with (first | (go_at_call 84; (with_reducible refine Calls.mono HHas.out ?_); rintro o w2 ⟨rfl, rfl⟩) | (go_at_call 41; (with_reducible refine Calls.mono HMay.out ?_); rintro o w2 ⟨rfl, rfl⟩))
    go_ret
    exact R.Did.no HH.out (by unfold R.Rk.putK; rw [HP.out]; rfl) (by unfold R.Rk.putX; rw [HP.out]; rfl)
  cases hm : N.may n with
  | false =>
    rw [hm] at HMay
    have HP : Hid (X.puts 2 n d = 3) := by show _ = _; unfold R.Rk.puts; rw [if_neg (by intro h; first | (cases h.1; done) | (have := h.2; omega))]; rw [if_pos hm]
    clear HFL HDo
    go_enter Try.func24, Try.ntmps24
    go_wp2_with (first | (go_at_call 84; (with_reducible refine Calls.mono HHas.out ?_); rintro o w2 ⟨rfl, rfl⟩) | (go_at_call 41; (with_reducible refine Calls.mono HMay.out ?_); rintro o w2 ⟨rfl, rfl⟩))
    go_ret
    exact R.Did.no HH.out (by unfold R.Rk.putK; rw [HP.out]; rfl) (by unfold R.Rk.putX; rw [HP.out]; rfl)
  | true =>
    rw [hm] at HMay
    have HM := hide hm
    clear hm
    rcases R.place_at X.now n with ⟨hp, hh⟩ | ⟨k, x, hp, hx, hh⟩
    · rw [hp] at HHas
      have hh0 : (R.has X.now n).size = 0 := by rw [hh]; rfl
      clear hh
      by_cases hful : 40 ≤ X.now.length
      · have HP : Hid (X.puts 2 n d = 2) := by show _ = _; unfold R.Rk.puts; rw [if_neg (by intro h; first | (cases h.1; done) | (have := h.2; omega))]; rw [if_neg (by rw [HM.out]; decide), if_pos (.inr ⟨by rw [hp]; decide, hful⟩)]
        clear hp hh0 hszn
        clear HFL HDo
        go_enter Try.func24, Try.ntmps24
        go_wp2_with (first | (go_at_call 84; (with_reducible refine Calls.mono HHas.out ?_); rintro o w2 ⟨rfl, rfl⟩) | (go_at_call 41; (with_reducible refine Calls.mono HMay.out ?_); rintro o w2 ⟨rfl, rfl⟩))
        go_ret
        exact R.Did.no HH.out (by unfold R.Rk.putK; rw [HP.out]; rfl) (by unfold R.Rk.putX; rw [HP.out]; rfl)
      · have HP : Hid (X.puts 2 n d = 0) := by show _ = _; unfold R.Rk.puts; rw [if_neg (by intro h; first | (cases h.1; done) | (have := h.2; omega))]; rw [if_neg (by rw [HM.out]; decide), if_neg (by rw [if_pos rfl]; intro h; rcases h with h | h <;> omega), if_neg (by intro h; cases h.1)]
        clear hp hh0 hszn
        have HDo := hide (HDo.out (by omega))
        clear HFL
        go_enter Try.func24, Try.ntmps24
        go_wp2_with (first | (go_at_call 84; (with_reducible refine Calls.mono HHas.out ?_); rintro o w2 ⟨rfl, rfl⟩) | (go_at_call 41; (with_reducible refine Calls.mono HMay.out ?_); rintro o w2 ⟨rfl, rfl⟩) | (go_at_call 85; (with_reducible refine Calls.mono HDo.out ?_); rintro o w3 ⟨rfl, hL3, hf3⟩))
        go_ret
        refine ⟨?_, ?_, hf3⟩
        · unfold R.Rk.putK; rw [if_pos HP.out]; rfl
        · unfold R.Rk.putX; rw [if_pos HP.out]; exact hL3
    · rw [hp] at HHas
      obtain ⟨b, off, rfl, q0, q1⟩ := HFL.out.at hx
      have hlt : k < X.now.length := (List.getElem?_eq_some_iff.1 hx).1
      rw [hh] at hszn
      have hh2 : (R.has X.now n).size = x.2.size := by rw [hh]
      clear hx hh
      by_cases hsum : 4000 < d.size + x.2.size
      · have HP : Hid (X.puts 2 n d = 2) := by show _ = _; unfold R.Rk.puts; rw [if_neg (by intro h; first | (cases h.1; done) | (have := h.2; omega))]; rw [if_neg (by rw [HM.out]; decide), if_pos (.inl (by rw [if_pos rfl]; omega))]
        clear hp hh2
        clear HFL HDo
        go_enter Try.func24, Try.ntmps24
        go_wp2_with (first | (go_at_call 84; (with_reducible refine Calls.mono HHas.out ?_); rintro o w2 ⟨rfl, rfl⟩) | (go_at_call 41; (with_reducible refine Calls.mono HMay.out ?_); rintro o w2 ⟨rfl, rfl⟩))
        go_ret
        exact R.Did.no HH.out (by unfold R.Rk.putK; rw [HP.out]; rfl) (by unfold R.Rk.putX; rw [HP.out]; rfl)
      · have HP : Hid (X.puts 2 n d = 0) := by show _ = _; unfold R.Rk.puts; rw [if_neg (by intro h; first | (cases h.1; done) | (have := h.2; omega))]; rw [if_neg (by rw [HM.out]; decide), if_neg (by rw [if_pos rfl]; intro h; rcases h with h | h <;> omega), if_neg (by intro h; cases h.1)]
        clear hp hh2
        have HDo := hide (HDo.out (by omega))
        clear HFL
        go_enter Try.func24, Try.ntmps24
        go_wp2_with (first | (go_at_call 84; (with_reducible refine Calls.mono HHas.out ?_); rintro o w2 ⟨rfl, rfl⟩) | (go_at_call 41; (with_reducible refine Calls.mono HMay.out ?_); rintro o w2 ⟨rfl, rfl⟩) | (go_at_call 85; (with_reducible refine Calls.mono HDo.out ?_); rintro o w3 ⟨rfl, hL3, hf3⟩))
        go_ret
        refine ⟨?_, ?_, hf3⟩
        · unfold R.Rk.putK; rw [if_pos HP.out]; rfl
        · unfold R.Rk.putX; rw [if_pos HP.out]; exact hL3
set_option maxRecDepth 100000 in
set_option maxHeartbeats 1000000 in
theorem refPut3 (w : World) (C : Nat → Prop) (g : Nat) (X : R.Rk) (n d : ByteArray) (h : R.Lies w C g X) (hC : ∀ x, C x → x < w.heap.size) (hns : n.size ≤ maxLen) (hs : 0 ≤ X.steps ∧ X.steps ≤ 1000000) (hl : -9223372036854775808 ≤ X.fuse ∧ X.fuse ≤ 9223372036854775807) (hn : X.now.length ≤ 1000000) (hsz : ∀ n, (R.has X.now n).size ≤ 4000) (hw : X.wait.length ≤ 100000) :
    Calls Try.prog 24 #[.pointer (some ⟨g, 0, none⟩), .int .i64 3, .string n, .string d] w fun o w' => R.Did w w' C g (X.putX 3 n d) (X.putK 3 n d) o := by
  have HDo : Hid (d.size ≤ 4000 → Calls Try.prog 85 #[.pointer (some ⟨g, 0, none⟩), .agg #[.int .i64 1, .string n, .string d, .string ⟨#[]⟩]] w fun o w' => o = .returned (.int .i64 X.code) ∧ (∃ C', R.Lies w' C' g (X.did ⟨1, n, d, ⟨#[]⟩⟩) ∧ ∀ x, C' x → C x ∨ w.heap.size ≤ x) ∧ Fr w w' C) := fun hds => refDo_any w C g X ⟨1, n, d, ⟨#[]⟩⟩ h hC hs hl (.inl rfl) hn (by have := hsz n; show (R.has X.now n).size + d.size ≤ 100000; omega) hw
  have HH := hide h
  have HMay := hide (fileMay_any n w hns)
  have hszn := hsz n
  obtain ⟨kv, nv, wv, h1, h2, h3, h4, h5, h6, h7, h8⟩ := h
  have c1 := cell_of_block h1 1 _ rfl
  have HHas := hide (refHas_any w nv X.now n (R.Fls.of_owns h3) hn)
  have HFL := hide (R.Fls.of_owns h3)
  obtain ⟨a1, p1, env⟩ := owns_shape h3
  subst env
  clear h1 h2 h3 h4 h5 h6 h7 h8 hC hs hl hsz hw hns
  cases hm : N.may n with
  | false =>
    rw [hm] at HMay
    have HP : Hid (X.puts 3 n d = 3) := by show _ = _; unfold R.Rk.puts; rw [if_neg (by intro h; cases h.1)]; rw [if_pos hm]
    clear HFL HDo
    go_enter Try.func24, Try.ntmps24
    go_wp2_with (first | (go_at_call 84; (with_reducible refine Calls.mono HHas.out ?_); rintro o w2 ⟨rfl, rfl⟩) | (go_at_call 41; (with_reducible refine Calls.mono HMay.out ?_); rintro o w2 ⟨rfl, rfl⟩))
    go_ret
    exact R.Did.no HH.out (by unfold R.Rk.putK; rw [HP.out]; rfl) (by unfold R.Rk.putX; rw [HP.out]; rfl)
  | true =>
    rw [hm] at HMay
    have HM := hide hm
    clear hm
    by_cases hbig : 4000 < d.size
    · have HP : Hid (X.puts 3 n d = 2) := by show _ = _; unfold R.Rk.puts; rw [if_neg (by intro h; cases h.1)]; rw [if_neg (by rw [HM.out]; decide)]; rw [if_pos (.inl (by omega))]
      clear HFL HDo
      go_enter Try.func24, Try.ntmps24
      go_wp2_with (first | (go_at_call 84; (with_reducible refine Calls.mono HHas.out ?_); rintro o w2 ⟨rfl, rfl⟩) | (go_at_call 41; (with_reducible refine Calls.mono HMay.out ?_); rintro o w2 ⟨rfl, rfl⟩))
      go_ret
      exact R.Did.no HH.out (by unfold R.Rk.putK; rw [HP.out]; rfl) (by unfold R.Rk.putX; rw [HP.out]; rfl)
    rcases R.place_at X.now n with ⟨hp, hh⟩ | ⟨k, x, hp, hx, hh⟩
    · rw [hp] at HHas
      clear hh
      by_cases hful : 40 ≤ X.now.length
      · have HP : Hid (X.puts 3 n d = 2) := by show _ = _; unfold R.Rk.puts; rw [if_neg (by intro h; cases h.1)]; rw [if_neg (by rw [HM.out]; decide)]; rw [if_pos (.inr ⟨by rw [hp]; decide, hful⟩)]
        clear hp hszn
        clear HFL HDo
        go_enter Try.func24, Try.ntmps24
        go_wp2_with (first | (go_at_call 84; (with_reducible refine Calls.mono HHas.out ?_); rintro o w2 ⟨rfl, rfl⟩) | (go_at_call 41; (with_reducible refine Calls.mono HMay.out ?_); rintro o w2 ⟨rfl, rfl⟩))
        go_ret
        exact R.Did.no HH.out (by unfold R.Rk.putK; rw [HP.out]; rfl) (by unfold R.Rk.putX; rw [HP.out]; rfl)
      · have HP : Hid (X.puts 3 n d = 0) := by show _ = _; unfold R.Rk.puts; rw [if_neg (by intro h; cases h.1)]; rw [if_neg (by rw [HM.out]; decide)]; rw [if_neg (by rw [if_neg (by decide)]; intro h; rcases h with h | h <;> omega), if_neg (by rw [hp]; intro h; exact absurd h.2 (by decide))]
        clear hp hszn
        have HDo := hide (HDo.out (by omega))
        clear HFL
        go_enter Try.func24, Try.ntmps24
        go_wp2_with (first | (go_at_call 84; (with_reducible refine Calls.mono HHas.out ?_); rintro o w2 ⟨rfl, rfl⟩) | (go_at_call 41; (with_reducible refine Calls.mono HMay.out ?_); rintro o w2 ⟨rfl, rfl⟩) | (go_at_call 85; (with_reducible refine Calls.mono HDo.out ?_); rintro o w3 ⟨rfl, hL3, hf3⟩))
        go_ret
        refine ⟨?_, ?_, hf3⟩
        · unfold R.Rk.putK; rw [if_pos HP.out]; rfl
        · unfold R.Rk.putX; rw [if_pos HP.out]; exact hL3
    · rw [hp] at HHas
      clear hh hx hszn
      have HP : Hid (X.puts 3 n d = 6) := by show _ = _; unfold R.Rk.puts; rw [if_neg (by intro h; cases h.1)]; rw [if_neg (by rw [HM.out]; decide)]; rw [if_neg (by rw [if_neg (by decide)]; intro h; rcases h with h | h <;> omega), if_pos ⟨rfl, by omega⟩]
      clear hp
      clear HFL HDo
      go_enter Try.func24, Try.ntmps24
      go_wp2_with (first | (go_at_call 84; (with_reducible refine Calls.mono HHas.out ?_); rintro o w2 ⟨rfl, rfl⟩) | (go_at_call 41; (with_reducible refine Calls.mono HMay.out ?_); rintro o w2 ⟨rfl, rfl⟩))
      go_ret
      exact R.Did.no HH.out (by unfold R.Rk.putK; rw [HP.out]; rfl) (by unfold R.Rk.putX; rw [HP.out]; rfl)
end Go.Proofs.Ytmlbcdofogffkab
namespace Go.Proofs.Ytmlbcdofogffkab
open Go.RowKit
attribute [local go_sem ↓] Go.wp_at_zero Go.wp_at_succ
namespace R
def Rk.movs (X : Rk) (n t : ByteArray) : Int := if N.may n = false ∨ N.may t = false then 3 else if place X.now n < 0 then 7 else 0
def Rk.movK (X : Rk) (n t : ByteArray) : Int := if X.movs n t = 0 then X.code else X.movs n t
def Rk.movX (X : Rk) (n t : ByteArray) : Rk := if X.movs n t = 0 then (if (n.toList == t.toList) = true then X.step else X.did ⟨4, n, ⟨#[]⟩, t⟩) else X
def Rk.remK (X : Rk) (n : ByteArray) : Int := if place X.now n < 0 then 7 else X.code
def Rk.remX (X : Rk) (n : ByteArray) : Rk := if place X.now n < 0 then X else X.did ⟨5, n, ⟨#[]⟩, ⟨#[]⟩⟩
def Rk.reads (X : Rk) (n : ByteArray) : ByteArray × Int := if X.down then (⟨#[]⟩, 10) else if place X.now n < 0 then (⟨#[]⟩, 7) else (has X.now n, 0)
def Rk.synX (X : Rk) : Rk := if X.code = 0 then { X.step with kept := X.now, wait := [] } else X.step
end R
set_option maxRecDepth 100000 in
set_option maxHeartbeats 1000000 in
theorem refMove_any (w : World) (C : Nat → Prop) (g : Nat) (X : R.Rk) (n t : ByteArray) (h : R.Lies w C g X) (hC : ∀ x, C x → x < w.heap.size) (hns : n.size ≤ maxLen) (hts : t.size ≤ maxLen) (hs : 0 ≤ X.steps ∧ X.steps ≤ 1000000) (hl : -9223372036854775808 ≤ X.fuse ∧ X.fuse ≤ 9223372036854775807) (hn : X.now.length ≤ 1000000) (hsz : ∀ n, (R.has X.now n).size ≤ 4000) (hw : X.wait.length ≤ 100000) :
    Calls Try.prog 28 #[.pointer (some ⟨g, 0, none⟩), .string n, .string t] w fun o w' => R.Did w w' C g (X.movX n t) (X.movK n t) o := by
  have HDo := hide (refDo_any w C g X ⟨4, n, ⟨#[]⟩, t⟩ h hC hs hl (.inr (.inr (.inl rfl))) hn (by have := hsz n; show (R.has X.now n).size + 0 ≤ 100000; omega) hw)
  have HSt := hide (refStep_lies w C g X h hs hl)
  have HH := hide h
  have HMay := hide (fileMay_any n w hns)
  have HMayT := hide (fileMay_any t w hts)
  obtain ⟨kv, nv, wv, h1, h2, h3, h4, h5, h6, h7, h8⟩ := h
  have c1 := cell_of_block h1 1 _ rfl
  have HHas := hide (refHas_any w nv X.now n (R.Fls.of_owns h3) hn)
  have HCg := hide h5
  obtain ⟨a1, p1, env⟩ := owns_shape h3
  subst env
  clear h1 h2 h3 h4 h5 h6 h7 h8 hC hs hl hsz hw hns hts
  by_cases hmm : N.may n = false ∨ N.may t = false
  · have HP : Hid (X.movs n t = 3) := by show _ = _; unfold R.Rk.movs; rw [if_pos hmm]
    clear HDo HSt
    cases hm : N.may n with
    | false =>
      rw [hm] at HMay
      cases hm2 : N.may t with
      | false =>
        rw [hm2] at HMayT
        clear hmm hm hm2
        go_enter Try.func28, Try.ntmps28
        go_wp2_with (first | (go_at_call 41; (with_reducible refine Calls.mono HMay.out ?_); rintro o w2 ⟨rfl, rfl⟩) | (go_at_call 41; (with_reducible refine Calls.mono HMayT.out ?_); rintro o w2 ⟨rfl, rfl⟩))
        go_ret
        exact R.Did.no HH.out (by unfold R.Rk.movK; rw [HP.out]; rfl) (by unfold R.Rk.movX; rw [HP.out]; rfl)
      | true =>
        rw [hm2] at HMayT
        clear hmm hm hm2
        go_enter Try.func28, Try.ntmps28
        go_wp2_with (first | (go_at_call 41; (with_reducible refine Calls.mono HMay.out ?_); rintro o w2 ⟨rfl, rfl⟩) | (go_at_call 41; (with_reducible refine Calls.mono HMayT.out ?_); rintro o w2 ⟨rfl, rfl⟩))
        go_ret
        exact R.Did.no HH.out (by unfold R.Rk.movK; rw [HP.out]; rfl) (by unfold R.Rk.movX; rw [HP.out]; rfl)
    | true =>
      rw [hm] at HMay
      have hm2 : N.may t = false := by rcases hmm with h | h; (rw [hm] at h; cases h); exact h
      rw [hm2] at HMayT
      clear hmm hm hm2
      go_enter Try.func28, Try.ntmps28
      go_wp2_with (first | (go_at_call 41; (with_reducible refine Calls.mono HMay.out ?_); rintro o w2 ⟨rfl, rfl⟩) | (go_at_call 41; (with_reducible refine Calls.mono HMayT.out ?_); rintro o w2 ⟨rfl, rfl⟩))
      go_ret
      exact R.Did.no HH.out (by unfold R.Rk.movK; rw [HP.out]; rfl) (by unfold R.Rk.movX; rw [HP.out]; rfl)
  · have hm : N.may n = true := by cases h : N.may n with | true => rfl | false => exact absurd (.inl h) hmm
    have hm2 : N.may t = true := by cases h : N.may t with | true => rfl | false => exact absurd (.inr h) hmm
    rw [hm] at HMay
    rw [hm2] at HMayT
    have HMM := hide hmm
    clear hm hm2 hmm
    rcases R.place_at X.now n with ⟨hp, hh⟩ | ⟨k, x, hp, hx, hh⟩
    · rw [hp] at HHas
      have HP : Hid (X.movs n t = 7) := by show _ = _; unfold R.Rk.movs; rw [if_neg HMM.out, if_pos (by rw [hp]; decide)]
      clear HDo HSt hp hh
      go_enter Try.func28, Try.ntmps28
      go_wp2_with (first | (go_at_call 41; (with_reducible refine Calls.mono HMay.out ?_); rintro o w2 ⟨rfl, rfl⟩) | (go_at_call 41; (with_reducible refine Calls.mono HMayT.out ?_); rintro o w2 ⟨rfl, rfl⟩) | (go_at_call 84; (with_reducible refine Calls.mono HHas.out ?_); rintro o w2 ⟨rfl, rfl⟩))
      go_ret
      exact R.Did.no HH.out (by unfold R.Rk.movK; rw [HP.out]; rfl) (by unfold R.Rk.movX; rw [HP.out]; rfl)
    · rw [hp] at HHas
      have HP : Hid (X.movs n t = 0) := by show _ = _; unfold R.Rk.movs; rw [if_neg HMM.out, if_neg (by rw [hp]; omega)]
      clear hp hx hh HH
      cases he : (n.toList == t.toList) with
      | true =>
        have HE := hide he
        go_enter Try.func28, Try.ntmps28
        go_wp2_with (first | (go_at_call 41; (with_reducible refine Calls.mono HMay.out ?_); rintro o w2 ⟨rfl, rfl⟩) | (go_at_call 41; (with_reducible refine Calls.mono HMayT.out ?_); rintro o w2 ⟨rfl, rfl⟩) | (go_at_call 84; (with_reducible refine Calls.mono HHas.out ?_); rintro o w2 ⟨rfl, rfl⟩) | (go_at_call 36; (with_reducible refine Calls.mono HSt.out ?_); rintro o w3 ⟨rfl, hL3, hf3⟩))
        go_ret
        refine ⟨?_, ⟨C, ?_, fun _ h => .inl h⟩, hf3.weak (fun c _ e => by rw [e]; exact HCg.out)⟩
        · unfold R.Rk.movK; rw [if_pos HP.out]; rfl
        · unfold R.Rk.movX; rw [if_pos HP.out, if_pos HE.out]; exact hL3
      | false =>
        have HE := hide he
        go_enter Try.func28, Try.ntmps28
        go_wp2_with (first | (go_at_call 41; (with_reducible refine Calls.mono HMay.out ?_); rintro o w2 ⟨rfl, rfl⟩) | (go_at_call 41; (with_reducible refine Calls.mono HMayT.out ?_); rintro o w2 ⟨rfl, rfl⟩) | (go_at_call 84; (with_reducible refine Calls.mono HHas.out ?_); rintro o w2 ⟨rfl, rfl⟩) | (go_at_call 85; (with_reducible refine Calls.mono HDo.out ?_); rintro o w3 ⟨rfl, hL3, hf3⟩))
        go_ret
        refine ⟨?_, ?_, hf3⟩
        · unfold R.Rk.movK; rw [if_pos HP.out]; rfl
        · unfold R.Rk.movX; rw [if_pos HP.out, if_neg (by rw [HE.out]; decide)]; exact hL3
set_option maxRecDepth 100000 in
set_option maxHeartbeats 1000000 in
theorem refRemove_any (w : World) (C : Nat → Prop) (g : Nat) (X : R.Rk) (n : ByteArray) (h : R.Lies w C g X) (hC : ∀ x, C x → x < w.heap.size) (hs : 0 ≤ X.steps ∧ X.steps ≤ 1000000) (hl : -9223372036854775808 ≤ X.fuse ∧ X.fuse ≤ 9223372036854775807) (hn : X.now.length ≤ 1000000) (hsz : ∀ n, (R.has X.now n).size ≤ 4000) (hw : X.wait.length ≤ 100000) :
    Calls Try.prog 30 #[.pointer (some ⟨g, 0, none⟩), .string n] w fun o w' => R.Did w w' C g (X.remX n) (X.remK n) o := by
  have HDo := hide (refDo_any w C g X ⟨5, n, ⟨#[]⟩, ⟨#[]⟩⟩ h hC hs hl (.inr (.inr (.inr rfl))) hn (by have := hsz n; show (R.has X.now n).size + 0 ≤ 100000; omega) hw)
  have HH := hide h
  obtain ⟨kv, nv, wv, h1, h2, h3, h4, h5, h6, h7, h8⟩ := h
  have c1 := cell_of_block h1 1 _ rfl
  have HHas := hide (refHas_any w nv X.now n (R.Fls.of_owns h3) hn)
  obtain ⟨a1, p1, env⟩ := owns_shape h3
  subst env
  clear h1 h2 h3 h4 h5 h6 h7 h8 hC hs hl hsz hw
  rcases R.place_at X.now n with ⟨hp, hh⟩ | ⟨k, x, hp, hx, hh⟩
  · have HP : Hid (R.place X.now n < 0) := by show _ < _; rw [hp]; decide
    rw [hp] at HHas
    clear HDo hp hh
    go_enter Try.func30, Try.ntmps30
    go_wp2_with (first | (go_at_call 84; (with_reducible refine Calls.mono HHas.out ?_); rintro o w2 ⟨rfl, rfl⟩))
    go_ret
    exact R.Did.no HH.out (by unfold R.Rk.remK; rw [if_pos HP.out]) (by unfold R.Rk.remX; rw [if_pos HP.out])
  · have HP : Hid (¬ R.place X.now n < 0) := by show ¬ _; rw [hp]; omega
    rw [hp] at HHas
    clear hp hh hx
    go_enter Try.func30, Try.ntmps30
    go_wp2_with (first | (go_at_call 84; (with_reducible refine Calls.mono HHas.out ?_); rintro o w2 ⟨rfl, rfl⟩) | (go_at_call 85; (with_reducible refine Calls.mono HDo.out ?_); rintro o w3 ⟨rfl, hL3, hf3⟩))
    go_ret
    refine ⟨?_, ?_, hf3⟩
    · unfold R.Rk.remK; rw [if_neg (Int.not_lt.2 HP.out)]; rfl
    · unfold R.Rk.remX; rw [if_neg (Int.not_lt.2 HP.out)]; exact hL3
set_option maxRecDepth 100000 in
set_option maxHeartbeats 1000000 in
theorem refRead_any (w : World) (C : Nat → Prop) (g : Nat) (X : R.Rk) (n : ByteArray) (h : R.Lies w C g X) (hn : X.now.length ≤ 1000000) :
    Calls Try.prog 32 #[.pointer (some ⟨g, 0, none⟩), .string n] w fun o w' => o = .returned (.tuple #[.string (X.reads n).1, .int .i64 (X.reads n).2]) ∧ w' = w := by
  obtain ⟨kv, nv, wv, h1, h2, h3, h4, h5, h6, h7, h8⟩ := h
  have c1 := cell_of_block h1 1 _ rfl
  have c4 := cell_of_block h1 4 _ rfl
  have HHas := hide (refHas_any w nv X.now n (R.Fls.of_owns h3) hn)
  have HFL := hide (R.Fls.of_owns h3)
  obtain ⟨a1, p1, env⟩ := owns_shape h3
  subst env
  clear h1 h2 h3 h4 h5 h6 h7 h8
  cases hd : X.down with
  | true =>
    rw [hd] at c4
    have HP : Hid (X.reads n = (⟨#[]⟩, 10)) := by show _ = _; unfold R.Rk.reads; rw [hd]; rfl
    clear hd HHas HFL
    go_enter Try.func32, Try.ntmps32
    go_wp2_with fail
    go_ret2
    rw [HP.out]
    exact ⟨rfl, rfl⟩
  | false =>
    rw [hd] at c4
    rcases R.place_at X.now n with ⟨hp, hh⟩ | ⟨k, x, hp, hx, hh⟩
    · rw [hp] at HHas
      have HP : Hid (X.reads n = (⟨#[]⟩, 7)) := by show _ = _; unfold R.Rk.reads; rw [hd, if_neg (by decide), if_pos (by rw [hp]; decide)]
      clear hd HFL hp hh
      go_enter Try.func32, Try.ntmps32
      go_wp2_with (first | (go_at_call 84; (with_reducible refine Calls.mono HHas.out ?_); rintro o w2 ⟨rfl, rfl⟩))
      go_ret2
      rw [HP.out]
      exact ⟨rfl, rfl⟩
    · rw [hp] at HHas
      obtain ⟨b, off, rfl, q0, q1⟩ := HFL.out.at hx
      have hlt : k < X.now.length := (List.getElem?_eq_some_iff.1 hx).1
      have HP : Hid (X.reads n = (x.2, 0)) := by show _ = _; unfold R.Rk.reads; rw [hd, if_neg (by decide), if_neg (by rw [hp]; omega), hh]
      clear hd HFL hp hh hx
      go_enter Try.func32, Try.ntmps32
      go_wp2_with (first | (go_at_call 84; (with_reducible refine Calls.mono HHas.out ?_); rintro o w2 ⟨rfl, rfl⟩))
      go_ret2
      rw [HP.out]
      exact ⟨rfl, rfl⟩
theorem R.flat_one (S : List R.Fl) : ∀ u ∈ R.flat S, u.oneCell' = true := by
  intro u hu
  unfold R.flat at hu
  obtain ⟨l, hl, hul⟩ := List.mem_flatten.1 hu
  obtain ⟨x, _, rfl⟩ := List.mem_map.1 hl
  simp only [R.cells, List.mem_cons, List.not_mem_nil, or_false] at hul
  rcases hul with rfl | rfl <;> rfl
theorem R.flat_len (S : List R.Fl) : (R.flat S).length = S.length * 2 := by
  unfold R.flat
  induction S with
  | nil => rfl
  | cons x S ih => rw [List.map_cons, List.flatten_cons, List.length_append, ih]; simp [R.cells]; omega
/-- Files copied behind nothing. -/
theorem copy_run (w : World) (S : List R.Fl) (v : Value) (hv : w.ownsRow 0 148 2 v S.length (R.flat S)) (hl : S.length ≤ 100000) :
    ∃ a c w', (Builtin.append_ #[72, 72] 72 #[.slice none 0 0, v]).run Try.prog w = .ok (.slice a S.length c) w' ∧ w'.ownsRow w.heap.size 148 2 (.slice a S.length c) S.length (R.flat S) ∧ w.grownBy w' none := by
  obtain ⟨i0, hi0, hz0, hz1, hz2⟩ := info_parts info122
  cases S with
  | nil =>
    obtain ⟨a1, p1, rfl⟩ := owns_shape hv
    refine ⟨none, 0, w, ?_, World.ownsRow_nil .., World.grownBy.refl _ _⟩
    cases a1 with
    | none => exact run_append_nothing w 72 72 72 148 i0 u72 hi0 none 0 0 (Nat.le_refl _) _ (Src.ofNil w u72 p1)
    | some a => exact run_append_nothing w 72 72 72 148 i0 u72 hi0 none 0 0 (Nat.le_refl _) _ (Src.ofSlice w u72 a 0 p1 [] (by simp) (fun j u h => by simp at h) (fun u h => by cases h))
  | cons x S =>
    rcases id hv.2 with ⟨_, h0⟩ | ⟨gr, cap, cur, rfl, _, hg, _⟩
    · cases h0
    · obtain ⟨g, cap2, w', hr, h2, h3, h4, h5⟩ := run_append_lies (P := Try.prog) w 72 72 w.heap.size 148 i0 (.agg #[.string ⟨#[]⟩, .string ⟨#[]⟩]) 2 32 u72 hi0 hz0 hz1 hz2 rfl (by decide) (.slice none 0 0) 0 [] (World.ownsRow_nil ..) ⟨gr, 0, none⟩ (x :: S).length cap (R.flat (x :: S)) (R.flat_len _) (fun j u hu => hv.cells (g := gr) rfl j u hu) (R.flat_one _) (by simp) (by unfold maxLen; omega) (by omega) (Nat.le_refl _) _ rfl
      refine ⟨some ⟨g, 0, none⟩, cap2, w', ?_, ?_, h3⟩
      · rw [hr, Nat.zero_add]
      · simpa using h2
set_option maxRecDepth 100000 in
set_option maxHeartbeats 1000000 in
theorem refSync_any (w : World) (C : Nat → Prop) (g : Nat) (X : R.Rk) (h : R.Lies w C g X) (hs : 0 ≤ X.steps ∧ X.steps ≤ 1000000) (hl : -9223372036854775808 ≤ X.fuse ∧ X.fuse ≤ 9223372036854775807) (hn : X.now.length ≤ 100000) :
    Calls Try.prog 34 #[.pointer (some ⟨g, 0, none⟩)] w fun o w' => R.Did w w' C g X.synX X.code o := by
  have HSt := hide (refStep_lies w C g X h hs hl)
  have hCg : C g := by obtain ⟨_, _, _, _, _, _, _, h5, _⟩ := h; exact h5
  clear h hs hl
  rcases R.code_or X with hc | hc
  · have HX : Hid (X.synX = { X.step with kept := X.now, wait := [] }) := by show _ = _; unfold R.Rk.synX; rw [if_pos hc]
    rw [hc] at HSt ⊢
    clear hc
    go_enter Try.func34, Try.ntmps34
    go_wp2_with fail
    refine HSt.out.mono ?_
    rintro o w1 ⟨rfl, hL, hf⟩
    obtain ⟨kv, nv, wv, h1, h2, h3, h4, h5, h6, h7, h8⟩ := hL
    obtain ⟨a, c, w2, hr, ho2, hg2⟩ := copy_run w1 X.now nv h3 hn
    have hf2 : Fr w1 w2 (fun _ => False) := (Fr.refl w1 _).grown hg2 (fun c e => by cases e)
    have hf02 : Fr w w2 C := (hf.weak (fun x _ e => by rw [e]; exact hCg)).trans hf2 (fun _ _ e => e.elim)
    have m1 := (hf2.block g (Array.getElem?_eq_some_iff.1 h1).1 (fun e => e)).trans h1
    have m3 := owns_fr h3 hf2 (fun _ _ e => e)
    have c1 := cell_of_block h1 1 _ rfl
    have q0 := cell_of_block m1 0 _ rfl
    have f0 := free_of_block m1 0
    have m1a := block_set (i := 0) m1 (.slice a X.now.length c)
    have f2 := free_of_block m1a 2
    have q2 := cell_of_block m1a 2 _ rfl
    have m1b := block_set (i := 2) m1a (.slice none 0 0)
    have hs2 := Fr.set2 w2 g 0 2 (.slice a X.now.length c) (.slice none 0 0)
    have ne : ∀ {s : TypeId} {n z b : Nat} {v : Value} {xs : List Value}, w2.ownsRow b s z v n xs → s ≠ 75 → ∀ c, v.ownBlock = some c → ¬ c = g := fun k hs c hc e => owns_ne k m1 (fun cs x hh => hs (by unfold R.blk at hh; cases hh; rfl)) (by rw [← e]; exact hc)
    have hfin : R.Did w ((w2.setCell ⟨g, 0, none⟩ (.slice a X.now.length c)).setCell ⟨g, 2, none⟩ (.slice none 0 0)) C g X.synX 0 (.returned (.int .i64 0)) := by
      rw [HX.out]
      refine ⟨rfl, ⟨fun x => C x ∨ w.heap.size ≤ x, ⟨.slice a X.now.length c, nv, .slice none 0 0, m1b, owns_base (owns_fr ho2 hs2 (ne ho2 (by decide))) (Nat.zero_le _), owns_fr m3 hs2 (ne m3 (by decide)), World.ownsRow_nil .., .inl hCg, fun x hx => .inr ?_, fun x hx => .inl (h7 x hx), fun x hx => by cases hx⟩, fun _ h => h⟩, hf02.trans hs2 (fun x _ e => by rw [e]; exact hCg)⟩
      have := owns_base' ho2 hx
      have := hf.size
      omega
    obtain ⟨a1, p1, env⟩ := owns_shape h3
    subst env
    have HR := hide hr
    have HFIN := hide hfin
    clear h1 h2 h3 h4 h5 h6 h7 h8 hr ho2 hg2 hf2 hf02 m1 m3 m1a m1b hs2 ne hfin hf HSt HX
    go_wp2_with (at_builtin; refine Lib.wpList_append_run _ rfl _ _ _ _ rfl _ _ rfl rfl _ _ HR.out ?_)
    go_ret
    exact HFIN.out
  · have HX : Hid (X.synX = X.step) := by show _ = _; unfold R.Rk.synX; rw [if_neg (by rw [hc]; decide)]
    rw [hc] at HSt ⊢
    clear hc
    go_enter Try.func34, Try.ntmps34
    go_wp2_with fail
    refine HSt.out.mono ?_
    rintro o w1 ⟨rfl, hL, hf⟩
    have HL := hide hL
    have HF := hide hf
    clear hL hf
    go_wp2_with fail
    go_ret
    exact ⟨rfl, ⟨C, by rw [HX.out]; exact HL.out, fun _ h => .inl h⟩, HF.out.weak (fun x _ e => by rw [e]; exact hCg)⟩
end Go.Proofs.Ytmlbcdofogffkab
namespace Go.Proofs.Ytmlbcdofogffkab
open Go.RowKit
attribute [local go_sem ↓] Go.wp_at_zero Go.wp_at_succ
set_option maxRecDepth 100000 in
set_option maxHeartbeats 1000000 in
theorem refList_any (w : World) (C : Nat → Prop) (g : Nat) (X : R.Rk) (h : R.Lies w C g X) (hn : X.now.length ≤ 1000) :
    Calls Try.prog 93 #[.pointer (some ⟨g, 0, none⟩)] w fun o w' => ∃ u, o = .returned (.tuple #[u, .int .i64 (if X.down then 10 else 0)]) ∧ Strs w' u (if X.down then [] else X.now.map (·.1)) ∧ Fr w w' (fun _ => False) := by
  obtain ⟨kv, nv, wv, h1, h2, h3, h4, h5, h6, h7, h8⟩ := h
  have c4 := cell_of_block h1 4 _ rfl
  have c1 := cell_of_block h1 1 _ rfl
  have HFL := hide (R.Fls.of_owns h3)
  obtain ⟨a1, p1, env⟩ := owns_shape h3
  subst env
  have HU := hide u27
  have HI := hide info9
  cases hd : X.down with
  | true =>
    rw [hd] at c4
    clear h1 h2 h3 h4 h5 h6 h7 h8 hd HFL
    go_enter Try.func93, Try.ntmps93
    go_wp2_with fail
    go_ret2
    exact ⟨_, rfl, ⟨none, 0, rfl, .inl rfl⟩, Fr.refl _ _⟩
  | false =>
    rw [hd] at c4
    have KC : Hid (∀ wx, Fr w wx (fun _ => False) → wx.cell? ⟨g, 1, none⟩ = some (.slice a1 X.now.length p1)) := fun wx hf => kept_cell (hf.below (Nat.le_refl _) (fun _ e => e.elim)) c1
    clear h1 h2 h3 h4 h5 h6 h7 h8 hd c1
    go_enter Try.func93, Try.ntmps93
    go_wp2_with fail
    go_loopw [4, 5] (fun vo vi wx => ∃ k : Nat, k ≤ X.now.length ∧ vi = .int .i64 k ∧ wx.ownsRow w.heap.size 9 1 vo k (strs ((X.now.map (·.1)).take k)) ∧ Fr w wx (fun _ => False)) (fun _ vi _ => X.now.length - (intOf vi).toNat)
    case atStart => exact ⟨0, Nat.zero_le _, rfl, World.ownsRow_nil .., Fr.refl _ _⟩
    case round =>
      obtain ⟨wx, hwx⟩ : ∃ z, z = wr := ⟨_, rfl⟩
      subst hwx
      obtain ⟨k, hk, rfl, hox, hfx⟩ := hrel
      obtain ⟨va, vc, rfl⟩ := owns_shape hox
      have HOX := hide hox
      have HFX := hide hfx
      have hsz := hfx.size
      have c1 := KC.out wx hfx
      by_cases hlt : k < X.now.length
      · obtain ⟨x, hx⟩ : ∃ x, X.now[k]? = some x := ⟨_, List.getElem?_eq_getElem hlt⟩
        obtain ⟨b, off, rfl, c0, c2⟩ := (HFL.out.fr hfx).at hx
        have HE : Hid (strs ((X.now.map (·.1)).take (k + 1)) = strs ((X.now.map (·.1)).take k) ++ [.string x.1]) := by
          show _ = _
          rw [List.take_add_one, List.getElem?_map, hx]
          unfold strs
          simp
        clear hox hfx hx
        obtain ⟨i0, hi0, hz0, hz1, hz2⟩ := info_parts HI.out
        generalize strs ((X.now.map (·.1)).take k) = L at *
        go_wp2_with (at_builtin; go_must (refine wpList_append_lies _ rfl (.tmp 19) (.tmp 28) 27 rfl w.heap.size 9 i0 (.string ⟨#[]⟩) 1 16 HU.out hi0 hz0 hz1 hz2 rfl (by decide) (.slice va k vc) k L rfl (HOX.out.alloc _) ⟨wx.heap.size, 0, none⟩ 1 1 [.string x.1] rfl rfl (news_alloc _ #[.string x.1] _ _ rfl) (by simp [Value.oneCell']) (by decide) (by unfold maxLen; omega) (by omega) (by simp; omega) _ rfl ?_); intro gA capA wA hownA hgrow hat hltA)
        have hA : ∀ y, (Value.slice va k vc).ownBlock = some y → w.heap.size ≤ y := fun y hy => (HOX.out.lt y hy).1
        have hf3 : Fr w wA (fun _ => False) := (HFX.out.alloc _).grown hgrow (fun y hy hc => by have := hA y hy; omega)
        have hoA : wA.ownsRow w.heap.size 9 1 (.slice (some ⟨gA, 0, none⟩) (k + 1) capA) (k + 1) (strs ((X.now.map (·.1)).take (k + 1))) := by
          rw [HE.out]; exact hownA
        have HF3 := hide hf3
        have HOA := hide hoA
        clear hf3 hoA hownA hgrow hat
        go_wp2_with fail
        go_roundw
        case rel => exact ⟨k + 1, by omega, by go_num, HOA.out, HF3.out⟩
        case measure => simp [intOf]; omega
      · have hk2 : k = X.now.length := by omega
        clear hox hfx
        go_wp2_with fail
        go_ret2
        refine ⟨_, rfl, ?_, HFX.out⟩
        have := HOX.out
        rw [hk2, List.take_of_length_le (by simp)] at this
        exact Strs.of_owns (l := X.now.map (·.1)) (by rw [List.length_map]; exact this)
namespace R
/-- Files behind the first k turns. -/
def Rk.keep (X : Rk) (k : Nat) : List Fl := (X.wait.take k).foldl turned X.kept
theorem Rk.keep_next {X : Rk} {k : Nat} {t : Tn} (h : X.wait[k]? = some t) : X.keep (k + 1) = turned (X.keep k) t := by
  unfold Rk.keep
  rw [List.take_add_one, h, Option.toList_some, List.foldl_append]; rfl
def Rk.many (X : Rk) (keep : Int) : Nat := min keep.toNat X.wait.length
/-- Of a turn the first bytes. -/
def Tn.first (t : Tn) (n : Int) : Tn := { t with data := t.data.extract 0 (min n t.data.size).toNat }
def Rk.stays (X : Rk) (keep torn : Int) : List Fl := match X.wait[X.many keep]? with | some t => (if t.kind < 4 ∧ 0 < min torn t.data.size then turned (X.keep (X.many keep)) (t.first torn) else X.keep (X.many keep)) | none => X.keep (X.many keep)
def Rk.again (X : Rk) (keep torn : Int) : Rk := ⟨X.stays keep torn, X.stays keep torn, [], -1, false, X.steps⟩
theorem turn_at {w : World} {cv : Value} {l : List Tn} (h : w.ownsRow 0 151 4 cv l.length (l.map Tn.row).flatten) {k : Nat} {c : Tn} (hc : l[k]? = some c) :
    ∃ gc cap, cv = .slice (some ⟨gc, 0, none⟩) l.length cap ∧ w.cell? ⟨gc, k * 4, none⟩ = some (.int .i64 c.kind) ∧ w.cell? ⟨gc, k * 4 + 1, none⟩ = some (.string c.name) ∧ w.cell? ⟨gc, k * 4 + 2, none⟩ = some (.string c.data) ∧ w.cell? ⟨gc, k * 4 + 3, none⟩ = some (.string c.dest) := by
  rcases h.2 with ⟨rfl, h0⟩ | ⟨gc, cap, cur, rfl, _, hg, _⟩
  · have := (List.getElem?_eq_some_iff.1 hc).1; omega
  · have key : ∀ j u, j < 4 → c.row[j]? = some u → w.cell? ⟨gc, k * 4 + j, none⟩ = some u := by
      intro j u hj hu
      have hf := flat4 (l.map Tn.row) (fun c hc => by obtain ⟨x, _, rfl⟩ := List.mem_map.1 hc; rfl) k j c.row (by rw [List.getElem?_map, hc]; rfl) hj
      rw [hu] at hf
      have h3 := h.cells (g := gc) rfl (k * 4 + j) u hf
      have e : (⟨gc, 0, none⟩ : Addr).add (k * 4 + j) = ⟨gc, k * 4 + j, none⟩ := by unfold Addr.add; split <;> simp_all
      rw [e] at h3; exact h3
    exact ⟨gc, cap, rfl, key 0 _ (by omega) rfl, key 1 _ (by omega) rfl, key 2 _ (by omega) rfl, key 3 _ (by omega) rfl⟩
/-- Other files are kept. -/
theorem Lies.kept {w wx wy : World} {C C' : Nat → Prop} {g : Nat} {X : Rk} {K K2 : List Fl} {a : Option Addr} {c base : Nat} (h : Lies wx C' g { X with kept := K }) (hC' : ∀ x, C' x → C x ∨ w.heap.size ≤ x) (hw : w.heap.size ≤ wx.heap.size) (hf : Fr wx wy (fun _ => False)) (ho : wy.ownsRow base 148 2 (.slice a K2.length c) K2.length (flat K2)) (hb : wx.heap.size ≤ base) :
    Lies (wy.setCell ⟨g, 0, none⟩ (.slice a K2.length c)) (fun x => C x ∨ w.heap.size ≤ x) g { X with kept := K2 } := by
  obtain ⟨kv, nv, wv, h1, h2, h3, h4, h5, h6, h7, h8⟩ := h
  have m1 := (hf.block g (Array.getElem?_eq_some_iff.1 h1).1 (fun e => e)).trans h1
  have m3 := owns_fr h3 hf (fun _ _ e => e)
  have m4 := owns_fr h4 hf (fun _ _ e => e)
  have hset := Fr.set1 wy g 0 (.slice a K2.length c)
  have ne : ∀ {s : TypeId} {n z b : Nat} {v : Value} {xs : List Value}, wy.ownsRow b s z v n xs → s ≠ 75 → ∀ c, v.ownBlock = some c → ¬ c = g := fun k hs c hc e => owns_ne k m1 (fun cs x hh => hs (by unfold blk at hh; cases hh; rfl)) (by rw [← e]; exact hc)
  refine ⟨_, nv, wv, block_set (i := 0) m1 _, owns_base (owns_fr ho hset (ne ho (by decide))) (Nat.zero_le _), owns_fr m3 hset (ne m3 (by decide)), owns_fr m4 hset (ne m4 (by decide)), hC' _ h5, fun x hx => .inr ?_, fun x hx => hC' _ (h7 x hx), fun x hx => hC' _ (h8 x hx)⟩
  have := owns_base' ho hx
  omega
/-- The end of Restart. -/
theorem Lies.ends {w wx wy : World} {C C' : Nat → Prop} {g : Nat} {X : Rk} {K : List Fl} {a : Option Addr} {c : Nat} (h : Lies wx C' g { X with kept := K }) (hC' : ∀ x, C' x → C x ∨ w.heap.size ≤ x) (hw : w.heap.size ≤ wx.heap.size) (hf : Fr wx wy (fun _ => False)) (ho : wy.ownsRow wx.heap.size 148 2 (.slice a K.length c) K.length (flat K)) :
    Lies ((((wy.setCell ⟨g, 1, none⟩ (.slice a K.length c)).setCell ⟨g, 2, none⟩ (.slice none 0 0)).setCell ⟨g, 4, none⟩ (.bool false)).setCell ⟨g, 3, none⟩ (.int .i64 (-1))) (fun x => C x ∨ w.heap.size ≤ x) g ⟨K, K, [], -1, false, X.steps⟩ ∧ Fr wy ((((wy.setCell ⟨g, 1, none⟩ (.slice a K.length c)).setCell ⟨g, 2, none⟩ (.slice none 0 0)).setCell ⟨g, 4, none⟩ (.bool false)).setCell ⟨g, 3, none⟩ (.int .i64 (-1))) (fun c => c = g) := by
  obtain ⟨kv, nv, wv, h1, h2, h3, h4, h5, h6, h7, h8⟩ := h
  have m1 := (hf.block g (Array.getElem?_eq_some_iff.1 h1).1 (fun e => e)).trans h1
  have m2 := owns_fr h2 hf (fun _ _ e => e)
  have hset : Fr wy ((((wy.setCell ⟨g, 1, none⟩ (.slice a K.length c)).setCell ⟨g, 2, none⟩ (.slice none 0 0)).setCell ⟨g, 4, none⟩ (.bool false)).setCell ⟨g, 3, none⟩ (.int .i64 (-1))) (fun c => c = g) := ((((Fr.refl wy (fun c => c = g)).set ⟨g, 1, none⟩ _ (fun _ => rfl)).set ⟨g, 2, none⟩ _ (fun _ => rfl)).set ⟨g, 4, none⟩ _ (fun _ => rfl)).set ⟨g, 3, none⟩ _ (fun _ => rfl)
  have ne : ∀ {s : TypeId} {n z b : Nat} {v : Value} {xs : List Value}, wy.ownsRow b s z v n xs → s ≠ 75 → ∀ c, v.ownBlock = some c → ¬ c = g := fun k hs c hc e => owns_ne k m1 (fun cs x hh => hs (by unfold blk at hh; cases hh; rfl)) (by rw [← e]; exact hc)
  refine ⟨⟨kv, _, _, block_set (i := 3) (block_set (i := 4) (block_set (i := 2) (block_set (i := 1) m1 _) _) _) _, owns_fr m2 hset (ne m2 (by decide)), owns_base (owns_fr ho hset (ne ho (by decide))) (Nat.zero_le _), World.ownsRow_nil .., hC' _ h5, fun x hx => hC' _ (h6 x hx), fun x hx => .inr ?_, fun x hx => by cases hx⟩, hset⟩
  have := owns_base' ho hx
  omega
end R
set_option maxRecDepth 100000 in
set_option maxHeartbeats 4000000 in
theorem refRestart_any (w : World) (C : Nat → Prop) (g : Nat) (X : R.Rk) (keep torn : Int) (h : R.Lies w C g X) (hw : X.wait.length ≤ 100000) (hk : ∀ t ∈ X.wait, t.ok) (hsz : ∀ k t, X.wait[k]? = some t → (R.has (X.keep k) t.name).size + t.data.size ≤ 100000) (hkl : ∀ k, (X.keep k).length ≤ 1000) (hst : (X.stays keep torn).length ≤ 1000) (hkp : -9223372036854775808 ≤ keep ∧ keep ≤ 9223372036854775807) (htn : -9223372036854775808 ≤ torn ∧ torn ≤ 9223372036854775807) :
    Calls Try.prog 39 #[.pointer (some ⟨g, 0, none⟩), .int .i64 keep, .int .i64 torn] w fun o w' => o = .returned (.tuple #[]) ∧ (∃ C', R.Lies w' C' g (X.again keep torn) ∧ ∀ x, C' x → C x ∨ w.heap.size ≤ x) ∧ Fr w w' C := by
  have HCg : Hid (C g) := by obtain ⟨_, _, _, _, _, _, _, h5, _⟩ := h; exact h5
  obtain ⟨n, hn⟩ : ∃ n, n = X.many keep := ⟨_, rfl⟩
  have hnl : n ≤ X.wait.length := by rw [hn]; unfold R.Rk.many; omega
  have hcase : (n = 0 ∧ keep < 0) ∨ (keep = (n : Int)) ∨ (n = X.wait.length ∧ (X.wait.length : Int) < keep) := by
    rw [hn] at hnl ⊢; unfold R.Rk.many; omega
  have HST : Hid (X.stays keep torn = match X.wait[n]? with | some t => (if t.kind < 4 ∧ 0 < min torn t.data.size then R.turned (X.keep n) (t.first torn) else X.keep n) | none => X.keep n) := by
    show _ = _
    unfold R.Rk.stays
    rw [← hn]
  have hkn : ∀ k : Nat, k ≤ n → ((k : Int) < keep ∧ k < X.wait.length ↔ k < n) := by
    intro k hk; omega
  clear hn
  obtain ⟨kv0, nv0, wv0, h1, h2, h3, h4, h5, h6, h7, h8⟩ := id h
  have HL0 : Hid (R.Lies w C g { X with kept := X.keep 0 }) := h
  have HK := hide hk
  have HSZ := hide hsz
  have HKL := hide hkl
  have HHST := hide hst
  have HKN := hide hkn
  have HCA := hide hcase
  clear h1 h2 h3 h4 h5 h6 h7 h8 hk hsz hkl h hst hcase hkn
  go_enter Try.func39, Try.ntmps39
  go_wp2_with fail
  go_loopw [6] (fun vi wx => ∃ k : Nat, k ≤ n ∧ vi = .int .i64 k ∧ ∃ C', R.Lies wx C' g { X with kept := X.keep k } ∧ (∀ x, C' x → C x ∨ w.heap.size ≤ x) ∧ Fr w wx C) (fun vi _ => n - (intOf vi).toNat)
  case atStart => exact ⟨0, Nat.zero_le _, rfl, C, HL0.out, fun _ h => .inl h, Fr.refl _ _⟩
  case round =>
    obtain ⟨wx, hwx⟩ : ∃ z, z = wr := ⟨_, rfl⟩
    subst hwx
    obtain ⟨k, hkn, rfl, C', hL, hC', hfx⟩ := hrel
    have hL0 := hL
    obtain ⟨kv, nv, wv, h1, h2, h3, h4, h5, h6, h7, h8⟩ := hL
    have c0 := cell_of_block h1 0 _ rfl
    have c2 := cell_of_block h1 2 _ rfl
    have q0 := free_of_block h1 0
    obtain ⟨a1, p1, ekv⟩ := owns_shape h2
    have hwsz := hfx.size
    by_cases hlt : k < n
    · have hltw : k < X.wait.length := by omega
      have hltk : (k : Int) < keep := ((HKN.out k hkn).2 hlt).1
      obtain ⟨t, ht⟩ : ∃ t, X.wait[k]? = some t := ⟨_, List.getElem?_eq_getElem hltw⟩
      obtain ⟨gc, cap2, ewv, y0, y1, y2, y3⟩ := R.turn_at h4 ht
      have hT := turned_any wx.drew kv (X.keep k) t (R.Fls.of_owns (w := wx) h2) (Nat.le_trans (HKL.out k) (by decide)) (HK.out t (List.mem_of_getElem? ht)) (HSZ.out k t ht)
      have HNX : Hid (X.keep (k + 1) = R.turned (X.keep k) t) := R.Rk.keep_next ht
      have K2 : Hid (∀ w2, Fr wx.drew w2 (fun _ => False) → w2.heap[g]? = wx.heap[g]?) := fun w2 hf => hf.block g (Array.getElem?_eq_some_iff.1 h1).1 (fun e => e)
      have H1 := hide h1
      have HL := hide hL0
      have HCC := hide hC'
      have HFX := hide hfx
      subst ekv ewv
      have HT := hide hT
      clear h1 h2 h3 h4 h5 h6 h7 h8 hT ht hL0 hC' hfx
      go_wp2_with fail
      go_region_with (first | (go_at_call 90; (with_reducible refine Calls.mono HT.out ?_); rintro o w2 ⟨u, rfl, ho2, hf2⟩; obtain ⟨a3, p3, rfl⟩ := owns_shape ho2; have k1 := (K2.out w2 hf2).trans H1.out; have t4 := free_of_block k1 0; have t5 := cell_of_block k1 0 _ rfl))
      all_goals
        have hnew := R.Lies.kept (w := w) (C := C) HL.out HCC.out hwsz (⟨hf2.os, hf2.tape, hf2.output, hf2.size, hf2.block⟩ : Fr wx w2 (fun _ => False)) ho2 (Nat.le_refl _)
        have hfn : Fr w (w2.setCell ⟨g, 0, none⟩ (.slice a3 (R.turned (X.keep k) t).length p3)) C := (HFX.out.trans (⟨hf2.os, hf2.tape, hf2.output, hf2.size, hf2.block⟩ : Fr wx w2 (fun _ => False)) (fun _ _ e => e.elim)).set ⟨g, 0, none⟩ _ (fun _ => HCg.out)
        have HNEW := hide hnew
        have HFN := hide hfn
        clear hnew hfn ho2 hf2 k1 t4 t5
        go_wp2_with fail
        go_roundw
        case rel => exact ⟨k + 1, by omega, by go_num, _, by rw [HNX.out]; exact HNEW.out, fun _ h => h, HFN.out⟩
        case measure => simp [intOf]; omega
    · have hkk : k = n := by omega
      subst hkk
      have hcond : ¬ ((k : Int) < X.wait.length ∧ (k : Int) < keep) := fun hx => hlt ((HKN.out k (Nat.le_refl _)).1 ⟨hx.2, by have := hx.1; omega⟩)
      have hwl : (X.wait.length : Int) ≤ 100000 := by omega
      by_cases hin : k < X.wait.length
      · obtain ⟨t, ht⟩ : ∃ t, X.wait[k]? = some t := ⟨_, List.getElem?_eq_getElem hin⟩
        obtain ⟨gc, cap2, ewv, y0, y1, y2, y3⟩ := R.turn_at h4 ht
        subst ekv ewv
        have HL := hide hL0
        have HCC := hide hC'
        have HFX := hide hfx
        have hA : keep < 0 ∧ k = 0 ∨ keep = k := by have := HCA.out; omega
        clear h1 h2 h3 h4 h5 h6 h7 h8 hL0 hC' hfx hkn hlt
        by_cases hkd : t.kind < 4
        · rcases hA with ⟨hneg, hk0⟩ | rfl
          · have hmx0 : max keep 0 = 0 := by omega
            subst hk0
            simp only [Nat.zero_mul, Nat.zero_add] at y0 y1 y2 y3
            go_upto_region 9 with (fail)
            have hfA : Fr wx (wx.alloc (.cells #[.int .i64 t.kind, .string t.name, .string (t.data.extract 0 (min (max torn 0) (t.data.size : Int)).toNat), .string t.dest] 151)) (fun _ => False) := (Fr.refl wx _).alloc _
            have hEA : (wx.alloc (.cells #[.int .i64 t.kind, .string t.name, .string (t.data.extract 0 (min (max torn 0) (t.data.size : Int)).toNat), .string t.dest] 151)).heap[wx.heap.size]? = some (.cells #[.int .i64 t.kind, .string t.name, .string (t.data.extract 0 (min (max torn 0) (t.data.size : Int)).toNat), .string t.dest] 151 (0, 0)) := heap_alloc_new _ _
            generalize wx.alloc (.cells #[.int .i64 t.kind, .string t.name, .string (t.data.extract 0 (min (max torn 0) (t.data.size : Int)).toNat), .string t.dest] 151) = wA at *
            have hLA := HL.out.fr hfA (fun _ _ h => h)
            have hfwA : Fr w wA C := HFX.out.trans hfA (fun _ _ e => e.elim)
            have hwA : w.heap.size ≤ wA.heap.size := hfwA.size
            have HMP : Hid (0 < min (max torn 0) (t.data.size : Int) → t.first torn = ⟨t.kind, t.name, t.data.extract 0 (min (max torn 0) (t.data.size : Int)).toNat, t.dest⟩ ∧ 0 < min torn (t.data.size : Int)) := fun hx => by
              have e : max torn 0 = torn := by omega
              rw [e] at hx ⊢
              exact ⟨rfl, hx⟩
            have HMN : Hid (¬ 0 < min (max torn 0) (t.data.size : Int) → ¬ 0 < min torn (t.data.size : Int)) := fun hx hy => hx (by omega)
            have HEX : Hid ((t.data.extract 0 (min (max torn 0) (t.data.size : Int)).toNat).size ≤ t.data.size) := by show _ ≤ _; rw [ByteArray.size_extract]; omega
            generalize min (max torn 0) (t.data.size : Int) = mm at *
            clear c0 c2 q0 y0 y1 y2 y3
            by_cases hp : 0 < mm
            · have HSTK : Hid (X.stays keep torn = R.turned (X.keep 0) ⟨t.kind, t.name, t.data.extract 0 mm.toNat, t.dest⟩) := by show _ = _; rw [HST.out, ht]; show (if _ then _ else _) = _; rw [if_pos ⟨hkd, (HMP.out hp).2⟩, (HMP.out hp).1]
              have hexs := HEX.out
              have hszt := HSZ.out 0 t ht
              have hokt := HK.out t (List.mem_of_getElem? ht)
              generalize t.data.extract 0 mm.toNat = dx at *
              clear ht
              obtain ⟨kv, nv, wv, h1, h2, h3, h4, h5, h6, h7, h8⟩ := id hLA
              have c0 := cell_of_block h1 0 _ rfl
              have q0 := free_of_block h1 0
              have e0 := cell_of_block hEA 0 _ rfl
              have e1 := cell_of_block hEA 1 _ rfl
              have e2 := cell_of_block hEA 2 _ rfl
              have e3 := cell_of_block hEA 3 _ rfl
              have HT := hide (turned_any wA.drew kv (X.keep 0) ⟨t.kind, t.name, dx, t.dest⟩ (R.Fls.of_owns (w := wA) h2) (Nat.le_trans (HKL.out 0) (by decide)) hokt (by show (R.has (X.keep 0) t.name).size + dx.size ≤ 100000; omega))
              have K2 : Hid (∀ w2, Fr wA.drew w2 (fun _ => False) → w2.heap[g]? = wA.heap[g]?) := fun w2 hf => hf.block g (Array.getElem?_eq_some_iff.1 h1).1 (fun e => e)
              obtain ⟨a1z, p1z, ekvz⟩ := owns_shape h2
              subst ekvz
              have H1 := hide h1
              have HLA := hide hLA
              have HFWA := hide hfwA
              clear h1 h2 h3 h4 h5 h6 h7 h8 hLA hfwA hEA hfA hszt hokt hexs
              go_wp2_with fail
              go_region_with (first | (go_at_call 90; (with_reducible refine Calls.mono HT.out ?_); rintro o w2 ⟨u, rfl, ho2, hf2⟩; obtain ⟨a3, p3, rfl⟩ := owns_shape ho2; have k1 := (K2.out w2 hf2).trans H1.out; have t4 := free_of_block k1 0; have t5 := cell_of_block k1 0 _ rfl))
              all_goals
                have hLz := R.Lies.kept (w := w) (C := C) HLA.out HCC.out hwA (⟨hf2.os, hf2.tape, hf2.output, hf2.size, hf2.block⟩ : Fr wA w2 (fun _ => False)) ho2 (Nat.le_refl _)
                have hfz : Fr w (w2.setCell ⟨g, 0, none⟩ (.slice a3 (R.turned (X.keep 0) ⟨t.kind, t.name, dx, t.dest⟩).length p3)) C := (HFWA.out.trans (⟨hf2.os, hf2.tape, hf2.output, hf2.size, hf2.block⟩ : Fr wA w2 (fun _ => False)) (fun _ _ e => e.elim)).set ⟨g, 0, none⟩ _ (fun _ => HCg.out)
                have hwz := hfz.size
                have hKl : (R.turned (X.keep 0) ⟨t.kind, t.name, dx, t.dest⟩).length ≤ 100000 := by rw [← HSTK.out]; exact Nat.le_trans HHST.out (by decide)
                have hCz : ∀ x, (C x ∨ w.heap.size ≤ x) → C x ∨ w.heap.size ≤ x := fun _ h => h
                clear ho2 hf2 k1 t4 t5 e0 e1 e2 e3 c0 q0 HT K2 H1
                generalize w2.setCell ⟨g, 0, none⟩ (.slice a3 (R.turned (X.keep 0) ⟨t.kind, t.name, dx, t.dest⟩).length p3) = w4 at *
                obtain ⟨kvz, nvz, wvz, b1, b2, b3, b4, b5, b6, b7, b8⟩ := id hLz
                obtain ⟨ka, kc, w5, hr, ho5, hg5⟩ := copy_run w4 (R.turned (X.keep 0) ⟨t.kind, t.name, dx, t.dest⟩) kvz b2 hKl
                have hf5 : Fr w4 w5 (fun _ => False) := (Fr.refl w4 _).grown hg5 (fun c e => by cases e)
                have z1 := (hf5.block g (Array.getElem?_eq_some_iff.1 b1).1 (fun e => e)).trans b1
                have z0 := cell_of_block b1 0 _ rfl
                have f1 := free_of_block z1 1
                have r1 := cell_of_block z1 1 _ rfl
                have z1a := block_set (i := 1) z1 (.slice ka (R.turned (X.keep 0) ⟨t.kind, t.name, dx, t.dest⟩).length kc)
                have f2 := free_of_block z1a 2
                have r2 := cell_of_block z1a 2 _ rfl
                have z1b := block_set (i := 2) z1a (.slice none 0 0)
                have f4 := free_of_block z1b 4
                have r4 := cell_of_block z1b 4 _ rfl
                have z1c := block_set (i := 4) z1b (.bool false)
                have f3 := free_of_block z1c 3
                have r3 := cell_of_block z1c 3 _ rfl
                have hE := R.Lies.ends (w := w) (C := C) hLz hCz hwz hf5 ho5
                have hfin := ((hfz.trans hf5 (fun _ _ e => e.elim)).trans hE.2 (fun x _ e => by rw [e]; exact HCg.out))
                obtain ⟨ka1, kp1, ekv2⟩ := owns_shape b2
                subst ekv2
                have HR := hide hr
                have HE := hide hE.1
                have HFIN := hide hfin
                clear hr hE hfin hf5 z1 z1a z1b z1c b1 b2 b3 b4 b5 b6 b7 b8 ho5 hg5 hLz hCz hfz
                go_wp2_with (at_builtin; refine Lib.wpList_append_run _ rfl _ _ _ _ rfl _ _ rfl rfl _ _ HR.out ?_)
                go_end0
                exact ⟨rfl, ⟨_, by unfold R.Rk.again; rw [HSTK.out]; exact HE.out, fun _ h => h⟩, HFIN.out⟩
            · have HSTK : Hid (X.stays keep torn = X.keep 0) := by show _ = _; rw [HST.out, ht]; show (if _ then _ else _) = _; rw [if_neg (fun hx => HMN.out hp hx.2)]
              clear ht
              have hLz := hLA
              have hCz := HCC.out
              have hfz := hfwA
              have hwz := hwA
              have hKl : (X.keep 0).length ≤ 100000 := Nat.le_trans (HKL.out 0) (by decide)
              clear hLA hEA hfA hfwA
              obtain ⟨kvz, nvz, wvz, b1, b2, b3, b4, b5, b6, b7, b8⟩ := id hLz
              obtain ⟨ka, kc, w5, hr, ho5, hg5⟩ := copy_run wA (X.keep 0) kvz b2 hKl
              have hf5 : Fr wA w5 (fun _ => False) := (Fr.refl wA _).grown hg5 (fun c e => by cases e)
              have z1 := (hf5.block g (Array.getElem?_eq_some_iff.1 b1).1 (fun e => e)).trans b1
              have z0 := cell_of_block b1 0 _ rfl
              have f1 := free_of_block z1 1
              have r1 := cell_of_block z1 1 _ rfl
              have z1a := block_set (i := 1) z1 (.slice ka (X.keep 0).length kc)
              have f2 := free_of_block z1a 2
              have r2 := cell_of_block z1a 2 _ rfl
              have z1b := block_set (i := 2) z1a (.slice none 0 0)
              have f4 := free_of_block z1b 4
              have r4 := cell_of_block z1b 4 _ rfl
              have z1c := block_set (i := 4) z1b (.bool false)
              have f3 := free_of_block z1c 3
              have r3 := cell_of_block z1c 3 _ rfl
              have hE := R.Lies.ends (w := w) (C := C) hLz hCz hwz hf5 ho5
              have hfin := ((hfz.trans hf5 (fun _ _ e => e.elim)).trans hE.2 (fun x _ e => by rw [e]; exact HCg.out))
              obtain ⟨ka1, kp1, ekv2⟩ := owns_shape b2
              subst ekv2
              have HR := hide hr
              have HE := hide hE.1
              have HFIN := hide hfin
              clear hr hE hfin hf5 z1 z1a z1b z1c b1 b2 b3 b4 b5 b6 b7 b8 ho5 hg5 hLz hCz hfz
              go_wp2_with (at_builtin; refine Lib.wpList_append_run _ rfl _ _ _ _ rfl _ _ rfl rfl _ _ HR.out ?_)
              go_end0
              exact ⟨rfl, ⟨_, by unfold R.Rk.again; rw [HSTK.out]; exact HE.out, fun _ h => h⟩, HFIN.out⟩
          · skip
            go_upto_region 9 with (fail)
            have hfA : Fr wx (wx.alloc (.cells #[.int .i64 t.kind, .string t.name, .string (t.data.extract 0 (min (max torn 0) (t.data.size : Int)).toNat), .string t.dest] 151)) (fun _ => False) := (Fr.refl wx _).alloc _
            have hEA : (wx.alloc (.cells #[.int .i64 t.kind, .string t.name, .string (t.data.extract 0 (min (max torn 0) (t.data.size : Int)).toNat), .string t.dest] 151)).heap[wx.heap.size]? = some (.cells #[.int .i64 t.kind, .string t.name, .string (t.data.extract 0 (min (max torn 0) (t.data.size : Int)).toNat), .string t.dest] 151 (0, 0)) := heap_alloc_new _ _
            generalize wx.alloc (.cells #[.int .i64 t.kind, .string t.name, .string (t.data.extract 0 (min (max torn 0) (t.data.size : Int)).toNat), .string t.dest] 151) = wA at *
            have hLA := HL.out.fr hfA (fun _ _ h => h)
            have hfwA : Fr w wA C := HFX.out.trans hfA (fun _ _ e => e.elim)
            have hwA : w.heap.size ≤ wA.heap.size := hfwA.size
            have HMP : Hid (0 < min (max torn 0) (t.data.size : Int) → t.first torn = ⟨t.kind, t.name, t.data.extract 0 (min (max torn 0) (t.data.size : Int)).toNat, t.dest⟩ ∧ 0 < min torn (t.data.size : Int)) := fun hx => by
              have e : max torn 0 = torn := by omega
              rw [e] at hx ⊢
              exact ⟨rfl, hx⟩
            have HMN : Hid (¬ 0 < min (max torn 0) (t.data.size : Int) → ¬ 0 < min torn (t.data.size : Int)) := fun hx hy => hx (by omega)
            have HEX : Hid ((t.data.extract 0 (min (max torn 0) (t.data.size : Int)).toNat).size ≤ t.data.size) := by show _ ≤ _; rw [ByteArray.size_extract]; omega
            generalize min (max torn 0) (t.data.size : Int) = mm at *
            clear c0 c2 q0 y0 y1 y2 y3
            by_cases hp : 0 < mm
            · have HSTK : Hid (X.stays (k : Int) torn = R.turned (X.keep k) ⟨t.kind, t.name, t.data.extract 0 mm.toNat, t.dest⟩) := by show _ = _; rw [HST.out, ht]; show (if _ then _ else _) = _; rw [if_pos ⟨hkd, (HMP.out hp).2⟩, (HMP.out hp).1]
              have hexs := HEX.out
              have hszt := HSZ.out k t ht
              have hokt := HK.out t (List.mem_of_getElem? ht)
              generalize t.data.extract 0 mm.toNat = dx at *
              clear ht
              obtain ⟨kv, nv, wv, h1, h2, h3, h4, h5, h6, h7, h8⟩ := id hLA
              have c0 := cell_of_block h1 0 _ rfl
              have q0 := free_of_block h1 0
              have e0 := cell_of_block hEA 0 _ rfl
              have e1 := cell_of_block hEA 1 _ rfl
              have e2 := cell_of_block hEA 2 _ rfl
              have e3 := cell_of_block hEA 3 _ rfl
              have HT := hide (turned_any wA.drew kv (X.keep k) ⟨t.kind, t.name, dx, t.dest⟩ (R.Fls.of_owns (w := wA) h2) (Nat.le_trans (HKL.out k) (by decide)) hokt (by show (R.has (X.keep k) t.name).size + dx.size ≤ 100000; omega))
              have K2 : Hid (∀ w2, Fr wA.drew w2 (fun _ => False) → w2.heap[g]? = wA.heap[g]?) := fun w2 hf => hf.block g (Array.getElem?_eq_some_iff.1 h1).1 (fun e => e)
              obtain ⟨a1z, p1z, ekvz⟩ := owns_shape h2
              subst ekvz
              have H1 := hide h1
              have HLA := hide hLA
              have HFWA := hide hfwA
              clear h1 h2 h3 h4 h5 h6 h7 h8 hLA hfwA hEA hfA hszt hokt hexs
              go_wp2_with fail
              go_region_with (first | (go_at_call 90; (with_reducible refine Calls.mono HT.out ?_); rintro o w2 ⟨u, rfl, ho2, hf2⟩; obtain ⟨a3, p3, rfl⟩ := owns_shape ho2; have k1 := (K2.out w2 hf2).trans H1.out; have t4 := free_of_block k1 0; have t5 := cell_of_block k1 0 _ rfl))
              all_goals
                have hLz := R.Lies.kept (w := w) (C := C) HLA.out HCC.out hwA (⟨hf2.os, hf2.tape, hf2.output, hf2.size, hf2.block⟩ : Fr wA w2 (fun _ => False)) ho2 (Nat.le_refl _)
                have hfz : Fr w (w2.setCell ⟨g, 0, none⟩ (.slice a3 (R.turned (X.keep k) ⟨t.kind, t.name, dx, t.dest⟩).length p3)) C := (HFWA.out.trans (⟨hf2.os, hf2.tape, hf2.output, hf2.size, hf2.block⟩ : Fr wA w2 (fun _ => False)) (fun _ _ e => e.elim)).set ⟨g, 0, none⟩ _ (fun _ => HCg.out)
                have hwz := hfz.size
                have hKl : (R.turned (X.keep k) ⟨t.kind, t.name, dx, t.dest⟩).length ≤ 100000 := by rw [← HSTK.out]; exact Nat.le_trans HHST.out (by decide)
                have hCz : ∀ x, (C x ∨ w.heap.size ≤ x) → C x ∨ w.heap.size ≤ x := fun _ h => h
                clear ho2 hf2 k1 t4 t5 e0 e1 e2 e3 c0 q0 HT K2 H1
                generalize w2.setCell ⟨g, 0, none⟩ (.slice a3 (R.turned (X.keep k) ⟨t.kind, t.name, dx, t.dest⟩).length p3) = w4 at *
                obtain ⟨kvz, nvz, wvz, b1, b2, b3, b4, b5, b6, b7, b8⟩ := id hLz
                obtain ⟨ka, kc, w5, hr, ho5, hg5⟩ := copy_run w4 (R.turned (X.keep k) ⟨t.kind, t.name, dx, t.dest⟩) kvz b2 hKl
                have hf5 : Fr w4 w5 (fun _ => False) := (Fr.refl w4 _).grown hg5 (fun c e => by cases e)
                have z1 := (hf5.block g (Array.getElem?_eq_some_iff.1 b1).1 (fun e => e)).trans b1
                have z0 := cell_of_block b1 0 _ rfl
                have f1 := free_of_block z1 1
                have r1 := cell_of_block z1 1 _ rfl
                have z1a := block_set (i := 1) z1 (.slice ka (R.turned (X.keep k) ⟨t.kind, t.name, dx, t.dest⟩).length kc)
                have f2 := free_of_block z1a 2
                have r2 := cell_of_block z1a 2 _ rfl
                have z1b := block_set (i := 2) z1a (.slice none 0 0)
                have f4 := free_of_block z1b 4
                have r4 := cell_of_block z1b 4 _ rfl
                have z1c := block_set (i := 4) z1b (.bool false)
                have f3 := free_of_block z1c 3
                have r3 := cell_of_block z1c 3 _ rfl
                have hE := R.Lies.ends (w := w) (C := C) hLz hCz hwz hf5 ho5
                have hfin := ((hfz.trans hf5 (fun _ _ e => e.elim)).trans hE.2 (fun x _ e => by rw [e]; exact HCg.out))
                obtain ⟨ka1, kp1, ekv2⟩ := owns_shape b2
                subst ekv2
                have HR := hide hr
                have HE := hide hE.1
                have HFIN := hide hfin
                clear hr hE hfin hf5 z1 z1a z1b z1c b1 b2 b3 b4 b5 b6 b7 b8 ho5 hg5 hLz hCz hfz
                go_wp2_with (at_builtin; refine Lib.wpList_append_run _ rfl _ _ _ _ rfl _ _ rfl rfl _ _ HR.out ?_)
                go_end0
                exact ⟨rfl, ⟨_, by unfold R.Rk.again; rw [HSTK.out]; exact HE.out, fun _ h => h⟩, HFIN.out⟩
            · have HSTK : Hid (X.stays (k : Int) torn = X.keep k) := by show _ = _; rw [HST.out, ht]; show (if _ then _ else _) = _; rw [if_neg (fun hx => HMN.out hp hx.2)]
              clear ht
              have hLz := hLA
              have hCz := HCC.out
              have hfz := hfwA
              have hwz := hwA
              have hKl : (X.keep k).length ≤ 100000 := Nat.le_trans (HKL.out k) (by decide)
              clear hLA hEA hfA hfwA
              obtain ⟨kvz, nvz, wvz, b1, b2, b3, b4, b5, b6, b7, b8⟩ := id hLz
              obtain ⟨ka, kc, w5, hr, ho5, hg5⟩ := copy_run wA (X.keep k) kvz b2 hKl
              have hf5 : Fr wA w5 (fun _ => False) := (Fr.refl wA _).grown hg5 (fun c e => by cases e)
              have z1 := (hf5.block g (Array.getElem?_eq_some_iff.1 b1).1 (fun e => e)).trans b1
              have z0 := cell_of_block b1 0 _ rfl
              have f1 := free_of_block z1 1
              have r1 := cell_of_block z1 1 _ rfl
              have z1a := block_set (i := 1) z1 (.slice ka (X.keep k).length kc)
              have f2 := free_of_block z1a 2
              have r2 := cell_of_block z1a 2 _ rfl
              have z1b := block_set (i := 2) z1a (.slice none 0 0)
              have f4 := free_of_block z1b 4
              have r4 := cell_of_block z1b 4 _ rfl
              have z1c := block_set (i := 4) z1b (.bool false)
              have f3 := free_of_block z1c 3
              have r3 := cell_of_block z1c 3 _ rfl
              have hE := R.Lies.ends (w := w) (C := C) hLz hCz hwz hf5 ho5
              have hfin := ((hfz.trans hf5 (fun _ _ e => e.elim)).trans hE.2 (fun x _ e => by rw [e]; exact HCg.out))
              obtain ⟨ka1, kp1, ekv2⟩ := owns_shape b2
              subst ekv2
              have HR := hide hr
              have HE := hide hE.1
              have HFIN := hide hfin
              clear hr hE hfin hf5 z1 z1a z1b z1c b1 b2 b3 b4 b5 b6 b7 b8 ho5 hg5 hLz hCz hfz
              go_wp2_with (at_builtin; refine Lib.wpList_append_run _ rfl _ _ _ _ rfl _ _ rfl rfl _ _ HR.out ?_)
              go_end0
              exact ⟨rfl, ⟨_, by unfold R.Rk.again; rw [HSTK.out]; exact HE.out, fun _ h => h⟩, HFIN.out⟩
        · have HSTK : Hid (X.stays keep torn = X.keep k) := by show _ = _; rw [HST.out, ht]; show (if _ then _ else _) = _; rw [if_neg (fun hx => hkd hx.1)]
          clear ht
          have hLz := HL.out
          have hCz := HCC.out
          have hfz := HFX.out
          have hwz : w.heap.size ≤ wx.heap.size := hwsz
          have hKl : (X.keep k).length ≤ 100000 := Nat.le_trans (HKL.out k) (by decide)
          rcases hA with ⟨hneg, hk0⟩ | rfl
          · have hmx0 : max keep 0 = 0 := by omega
            subst hk0
            simp only [Nat.zero_mul, Nat.zero_add] at y0 y1 y2 y3
            go_upto_region 11 with (fail)
            clear c0 c2 q0
            obtain ⟨kvz, nvz, wvz, b1, b2, b3, b4, b5, b6, b7, b8⟩ := id hLz
            obtain ⟨ka, kc, w5, hr, ho5, hg5⟩ := copy_run wx (X.keep 0) kvz b2 hKl
            have hf5 : Fr wx w5 (fun _ => False) := (Fr.refl wx _).grown hg5 (fun c e => by cases e)
            have z1 := (hf5.block g (Array.getElem?_eq_some_iff.1 b1).1 (fun e => e)).trans b1
            have z0 := cell_of_block b1 0 _ rfl
            have f1 := free_of_block z1 1
            have r1 := cell_of_block z1 1 _ rfl
            have z1a := block_set (i := 1) z1 (.slice ka (X.keep 0).length kc)
            have f2 := free_of_block z1a 2
            have r2 := cell_of_block z1a 2 _ rfl
            have z1b := block_set (i := 2) z1a (.slice none 0 0)
            have f4 := free_of_block z1b 4
            have r4 := cell_of_block z1b 4 _ rfl
            have z1c := block_set (i := 4) z1b (.bool false)
            have f3 := free_of_block z1c 3
            have r3 := cell_of_block z1c 3 _ rfl
            have hE := R.Lies.ends (w := w) (C := C) hLz hCz hwz hf5 ho5
            have hfin := ((hfz.trans hf5 (fun _ _ e => e.elim)).trans hE.2 (fun x _ e => by rw [e]; exact HCg.out))
            obtain ⟨ka1, kp1, ekv2⟩ := owns_shape b2
            subst ekv2
            have HR := hide hr
            have HE := hide hE.1
            have HFIN := hide hfin
            clear hr hE hfin hf5 z1 z1a z1b z1c b1 b2 b3 b4 b5 b6 b7 b8 ho5 hg5 hLz hCz hfz
            go_wp2_with (at_builtin; refine Lib.wpList_append_run _ rfl _ _ _ _ rfl _ _ rfl rfl _ _ HR.out ?_)
            go_end0
            exact ⟨rfl, ⟨_, by unfold R.Rk.again; rw [HSTK.out]; exact HE.out, fun _ h => h⟩, HFIN.out⟩
          · skip
            go_upto_region 11 with (fail)
            clear c0 c2 q0
            obtain ⟨kvz, nvz, wvz, b1, b2, b3, b4, b5, b6, b7, b8⟩ := id hLz
            obtain ⟨ka, kc, w5, hr, ho5, hg5⟩ := copy_run wx (X.keep k) kvz b2 hKl
            have hf5 : Fr wx w5 (fun _ => False) := (Fr.refl wx _).grown hg5 (fun c e => by cases e)
            have z1 := (hf5.block g (Array.getElem?_eq_some_iff.1 b1).1 (fun e => e)).trans b1
            have z0 := cell_of_block b1 0 _ rfl
            have f1 := free_of_block z1 1
            have r1 := cell_of_block z1 1 _ rfl
            have z1a := block_set (i := 1) z1 (.slice ka (X.keep k).length kc)
            have f2 := free_of_block z1a 2
            have r2 := cell_of_block z1a 2 _ rfl
            have z1b := block_set (i := 2) z1a (.slice none 0 0)
            have f4 := free_of_block z1b 4
            have r4 := cell_of_block z1b 4 _ rfl
            have z1c := block_set (i := 4) z1b (.bool false)
            have f3 := free_of_block z1c 3
            have r3 := cell_of_block z1c 3 _ rfl
            have hE := R.Lies.ends (w := w) (C := C) hLz hCz hwz hf5 ho5
            have hfin := ((hfz.trans hf5 (fun _ _ e => e.elim)).trans hE.2 (fun x _ e => by rw [e]; exact HCg.out))
            obtain ⟨ka1, kp1, ekv2⟩ := owns_shape b2
            subst ekv2
            have HR := hide hr
            have HE := hide hE.1
            have HFIN := hide hfin
            clear hr hE hfin hf5 z1 z1a z1b z1c b1 b2 b3 b4 b5 b6 b7 b8 ho5 hg5 hLz hCz hfz
            go_wp2_with (at_builtin; refine Lib.wpList_append_run _ rfl _ _ _ _ rfl _ _ rfl rfl _ _ HR.out ?_)
            go_end0
            exact ⟨rfl, ⟨_, by unfold R.Rk.again; rw [HSTK.out]; exact HE.out, fun _ h => h⟩, HFIN.out⟩
      · have HSTK : Hid (X.stays keep torn = X.keep k) := by show _ = _; rw [HST.out, List.getElem?_eq_none (by omega)]
        obtain ⟨aw, cw, ewv⟩ := owns_shape h4
        have hA : keep < 0 ∧ k = 0 ∨ keep = k ∨ (X.wait.length : Int) < keep := by have := HCA.out; omega
        subst ekv ewv
        have HL := hide hL0
        have HCC := hide hC'
        have HFX := hide hfx
        clear h1 h2 h3 h4 h5 h6 h7 h8 hL0 hC' hfx hkn hlt
        have hLz := HL.out
        have hCz := HCC.out
        have hfz := HFX.out
        have hwz : w.heap.size ≤ wx.heap.size := hwsz
        have hKl : (X.keep k).length ≤ 100000 := Nat.le_trans (HKL.out k) (by decide)
        rcases hA with ⟨hneg, hk0⟩ | rfl | hgt
        · have hmx0 : max keep 0 = 0 := by omega
          subst hk0
          go_upto_region 11 with (fail)
          clear c0 c2 q0
          obtain ⟨kvz, nvz, wvz, b1, b2, b3, b4, b5, b6, b7, b8⟩ := id hLz
          obtain ⟨ka, kc, w5, hr, ho5, hg5⟩ := copy_run wx (X.keep 0) kvz b2 hKl
          have hf5 : Fr wx w5 (fun _ => False) := (Fr.refl wx _).grown hg5 (fun c e => by cases e)
          have z1 := (hf5.block g (Array.getElem?_eq_some_iff.1 b1).1 (fun e => e)).trans b1
          have z0 := cell_of_block b1 0 _ rfl
          have f1 := free_of_block z1 1
          have r1 := cell_of_block z1 1 _ rfl
          have z1a := block_set (i := 1) z1 (.slice ka (X.keep 0).length kc)
          have f2 := free_of_block z1a 2
          have r2 := cell_of_block z1a 2 _ rfl
          have z1b := block_set (i := 2) z1a (.slice none 0 0)
          have f4 := free_of_block z1b 4
          have r4 := cell_of_block z1b 4 _ rfl
          have z1c := block_set (i := 4) z1b (.bool false)
          have f3 := free_of_block z1c 3
          have r3 := cell_of_block z1c 3 _ rfl
          have hE := R.Lies.ends (w := w) (C := C) hLz hCz hwz hf5 ho5
          have hfin := ((hfz.trans hf5 (fun _ _ e => e.elim)).trans hE.2 (fun x _ e => by rw [e]; exact HCg.out))
          obtain ⟨ka1, kp1, ekv2⟩ := owns_shape b2
          subst ekv2
          have HR := hide hr
          have HE := hide hE.1
          have HFIN := hide hfin
          clear hr hE hfin hf5 z1 z1a z1b z1c b1 b2 b3 b4 b5 b6 b7 b8 ho5 hg5 hLz hCz hfz
          go_wp2_with (at_builtin; refine Lib.wpList_append_run _ rfl _ _ _ _ rfl _ _ rfl rfl _ _ HR.out ?_)
          go_end0
          exact ⟨rfl, ⟨_, by unfold R.Rk.again; rw [HSTK.out]; exact HE.out, fun _ h => h⟩, HFIN.out⟩
        · skip
          go_upto_region 11 with (fail)
          clear c0 c2 q0
          obtain ⟨kvz, nvz, wvz, b1, b2, b3, b4, b5, b6, b7, b8⟩ := id hLz
          obtain ⟨ka, kc, w5, hr, ho5, hg5⟩ := copy_run wx (X.keep k) kvz b2 hKl
          have hf5 : Fr wx w5 (fun _ => False) := (Fr.refl wx _).grown hg5 (fun c e => by cases e)
          have z1 := (hf5.block g (Array.getElem?_eq_some_iff.1 b1).1 (fun e => e)).trans b1
          have z0 := cell_of_block b1 0 _ rfl
          have f1 := free_of_block z1 1
          have r1 := cell_of_block z1 1 _ rfl
          have z1a := block_set (i := 1) z1 (.slice ka (X.keep k).length kc)
          have f2 := free_of_block z1a 2
          have r2 := cell_of_block z1a 2 _ rfl
          have z1b := block_set (i := 2) z1a (.slice none 0 0)
          have f4 := free_of_block z1b 4
          have r4 := cell_of_block z1b 4 _ rfl
          have z1c := block_set (i := 4) z1b (.bool false)
          have f3 := free_of_block z1c 3
          have r3 := cell_of_block z1c 3 _ rfl
          have hE := R.Lies.ends (w := w) (C := C) hLz hCz hwz hf5 ho5
          have hfin := ((hfz.trans hf5 (fun _ _ e => e.elim)).trans hE.2 (fun x _ e => by rw [e]; exact HCg.out))
          obtain ⟨ka1, kp1, ekv2⟩ := owns_shape b2
          subst ekv2
          have HR := hide hr
          have HE := hide hE.1
          have HFIN := hide hfin
          clear hr hE hfin hf5 z1 z1a z1b z1c b1 b2 b3 b4 b5 b6 b7 b8 ho5 hg5 hLz hCz hfz
          go_wp2_with (at_builtin; refine Lib.wpList_append_run _ rfl _ _ _ _ rfl _ _ rfl rfl _ _ HR.out ?_)
          go_end0
          exact ⟨rfl, ⟨_, by unfold R.Rk.again; rw [HSTK.out]; exact HE.out, fun _ h => h⟩, HFIN.out⟩
        · have hmx0 : max keep 0 = keep := by omega
          go_upto_region 11 with (fail)
          clear c0 c2 q0
          obtain ⟨kvz, nvz, wvz, b1, b2, b3, b4, b5, b6, b7, b8⟩ := id hLz
          obtain ⟨ka, kc, w5, hr, ho5, hg5⟩ := copy_run wx (X.keep k) kvz b2 hKl
          have hf5 : Fr wx w5 (fun _ => False) := (Fr.refl wx _).grown hg5 (fun c e => by cases e)
          have z1 := (hf5.block g (Array.getElem?_eq_some_iff.1 b1).1 (fun e => e)).trans b1
          have z0 := cell_of_block b1 0 _ rfl
          have f1 := free_of_block z1 1
          have r1 := cell_of_block z1 1 _ rfl
          have z1a := block_set (i := 1) z1 (.slice ka (X.keep k).length kc)
          have f2 := free_of_block z1a 2
          have r2 := cell_of_block z1a 2 _ rfl
          have z1b := block_set (i := 2) z1a (.slice none 0 0)
          have f4 := free_of_block z1b 4
          have r4 := cell_of_block z1b 4 _ rfl
          have z1c := block_set (i := 4) z1b (.bool false)
          have f3 := free_of_block z1c 3
          have r3 := cell_of_block z1c 3 _ rfl
          have hE := R.Lies.ends (w := w) (C := C) hLz hCz hwz hf5 ho5
          have hfin := ((hfz.trans hf5 (fun _ _ e => e.elim)).trans hE.2 (fun x _ e => by rw [e]; exact HCg.out))
          obtain ⟨ka1, kp1, ekv2⟩ := owns_shape b2
          subst ekv2
          have HR := hide hr
          have HE := hide hE.1
          have HFIN := hide hfin
          clear hr hE hfin hf5 z1 z1a z1b z1c b1 b2 b3 b4 b5 b6 b7 b8 ho5 hg5 hLz hCz hfz
          go_wp2_with (at_builtin; refine Lib.wpList_append_run _ rfl _ _ _ _ rfl _ _ rfl rfl _ _ HR.out ?_)
          go_end0
          exact ⟨rfl, ⟨_, by unfold R.Rk.again; rw [HSTK.out]; exact HE.out, fun _ h => h⟩, HFIN.out⟩
end Go.Proofs.Ytmlbcdofogffkab
