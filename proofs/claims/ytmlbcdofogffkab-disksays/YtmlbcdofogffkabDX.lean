/- TopLog's loop: its start, and its steps. -/
import Derived.Test.YtmlbcdofogffkabDW
namespace Go.Proofs.Ytmlbcdofogffkab
open Go.RowKit
theorem Std.arm {D : Dk} {L : List ByteArray} {b a : Int} (h : Std D L b) (ha : -1 ≤ a ∧ a ≤ 100) : Std (D.armed a) L b := ⟨h.kept, h.files, h.chg, h.down, h.steps, ha⟩
theorem own_one (b0 : Nat) (w : World) (hb : b0 ≤ w.heap.size) : (w.alloc (.cells #[.string one] 9)).ownsRow b0 9 1 (.slice (some ⟨w.heap.size, 0, none⟩) 1 1) 1 (strs [one]) :=
  ⟨rfl, .inr ⟨w.heap.size, 1, #[.string one], rfl, hb, heap_alloc_new _ _, Nat.le_refl _, by unfold maxLen; omega, rfl, rfl⟩⟩
theorem disk_g {w : World} {B : Nat → Prop} {g : Nat} {D : Dk} (h : Disk w B g D) : B g := by
  obtain ⟨_, _, _, _, _, _, _, _, h6, _⟩ := h; exact h6
theorem adding_start {w w3 wc : World} {B B2 : Nat → Prop} {q g : Nat} {D : Dk} {a : Int} (l : List ByteArray) (hfw : Fr w w3 (fun _ => False)) (hB : (∀ x, B x → w.heap.size ≤ x ∧ x < w3.heap.size) ∧ ∀ x, B2 x → w.heap.size ≤ x ∧ x < w3.heap.size) (hD : Disk wc B g (D.armed a)) (hf : Fr w3 wc (fun c => c = g)) (hL : Logs w3 B2 q g nl [one]) (hdis : ∀ x, B2 x → ¬ B x) (hst : Std D [one] 2) (ha : -1 ≤ a ∧ a ≤ 100) :
    Adding w ((wc.alloc (.cells #[.string one] 9)).alloc (.cells #[.string one] 9)) q g l (.slice (some ⟨wc.heap.size, 0, none⟩) 1 1) (.slice (some ⟨wc.heap.size + 1, 0, none⟩) 1 1) 0 := by
  have hg := disk_g hD
  have hal : Fr wc ((wc.alloc (.cells #[.string one] 9)).alloc (.cells #[.string one] 9)) (fun _ => False) := ((Fr.refl wc _).alloc _).alloc _
  have hs1 := hf.size
  have hs2 := hal.size
  have hsz : ((wc.alloc (.cells #[.string one] 9)).alloc (.cells #[.string one] 9)).heap.size = wc.heap.size + 1 + 1 := by simp
  have e1 : (wc.alloc (.cells #[.string one] 9)).heap.size = wc.heap.size + 1 := by simp
  have hs0 := hfw.size
  have ho2 := own_one w.heap.size (wc.alloc (.cells #[.string one] 9)) (by omega)
  rw [e1] at ho2
  refine ⟨B, B2, D.armed a, hD.fr hal (fun _ _ e => e), (hL.fr hf (fun c hc e => hdis c hc (e ▸ hg))).fr hal (fun _ _ e => e), fun x hx => ⟨(hB.1 x hx).1, by have := (hB.1 x hx).2; omega⟩, fun x hx => ⟨(hB.2 x hx).1, by have := (hB.2 x hx).2; omega⟩, hdis, hst.arm ha, ⟨(own_one w.heap.size wc (by omega)).alloc _, ?_⟩, ⟨ho2, ?_⟩, (hfw.trans hf (fun c hc e => by have := (hB.1 g hg).1; omega)).trans hal (fun _ _ e => e)⟩
  · intro c hc
    have : c = wc.heap.size := by simp [Value.ownBlock] at hc; omega
    subst this
    refine ⟨by omega, fun e => ?_⟩
    rcases e with e | e
    · have := (hB.1 _ e).2; omega
    · have := (hB.2 _ e).2; omega
  · intro c hc
    have : c = wc.heap.size + 1 := by simp [Value.ownBlock] at hc; omega
    subst this
    refine ⟨by omega, fun e => ?_⟩
    rcases e with e | e
    · have := (hB.1 _ e).2; omega
    · have := (hB.2 _ e).2; omega
/-- Add came through; want has yet to grow. -/
def Mid (w wx : World) (q g : Nat) (l : List ByteArray) (vw : Value) (i : Nat) (x : ByteArray) : Prop :=
  ∃ B B2 D, Disk wx B g D ∧ Logs wx B2 q g nl (one :: l.take i ++ [x]) ∧ (∀ x, B x → w.heap.size ≤ x ∧ x < wx.heap.size) ∧ (∀ x, B2 x → w.heap.size ≤ x ∧ x < wx.heap.size) ∧ (∀ x, B2 x → ¬ B x) ∧ Std D (one :: l.take i ++ [x]) (2 + 2 * i + 2) ∧ Beside w.heap.size wx (fun x => B x ∨ B2 x) vw (one :: l.take i) ∧ Fr w wx (fun _ => False)
/-- Add fell; last has yet to be made. -/
def Fell (w wx : World) (g : Nat) (l : List ByteArray) (vw : Value) (i : Nat) (x : ByteArray) : Prop :=
  ∃ B D D', Fallen D (one :: l.take i) x D' ∧ Disk wx B g D' ∧ (∀ x, B x → w.heap.size ≤ x ∧ x < wx.heap.size) ∧ Beside w.heap.size wx B vw (one :: l.take i) ∧ Fr w wx (fun _ => False)
theorem both_beside {w wx w5 : World} {B B2 : Nat → Prop} {q g : Nat} {D' : Dk} {R L : List ByteArray} {vw : Value} (hB : ∀ x, B x → w.heap.size ≤ x ∧ x < wx.heap.size) (hB2 : ∀ x, B2 x → w.heap.size ≤ x ∧ x < wx.heap.size) (hw : Beside w.heap.size wx (fun x => B x ∨ B2 x) vw L) (hf : Fr w wx (fun _ => False)) (hb : Both wx w5 B B2 q g nl D' R) (hf5 : Fr wx w5 (fun x => B x ∨ B2 x)) :
    ∃ B' B2', Disk w5 B' g D' ∧ Logs w5 B2' q g nl R ∧ (∀ x, B' x → w.heap.size ≤ x ∧ x < w5.heap.size) ∧ (∀ x, B2' x → w.heap.size ≤ x ∧ x < w5.heap.size) ∧ (∀ x, B2' x → ¬ B' x) ∧ Beside w.heap.size w5 (fun x => B' x ∨ B2' x) vw L ∧ Fr w w5 (fun _ => False) := by
  obtain ⟨B', B2', hD, hL, h1, h2, h3⟩ := hb
  have hs := hf.size
  refine ⟨B', B2', hD, hL, fun x hx => ⟨?_, (h1 x hx).2⟩, fun x hx => ⟨?_, (h2 x hx).2⟩, h3, hw.fr hf5 (fun c e => .inl e) (fun c e => ?_), hf.trans hf5 (fun c hc e => ?_)⟩
  · rcases (h1 x hx).1 with h | h
    · exact (hB x h).1
    · omega
  · rcases (h2 x hx).1 with h | h
    · exact (hB2 x h).1
    · omega
  · rcases e with e | e
    · rcases (h1 c e).1 with h | h
      · exact .inl (.inl h)
      · exact .inr h
    · rcases (h2 c e).1 with h | h
      · exact .inl (.inr h)
      · exact .inr h
  · rcases e with e | e
    · have := (hB c e).1; omega
    · have := (hB2 c e).1; omega
/-- What Add answers inside the loop. -/
theorem Adding.step {w wx : World} {q g : Nat} {l : List ByteArray} {vw vl : Value} {i : Nat} {x : ByteArray} (h : Adding w wx q g l vw vl i) (hl : ∀ r ∈ l, r.size ≤ 300) (hi : i < 12) (hx : x.size ≤ 300) :
    Calls Try.prog 52 #[.pointer (some ⟨q, 0, none⟩), .string x] wx fun o w5 => (o = .returned .nilIface ∧ Mid w w5 q g l vw i x) ∨ (o = .returned (.iface 128 (.int .i64 10)) ∧ Fell w w5 g l vw i x) := by
  obtain ⟨B, B2, D, hD, hL, hB, hB2, hdis, hst, hw, hla, hf⟩ := h
  have hz := upto_size hl (i := i)
  have hlen : (one :: l.take i).length ≤ 13 := by rw [List.length_cons, List.length_take]; omega
  have hadd := add_any wx B B2 q g nl x (one :: l.take i) D hD hL (fun x hx => (hB x hx).2) (fun x hx => (hB2 x hx).2) hdis (hst.fits (by omega) (by omega)) (by decide) (by omega) ⟨by omega, by omega⟩ (hst.did_fits x (by omega) (by omega) (by omega))
  refine hadd.mono ?_
  rintro o w5 ⟨ha, hf5⟩
  rcases ha with ⟨h0, _⟩ | ⟨_, ⟨_, h1, h2⟩ | ⟨_, _, h1, h2⟩ | ⟨_, _, h1, h2⟩⟩
  · exact absurd (hst.more x (by omega) (by omega)) h0
  · obtain ⟨B', B2', a1, _, a3, _, _, a6, a7⟩ := both_beside hB hB2 hw hf h2 hf5
    exact .inr ⟨h1, B', D, _, ⟨⟨_, by omega, hst⟩, .inl rfl⟩, a1, a3, a6.fr (Fr.refl _ (fun _ => False)) (fun c e => e.elim) (fun c e => .inl (.inl e)), a7⟩
  · obtain ⟨B', B2', a1, _, a3, _, _, a6, a7⟩ := both_beside hB hB2 hw hf h2 hf5
    exact .inr ⟨h1, B', D, _, ⟨⟨_, by omega, hst⟩, .inr rfl⟩, a1, a3, a6.fr (Fr.refl _ (fun _ => False)) (fun c e => e.elim) (fun c e => .inl (.inl e)), a7⟩
  · obtain ⟨B', B2', a1, a2, a3, a4, a5, a6, a7⟩ := both_beside hB hB2 hw hf h2 hf5
    exact .inl ⟨h1, B', B2', _, a1, a2, a3, a4, a5, hst.wrote x, a6, a7⟩
/-- Want has grown. -/
theorem Mid.next {w w5 wA : World} {q g : Nat} {l : List ByteArray} {av : Option Addr} {n cp gA capA : Nat} {i : Nat} {x : ByteArray} (h : Mid w w5 q g l (.slice av n cp) i x) (hx : l[i]? = some x)
    (hown : wA.ownsRow w.heap.size 9 1 (.slice (some ⟨gA, 0, none⟩) (n + 1) capA) (n + 1) (strs (one :: l.take i) ++ [.string x])) (hn : n = (one :: l.take i).length) (hgrow : (w5.alloc (.cells #[.string x] 9)).grownBy wA (Value.slice av n cp).ownBlock) (hat : (Value.slice av n cp).ownBlock = some gA ∨ w5.heap.size ≤ gA) (hlt : gA < wA.heap.size) :
    Adding w wA q g l (.slice (some ⟨gA, 0, none⟩) (n + 1) capA) (.slice (some ⟨gA, 0, none⟩) (n + 1) capA) (i + 1) := by
  obtain ⟨B, B2, D, hD, hL, hB, hB2, hdis, hst, hw, hf⟩ := h
  have e : one :: l.take (i + 1) = one :: l.take i ++ [x] := by rw [List.take_add_one, hx]; rfl
  have hg := grown_fr ((Fr.refl w5 _).alloc _) hgrow
  have hs := hg.size
  have hbes : Beside w.heap.size wA (fun x => B x ∨ B2 x) (.slice (some ⟨gA, 0, none⟩) (n + 1) capA) (one :: l.take (i + 1)) := by
    refine ⟨?_, fun c hc => ?_⟩
    · have e2 : (one :: l.take (i + 1)).length = n + 1 := by rw [e, hn, List.length_append]; rfl
      have e3 : strs (one :: l.take (i + 1)) = strs (one :: l.take i) ++ [.string x] := by rw [e]; unfold strs; rw [List.map_append]; rfl
      rw [e2, e3]; exact hown
    · have : c = gA := by simp [Value.ownBlock] at hc; omega
      subst this
      refine ⟨hlt, fun eb => ?_⟩
      rcases hat with ha | ha
      · exact (hw.2 c ha).2 eb
      · rcases eb with eb | eb
        · have := (hB c eb).2; omega
        · have := (hB2 c eb).2; omega
  refine ⟨B, B2, D, hD.fr hg (fun c hc ec => (hw.2 c ec).2 (.inl hc)), ?_, fun x hx => ⟨(hB x hx).1, by have := (hB x hx).2; omega⟩, fun x hx => ⟨(hB2 x hx).1, by have := (hB2 x hx).2; omega⟩, hdis, ?_, hbes, hbes, ?_⟩
  · rw [e]; exact hL.fr hg (fun c hc ec => (hw.2 c ec).2 (.inr hc))
  · rw [e]
    have : ((2 : Int) + 2 * ((i + 1 : Nat) : Int)) = 2 + 2 * i + 2 := by omega
    rw [this]; exact hst
  · refine hf.trans hg (fun c hc e => ?_)
    rcases hw.1.2 with ⟨h1, _⟩ | ⟨gr, cap, cur, h1, h2, _⟩
    · rw [h1] at e; cases e
    · rw [h1] at e
      have : c = gr := by simp [Value.ownBlock] at e; omega
      omega
/-- Last was made. -/
theorem Fell.last {w w5 wB : World} {g : Nat} {l : List ByteArray} {vw vl : Value} {i : Nat} {x : ByteArray} (h : Fell w w5 g l vw i x) (hl : ∀ r ∈ l, r.size ≤ 300) (hi : i < 12) (hx : x.size ≤ 300) (hf : Fr w5 wB (fun _ => False)) (hown : wB.ownsRow w5.heap.size 9 1 vl (one :: l.take i ++ [x]).length (strs (one :: l.take i ++ [x]))) (keep torn : Int) : Falls w wB g keep torn vw vl := by
  obtain ⟨B, D, D', h1, h2, h3, h4, h5⟩ := h
  have hs := hf.size
  have hs5 := h5.size
  refine h1.falls hl hi hx (h2.fr hf (fun _ _ e => e)) (fun c hc => ⟨(h3 c hc).1, by have := (h3 c hc).2; omega⟩) (h5.trans hf (fun _ _ e => e)) (h4.fr hf (fun c e => e.elim) (fun c e => .inl e)) ?_ keep torn
  refine ⟨⟨hown.1, ?_⟩, ?_⟩
  · rcases hown.2 with a | ⟨gr, cap, cur, a1, a2, a3⟩
    · exact .inl a
    · exact .inr ⟨gr, cap, cur, a1, by omega, a3⟩
  · intro c hc
    rcases hown.2 with ⟨a, _⟩ | ⟨gr, cap, cur, a1, a2, a3, _⟩
    · rw [a] at hc; cases hc
    · rw [a1] at hc
      have : c = gr := by simp [Value.ownBlock] at hc; omega
      subst this
      exact ⟨(Array.getElem?_eq_some_iff.1 a3).1, fun e => by have := (h3 c e).2; omega⟩
/-- Restart's contract at what it finds. -/
def Again (w w6 : World) (g : Nat) (vw vl : Value) : Prop :=
  ∃ B D L P G T, Disk w6 B g D ∧ Ready D (N.frames G ++ T) 1000 ∧ (∀ x, B x → w.heap.size ≤ x ∧ x < w6.heap.size) ∧ Fr w w6 (fun _ => False) ∧ Beside w.heap.size w6 B vw L ∧ Beside w.heap.size w6 B vl P ∧ (G = L ∨ G = P) ∧ L.length ≤ 20 ∧ P.length ≤ 20 ∧ N.first T = none ∧ G ≠ [] ∧ (∀ r ∈ G, r.size ≤ 400) ∧ N.size G ≤ 4000 ∧ (N.frames G ++ T).size ≤ 9000
theorem Falls.restart {w wx : World} {g : Nat} {keep torn : Int} {vw vl : Value} (h : Falls w wx g keep torn vw vl) (hkp : -9223372036854775808 ≤ keep ∧ keep ≤ 9223372036854775807) (htn : -9223372036854775808 ≤ torn ∧ torn ≤ 9223372036854775807) :
    Calls Try.prog 38 #[.pointer (some ⟨g, 0, none⟩), .int .i64 keep, .int .i64 torn] wx fun o w6 => o = .returned (.tuple #[]) ∧ Again w w6 g vw vl := by
  obtain ⟨B, D, L, P, G, T, hD, hB, hf, hw, hv, hG, hLl, hPl, hst, hT, hne, hle, hz, hX, hsp, hch, hk, hsz⟩ := h
  refine (restart_any wx B g D keep torn hD (by omega) hk hsz hkp htn (by rw [hst]; simp)).mono ?_
  rintro o w6 ⟨ho, ⟨B', hD', hB'⟩, hf6⟩
  have hs := hf.size
  have hin : ∀ x, (B' x ∧ x < w6.heap.size) → B x ∨ wx.heap.size ≤ x := fun x hx => hB' x hx.1
  refine ⟨ho, fun x => B' x ∧ x < w6.heap.size, D.again keep torn, L, P, G, T, hD'.shrink, ready_of hst hsp, fun x hx => ⟨?_, hx.2⟩, hf.trans hf6 (fun c hc e => by have := (hB c e).1; omega), hw.fr hf6 (fun c e => .inl e) hin, hv.fr hf6 (fun c e => .inl e) hin, hG, hLl, hPl, hT, hne, hle, hz, hX⟩
  rcases hB' x hx.1 with h | h
  · exact (hB x h).1
  · omega
/-- Behind Open: the log, and both rows. -/
def Opened (w w7 : World) (g q : Nat) (vw vl : Value) (G : List ByteArray) : Prop :=
  ∃ B B2 D L P, Disk w7 B g D ∧ Logs w7 B2 q g nl G ∧ Std D G 1002 ∧ (∀ x, B x → w.heap.size ≤ x ∧ x < w7.heap.size) ∧ (∀ x, B2 x → w.heap.size ≤ x ∧ x < w7.heap.size) ∧ (∀ x, B2 x → ¬ B x) ∧ Fr w w7 (fun _ => False) ∧ Beside w.heap.size w7 B vw L ∧ Beside w.heap.size w7 B vl P ∧ (G = L ∨ G = P) ∧ L.length ≤ 20 ∧ P.length ≤ 20 ∧ G ≠ [] ∧ (∀ r ∈ G, r.size ≤ 400) ∧ N.size G ≤ 4000
theorem Again.opens {w w6 : World} {g : Nat} {vw vl : Value} (h : Again w w6 g vw vl) :
    Calls Try.prog 46 #[.pointer (some ⟨g, 0, none⟩), .string nl] w6 fun o w7 => ∃ q G, o = .returned (.tuple #[.pointer (some ⟨q, 0, none⟩), .nilIface]) ∧ Opened w w7 g q vw vl G := by
  obtain ⟨B, D, L, P, G, T, hD, hR, hB, hf, hw, hv, hG, hLl, hPl, hT, hne, hle, hz, hX⟩ := h
  obtain ⟨hall, hcut, hstd⟩ := hR.cut hle hT (by omega) hz hX
  refine (open_any w6 B g nl D hD (fun x hx => (hB x hx).2) (hR.fits (by omega) hX) (by decide) may_nl hR.down hcut).mono ?_
  rintro o w7 ⟨⟨q, ho, B', B2', hD', hL', h1, h2, h3⟩, hf7⟩
  rw [hall] at hL'
  have hs := hf.size
  have hin : ∀ x, B' x → B x ∨ w6.heap.size ≤ x := fun x hx => (h1 x hx).1
  refine ⟨q, G, ho, B', B2', D.opened nl, L, P, hD', hL', ?_, fun x hx => ⟨?_, (h1 x hx).2⟩, fun x hx => ⟨?_, (h2 x hx).2⟩, h3, hf.trans hf7 (fun c hc e => by have := (hB c e).1; omega), hw.fr hf7 (fun c e => .inl e) hin, hv.fr hf7 (fun c e => .inl e) hin, hG, hLl, hPl, hne, hle, hz⟩
  · have : ((1000 : Int) + 2) = 1002 := rfl
    rw [← this]; exact hstd
  · rcases (h1 x hx).1 with h | h
    · exact (hB x h).1
    · omega
  · rcases (h2 x hx).1 with h | h
    · exact h.elim
    · omega
/-- Behind Records. -/
def Read (w w8 : World) (g : Nat) (vw vl u : Value) (G : List ByteArray) : Prop :=
  ∃ B D L P, Disk w8 B g D ∧ Std D G 1002 ∧ (∀ x, B x → w.heap.size ≤ x ∧ x < w8.heap.size) ∧ Fr w w8 (fun _ => False) ∧ Beside w.heap.size w8 B vw L ∧ Beside w.heap.size w8 B vl P ∧ Beside w.heap.size w8 B u G ∧ (G = L ∨ G = P) ∧ L.length ≤ 20 ∧ P.length ≤ 20 ∧ G ≠ [] ∧ (∀ r ∈ G, r.size ≤ 400) ∧ N.size G ≤ 4000
theorem Opened.records {w w7 : World} {g q : Nat} {vw vl : Value} {G : List ByteArray} (h : Opened w w7 g q vw vl G) :
    Calls Try.prog 51 #[.pointer (some ⟨q, 0, none⟩)] w7 fun o w8 => ∃ u, o = .returned u ∧ Read w w8 g vw vl u G := by
  obtain ⟨B, B2, D, L, P, hD, hL, hst, hB, hB2, hdis, hf, hw, hv, hG, hLl, hPl, hne, hle, hz⟩ := h
  have hGl : G.length ≤ 100000 := by rcases hG with rfl | rfl <;> omega
  refine (records_any w7 B2 q g nl G hL hne hGl).mono ?_
  rintro o w8 ⟨u, ho, hown, hf8⟩
  have hs := hf.size
  have hs8 := hf8.size
  refine ⟨u, ho, B, D, L, P, hD.fr hf8 (fun _ _ e => e), hst, fun x hx => ⟨(hB x hx).1, by have := (hB x hx).2; omega⟩, hf.trans hf8 (fun _ _ e => e), hw.fr hf8 (fun c e => e.elim) (fun c e => .inl e), hv.fr hf8 (fun c e => e.elim) (fun c e => .inl e), ⟨⟨hown.1, ?_⟩, ?_⟩, hG, hLl, hPl, hne, hle, hz⟩
  · rcases hown.2 with a | ⟨gr, cap, cur, a1, a2, a3⟩
    · exact .inl a
    · exact .inr ⟨gr, cap, cur, a1, by omega, a3⟩
  · intro c hc
    rcases hown.2 with ⟨a, _⟩ | ⟨gr, cap, cur, a1, a2, a3, _⟩
    · rw [a] at hc; cases hc
    · rw [a1] at hc
      have : c = gr := by simp [Value.ownBlock] at hc; omega
      subst this
      exact ⟨(Array.getElem?_eq_some_iff.1 a3).1, fun e => by have := (hB c e).2; omega⟩
/-- Behind the second Open. -/
def Final (w w9 : World) (q : Nat) (vw vl u : Value) (G : List ByteArray) : Prop :=
  ∃ g B2 L P, Logs w9 B2 q g nl G ∧ Fr w w9 (fun _ => False) ∧ Strs w9 vw L ∧ Strs w9 vl P ∧ Strs w9 u G ∧ (G = L ∨ G = P) ∧ G.length ≤ 20 ∧ G ≠ []
theorem Read.opens {w w8 : World} {g : Nat} {vw vl u : Value} {G : List ByteArray} (h : Read w w8 g vw vl u G) :
    Calls Try.prog 46 #[.pointer (some ⟨g, 0, none⟩), .string nl] w8 fun o w9 => ∃ q, o = .returned (.tuple #[.pointer (some ⟨q, 0, none⟩), .nilIface]) ∧ Final w w9 q vw vl u G := by
  obtain ⟨B, D, L, P, hD, hst, hB, hf, hw, hv, hu, hG, hLl, hPl, hne, hle, hz⟩ := h
  obtain ⟨hall, hnot, heq⟩ := hst.opened hle
  refine (open_any w8 B g nl D hD (fun x hx => (hB x hx).2) (hst.fits (by omega) (by omega)) (by decide) may_nl hst.down (fun h => absurd h hnot)).mono ?_
  rintro o w9 ⟨⟨q, ho, B', B2', hD', hL', h1, h2, h3⟩, hf9⟩
  rw [hall] at hL'
  have hin : ∀ x, B' x → B x ∨ w8.heap.size ≤ x := fun x hx => (h1 x hx).1
  exact ⟨q, ho, g, B2', L, P, hL', hf.trans hf9 (fun c hc e => by have := (hB c e).1; omega), (hw.fr hf9 (fun c e => .inl e) hin).strs, (hv.fr hf9 (fun c e => .inl e) hin).strs, (hu.fr hf9 (fun c e => .inl e) hin).strs, hG, by rcases hG with rfl | rfl <;> omega, hne⟩
theorem fr_below {w w' : World} (h : Below w.heap.size w w') : Fr w w' (fun _ => False) := ⟨h.1, h.2, h.3, h.4, fun c hc _ => h.5 c hc⟩
theorem Final.kept {w w9 w10 : World} {q : Nat} {vw vl u : Value} {G : List ByteArray} (h : Final w w9 q vw vl u G) (hb : Below w9.heap.size w9 w10) : Final w w10 q vw vl u G := by
  obtain ⟨g, B2, L, P, h1, h2, h3, h4, h5, h6⟩ := h
  exact ⟨g, B2, L, P, h1.fr (fr_below hb) (fun _ _ e => e), h2.trans (fr_below hb) (fun _ _ e => e), h3.kept hb (Nat.le_refl _), h4.kept hb (Nat.le_refl _), h5.kept hb (Nat.le_refl _), h6⟩
/-- One of both is the same as what was read. -/
theorem Final.same {w w9 : World} {q : Nat} {vw vl u : Value} {G : List ByteArray} (h : Final w w9 q vw vl u G) :
    ∃ L P, (G = L ∨ G = P) ∧ (∀ w', Final w w' q vw vl u G → Below w9.heap.size w9 w' → Calls Try.prog 50 #[u, vl] w' fun o w2 => Same G P o ∧ Final w w2 q vw vl u G) ∧ (Calls Try.prog 50 #[u, vw] w9 fun o w2 => Same G L o ∧ Final w w2 q vw vl u G ∧ Below w9.heap.size w9 w2) := by
  obtain ⟨g, B2, L, P, h1, h2, h3, h4, h5, h6, h7, h8⟩ := id h
  refine ⟨L, P, h6, fun w' hw hb => ?_, ?_⟩
  · refine (sameTexts_any G P u vl w' (by omega) (h5.kept hb (Nat.le_refl _)) (h4.kept hb (Nat.le_refl _))).mono ?_
    rintro o w2 ⟨a, b⟩
    exact ⟨a, hw.kept b⟩
  · refine (sameTexts_any G L u vw w9 (by omega) h5 h3).mono ?_
    rintro o w2 ⟨a, b⟩
    exact ⟨a, h.kept b, b⟩
/-- Both rows that were read. -/
def Twice (w w9 : World) (u u2 : Value) : Prop := ∃ G : List ByteArray, Strs w9 u G ∧ Strs w9 u2 G ∧ Fr w w9 (fun _ => False) ∧ G.length ≤ 20
theorem Final.records {w w9 : World} {q : Nat} {vw vl u : Value} {G : List ByteArray} (h : Final w w9 q vw vl u G) :
    Calls Try.prog 51 #[.pointer (some ⟨q, 0, none⟩)] w9 fun o w10 => ∃ u2, o = .returned u2 ∧ Twice w w10 u u2 := by
  obtain ⟨g, B2, L, P, h1, h2, h3, h4, h5, h6, h7, h8⟩ := h
  refine (records_any w9 B2 q g nl G h1 h8 (by omega)).mono ?_
  rintro o w10 ⟨u2, ho, hown, hf⟩
  exact ⟨u2, ho, G, h5.kept (hf.below (Nat.le_refl _) (fun _ e => e.elim)) (Nat.le_refl _), Strs.of_owns hown, h2.trans hf (fun _ _ e => e), h7⟩
theorem Twice.same {w w9 : World} {u u2 : Value} (h : Twice w w9 u u2) : Calls Try.prog 50 #[u2, u] w9 fun o w' => o = .returned (.bool true) ∧ Below w.heap.size w w' := by
  obtain ⟨G, h1, h2, h3, h4⟩ := h
  refine (sameTexts_any G G u2 u w9 (by omega) h2 h1).mono ?_
  rintro o w' ⟨⟨b, rfl, hb⟩, hB⟩
  exact ⟨by rw [hb rfl], (h3.trans (fr_below hB) (fun _ _ e => e)).below (Nat.le_refl _) (fun _ e => e.elim)⟩
end Go.Proofs.Ytmlbcdofogffkab
