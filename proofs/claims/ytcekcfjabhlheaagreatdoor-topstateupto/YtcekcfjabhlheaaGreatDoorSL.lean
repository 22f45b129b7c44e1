/- TopState: SK SL. -/
import Derived.Test.YtcekcfjabhlheaaGreatDoorSE
import Derived.Test.YtcekcfjabhlheaaGreatDoorSJ
set_option maxRecDepth 100000
set_option maxHeartbeats 25600000
namespace Go.Proofs.YtcekcfjabhlheaaGreatDoor.Vx
open Go.RowKit
namespace S
theorem Mem.up {m : Nat} {w : World} {s : St} {cs : List Value} (h : Mem m w s cs) : Mem (m + 1) w s cs := by
 obtain ⟨hv, iv, ov, e, h1, h2, h3, h4⟩ := h
 exact ⟨hv, iv, ov, e, V.Row.imp h1 (fun _ _ ⟨x, hx, a0, a1, a2, a3, a4, e1, hm, hr⟩ => ⟨x, hx, a0, a1, a2, a3, a4, e1, V.Mem.up m hm, hr⟩), V.Row.imp h2 (fun _ _ ⟨x, hx, a0, a1, a2, a3, a4, e1, hm, hr⟩ => ⟨x, hx, a0, a1, a2, a3, a4, e1, V.Mem.up m hm, hr⟩), V.Row.imp h3 (fun _ _ ⟨x, c', hx, e1, hm⟩ => ⟨x, c', hx, e1, V.Mem.up m hm⟩), h4⟩
theorem Mem.mono {m k : Nat} {w : World} {s : St} {cs : List Value} (h : Mem m w s cs) (hk : m <= k) : Mem k w s cs := by
 induction hk with
 | refl => exact h
 | step _ ih => exact ih.up
theorem bulk_mono {m k : Nat} {w : World} {s : St} {cs : List Value} (h : Mem m w s cs) (hk : m <= k) : bulk k s = bulk m s := by
 obtain ⟨hv, iv, ov, _, hh, hi, ho, _⟩ := h
 unfold bulk
 have e1 : ∀ x ∈ s.held, bulkH k x = bulkH m x := fun x hx => by
  obtain ⟨c, a0, a1, a2, a3, a4, _, k1, _⟩ := row_each hh x hx
  unfold bulkH
  rw [P.bulk_lay m k x.v (P.Lay.of_mem k1) hk]
 have e2 : ∀ x ∈ s.its, bulkI k x = bulkI m x := fun x hx => by
  obtain ⟨c, a0, a1, a2, a3, a4, _, k1, _⟩ := row_each hi x hx
  unfold bulkI bulkH
  rw [P.bulk_lay m k x.h.v (P.Lay.of_mem k1) hk]
 have e3 : ∀ x ∈ s.outs, bulkO k x = bulkO m x := fun x hx => by
  obtain ⟨i, hi, rfl⟩ := List.getElem_of_mem hx
  obtain ⟨ao, cap, _, h | ⟨b, off, _, h⟩⟩ := ho
  ·omega
  ·obtain ⟨c, _, _, y, c', hy, _, hm⟩ := h i hi
   rw [List.getElem?_eq_getElem hi] at hy
   cases hy
   unfold bulkO
   rw [P.bulk_lay m k _ (P.Lay.of_mem hm) hk]
 rw [sum_same e1, sum_same e2, sum_same e3]
def seven : St := ⟨7, [], [], []⟩
theorem seven_mem (m : Nat) (w : World) : Mem m w seven [.int .i64 7, .slice none 0 0, .slice none 0 0, .slice none 0 0] :=
 ⟨_, _, _, rfl, V.Row.zero _ _ _, V.Row.zero _ _ _, V.Row.zero _ _ _, ⟨by decide, by decide⟩⟩
theorem seven_fault (m : Nat) : fault m seven = 0 := by
 unfold fault
 rw [if_neg (by decide), if_neg (by decide)]
 rfl
theorem seven_len (m : Nat) : (V.str (text m seven)).size <= 4000 := by
 rw [size_str]
 unfold text
 rw [List.length_append]
 have h1 := sumText_len (lines m seven)
 have h2 : lines m seven = serialLine 7 := by
  unfold lines seven
  simp
 have h3 : (serialLine 7).length <= 60 := by
  rw [line_serial m 7, List.length_append]
  have := itoa_len2 7 ⟨by decide, by decide⟩
  have e : (Ln.bare m (.inl 7)).length = 6 + ((Lib.itoa 7).length + 1) := by
   show (kSerial ++ 32 :: Lib.itoa 7).length = _
   rw [List.length_append, List.length_cons]
   rfl
  rw [e]
  simp only [List.length_cons, List.length_nil]
  omega
 rw [h2] at h1 ⊢
 omega
end S
def LawAt (wA : World) (g : Nat) (D : Dx.Dk) (W : World) : Prop := ∃ B, Dx.Disk W B g D /\ (∀ x, B x -> wA.heap.size <= x /\ x < W.heap.size) /\ Below wA.heap.size wA W
theorem LawAt.below {wA W : World} {g : Nat} {D : Dx.Dk} (h : LawAt wA g D W) : Below wA.heap.size wA W := by
 obtain ⟨_, _, _, h⟩ := h
 exact h
theorem LawAt.kept {wA W W' : World} {g : Nat} {D : Dx.Dk} (h : LawAt wA g D W) (hb : Below W.heap.size W W') : LawAt wA g D W' := by
 obtain ⟨B, h1, h2, h3⟩ := h
 have hF : Dx.Fr W W' (fun _ => False) := ⟨hb.os, hb.tape, hb.output, hb.size, fun c hc _ => hb.block c hc⟩
 exact ⟨B, h1.fr hF (fun _ _ e => e), fun x hx => ⟨(h2 x hx).1, Nat.lt_of_lt_of_le (h2 x hx).2 hb.size⟩, h3.trans (hb.mono h3.size)⟩
theorem law_new (wA : World) : Calls Tryz.prog 5 #[] wA fun o W => ∃ g, o = .returned (.pointer (some ⟨g, 0, none⟩)) /\ LawAt wA g Dx.Dk.new W := by
 refine (Dx.new_any wA).mono ?_
 rintro o W ⟨g, ho, hD, hF⟩
 obtain ⟨B, hD2, h1, h2⟩ := hD.shrink2
 exact ⟨g, ho, B, hD2, fun x hx => ⟨h1 x hx, h2 x hx⟩, below_dx hF⟩
theorem fr_law {wA W W' : World} {B : Nat -> Prop} (h3 : Below wA.heap.size wA W) (hB : ∀ x, B x -> wA.heap.size <= x) (hF : Dx.Fr W W' B) : Below wA.heap.size wA W' := h3.trans (hF.below h3.size hB)
def Saves (D D' : Dx.Dk) (F k : Nat) (d : ByteArray) : Prop := (F ≠ 0 /\ k = F /\ D' = D) \/ (F = 0 /\ D.Saved (Dx.fileN ⟨#[97]⟩) d D' k)
theorem law_save {wA W : World} {g : Nat} {D : Dx.Dk} (h : LawAt wA g D W) (hE : D.Easy) (m : Nat) (s : St) (c0 c1 c2 c3 : Value) (hM : S.Mem m W s [c0, c1, c2, c3]) (hbk : S.bulk m s <= 2000000) (htab : Lib.TabIs Tryz.prog wA "internal/strconv.uint64pow10" .u64 Lib.pow10Tab) :
  Calls Tryz.prog 6 #[.pointer (some ⟨g, 0, none⟩), .string ⟨#[97]⟩, .agg #[c0, c1, c2, c3]] W fun o W' => ∃ k D', o = .returned (Dx.errV k) /\ LawAt wA g D' W' /\ Saves D D' (S.fault m s) k (V.str (S.text m s)) := by
 obtain ⟨B, hD, hB, hb⟩ := h
 refine (Dx.save_any ⟨#[97]⟩ m s c0 c1 c2 c3 W B g D (by decide) hM hbk (tab_below htab hb) hD (fun x hx => (hB x hx).2) hE).mono ?_
 rintro o W' ⟨k, D', B', ho, hD', h1, h2, hF, hs⟩
 refine ⟨k, D', ho, ⟨B', hD', fun x hx => ⟨?_, h2 x hx⟩, fr_law hb (fun x hx => (hB x hx).1) hF⟩, hs⟩
 rcases h1 x hx with e | e
 ·exact (hB x e).1
 ·exact Nat.le_trans hb.size e
theorem law_arm {wA W : World} {g : Nat} {D : Dx.Dk} (h : LawAt wA g D W) (n : Int) : Calls Tryz.prog 8 #[.pointer (some ⟨g, 0, none⟩), .int .i64 n] W fun o W' => o = .returned (.tuple #[]) /\ LawAt wA g (D.armed n) W' := by
 obtain ⟨B, hD, hB, hb⟩ := h
 have hg : B g := by
  obtain ⟨_, _, _, _, _, _, _, _, h6, _⟩ := hD
  exact h6
 refine (Dx.arm_any W B g D n hD).mono ?_
 rintro o W' ⟨ho, hD', hF⟩
 exact ⟨ho, B, hD', fun x hx => ⟨(hB x hx).1, Nat.lt_of_lt_of_le (hB x hx).2 hF.size⟩, hb.trans (hF.below hb.size (fun c e => by rw [e]; exact (hB g hg).1))⟩
theorem law_restart {wA W : World} {g : Nat} {D : Dx.Dk} (h : LawAt wA g D W) (keep torn : Int) (hch : D.chg.length <= 2) (hk : ∀ c ∈ D.chg, c.kinds) (hsz : ∀ k c, D.chg[k]? = some c -> c.data.size <= 1000000 /\ ((Dx.M.get (D.keep4 k) c.name).getD ⟨#[]⟩).size <= 1000000) (hkp : S.in64 keep) (htn : S.in64 torn) (hone : ((D.stays4 keep torn).map (·.1)).Nodup) :
  Calls Tryz.prog 12 #[.pointer (some ⟨g, 0, none⟩), .int .i64 keep, .int .i64 torn] W fun o W' => o = .returned (.tuple #[]) /\ ∃ F2, F2.Perm (D.stays4 keep torn) /\ LawAt wA g (D.again4 keep torn F2) W' := by
 obtain ⟨B, hD, hB, hb⟩ := h
 refine (Dx.restart4 W B g D keep torn hD (by omega) hk hsz hkp htn hone).mono ?_
 rintro o W' ⟨ho, ⟨B', F2, hp, hD', h1⟩, hF⟩
 obtain ⟨B2, hD2, h21, h22⟩ := hD'.shrink2
 refine ⟨ho, F2, hp, B2, hD2, fun x hx => ⟨?_, h22 x hx⟩, fr_law hb (fun x hx => (hB x hx).1) hF⟩
 rcases h1 x (h21 x hx) with e | e
 ·exact (hB x e).1
 ·exact Nat.le_trans hb.size e
theorem law_load {wA W : World} {g : Nat} {D : Dx.Dk} (h : LawAt wA g D W) (x : St) (hdn : D.down = false) (hget : Dx.M.get D.files (Dx.fileN ⟨#[97]⟩) = some (V.str (S.text 6 x))) (h6 : S.Six x) (hlen : (V.str (S.text 6 x)).size <= 4000) (htab : Lib.TabIs Tryz.prog wA "internal/strconv.uint64pow10" .u64 Lib.pow10Tab) :
  Calls Tryz.prog 10 #[.pointer (some ⟨g, 0, none⟩), .string ⟨#[97]⟩] W fun o W' => (∃ cs, o = .returned (.tuple #[.agg cs.toArray, .nilIface]) /\ P.StR W W' x cs) /\ Below W.heap.size W W' := by
 obtain ⟨B, hD, hB, hb⟩ := h
 exact load_there ⟨#[97]⟩ x W B g D (by decide) hD hdn hget h6 (by rw [<- S.size_str]; exact hlen) (tab_below htab hb)
theorem ta_errno (n : Int) (w : World) : (Instr.typeAssert (.iface 54 (.int .i64 n)) 30 54 true).run Tryz.prog w = .ok (.tuple #[.int .i64 n, .bool true]) w := by kernel_rfl
theorem number_err (f : Int) (w : World) : Calls Tryz.prog 9 #[.iface 54 (.int .i64 f)] w fun r w' => r = .returned (.int .i64 f) /\ w' = w := by
 have hta := ta_errno f w
 go_enter Tryz.func9, Tryz.ntmps9
 go_wp2_with fail
 go_ret
 exact ⟨rfl, rfl⟩
theorem outcome {D D' : Dx.Dk} {F k : Nat} {ds dt : ByteArray} (hN : D.Nice) (hK : Dx.M.get D.kept (Dx.fileN ⟨#[97]⟩) = some ds) (hs : D.steps <= 990) (hl : D.files.length <= 98) (h : Saves D D' F k dt) (keep torn : Int) :
  D'.chg.length <= 2 /\ (∀ c ∈ D'.chg, c.kinds) /\ (∀ k c, D'.chg[k]? = some c -> c.data.size <= 1000000 /\ ((Dx.M.get (D'.keep4 k) c.name).getD ⟨#[]⟩).size <= 1000000) /\ ((D'.stays4 keep torn).map (·.1)).Nodup /\
   ((k ≠ 0 /\ Dx.M.get (D'.stays4 keep torn) (Dx.fileN ⟨#[97]⟩) = some ds) \/ (F = 0 /\ dt.size <= 4000 /\ Dx.M.get (D'.stays4 keep torn) (Dx.fileN ⟨#[97]⟩) = some dt)) := by
 have same : D'.Nice -> D'.chg.length <= 2 /\ (∀ c ∈ D'.chg, c.kinds) /\ (∀ k c, D'.chg[k]? = some c -> c.data.size <= 1000000 /\ ((Dx.M.get (D'.keep4 k) c.name).getD ⟨#[]⟩).size <= 1000000) /\ ((D'.stays4 keep torn).map (·.1)).Nodup := fun hn => by
  rw [Dx.stays_nice hn, hn.chg]
  exact ⟨by decide, fun c hc => (by cases hc), fun k c hc => (by cases hc), hn.nodK⟩
 have old : k ≠ 0 -> D' = D -> _ := fun hk0 e => (⟨(same (by rw [e]; exact hN)).1, (same (by rw [e]; exact hN)).2.1, (same (by rw [e]; exact hN)).2.2.1, (same (by rw [e]; exact hN)).2.2.2, .inl ⟨hk0, by rw [e, Dx.stays_nice hN]; exact hK⟩⟩ : D'.chg.length <= 2 /\ (∀ c ∈ D'.chg, c.kinds) /\ (∀ k c, D'.chg[k]? = some c -> c.data.size <= 1000000 /\ ((Dx.M.get (D'.keep4 k) c.name).getD ⟨#[]⟩).size <= 1000000) /\ ((D'.stays4 keep torn).map (·.1)).Nodup /\
   ((k ≠ 0 /\ Dx.M.get (D'.stays4 keep torn) (Dx.fileN ⟨#[97]⟩) = some ds) \/ (F = 0 /\ dt.size <= 4000 /\ Dx.M.get (D'.stays4 keep torn) (Dx.fileN ⟨#[97]⟩) = some dt)))
 have hsize : D.fit Dx.draftN dt.size = 0 -> dt.size <= 4000 := fun hz => by
  unfold Dx.Dk.fit at hz
  split at hz
  ·cases hz
  ·split at hz
   ·cases hz
   ·rename_i h2
    omega
 rcases h with ⟨h1, h2, h3⟩ | ⟨h1, ⟨h2, _, h3⟩ | ⟨h2, h3, j, hj, _, _, h5⟩ | ⟨h2, h3, _, h5⟩⟩
 ·exact old (by omega) h3
 ·exact old h2 h3
 ·have hd := hsize h2
  obtain ⟨k1, k2, k3, k4, k5⟩ := Dx.stays_of hN ⟨#[97]⟩ dt ds hd hK j hj keep torn
  rw [<- h5] at k1 k2 k3 k4 k5
  refine ⟨k3, k4, k5, k1, k2.imp (fun e => ⟨by omega, e⟩) (fun e => ⟨h1, hd, e⟩)⟩
 ·have hd := hsize h2
  obtain ⟨k1, k2, k3⟩ := Dx.nice_sv3 hN ⟨#[97]⟩ dt hd hs hl
  rw [<- h5] at k1 k3
  obtain ⟨s1, s2, s3, s4⟩ := same k1
  exact ⟨s1, s2, s3, s4, .inr ⟨h1, hd, by rw [Dx.stays_nice k1]; exact k3⟩⟩
theorem topState_any (sm : Val -> Val -> Bool) (hsm : V.Says sm) (m : Nat) (hm6 : 6 <= m) (w : World) (s t : St) (c0 c1 c2 c3 d0 d1 d2 d3 : Value) (hms : S.Mem m w s [c0, c1, c2, c3]) (hmt : S.Mem m w t [d0, d1, d2, d3]) (hbs : S.bulk m s <= 2000000) (hbt : S.bulk m t <= 2000000) (htab : Lib.TabIs Tryz.prog w "internal/strconv.uint64pow10" .u64 Lib.pow10Tab) (fuse keep torn : Int) (hkp : S.in64 keep) (htn : S.in64 torn) :
  Calls Tryz.prog 3 #[.agg #[c0, c1, c2, c3], .agg #[d0, d1, d2, d3], .int .i64 fuse, .int .i64 keep, .int .i64 torn] w fun e w' => e = .returned (.bool true) /\ Below w.heap.size w w' := by
 obtain ⟨hv1, iv1, ov1, hcs, hh1, hi1, ho1, h64s⟩ := hms
 simp only [List.cons.injEq, and_true] at hcs
 obtain ⟨rfl, rfl, rfl, rfl⟩ := hcs
 obtain ⟨ah1, ch1, rfl⟩ := V.Row.shape hh1
 obtain ⟨ai1, ci1, rfl⟩ := V.Row.shape hi1
 obtain ⟨ao1, co1, rfl⟩ := V.Row.shape ho1
 obtain ⟨hv2, iv2, ov2, hcs, hh2, hi2, ho2, h64t⟩ := hmt
 simp only [List.cons.injEq, and_true] at hcs
 obtain ⟨rfl, rfl, rfl, rfl⟩ := hcs
 obtain ⟨ah2, ch2, rfl⟩ := V.Row.shape hh2
 obtain ⟨ai2, ci2, rfl⟩ := V.Row.shape hi2
 obtain ⟨ao2, co2, rfl⟩ := V.Row.shape ho2
 have hms : S.Mem m w s [.int .i64 s.serial, .slice ah1 s.held.length ch1, .slice ai1 s.its.length ci1, .slice ao1 s.outs.length co1] := ⟨_, _, _, rfl, hh1, hi1, ho1, h64s⟩
 have hmt : S.Mem m w t [.int .i64 t.serial, .slice ah2 t.held.length ch2, .slice ai2 t.its.length ci2, .slice ao2 t.outs.length co2] := ⟨_, _, _, rfl, hh2, hi2, ho2, h64t⟩
 have hbA : Below w.heap.size w ((w.alloc (.cells #[.int .i64 s.serial, .slice ah1 s.held.length ch1, .slice ai1 s.its.length ci1, .slice ao1 s.outs.length co1] 26)).alloc (.cells #[.int .i64 t.serial, .slice ah2 t.held.length ch2, .slice ai2 t.its.length ci2, .slice ao2 t.outs.length co2] 26)) := ((Below.refl _ _).alloc (Nat.le_refl _) _).alloc (by simp) _
 have hA0 : ((w.alloc (.cells #[.int .i64 s.serial, .slice ah1 s.held.length ch1, .slice ai1 s.its.length ci1, .slice ao1 s.outs.length co1] 26)).alloc (.cells #[.int .i64 t.serial, .slice ah2 t.held.length ch2, .slice ai2 t.its.length ci2, .slice ao2 t.outs.length co2] 26)).heap[w.heap.size]? = some (.cells #[.int .i64 s.serial, .slice ah1 s.held.length ch1, .slice ai1 s.its.length ci1, .slice ao1 s.outs.length co1] 26 (0, 0)) := by rw [heap_alloc_old _ _ (by simp)]; exact heap_alloc_new _ _
 have hB0 : ((w.alloc (.cells #[.int .i64 s.serial, .slice ah1 s.held.length ch1, .slice ai1 s.its.length ci1, .slice ao1 s.outs.length co1] 26)).alloc (.cells #[.int .i64 t.serial, .slice ah2 t.held.length ch2, .slice ai2 t.its.length ci2, .slice ao2 t.outs.length co2] 26)).heap[w.heap.size + 1]? = some (.cells #[.int .i64 t.serial, .slice ah2 t.held.length ch2, .slice ai2 t.its.length ci2, .slice ao2 t.outs.length co2] 26 (0, 0)) := by
  have h1 := heap_alloc_new (w.alloc (.cells #[.int .i64 s.serial, .slice ah1 s.held.length ch1, .slice ai1 s.its.length ci1, .slice ao1 s.outs.length co1] 26)) (.cells #[.int .i64 t.serial, .slice ah2 t.held.length ch2, .slice ai2 t.its.length ci2, .slice ao2 t.outs.length co2] 26)
  rw [World.size_alloc] at h1
  exact h1
 have HMS := hide (hms.kept hbA)
 have HMT := hide (hmt.kept hbA)
 obtain ⟨HBS, HBT⟩ := hd2 hbs hbt
 have HTAB := hide (tab_below htab hbA)
 obtain ⟨HBA, HKS, HKT, HSM, HM6, HKP, HTN⟩ := hd7 hbA hA0 hB0 hsm hm6 hkp htn
 clear hms hmt hh1 hi1 ho1 h64s hh2 hi2 ho2 h64t hbA hA0 hB0 hbs hbt htab hsm hm6 hkp htn
 go_enter Tryz.func3, Tryz.ntmps3
 go_wp2_with fail
 generalize ((w.alloc _).alloc _) = wA at *
 refine (law_new wA).mono ?_
 rintro o w1 ⟨g, rfl, hL1⟩
 have HSV7 := hide (law_save hL1 Dx.nice_new.easy m S.seven _ _ _ _ (S.seven_mem m w1) (by show S.bulk m S.seven <= _; exact Nat.zero_le _) HTAB.out)
 clear hL1
 go_wp2_with fail
 refine HSV7.out.mono ?_
 rintro o w2 ⟨k, D1, ho, hL2, hS⟩
 obtain ⟨rfl, hD1⟩ : k = 0 /\ D1 = Dx.Dk.new.sv (Dx.fileN ⟨#[97]⟩) (V.str (S.text m S.seven)) 3 := by
  rcases hS with ⟨h1, _, _⟩ | ⟨_, h2⟩
  ·exact absurd (S.seven_fault m) h1
  ·exact Dx.save_new (S.seven_len m) h2
 have ho2 : o = .returned .nilIface := ho
 subst ho2
 obtain ⟨hN1, hg1, hk1⟩ := Dx.nice_sv3 Dx.nice_new ⟨#[97]⟩ (V.str (S.text m S.seven)) (S.seven_len m) (by decide) (by decide)
 rw [<- hD1] at hN1 hg1 hk1
 have HN1 := hide hN1
 have HST1 : Hid (D1.steps = 3) := by
  show _ = _
  rw [hD1]
  rfl
 have HLN1 : Hid (D1.files.length <= 2) := by
  show _ <= _
  rw [hD1, (Dx.sv3_eq Dx.Dk.new (Dx.fileN ⟨#[97]⟩) (V.str (S.text m S.seven)) rfl).1]
  exact Dx.saveF_len _ _ _
 have HL2 := hide hL2
 clear ho hS hD1 hN1 hg1 hk1 hL2 HSV7
 have HLS := hide (lightState_any m w2 s _ _ _ _ (HMS.out.kept HL2.out.below) HBS.out)
 have hbk := (HL2.out.below.block w.heap.size (blt HKS.out)).trans HKS.out
 obtain ⟨xx0, xx1, xx2, xx3⟩ := cl4 hbk
 clear hbk
 go_wp2_with fail
 refine HLS.out.mono ?_
 rintro o w3 ⟨⟨r, rfl⟩, hb3⟩
 have HL3 := hide (HL2.out.kept hb3)
 clear hb3 HLS HL2 xx0 xx1 xx2 xx3
 cases r with
 | false =>
  have HBE := hide (HBA.out.trans (HL3.out.below.mono HBA.out.size))
  go_wp2_with fail
  go_ret
  exact ⟨rfl, HBE.out⟩
 | true =>
  have HLT := hide (lightState_any m w3 t _ _ _ _ (HMT.out.kept HL3.out.below) HBT.out)
  have hbk := (HL3.out.below.block (w.heap.size + 1) (blt HKT.out)).trans HKT.out
  obtain ⟨xx0, xx1, xx2, xx3⟩ := cl4 hbk
  clear hbk
  go_wp2_with fail
  refine HLT.out.mono ?_
  rintro o w4 ⟨⟨r, rfl⟩, hb4⟩
  have HL4 := hide (HL3.out.kept hb4)
  clear hb4 HLT HL3 xx0 xx1 xx2 xx3
  cases r with
  | false =>
   have HBE := hide (HBA.out.trans (HL4.out.below.mono HBA.out.size))
   go_wp2_with fail
   go_ret
   exact ⟨rfl, HBE.out⟩
  | true =>
   have HSS := hide (law_save HL4.out HN1.out.easy m s _ _ _ _ (HMS.out.kept HL4.out.below) HBS.out HTAB.out)
   have hbk := (HL4.out.below.block w.heap.size (blt HKS.out)).trans HKS.out
   obtain ⟨xx0, xx1, xx2, xx3⟩ := cl4 hbk
   clear hbk
   go_wp2_with fail
   refine HSS.out.mono ?_
   rintro o wS ⟨k, D2, ho, hLS, hS⟩
   have HLS := hide hLS
   by_cases hk0 : k = 0
   ·subst hk0
    have ho2 : o = .returned .nilIface := ho
    subst ho2
    obtain ⟨hF0, hfit, hD2⟩ : S.fault m s = 0 /\ D1.fit Dx.draftN (V.str (S.text m s)).size = 0 /\ D2 = D1.sv (Dx.fileN ⟨#[97]⟩) (V.str (S.text m s)) 3 := by
     rcases hS with ⟨h1, h2, _⟩ | ⟨h0, ⟨h1, _⟩ | ⟨_, h1, _⟩ | ⟨h1, _, _, h2⟩⟩
     ·exact absurd h2.symm h1
     ·exact absurd rfl h1
     ·cases h1
     ·exact ⟨h0, h1, h2⟩
    have hds : (V.str (S.text m s)).size <= 4000 := by
     unfold Dx.Dk.fit at hfit
     split at hfit
     ·cases hfit
     ·split at hfit
      ·cases hfit
      ·rename_i h2
       omega
    obtain ⟨hSix, htx⟩ := S.Six.of HMS.out hF0 HBS.out
    obtain ⟨hN2, hg2, hk2⟩ := Dx.nice_sv3 HN1.out ⟨#[97]⟩ (V.str (S.text m s)) hds (by rw [HST1.out]; decide) (by have := HLN1.out; omega)
    rw [<- hD2] at hN2 hg2 hk2
    have HST2 : Hid (D2.steps <= 990) := by
     show _ <= _
     rw [hD2, (Dx.sv3_eq D1 (Dx.fileN ⟨#[97]⟩) (V.str (S.text m s)) HN1.out.chg).2.2.2.2, HST1.out]
     decide
    have HLN2 : Hid (D2.files.length <= 98) := by
     show _ <= _
     rw [hD2, (Dx.sv3_eq D1 (Dx.fileN ⟨#[97]⟩) (V.str (S.text m s)) HN1.out.chg).1]
     have := Dx.saveF_len D1.files (Dx.fileN ⟨#[97]⟩) (V.str (S.text m s))
     have := HLN1.out
     omega
    rw [htx] at hds hg2 hk2
    obtain ⟨HDS, HSIX, HN2, HG2, HK2⟩ := hd5 hds hSix hN2 hg2 hk2
    clear ho hS hLS hF0 hfit hD2 hds hSix htx hN2 hg2 hk2 HSS HL4 xx0 xx1 xx2 xx3 HN1 HST1 HLN1
    obtain ⟨q, hq⟩ : ∃ q, max fuse (-1) = q := ⟨_, rfl⟩
    obtain ⟨n, hn⟩ : ∃ n, min q 20 = n := ⟨_, rfl⟩
    have HNR : Hid (-1 <= n /\ n <= 20) := by
     show _ /\ _
     omega
    have HAR := hide (law_arm HLS.out n)
    go_wp2_with fail
    refine HAR.out.mono ?_
    rintro o wT ⟨rfl, hL5⟩
    obtain ⟨D3, hD3⟩ : ∃ D3, D3 = D2.armed n := ⟨_, rfl⟩
    rw [<- hD3] at hL5
    have HN3 : Hid D3.Nice := by
     show D3.Nice
     rw [hD3]
     exact ⟨HN2.out.chg, HN2.out.down, HN2.out.nodF, HN2.out.nodK, HN2.out.szF, HN2.out.szK, HN2.out.len, HN2.out.steps, HNR.out⟩
    have HGF3 : Hid (Dx.M.get D3.files (Dx.fileN ⟨#[97]⟩) = some (V.str (S.text 6 s))) := by
     show _ = _
     rw [hD3]
     exact HG2.out
    have HGK3 : Hid (Dx.M.get D3.kept (Dx.fileN ⟨#[97]⟩) = some (V.str (S.text 6 s))) := by
     show _ = _
     rw [hD3]
     exact HK2.out
    have HST3 : Hid (D3.steps <= 990) := by
     show _ <= _
     rw [hD3]
     exact HST2.out
    have HLN3 : Hid (D3.files.length <= 98) := by
     show _ <= _
     rw [hD3]
     exact HLN2.out
    have HST' := hide (law_save hL5 HN3.out.easy m t _ _ _ _ (HMT.out.kept hL5.below) HBT.out HTAB.out)
    have hbk := (hL5.below.block (w.heap.size + 1) (blt HKT.out)).trans HKT.out
    obtain ⟨xx0, xx1, xx2, xx3⟩ := cl4 hbk
    clear hbk hL5 hD3 hq hn HAR HLS HN2 HG2 HK2 HST2 HLN2 HNR
    go_wp2_with fail
    refine HST'.out.mono ?_
    rintro o w5 ⟨k, D4, ho, hL5, hSV⟩
    obtain ⟨HL5, HSV⟩ := hd2 hL5 hSV
    clear hL5 hSV HST' xx0 xx1 xx2 xx3
    by_cases hk0 : k = 0
    ·subst hk0
     have ho2 : o = .returned .nilIface := ho
     subst ho2
     clear ho
     have HOUT := hide (outcome HN3.out HGK3.out HST3.out HLN3.out HSV.out keep torn)
     have HRS := hide (law_restart HL5.out keep torn HOUT.out.1 HOUT.out.2.1 HOUT.out.2.2.1 HKP.out HTN.out HOUT.out.2.2.2.1)
     go_wp2_with fail
     refine HRS.out.mono ?_
     rintro o w6 ⟨rfl, F2, hperm, hL6⟩
     obtain ⟨x, hx6, hxl, hxg, hxw⟩ : ∃ x : St, S.Six x /\ (V.str (S.text 6 x)).size <= 4000 /\ Dx.M.get F2 (Dx.fileN ⟨#[97]⟩) = some (V.str (S.text 6 x)) /\ (x = t \/ ((0 : Nat) ≠ 0 /\ x = s)) := by
      have hg2 := Dx.M.get_perm (n := (Dx.fileN ⟨#[97]⟩)) hperm (((hperm.map (·.1)).nodup_iff).2 HOUT.out.2.2.2.1)
      rcases HOUT.out.2.2.2.2 with ⟨h1, h2⟩ | ⟨h1, h2, h3⟩
      ·exact ⟨s, HSIX.out, HDS.out, hg2.trans h2, .inr ⟨h1, rfl⟩⟩
      ·obtain ⟨k1, k2⟩ := S.Six.of HMT.out h1 HBT.out
       rw [k2] at h2 h3
       exact ⟨t, k1, h2, hg2.trans h3, .inl rfl⟩
     obtain ⟨HX6, HXL, HXG, HXW, HL6⟩ := hd5 hx6 hxl hxg hxw hL6
     clear hperm hx6 hxl hxg hxw hL6 HRS HOUT HL5
     have HLD := hide (law_load HL6.out x rfl HXG.out HX6.out HXL.out HTAB.out)
     have HLB := hide HL6.out.below
     go_wp2_with fail
     refine HLD.out.mono ?_
     rintro o w7 ⟨⟨cs, rfl, ⟨a1, n1, q1, a2, n2, q2, a3, n3, q3, rfl⟩, hK⟩, hb7⟩
     have hbx : Below w7.heap.size w7 (w7.alloc (.cells #[.int .i64 x.serial, .slice a1 n1 q1, .slice a2 n2 q2, .slice a3 n3 q3] 26)) := (Below.refl _ _).alloc (Nat.le_refl _) _
     have hX8 := heap_alloc_new w7 (.cells #[.int .i64 x.serial, .slice a1 n1 q1, .slice a2 n2 q2, .slice a3 n3 q3] 26)
     have hb8 : Below wA.heap.size wA (w7.alloc (.cells #[.int .i64 x.serial, .slice a1 n1 q1, .slice a2 n2 q2, .slice a3 n3 q3] 26)) := (HLB.out.trans (hb7.mono HLB.out.size)).trans (hbx.mono (by have := HLB.out.size; have := hb7.size; omega))
     have HMX := hide (S.Mem.mono (hK.mem.kept hbx) HM6.out)
     have HBX : Hid (S.bulk m x <= 2000000) := by
      show _ <= _
      rw [S.bulk_mono hK.mem HM6.out]
      exact HX6.out.bulk
     obtain ⟨HB8, HX8⟩ := hd2 hb8 hX8
     clear hK hb7 hbx hb8 hX8 HLD HLB
     have hX8c := HX8.out
     obtain ⟨xx0, xx1, xx2, xx3⟩ := cl4 hX8c
     have hbk := (HB8.out.block (w.heap.size + 1) (blt HKT.out)).trans HKT.out
     obtain ⟨tt0, tt1, tt2, tt3⟩ := cl4 hbk
     have HSA := hide (sameState_any sm HSM.out m (w7.alloc (.cells #[.int .i64 x.serial, .slice a1 n1 q1, .slice a2 n2 q2, .slice a3 n3 q3] 26)) x t _ _ _ _ _ _ _ _ HMX.out (HMT.out.kept HB8.out) HBX.out HBT.out)
     clear hX8c hbk
     go_wp2_with fail
     generalize (w7.alloc _) = w8 at *
     refine HSA.out.mono ?_
     rintro o w9 ⟨⟨r, rfl, hr⟩, hb9⟩
     obtain ⟨HR, HB9⟩ := hd2 hr hb9
     clear hr hb9 HSA xx0 xx1 xx2 xx3 tt0 tt1 tt2 tt3
     cases r with
     | true =>
      go_wp2_with fail
      go_ret
      exact ⟨rfl, (HBA.out.trans (HB8.out.mono HBA.out.size)).trans (HB9.out.mono (by have := HBA.out.size; have := HB8.out.size; omega))⟩
     | false =>
      rcases HXW.out with e | ⟨e, _⟩
      ·have := HR.out e
       cases this
      ·exact absurd rfl e
    ·by_cases hk10 : k = 10
     ·subst hk10
      have ho2 : o = .returned (.iface 54 (.int .i64 10)) := ho
      subst ho2
      clear ho hk0
      have HNB := hide (number_err 10 w5)
      go_wp2_with fail
      refine HNB.out.mono ?_
      rintro o w5' ⟨rfl, hw5⟩
      rw [hw5]
      clear hw5 HNB
      have HOUT := hide (outcome HN3.out HGK3.out HST3.out HLN3.out HSV.out keep torn)
      have HRS := hide (law_restart HL5.out keep torn HOUT.out.1 HOUT.out.2.1 HOUT.out.2.2.1 HKP.out HTN.out HOUT.out.2.2.2.1)
      go_wp2_with fail
      refine HRS.out.mono ?_
      rintro o w6 ⟨rfl, F2, hperm, hL6⟩
      obtain ⟨x, hx6, hxl, hxg, hxw⟩ : ∃ x : St, S.Six x /\ (V.str (S.text 6 x)).size <= 4000 /\ Dx.M.get F2 (Dx.fileN ⟨#[97]⟩) = some (V.str (S.text 6 x)) /\ (x = t \/ ((10 : Nat) ≠ 0 /\ x = s)) := by
       have hg2 := Dx.M.get_perm (n := (Dx.fileN ⟨#[97]⟩)) hperm (((hperm.map (·.1)).nodup_iff).2 HOUT.out.2.2.2.1)
       rcases HOUT.out.2.2.2.2 with ⟨h1, h2⟩ | ⟨h1, h2, h3⟩
       ·exact ⟨s, HSIX.out, HDS.out, hg2.trans h2, .inr ⟨h1, rfl⟩⟩
       ·obtain ⟨k1, k2⟩ := S.Six.of HMT.out h1 HBT.out
        rw [k2] at h2 h3
        exact ⟨t, k1, h2, hg2.trans h3, .inl rfl⟩
      obtain ⟨HX6, HXL, HXG, HXW, HL6⟩ := hd5 hx6 hxl hxg hxw hL6
      clear hperm hx6 hxl hxg hxw hL6 HRS HOUT HL5
      have HLD := hide (law_load HL6.out x rfl HXG.out HX6.out HXL.out HTAB.out)
      have HLB := hide HL6.out.below
      go_wp2_with fail
      refine HLD.out.mono ?_
      rintro o w7 ⟨⟨cs, rfl, ⟨a1, n1, q1, a2, n2, q2, a3, n3, q3, rfl⟩, hK⟩, hb7⟩
      have hbx : Below w7.heap.size w7 (w7.alloc (.cells #[.int .i64 x.serial, .slice a1 n1 q1, .slice a2 n2 q2, .slice a3 n3 q3] 26)) := (Below.refl _ _).alloc (Nat.le_refl _) _
      have hX8 := heap_alloc_new w7 (.cells #[.int .i64 x.serial, .slice a1 n1 q1, .slice a2 n2 q2, .slice a3 n3 q3] 26)
      have hb8 : Below wA.heap.size wA (w7.alloc (.cells #[.int .i64 x.serial, .slice a1 n1 q1, .slice a2 n2 q2, .slice a3 n3 q3] 26)) := (HLB.out.trans (hb7.mono HLB.out.size)).trans (hbx.mono (by have := HLB.out.size; have := hb7.size; omega))
      have HMX := hide (S.Mem.mono (hK.mem.kept hbx) HM6.out)
      have HBX : Hid (S.bulk m x <= 2000000) := by
       show _ <= _
       rw [S.bulk_mono hK.mem HM6.out]
       exact HX6.out.bulk
      obtain ⟨HB8, HX8⟩ := hd2 hb8 hX8
      clear hK hb7 hbx hb8 hX8 HLD HLB
      have hX8c := HX8.out
      obtain ⟨xx0, xx1, xx2, xx3⟩ := cl4 hX8c
      have hbk := (HB8.out.block (w.heap.size + 1) (blt HKT.out)).trans HKT.out
      obtain ⟨tt0, tt1, tt2, tt3⟩ := cl4 hbk
      have HSA := hide (sameState_any sm HSM.out m (w7.alloc (.cells #[.int .i64 x.serial, .slice a1 n1 q1, .slice a2 n2 q2, .slice a3 n3 q3] 26)) x t _ _ _ _ _ _ _ _ HMX.out (HMT.out.kept HB8.out) HBX.out HBT.out)
      clear hX8c hbk
      go_wp2_with fail
      generalize (w7.alloc _) = w8 at *
      refine HSA.out.mono ?_
      rintro o w9 ⟨⟨r, rfl, hr⟩, hb9⟩
      obtain ⟨HR, HB9⟩ := hd2 hr hb9
      clear hr hb9 HSA xx0 xx1 xx2 xx3 tt0 tt1 tt2 tt3
      cases r with
      | true =>
       go_wp2_with fail
       go_ret
       exact ⟨rfl, (HBA.out.trans (HB8.out.mono HBA.out.size)).trans (HB9.out.mono (by have := HBA.out.size; have := HB8.out.size; omega))⟩
      | false =>
       have HXS : Hid (x = s) := by
        rcases HXW.out with e | ⟨_, e⟩
        ·have := HR.out e
         cases this
        ·exact e
       have HB89 := hide (HB8.out.trans (HB9.out.mono HB8.out.size))
       have hX8c := (HB9.out.block w7.heap.size (blt HX8.out)).trans HX8.out
       obtain ⟨xx0, xx1, xx2, xx3⟩ := cl4 hX8c
       have hbk := (HB89.out.block w.heap.size (blt HKS.out)).trans HKS.out
       obtain ⟨tt0, tt1, tt2, tt3⟩ := cl4 hbk
       have HSA := hide (sameState_any sm HSM.out m w9 x s _ _ _ _ _ _ _ _ (HMX.out.kept HB9.out) (HMS.out.kept HB89.out) HBX.out HBS.out)
       clear hX8c hbk
       go_wp2_with fail
       refine HSA.out.mono ?_
       rintro o w10 ⟨⟨r, rfl, hr⟩, hb10⟩
       have HR2 := hide (hr HXS.out)
       have HB10 := hide hb10
       clear hr hb10 HSA xx0 xx1 xx2 xx3 tt0 tt1 tt2 tt3
       cases r with
       | false =>
        have := HR2.out
        cases this
       | true =>
        go_wp2_with fail
        go_ret
        exact ⟨rfl, (HBA.out.trans (HB89.out.mono HBA.out.size)).trans (HB10.out.mono (by have := HBA.out.size; have := HB89.out.size; omega))⟩
     ·rw [Dx.errV_ne hk0] at ho
      subst ho
      obtain ⟨HK0, HK10⟩ := hd2 hk0 hk10
      have HNB := hide (number_err (k : Int) w5)
      have hne : ((k : Int) != 10) = true := int_ne (by omega)
      clear hk0 hk10
      go_wp2_with fail
      refine HNB.out.mono ?_
      rintro o w5' ⟨rfl, hw5⟩
      rw [hw5]
      clear hw5 HNB
      have hD4 : D4 = D3 := by
       rcases HSV.out with ⟨_, _, h⟩ | ⟨_, ⟨_, _, h⟩ | ⟨_, h, _⟩ | ⟨_, h, _⟩⟩
       ·exact h
       ·exact h
       ·exact absurd h HK10.out
       ·exact absurd h HK0.out
      have HD4 := hide hD4
      have HDN : Hid (D4.down = false) := by
       show _ = _
       rw [hD4]
       exact HN3.out.down
      have HXG : Hid (Dx.M.get D4.files (Dx.fileN ⟨#[97]⟩) = some (V.str (S.text 6 s))) := by
       show _ = _
       rw [hD4]
       exact HGF3.out
      obtain ⟨HX6, HXL⟩ := hd2 HSIX.out HDS.out
      clear hD4
      have HLD := hide (law_load HL5.out s HDN.out HXG.out HX6.out HXL.out HTAB.out)
      have HLB := hide HL5.out.below
      go_wp2_with fail
      refine HLD.out.mono ?_
      rintro o w7 ⟨⟨cs, rfl, ⟨a1, n1, q1, a2, n2, q2, a3, n3, q3, rfl⟩, hK⟩, hb7⟩
      have hbx : Below w7.heap.size w7 (w7.alloc (.cells #[.int .i64 s.serial, .slice a1 n1 q1, .slice a2 n2 q2, .slice a3 n3 q3] 26)) := (Below.refl _ _).alloc (Nat.le_refl _) _
      have hX8 := heap_alloc_new w7 (.cells #[.int .i64 s.serial, .slice a1 n1 q1, .slice a2 n2 q2, .slice a3 n3 q3] 26)
      have hb8 : Below wA.heap.size wA (w7.alloc (.cells #[.int .i64 s.serial, .slice a1 n1 q1, .slice a2 n2 q2, .slice a3 n3 q3] 26)) := (HLB.out.trans (hb7.mono HLB.out.size)).trans (hbx.mono (by have := HLB.out.size; have := hb7.size; omega))
      have HMX := hide (S.Mem.mono (hK.mem.kept hbx) HM6.out)
      have HBX : Hid (S.bulk m s <= 2000000) := by
       show _ <= _
       rw [S.bulk_mono hK.mem HM6.out]
       exact HX6.out.bulk
      obtain ⟨HB8, HX8⟩ := hd2 hb8 hX8
      clear hK hb7 hbx hb8 hX8 HLD HLB
      have hX8c := HX8.out
      obtain ⟨xx0, xx1, xx2, xx3⟩ := cl4 hX8c
      have hbk := (HB8.out.block (w.heap.size) (blt HKS.out)).trans HKS.out
      obtain ⟨tt0, tt1, tt2, tt3⟩ := cl4 hbk
      have HSA := hide (sameState_any sm HSM.out m (w7.alloc (.cells #[.int .i64 s.serial, .slice a1 n1 q1, .slice a2 n2 q2, .slice a3 n3 q3] 26)) s s _ _ _ _ _ _ _ _ HMX.out (HMS.out.kept HB8.out) HBX.out HBS.out)
      clear hX8c hbk
      go_wp2_with fail
      generalize (w7.alloc _) = w8 at *
      refine HSA.out.mono ?_
      rintro o w9 ⟨⟨r, rfl, hr⟩, hb9⟩
      have HR := hide (hr trivial)
      have HB9 := hide hb9
      clear hr hb9 HSA xx0 xx1 xx2 xx3 tt0 tt1 tt2 tt3
      cases r with
      | false =>
       have := HR.out
       cases this
      | true =>
       go_wp2_with fail
       go_ret
       exact ⟨rfl, (HBA.out.trans (HB8.out.mono HBA.out.size)).trans (HB9.out.mono (by have := HBA.out.size; have := HB8.out.size; omega))⟩
   ·rw [Dx.errV_ne hk0] at ho
    subst ho
    have HBE := hide (HBA.out.trans (HLS.out.below.mono HBA.out.size))
    clear hS hLS hk0 HSS HLS xx0 xx1 xx2 xx3
    go_wp2_with fail
    go_ret
    exact ⟨rfl, HBE.out⟩
end Go.Proofs.YtcekcfjabhlheaaGreatDoor.Vx
