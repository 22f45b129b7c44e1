/- For CloudSays: calls that fall, or are refused. -/
import Derived.Test.YtlmkpjdaoinmoaaCV
namespace Go.Proofs.Ytlmkpjdaoinmoaa
open Go.RowKit
attribute [local go_sem ↓] Go.wp_at_zero Go.wp_at_succ
set_option maxRecDepth 100000 in
set_option maxHeartbeats 1000000 in
/-- A call that falls. -/
theorem begin_down (w : World) (B : Nat → Prop) (g gc bt bd bf : Nat) (D : Dk) (q given calls : Int) (Th : List (Int × Value)) (Di : List (ByteArray × Value)) (Fa : List (Int × Value)) (h : Cl w B g gc bt bd bf D q given calls Th Di Fa) (hs : 0 ≤ D.steps ∧ D.steps ≤ 1000000) (hl : -9223372036854775808 ≤ D.left ∧ D.left ≤ 9223372036854775807) (hn : D.fails) :
    Calls Try.prog 57 #[.pointer (some ⟨gc, 0, none⟩)] w fun o w' => o = .returned (.iface 80 (.int .i64 10)) ∧ Cl w' B g gc bt bd bf D.fell q given calls Th Di Fa ∧ Fr w w' (fun c => c = g ∨ c = gc ∨ c = bf) := by
  have HST := hide (step_any w B g D h.disk hs hl)
  have c0 := cell_of_block h.blk 0 _ rfl
  have HH := hide h
  have hBg := h.disk.has_g
  clear h hs hl
  go_enter Try.func57, Try.ntmps57
  go_wp2_with fail
  refine HST.out.mono ?_
  rintro o w1 ⟨⟨_, rfl, hD1⟩ | ⟨hx, _⟩, hf1⟩
  · have HCL := hide (HH.out.stepped hD1 hBg hf1)
    have HF := hide (hf1.weak (ex1 := fun c => c = g ∨ c = gc ∨ c = bf) (fun _ _ e => .inl e))
    clear hD1 hf1 HST
    go_wp2_with fail
    go_ret
    exact ⟨rfl, HCL.out, HF.out⟩
  · exact absurd hn hx
set_option maxRecDepth 100000 in
set_option maxHeartbeats 1000000 in
/-- A call that is refused. -/
theorem begin_busy (w : World) (B : Nat → Prop) (g gc bt bd bf : Nat) (D : Dk) (q given calls : Int) (Th : List (Int × Value)) (Di : List (ByteArray × Value)) (Fa : List (Int × Value)) (h : Cl w B g gc bt bd bf D q given calls Th Di Fa) (hs : 0 ≤ D.steps ∧ D.steps ≤ 1000000) (hl : -9223372036854775808 ≤ D.left ∧ D.left ≤ 9223372036854775807) (hn : ¬ D.fails) (hc : 0 ≤ calls ∧ calls ≤ 1000000) (hF : T.get Fa calls = some (.agg #[])) :
    Calls Try.prog 57 #[.pointer (some ⟨gc, 0, none⟩)] w fun o w' => o = .returned (.iface 80 (.int .i64 12)) ∧ Cl w' B g gc bt bd bf D.step q given (calls + 1) Th Di (T.del Fa calls) ∧ Fr w w' (fun c => c = g ∨ c = gc ∨ c = bf) := by
  have HST := hide (step_any w B g D h.disk hs hl)
  have c0 := cell_of_block h.blk 0 _ rfl
  have HH := hide h
  have hBg := h.disk.has_g
  have hgc : gc ≠ g := fun e => h.nc (e ▸ hBg)
  have HF : Hid (∀ W, T.Is W bf Fa → (Instr.lookup 83 (.map (some bf)) (.int .i64 calls) true).run Try.prog W = .ok (.tuple #[.agg #[], .bool true]) W) := by
    intro W hI
    have hlk := T.look u83 hI calls true z99
    cases ha : T.at_ calls Fa 0 with
    | none => unfold T.get at hF; rw [ha] at hF; cases hF
    | some p =>
      rw [ha] at hlk
      unfold T.get at hF
      rw [ha] at hF
      have hx : p.2 = .agg #[] := by simpa using hF
      simp only [if_pos] at hlk
      rw [hx] at hlk
      exact hlk
  clear h hF hs hl
  go_enter Try.func57, Try.ntmps57
  go_wp2_with fail
  refine HST.out.mono ?_
  rintro o w1 ⟨⟨hx, _⟩ | ⟨_, rfl, hD1⟩, hf1⟩
  · exact absurd hx hn
  · have hcl1 := HH.out.stepped hD1 hBg hf1
    have c5 := cell_of_block hcl1.blk 5 _ rfl
    have f5 := free_of_block hcl1.blk 5
    obtain ⟨w2, hw2⟩ : ∃ w2, w2 = w1.setCell ⟨gc, 5, none⟩ (.int .i64 (calls + 1)) := ⟨_, rfl⟩
    have hb2 : w2.heap[gc]? = some (cblk g q bt given bd (calls + 1) bf) := by
      have := hcl1.blk
      rw [hw2]
      unfold cblk at this ⊢
      simp [World.setCell, Array.getElem?_modify, this]
    have hfs : Fr w1 w2 (fun c => c = gc) := by rw [hw2]; exact (Fr.refl w1 _).set _ _ (fun _ => rfl)
    have hcl2 := hcl1.wrote hb2 hfs
    have c6 := cell_of_block hb2 6 _ rfl
    have hlk := HF.out _ hcl2.fa
    have hwr : IntKind.i64.wrap (calls + 1) = calls + 1 := by
      rw [IntKind.wrap, show (2 : Int) ^ IntKind.i64.bits = 18446744073709551616 from rfl, show IntKind.i64.signed = true from rfl, show (2 : Int) ^ (IntKind.i64.bits - 1) = 9223372036854775808 from rfl]
      simp
      omega
    have hal : Fr w2 (w2.alloc (.cells #[] 99)) (fun _ => False) := (Fr.refl _ _).alloc _
    have k6 := cell_frx hal (fun e => e) c6
    obtain ⟨w4, hr, hI4, hg4⟩ := T.delete u83 (w := w2.alloc (.cells #[] 99)) (hcl2.fr hal).fa calls 0
    have HCL2 := hide ((hcl2.fr hal).failed hI4 (frb hg4))
    have HFS := hide ((((hf1.weak (ex1 := fun c => c = g ∨ c = gc ∨ c = bf) (fun _ _ e => .inl e)).trans hfs (fun _ _ e => .inr (.inl e))).trans hal (fun _ _ e => e.elim)).trans (frb hg4) (fun _ _ e => .inr (.inr e)))
    clear hcl1 hcl2 hfs hb2 hD1 hf1 HST hI4 hg4 hal
    go_upto_region 6 with fail
    rw [← hw2]
    clear hw2
    go_wp2_with fail
    go_ret
    exact ⟨rfl, HCL2.out, HFS.out⟩
set_option maxRecDepth 100000 in
set_option maxHeartbeats 600000 in
/-- A call that is not let. -/
theorem callErr (w : World) (gc : Nat) (tok : ByteArray) (op : Int) (f : Value) (eb : Nat) (R : World → Prop) (h : Calls Try.prog 57 #[.pointer (some ⟨gc, 0, none⟩)] w fun o w' => o = .returned (.iface 80 (.int .i64 eb)) ∧ R w') :
    Calls Try.prog 34 #[.pointer (some ⟨gc, 0, none⟩), .string tok, .int .i64 op, f] w fun o w' => o = .returned (.tuple #[.int .i64 0, .iface 80 (.int .i64 eb)]) ∧ R w' := by
  have HB := hide h
  clear h
  go_enter Try.func34, Try.ntmps34
  go_wp2_with fail
  refine HB.out.mono ?_
  rintro o w1 ⟨rfl, hr⟩
  have HR := hide hr
  clear hr HB
  go_wp2_with fail
  go_ret2
  exact ⟨rfl, HR.out⟩
set_option maxRecDepth 100000 in
set_option maxHeartbeats 600000 in
theorem createErr (w : World) (B : Nat → Prop) (g gc bt bd bf : Nat) (D : Dk) (q given calls : Int) (Th : List (Int × Value)) (Di : List (ByteArray × Value)) (Fa : List (Int × Value)) (tok kind : ByteArray) (m : Nat) (v : Val) (c0 c1 c2 c3 c4 : Value) (h : Cl w B g gc bt bd bf D q given calls Th Di Fa) (hM : V.MemX (Cl.own B gc bt bd bf) (m + 1) w v [c0, c1, c2, c3, c4]) (hbk : V.bulk (m + 1) v ≤ 2000000) (hk : kind.size ≤ maxLen) (hA : attrE (m + 1) v = 0) (hN : V.name (V.bl kind) = true) (eb : Nat) (D2 : Dk) (calls2 : Int) (Fa2 : List (Int × Value)) (hbg : ∀ W, Cl W B g gc bt bd bf D q given calls Th Di Fa → Calls Try.prog 57 #[.pointer (some ⟨gc, 0, none⟩)] W fun o w' => o = .returned (.iface 80 (.int .i64 eb)) ∧ Cl w' B g gc bt bd bf D2 q given calls2 Th Di Fa2 ∧ Fr W w' (fun c => c = g ∨ c = gc ∨ c = bf)) :
    Calls Try.prog 12 #[.pointer (some ⟨gc, 0, none⟩), .string tok, .string kind, .agg #[c0, c1, c2, c3, c4]] w fun o w' => o = .returned (.tuple #[.int .i64 0, .iface 80 (.int .i64 eb)]) ∧ Cl w' B g gc bt bd bf D2 q given calls2 Th Di Fa2 ∧ Fr w w' (fun c => c = g ∨ c = gc ∨ c = bf) := by
  obtain ⟨al, cl, af, cf, rfl, rfl, rfl, rfl, rfl⟩ := hM.mem.form
  obtain ⟨w2, hw2⟩ : ∃ w2, w2 = boxes w gc kind #[.int .i64 v.kind, .int .i64 v.n, .string v.s, .slice al v.l.length cl, .slice af v.f.length cf] := ⟨_, rfl⟩
  have hf2 : Fr w w2 (fun _ => False) := by rw [hw2]; exact boxes_fr ..
  obtain ⟨b1, b2, b3, b4⟩ := boxes_at w gc kind #[.int .i64 v.kind, .int .i64 v.n, .string v.s, .slice al v.l.length cl, .slice af v.f.length cf]
  rw [← hw2] at b1 b2 b3 b4
  have hmx2 := hM.fr (hf2.weak (ex1 := Cl.own B gc bt bd bf) (fun _ _ e => e.elim))
  have HAT := hide (attributes_any (m + 1) w2 v _ _ _ _ _ hmx2.mem hbk)
  have hcl2 := h.fr hf2
  have hae : (if v.kind = 5 then V.fault (m + 1) v else 9) = attrE (m + 1) v := rfl
  rw [hae] at HAT
  clear hae
  have a0 := cell_of_block b3 0 _ rfl
  have a1 := cell_of_block b3 1 _ rfl
  have a2 := cell_of_block b3 2 _ rfl
  have a3 := cell_of_block b3 3 _ rfl
  have a4 := cell_of_block b3 4 _ rfl
  unfold boxes at hw2
  have hE : V.errOf (attrE (m + 1) v) = .nilIface := by rw [hA]; rfl
  rw [hE] at HAT
  clear hE hA
  have HC : Hid (∀ W, Fr w2 W (fun _ => False) → Calls Try.prog 34 #[.pointer (some ⟨gc, 0, none⟩), .string tok, .int .i64 1, .func (.func 35) #[] #[.pointer (some ⟨w.heap.size, 0, none⟩), .pointer (some ⟨w.heap.size + 1, 0, none⟩), .pointer (some ⟨w.heap.size + 1 + 1, 0, none⟩)]] W fun o w' => o = .returned (.tuple #[.int .i64 0, .iface 80 (.int .i64 eb)]) ∧ Cl w' B g gc bt bd bf D2 q given calls2 Th Di Fa2 ∧ Fr W w' (fun c => c = g ∨ c = gc ∨ c = bf)) := fun W hf => callErr W gc tok 1 _ eb _ (hbg W (hcl2.fr hf))
  have HF := hide hf2
  have HK := hide hk
  clear h hM hmx2 hcl2 hf2 b3 b4 hk hbg
  go_enter Try.func12, Try.ntmps12
  go_wp2_with fail
  rw [← hw2]
  clear hw2
  go_wp2_with fail
  refine HAT.out.mono ?_
  rintro o w3 ⟨rfl, hb3⟩
  have hf3 := fr_of_below hb3
  have k2 := cell_frx hf3 (fun e => e) b2
  have k1 := cell_frx hf3 (fun e => e) b1
  have HNM := hide (name_any kind w3 HK.out)
  rw [hN] at HNM
  have HC3 := hide (HC.out w3 hf3)
  have HF3 := hide (HF.out.trans hf3 (fun _ _ e => e))
  clear hb3 hf3 HAT HC
  go_wp2_with (first
    | (go_at_call 33; (with_reducible refine Calls.mono HNM.out ?_); rintro o w4 ⟨rfl, hw4⟩; rw [hw4]; clear hw4 w4)
    | (go_at_call 34; (with_reducible refine Calls.mono HC3.out ?_); rintro o w5 ⟨rfl, hcl5, hf5⟩; have HCL5 := hide hcl5; have HF5 := hide ((HF3.out.weak (ex1 := fun c => c = g ∨ c = gc ∨ c = bf) (fun _ _ e => e.elim)).trans hf5 (fun _ _ e => e)); clear hcl5 hf5))
  go_ret2
  exact ⟨rfl, HCL5.out, HF5.out⟩
set_option maxRecDepth 100000 in
set_option maxHeartbeats 600000 in
theorem updateErr (w : World) (B : Nat → Prop) (g gc bt bd bf : Nat) (D : Dk) (q given calls : Int) (Th : List (Int × Value)) (Di : List (ByteArray × Value)) (Fa : List (Int × Value)) (tok : ByteArray) (id : Int) (m : Nat) (v : Val) (c0 c1 c2 c3 c4 : Value) (h : Cl w B g gc bt bd bf D q given calls Th Di Fa) (hM : V.MemX (Cl.own B gc bt bd bf) (m + 1) w v [c0, c1, c2, c3, c4]) (hbk : V.bulk (m + 1) v ≤ 2000000) (hA : attrE (m + 1) v = 0) (eb : Nat) (D2 : Dk) (calls2 : Int) (Fa2 : List (Int × Value)) (hbg : ∀ W, Cl W B g gc bt bd bf D q given calls Th Di Fa → Calls Try.prog 57 #[.pointer (some ⟨gc, 0, none⟩)] W fun o w' => o = .returned (.iface 80 (.int .i64 eb)) ∧ Cl w' B g gc bt bd bf D2 q given calls2 Th Di Fa2 ∧ Fr W w' (fun c => c = g ∨ c = gc ∨ c = bf)) :
    Calls Try.prog 14 #[.pointer (some ⟨gc, 0, none⟩), .string tok, .int .i64 id, .agg #[c0, c1, c2, c3, c4]] w fun o w' => o = .returned (.iface 80 (.int .i64 eb)) ∧ Cl w' B g gc bt bd bf D2 q given calls2 Th Di Fa2 ∧ Fr w w' (fun c => c = g ∨ c = gc ∨ c = bf) := by
  obtain ⟨al, cl, af, cf, rfl, rfl, rfl, rfl, rfl⟩ := hM.mem.form
  obtain ⟨w2, hw2⟩ : ∃ w2, w2 = boxesU w gc id #[.int .i64 v.kind, .int .i64 v.n, .string v.s, .slice al v.l.length cl, .slice af v.f.length cf] := ⟨_, rfl⟩
  have hf2 : Fr w w2 (fun _ => False) := by rw [hw2]; exact boxesU_fr ..
  obtain ⟨b1, b2, b3, b4⟩ := boxesU_at w gc id #[.int .i64 v.kind, .int .i64 v.n, .string v.s, .slice al v.l.length cl, .slice af v.f.length cf]
  rw [← hw2] at b1 b2 b3 b4
  have hmx2 := hM.fr (hf2.weak (ex1 := Cl.own B gc bt bd bf) (fun _ _ e => e.elim))
  have HAT := hide (attributes_any (m + 1) w2 v _ _ _ _ _ hmx2.mem hbk)
  have hcl2 := h.fr hf2
  have hae : (if v.kind = 5 then V.fault (m + 1) v else 9) = attrE (m + 1) v := rfl
  rw [hae] at HAT
  clear hae
  have a0 := cell_of_block b3 0 _ rfl
  have a1 := cell_of_block b3 1 _ rfl
  have a2 := cell_of_block b3 2 _ rfl
  have a3 := cell_of_block b3 3 _ rfl
  have a4 := cell_of_block b3 4 _ rfl
  unfold boxesU at hw2
  have hE : V.errOf (attrE (m + 1) v) = .nilIface := by rw [hA]; rfl
  rw [hE] at HAT
  clear hE hA
  have HC : Hid (∀ W, Fr w2 W (fun _ => False) → Calls Try.prog 34 #[.pointer (some ⟨gc, 0, none⟩), .string tok, .int .i64 2, .func (.func 41) #[] #[.pointer (some ⟨w.heap.size, 0, none⟩), .pointer (some ⟨w.heap.size + 1, 0, none⟩), .pointer (some ⟨w.heap.size + 1 + 1, 0, none⟩)]] W fun o w' => o = .returned (.tuple #[.int .i64 0, .iface 80 (.int .i64 eb)]) ∧ Cl w' B g gc bt bd bf D2 q given calls2 Th Di Fa2 ∧ Fr W w' (fun c => c = g ∨ c = gc ∨ c = bf)) := fun W hf => callErr W gc tok 2 _ eb _ (hbg W (hcl2.fr hf))
  have HF := hide hf2
  clear h hM hmx2 hcl2 hf2 b3 b4 hbg
  go_enter Try.func14, Try.ntmps14
  go_wp2_with fail
  rw [← hw2]
  clear hw2
  go_wp2_with fail
  refine HAT.out.mono ?_
  rintro o w3 ⟨rfl, hb3⟩
  have hf3 := fr_of_below hb3
  have k2 := cell_frx hf3 (fun e => e) b2
  have k1 := cell_frx hf3 (fun e => e) b1
  have HC3 := hide (HC.out w3 hf3)
  have HF3 := hide (HF.out.trans hf3 (fun _ _ e => e))
  clear hb3 hf3 HAT HC
  go_wp2_with (first
    | (go_at_call 34; (with_reducible refine Calls.mono HC3.out ?_); rintro o w5 ⟨rfl, hcl5, hf5⟩; have HCL5 := hide hcl5; have HF5 := hide ((HF3.out.weak (ex1 := fun c => c = g ∨ c = gc ∨ c = bf) (fun _ _ e => e.elim)).trans hf5 (fun _ _ e => e)); clear hcl5 hf5))
  go_ret
  exact ⟨rfl, HCL5.out, HF5.out⟩
set_option maxRecDepth 100000 in
set_option maxHeartbeats 600000 in
theorem deleteErr (w : World) (B : Nat → Prop) (g gc bt bd bf : Nat) (D : Dk) (q given calls : Int) (Th : List (Int × Value)) (Di : List (ByteArray × Value)) (Fa : List (Int × Value)) (tok : ByteArray) (id : Int) (h : Cl w B g gc bt bd bf D q given calls Th Di Fa) (eb : Nat) (D2 : Dk) (calls2 : Int) (Fa2 : List (Int × Value)) (hbg : ∀ W, Cl W B g gc bt bd bf D q given calls Th Di Fa → Calls Try.prog 57 #[.pointer (some ⟨gc, 0, none⟩)] W fun o w' => o = .returned (.iface 80 (.int .i64 eb)) ∧ Cl w' B g gc bt bd bf D2 q given calls2 Th Di Fa2 ∧ Fr W w' (fun c => c = g ∨ c = gc ∨ c = bf)) :
    Calls Try.prog 15 #[.pointer (some ⟨gc, 0, none⟩), .string tok, .int .i64 id] w fun o w' => o = .returned (.iface 80 (.int .i64 eb)) ∧ Cl w' B g gc bt bd bf D2 q given calls2 Th Di Fa2 ∧ Fr w w' (fun c => c = g ∨ c = gc ∨ c = bf) := by
  obtain ⟨w2, hw2⟩ : ∃ w2, w2 = (w.alloc (.cells #[.pointer (some ⟨gc, 0, none⟩)] 27)).alloc (.cells #[.int .i64 id] 3) := ⟨_, rfl⟩
  have hf2 : Fr w w2 (fun _ => False) := by rw [hw2]; exact ((Fr.refl _ _).alloc _).alloc _
  have c1 : w2.cell? ⟨w.heap.size, 0, none⟩ = some (.pointer (some ⟨gc, 0, none⟩)) := by
    rw [hw2]
    exact kept_cell (((Fr.refl (w.alloc (.cells #[.pointer (some ⟨gc, 0, none⟩)] 27)) (fun _ => False)).alloc _).below (Nat.le_refl _) (fun _ e => e.elim)) (cell_of_block (heap_alloc_new w _) 0 _ rfl)
  have HC := hide (callErr w2 gc tok 3 (.func (.func 44) #[] #[.pointer (some ⟨w.heap.size, 0, none⟩), .pointer (some ⟨w.heap.size + 1, 0, none⟩)]) eb _ (hbg w2 (h.fr hf2)))
  have HF2 := hide hf2
  clear h hbg hf2
  go_enter Try.func15, Try.ntmps15
  go_wp2_with fail
  rw [← hw2]
  clear hw2
  go_wp2_with fail
  refine HC.out.mono ?_
  rintro o w3 ⟨rfl, hcl3, hf3⟩
  have HCL := hide hcl3
  have HF3 := hide ((HF2.out.weak (ex1 := fun c => c = g ∨ c = gc ∨ c = bf) (fun _ _ e => e.elim)).trans hf3 (fun _ _ e => e))
  clear hcl3 hf3 HC
  go_wp2_with fail
  go_ret
  exact ⟨rfl, HCL.out, HF3.out⟩
end Go.Proofs.Ytlmkpjdaoinmoaa
