/- TopState: UR2. -/
import Derived.Test.YtcekcfjabhlheaaGreatDoorUR1
set_option maxRecDepth 100000
set_option maxHeartbeats 25600000
namespace Go.Proofs.YtcekcfjabhlheaaGreatDoor.Vx
open Go.RowKit
theorem eval_one (e : Ex) (D0 : Nat -> Prop) (w : World) (k1 : Int) (v1 : Val) (s1 t1 : ByteArray) (a1 : Option Addr) (i1 u1 : Nat) (b1 : Option Addr) (j1 p1 : Nat) (hM : X.MemD D0 6 w e (P.xc k1 v1 s1 t1 a1 i1 u1 b1 j1 p1)) (hD0 : ∀ c, D0 c -> c < w.heap.size) (hfine : X.Fine 6 e) :
  Calls Tryz.prog 134 #[.agg #[.int .i64 k1, .int .i64 v1.kind, .int .i64 v1.n, .string v1.s, .slice none 0 0, .slice none 0 0, .string s1, .string t1, .slice a1 i1 u1, .slice b1 j1 p1], .agg #[.map none, .map none, .map none]] w fun r w' => (∃ es, r = .returned (.tuple #[.agg es.toArray, .nilIface]) /\ P.Val5 6 (fun c => D0 c \/ P.New w w' c) w' (X.val 6 e) es) /\ Below w.heap.size w w' := by
 obtain ⟨i0, hi0, hz0, hz1, hz2⟩ := info_parts info194
 obtain ⟨i5, hi5, hy0, hy1, hy2⟩ := info_parts info61
 have hsz : ((((w.alloc (.cells #[.int .i64 k1, .int .i64 v1.kind, .int .i64 v1.n, .string v1.s, .slice none 0 0, .slice none 0 0, .string s1, .string t1, .slice a1 i1 u1, .slice b1 j1 p1] 170)).alloc (.cells #[.map none, .map none, .map none] 178)).alloc (.cells #[.int .i64 0, .int .i64 0, .string ⟨#[]⟩, .slice none 0 0, .slice none 0 0] 61)).alloc (.cells #[.pointer (some ⟨w.heap.size, 0, none⟩), .slice none 0 0] 194)).heap.size = w.heap.size + 4 := by simp
 have hb1 : Below w.heap.size w ((((w.alloc (.cells #[.int .i64 k1, .int .i64 v1.kind, .int .i64 v1.n, .string v1.s, .slice none 0 0, .slice none 0 0, .string s1, .string t1, .slice a1 i1 u1, .slice b1 j1 p1] 170)).alloc (.cells #[.map none, .map none, .map none] 178)).alloc (.cells #[.int .i64 0, .int .i64 0, .string ⟨#[]⟩, .slice none 0 0, .slice none 0 0] 61)).alloc (.cells #[.pointer (some ⟨w.heap.size, 0, none⟩), .slice none 0 0] 194)) := ((((Below.refl _ _).alloc (Nat.le_refl _) _).alloc (by simp) _).alloc (by simp; omega) _).alloc (by simp; omega) _
 have hA0 : ((((w.alloc (.cells #[.int .i64 k1, .int .i64 v1.kind, .int .i64 v1.n, .string v1.s, .slice none 0 0, .slice none 0 0, .string s1, .string t1, .slice a1 i1 u1, .slice b1 j1 p1] 170)).alloc (.cells #[.map none, .map none, .map none] 178)).alloc (.cells #[.int .i64 0, .int .i64 0, .string ⟨#[]⟩, .slice none 0 0, .slice none 0 0] 61)).alloc (.cells #[.pointer (some ⟨w.heap.size, 0, none⟩), .slice none 0 0] 194)).heap[w.heap.size]? = some (.cells #[.int .i64 k1, .int .i64 v1.kind, .int .i64 v1.n, .string v1.s, .slice none 0 0, .slice none 0 0, .string s1, .string t1, .slice a1 i1 u1, .slice b1 j1 p1] 170 (0, 0)) := by
  rw [heap_alloc_old _ _ (by simp; omega), heap_alloc_old _ _ (by simp; omega), heap_alloc_old _ _ (by simp)]
  exact heap_alloc_new _ _
 have hA1 : ((((w.alloc (.cells #[.int .i64 k1, .int .i64 v1.kind, .int .i64 v1.n, .string v1.s, .slice none 0 0, .slice none 0 0, .string s1, .string t1, .slice a1 i1 u1, .slice b1 j1 p1] 170)).alloc (.cells #[.map none, .map none, .map none] 178)).alloc (.cells #[.int .i64 0, .int .i64 0, .string ⟨#[]⟩, .slice none 0 0, .slice none 0 0] 61)).alloc (.cells #[.pointer (some ⟨w.heap.size, 0, none⟩), .slice none 0 0] 194)).heap[w.heap.size + 1]? = some (.cells #[.map none, .map none, .map none] 178 (0, 0)) := by
  rw [heap_alloc_old _ _ (by simp), heap_alloc_old _ _ (by simp)]
  have := heap_alloc_new (w.alloc (.cells #[.int .i64 k1, .int .i64 v1.kind, .int .i64 v1.n, .string v1.s, .slice none 0 0, .slice none 0 0, .string s1, .string t1, .slice a1 i1 u1, .slice b1 j1 p1] 170)) (.cells #[.map none, .map none, .map none] 178)
  simpa using this
 have hA2 : ((((w.alloc (.cells #[.int .i64 k1, .int .i64 v1.kind, .int .i64 v1.n, .string v1.s, .slice none 0 0, .slice none 0 0, .string s1, .string t1, .slice a1 i1 u1, .slice b1 j1 p1] 170)).alloc (.cells #[.map none, .map none, .map none] 178)).alloc (.cells #[.int .i64 0, .int .i64 0, .string ⟨#[]⟩, .slice none 0 0, .slice none 0 0] 61)).alloc (.cells #[.pointer (some ⟨w.heap.size, 0, none⟩), .slice none 0 0] 194)).heap[w.heap.size + 2]? = some (.cells #[.int .i64 0, .int .i64 0, .string ⟨#[]⟩, .slice none 0 0, .slice none 0 0] 61 (0, 0)) := by
  rw [heap_alloc_old _ _ (by simp)]
  have := heap_alloc_new ((w.alloc (.cells #[.int .i64 k1, .int .i64 v1.kind, .int .i64 v1.n, .string v1.s, .slice none 0 0, .slice none 0 0, .string s1, .string t1, .slice a1 i1 u1, .slice b1 j1 p1] 170)).alloc (.cells #[.map none, .map none, .map none] 178)) (.cells #[.int .i64 0, .int .i64 0, .string ⟨#[]⟩, .slice none 0 0, .slice none 0 0] 61)
  simpa using this
 have hA3 : ((((w.alloc (.cells #[.int .i64 k1, .int .i64 v1.kind, .int .i64 v1.n, .string v1.s, .slice none 0 0, .slice none 0 0, .string s1, .string t1, .slice a1 i1 u1, .slice b1 j1 p1] 170)).alloc (.cells #[.map none, .map none, .map none] 178)).alloc (.cells #[.int .i64 0, .int .i64 0, .string ⟨#[]⟩, .slice none 0 0, .slice none 0 0] 61)).alloc (.cells #[.pointer (some ⟨w.heap.size, 0, none⟩), .slice none 0 0] 194)).heap[w.heap.size + 3]? = some (.cells #[.pointer (some ⟨w.heap.size, 0, none⟩), .slice none 0 0] 194 (0, 0)) := by
  have := heap_alloc_new (((w.alloc (.cells #[.int .i64 k1, .int .i64 v1.kind, .int .i64 v1.n, .string v1.s, .slice none 0 0, .slice none 0 0, .string s1, .string t1, .slice a1 i1 u1, .slice b1 j1 p1] 170)).alloc (.cells #[.map none, .map none, .map none] 178)).alloc (.cells #[.int .i64 0, .int .i64 0, .string ⟨#[]⟩, .slice none 0 0, .slice none 0 0] 61)) (.cells #[.pointer (some ⟨w.heap.size, 0, none⟩), .slice none 0 0] 194)
  simpa using this
 have hMd : X.MemD (fun c => D0 c \/ c = w.heap.size) 6 ((((w.alloc (.cells #[.int .i64 k1, .int .i64 v1.kind, .int .i64 v1.n, .string v1.s, .slice none 0 0, .slice none 0 0, .string s1, .string t1, .slice a1 i1 u1, .slice b1 j1 p1] 170)).alloc (.cells #[.map none, .map none, .map none] 178)).alloc (.cells #[.int .i64 0, .int .i64 0, .string ⟨#[]⟩, .slice none 0 0, .slice none 0 0] 61)).alloc (.cells #[.pointer (some ⟨w.heap.size, 0, none⟩), .slice none 0 0] 194)) e (P.xc k1 v1 s1 t1 a1 i1 u1 b1 j1 p1) := hM.to (fun c hc => hb1.block c (hD0 c hc)) (fun _ h => .inl h)
 have hSt : P.Stk (w.heap.size + 3) 5 e (fun c => D0 c \/ c = w.heap.size) ((((w.alloc (.cells #[.int .i64 k1, .int .i64 v1.kind, .int .i64 v1.n, .string v1.s, .slice none 0 0, .slice none 0 0, .string s1, .string t1, .slice a1 i1 u1, .slice b1 j1 p1] 170)).alloc (.cells #[.map none, .map none, .map none] 178)).alloc (.cells #[.int .i64 0, .int .i64 0, .string ⟨#[]⟩, .slice none 0 0, .slice none 0 0] 61)).alloc (.cells #[.pointer (some ⟨w.heap.size, 0, none⟩), .slice none 0 0] 194)) (.slice (some ⟨w.heap.size + 3, 0, none⟩) 1 1) [⟨w.heap.size, 0, 5, e, .slice none 0 0, []⟩] := by
  refine ⟨⟨rfl, .inr ⟨w.heap.size + 3, 1, _, rfl, Nat.le_refl _, hA3, Nat.le_refl _, by unfold maxLen; omega, rfl, rfl⟩⟩, fun f hf => ?_, ⟨rfl, rfl⟩, by simp, fun c hc => ?_, by rw [hsz]; omega⟩
  ·rw [List.mem_singleton] at hf
   subst hf
   refine ⟨⟨_, _, hA0⟩, .inr rfl, ⟨_, fun j hj => ?_, hMd⟩, P.GrowD.nil _ _ _ _ _ _, rfl, Nat.zero_le _, hfine⟩
   rw [cell_of_row _ _ _ _ _ _ hA0, Nat.zero_add]
   unfold P.xc
   rw [<- List.getElem?_toArray]
  ·rcases hc with h | h
   ·have := hD0 c h
    omega
   ·omega
 have HEV : Hid (P.Ev w ((((w.alloc (.cells #[.int .i64 k1, .int .i64 v1.kind, .int .i64 v1.n, .string v1.s, .slice none 0 0, .slice none 0 0, .string s1, .string t1, .slice a1 i1 u1, .slice b1 j1 p1] 170)).alloc (.cells #[.map none, .map none, .map none] 178)).alloc (.cells #[.int .i64 0, .int .i64 0, .string ⟨#[]⟩, .slice none 0 0, .slice none 0 0] 61)).alloc (.cells #[.pointer (some ⟨w.heap.size, 0, none⟩), .slice none 0 0] 194)) e D0 ((((w.alloc (.cells #[.int .i64 k1, .int .i64 v1.kind, .int .i64 v1.n, .string v1.s, .slice none 0 0, .slice none 0 0, .string s1, .string t1, .slice a1 i1 u1, .slice b1 j1 p1] 170)).alloc (.cells #[.map none, .map none, .map none] 178)).alloc (.cells #[.int .i64 0, .int .i64 0, .string ⟨#[]⟩, .slice none 0 0, .slice none 0 0] 61)).alloc (.cells #[.pointer (some ⟨w.heap.size, 0, none⟩), .slice none 0 0] 194)) (.slice (some ⟨w.heap.size + 3, 0, none⟩) 1 1) [⟨w.heap.size, 0, 5, e, .slice none 0 0, []⟩]) := ⟨hSt, Below.refl _ _⟩
 obtain ⟨HSZ, HB1, HA1, HA2, HD0⟩ := hd5 hsz hb1 hA1 hA2 hD0
 clear hM hD0 hfine hsz hb1 hA0 hA1 hA2 hA3 hMd hSt
 go_enter Tryz.func134, Tryz.ntmps134
 go_wp2_with fail
 generalize ((((w.alloc _).alloc _).alloc _).alloc _) = W1 at *
 go_loopg [6, 7, 8, 9, 10, 11] (P.mu [⟨w.heap.size, 0, 5, e, .slice none 0 0, []⟩]) (fun gk vc _ _ _ _ _ wr => ∃ st, P.Ev w W1 e D0 wr vc st /\ gk = P.mu st)
 case atStart => exact ⟨_, HEV.out, rfl⟩
 case round =>
  clear HEV
  obtain ⟨st, hev, hgk⟩ := hrel
  obtain ⟨f, r, rfl⟩ := hev.stk.pos
  obtain ⟨C, cap, rfl, hbC, hCs, ⟨cur, hCur⟩, hcl⟩ := hev.stk.blk
  have htop := hev.stk.top rfl
  have hfok := hev.stk.ok f (by simp)
  obtain ⟨⟨pb, po, cs, z0, hce, hMf⟩, z1, hrow, hvals, hfew, hfi⟩ := id htop
  obtain ⟨c0, c1, c2, c3, c4, av, nv, rfl, hKV, ⟨aa, ca, rfl⟩, an, cn, rfl⟩ := hMf.lit
  have yk := hce 0 (by decide)
  have ya := hce 8 (by decide)
  simp only [Nat.add_zero] at yk
  have hk7 : f.e.kind ≠ 7 := by
   rcases hfi.1 with h | h | h
   ·rw [h.1]; decide
   ·rw [h.1]; decide
   ·rw [h.1]; decide
  have hlen6 : r.length + 1 <= 6 := by
   have := hev.stk.link.len
   omega
  have hcap : r.length + 1 <= cap := by
   rcases hev.stk.own.2 with ⟨h, _⟩ | ⟨_, _, _, h, _, _, h2, _⟩
   ·cases h
   ·simp only [Value.slice.injEq] at h
    obtain ⟨_, _, rfl⟩ := h
    exact h2
  obtain ⟨ga, gc, hgv⟩ := own_shape hrow.own
  rw [hgv] at z1
  obtain ⟨HEV, HTOP⟩ := hd2 hev htop
  by_cases hdone : f.L.length = f.e.a.length
  ·have HNX := hide (next_done C (r.length * 2) pb po f.e.kind ga f.L.length gc aa ca wr z0 z1 yk (by rw [hdone]; exact ya) hk7)
   clear hev htop hfok hce hMf hKV hrow hvals hfew hfi ya yk z0 z1
   go_wp2_with fail
   refine HNX.out.mono ?_
   rintro o w2 ⟨rfl, nn, hw2⟩
   rw [hw2]
   clear hw2 HNX
   have hbd : Below wr.heap.size wr (wr.drewN nn) := below_drewN (Below.refl _ _) nn
   have hstk := HEV.out.stk.kept hbd
   have hlow : Below (w.heap.size + 3) W1 (wr.drewN nn) := HEV.out.low.trans (hbd.mono HEV.out.stk.bw)
   have hE := (hlow.block (w.heap.size + 1) (by omega)).trans HA1.out
   obtain ⟨e0, e1, e2⟩ := cl3 hE
   have HCK := hide (checked_any f.m C (r.length * 2) _ _ _ _ f.e f.gv f.L (hstk.top rfl) (fun c hc => by have := hstk.de c hc; have := hstk.bw; omega) (fun c hc => P.Dn.lt hstk.de hstk.bw hc) hdone)
   obtain ⟨HSTK, HLOW⟩ := hd2 hstk hlow
   clear hbd hstk hlow hE HEV HTOP
   generalize wr.drewN nn = wd at *
   cases r with
   | nil =>
    have hfm := HSTK.out.link
    obtain ⟨hfe0, hfm0⟩ := hfm
    obtain ⟨HFE, HFM⟩ := hd2 hfe0 hfm0
    have HFI := hide (HSTK.out.ok f (by simp)).fine
    have HGL : Hid (∀ c, f.gv.ownBlock = some c -> w.heap.size + 3 <= c /\ c < wd.heap.size) := fun c hc => (HSTK.out.ok f (by simp)).row.own.lt c hc
    clear hfe0 hfm0
    simp only [List.length_nil, Nat.zero_add, Nat.zero_mul] at *
    go_wp2_with fail
    refine HCK.out.mono ?_
    rintro o w3 ⟨⟨cs3, rfl, ⟨k, n, s, d1, n1, q1, d2, n2, q2, rfl⟩, hK⟩, hb3⟩
    have hbx : Below w3.heap.size w3 (w3.alloc (.cells #[.int .i64 k, .int .i64 n, .string s, .slice d1 n1 q1, .slice d2 n2 q2] 61)) := (Below.refl _ _).alloc (Nat.le_refl _) _
    have hX := heap_alloc_new w3 (.cells #[.int .i64 k, .int .i64 n, .string s, .slice d1 n1 q1, .slice d2 n2 q2] 61)
    have hbw := HSTK.out.bw
    have hs3 := hb3.size
    have hDlt : ∀ c, ((D0 c \/ c = w.heap.size) \/ P.Dn (w.heap.size + 3) (fun c => D0 c \/ c = w.heap.size) wd (.slice (some ⟨C, 0, none⟩) 1 cap) [f] c \/ f.gv.ownBlock = some c \/ P.New wd w3 c) -> c < w3.heap.size /\ (D0 c \/ (w.heap.size <= c /\ c ≠ w.heap.size + 2)) := fun c hc => by
     rcases hc with h | h | h | h
     ·rcases h with h | h
      ·have := HD0.out c h
       exact ⟨by omega, .inl h⟩
      ·exact ⟨by omega, .inr (by omega)⟩
     ·rcases h with h | h
      ·rcases h with h | h
       ·have := HD0.out c h
        exact ⟨by omega, .inl h⟩
       ·exact ⟨by omega, .inr (by omega)⟩
      ·have h1 := h.1
       have h2 := h.2.1
       exact ⟨by omega, .inr (by omega)⟩
     ·have := HGL.out c h
      exact ⟨by omega, .inr (by omega)⟩
     ·have h1 := h.1
      have h2 := h.2
      exact ⟨by omega, .inr (by omega)⟩
    have HCP := hide (copyD_any f.m _ (w3.alloc (.cells #[.int .i64 k, .int .i64 n, .string s, .slice d1 n1 q1, .slice d2 n2 q2] 61)) _ _ _ _ _ _ (hK.to (fun c hc => hbx.block c (hDlt c hc).1) (fun _ h => h)) (fun c hc => Nat.lt_of_lt_of_le (hDlt c hc).1 hbx.size) HFI.out.2.2.1)
    have HDL := hide hDlt
    have HB3 := hide (hb3.mono HSTK.out.bw)
    have HS3 : Hid ((w3.alloc (.cells #[.int .i64 k, .int .i64 n, .string s, .slice d1 n1 q1, .slice d2 n2 q2] 61)).heap.size = w3.heap.size + 1) := by
     show _ = _
     simp
    have HSW : Hid (w.heap.size + 3 <= w3.heap.size) := by
     show _ <= _
     omega
    have HLX : Hid (Below (w.heap.size + 3) W1 (w3.alloc (.cells #[.int .i64 k, .int .i64 n, .string s, .slice d1 n1 q1, .slice d2 n2 q2] 61))) := (HLOW.out.trans (hb3.mono HSTK.out.bw)).trans (hbx.mono (by omega))
    obtain ⟨x0, x1, x2, x3, x4⟩ := cl5 hX
    clear hK hb3 hbx hX hDlt hbw hs3 HCK
    go_wp2_with fail
    generalize (w3.alloc _) = w4 at *
    refine HCP.out.mono ?_
    rintro o w5 ⟨⟨es, rfl, ⟨k9, n9, s9, x1, y1, z1, x2, y2, z2, rfl⟩, hK5⟩, hb5⟩
    have hlow5 : Below (w.heap.size + 3) W1 w5 := HLX.out.trans (hb5.mono (by have := HS3.out; have := HSW.out; omega))
    have hA5 := (hlow5.block (w.heap.size + 1 + 1) (by omega)).trans HA2.out
    obtain ⟨HA5, HK5⟩ := hd2 hA5 hK5
    have HS5 : Hid (w3.heap.size + 1 <= w5.heap.size) := by
     show _ <= _
     have := hb5.size
     have := HS3.out
     omega
    have HBW5 : Hid (Below w.heap.size w w5) := HB1.out.trans (hlow5.mono (by omega))
    obtain ⟨mm0, mm1, mm2, mm3, mm4⟩ := cl5 hA5
    obtain ⟨f0, f1, f2, f3, f4⟩ := fl5 hA5
    clear hK5 hb5 hlow5 hA5 HCP
    go_wp2_with fail
    have hF5 : Fr w5 (((((w5.setCell ⟨w.heap.size + 1 + 1, 0, none⟩ (.int .i64 k9)).setCell ⟨w.heap.size + 1 + 1, 1, none⟩ (.int .i64 n9)).setCell ⟨w.heap.size + 1 + 1, 2, none⟩ (.string s9)).setCell ⟨w.heap.size + 1 + 1, 3, none⟩ (.slice x1 y1 z1)).setCell ⟨w.heap.size + 1 + 1, 4, none⟩ (.slice x2 y2 z2)) (fun c => c = w.heap.size + 1 + 1) := (((((Fr.refl w5 (fun c => c = w.heap.size + 1 + 1)).set ⟨w.heap.size + 1 + 1, 0, none⟩ _ (fun _ => rfl)).set ⟨w.heap.size + 1 + 1, 1, none⟩ _ (fun _ => rfl)).set ⟨w.heap.size + 1 + 1, 2, none⟩ _ (fun _ => rfl)).set ⟨w.heap.size + 1 + 1, 3, none⟩ _ (fun _ => rfl)).set ⟨w.heap.size + 1 + 1, 4, none⟩ _ (fun _ => rfl)
    have hB5 : (((((w5.setCell ⟨w.heap.size + 1 + 1, 0, none⟩ (.int .i64 k9)).setCell ⟨w.heap.size + 1 + 1, 1, none⟩ (.int .i64 n9)).setCell ⟨w.heap.size + 1 + 1, 2, none⟩ (.string s9)).setCell ⟨w.heap.size + 1 + 1, 3, none⟩ (.slice x1 y1 z1)).setCell ⟨w.heap.size + 1 + 1, 4, none⟩ (.slice x2 y2 z2)).heap[w.heap.size + 1 + 1]? = some (.cells #[.int .i64 k9, .int .i64 n9, .string s9, .slice x1 y1 z1, .slice x2 y2 z2] 61 (0, 0)) := by
     have q0 : (w5.setCell ⟨w.heap.size + 1 + 1, 0, none⟩ (.int .i64 k9)).heap[w.heap.size + 1 + 1]? = _ := block_set (i := 0) HA5.out (.int .i64 k9)
     have q1 := block_set (i := 1) q0 (.int .i64 n9)
     have q2 := block_set (i := 2) q1 (.string s9)
     have q3 := block_set (i := 3) q2 (.slice x1 y1 z1)
     exact block_set (i := 4) q3 (.slice x2 y2 z2)
    generalize (((((w5.setCell _ _).setCell _ _).setCell _ _).setCell _ _).setCell _ _) = wz at *
    obtain ⟨r0, r1, r2, r3, r4⟩ := cl5 hB5
    have hs5 := HS5.out
    have hsw := HSW.out
    refine bodyPost_ret (v := .tuple #[.agg #[.int .i64 k9, .int .i64 n9, .string s9, .slice x1 y1 z1, .slice x2 y2 z2], .nilIface]) (by simp [results, Tryz.results134, go_sem, r0, r1, r2, r3, r4]) rfl ⟨⟨[.int .i64 k9, .int .i64 n9, .string s9, .slice x1 y1 z1, .slice x2 y2 z2], rfl, P.Val5.of ?_⟩, HBW5.out.trans (hF5.below HBW5.out.size (fun c e => by omega))⟩
    have hres := HK5.out
    rw [HFE.out, HFM.out] at hres
    refine hres.to (fun c hc => ?_) (fun c hc => ?_)
    ·rcases hc with h | h
     ·have := HDL.out c h
      exact hF5.block c (by omega) (by
       rcases this.2 with h2 | h2
       ·have := HD0.out c h2
        omega
       ·omega)
     ·have h1 : w4.heap.size <= c := h.1
      have := HS3.out
      exact hF5.block c h.2 (by omega)
    ·rcases hc with h | h
     ·have := HDL.out c h
      have := hF5.size
      rcases (HDL.out c h).2 with h2 | h2
      ·exact .inl h2
      ·exact .inr ⟨h2.1, by omega⟩
     ·have h1 : w4.heap.size <= c := h.1
      have h2 := h.2
      have := HS3.out
      have := hF5.size
      exact .inr ⟨by omega, by omega⟩
   | cons g r =>
    have HGL : Hid (∀ c, f.gv.ownBlock = some c -> w.heap.size + 3 <= c /\ c < wd.heap.size) := fun c hc => (HSTK.out.ok f (by simp)).row.own.lt c hc
    have hgrow0 := (HSTK.out.ok g (by simp)).row
    obtain ⟨ga2, gc2, hgv2⟩ := own_shape hgrow0.own
    have hgx := HSTK.out.link.1
    have hglt : g.L.length < g.e.a.length := (List.getElem?_eq_some_iff.1 hgx).1
    have hg60 := (HSTK.out.ok g (by simp)).fine.2.2.2.1
    have hl60 : g.L.length < 60 := by omega
    have hgm : g.m = f.m + 1 := HSTK.out.link.2.1
    clear hgrow0 hgx hglt hg60
    simp only [List.length_cons] at *
    go_wp2_with fail
    refine HCK.out.mono ?_
    rintro o w3 ⟨⟨cs3, rfl, ⟨k, n, s, d1, n1, q1, d2, n2, q2, rfl⟩, hK⟩, hb3⟩
    have hbx : Below w3.heap.size w3 (w3.alloc (.cells #[.int .i64 k, .int .i64 n, .string s, .slice d1 n1 q1, .slice d2 n2 q2] 61)) := (Below.refl _ _).alloc (Nat.le_refl _) _
    have hX := heap_alloc_new w3 (.cells #[.int .i64 k, .int .i64 n, .string s, .slice d1 n1 q1, .slice d2 n2 q2] 61)
    have hb4 : Below wd.heap.size wd (w3.alloc (.cells #[.int .i64 k, .int .i64 n, .string s, .slice d1 n1 q1, .slice d2 n2 q2] 61)) := hb3.trans (hbx.mono hb3.size)
    have hstk4 := HSTK.out.kept hb4
    have hlow4 : Below (w.heap.size + 3) W1 (w3.alloc (.cells #[.int .i64 k, .int .i64 n, .string s, .slice d1 n1 q1, .slice d2 n2 q2] 61)) := HLOW.out.trans (hb4.mono HSTK.out.bw)
    obtain ⟨C', cap', hcv', hbC', hCs', _, hcl'⟩ := hstk4.blk
    simp only [Value.slice.injEq, Option.some.injEq, Addr.mk.injEq, and_true] at hcv'
    obtain ⟨rfl, _, rfl⟩ := hcv'
    obtain ⟨g', hg', p0, p1⟩ := hcl' r.length (by simp only [List.length_cons]; omega)
    have eg : g' = g := by
     rw [List.reverse_cons, List.reverse_cons, List.append_assoc, List.getElem?_append_right (by simp)] at hg'
     simpa using hg'.symm
    subst eg
    rw [hgv2] at p1
    obtain ⟨HK4, HSTK4, HLOW4⟩ := hd3 hK hstk4 hlow4
    have hfC : ∀ j, (w3.alloc (.cells #[.int .i64 k, .int .i64 n, .string s, .slice d1 n1 q1, .slice d2 n2 q2] 61)).frozen? ⟨C, j, none⟩ = false := fun j => by
     have := hstk4.own.frozenAt j
     exact this
    have hOg : (w3.alloc (.cells #[.int .i64 k, .int .i64 n, .string s, .slice d1 n1 q1, .slice d2 n2 q2] 61)).ownsRow (w.heap.size + 3) 61 5 (.slice ga2 g'.L.length gc2) g'.L.length (g'.L.flatMap (fun x => x.2)) := by
     have := (hstk4.ok g' (by simp)).row.own
     rw [hgv2] at this
     exact this
    obtain ⟨HOG, HB4, HB3⟩ := hd3 hOg hb4 hb3
    have HS4 : Hid ((w3.alloc (.cells #[.int .i64 k, .int .i64 n, .string s, .slice d1 n1 q1, .slice d2 n2 q2] 61)).heap.size = w3.heap.size + 1) := by
     show _ = _
     simp
    have HSD : Hid (w.heap.size + 3 <= wd.heap.size /\ wd.heap.size <= w3.heap.size) := ⟨HSTK.out.bw, hb3.size⟩
    have HBX := hide hbx
    obtain ⟨x0, x1, x2, x3, x4⟩ := cl5 hX
    clear hK hb3 hbx hX hb4 hstk4 hlow4 hcl' hg' p0 hOg HCK
    have hiq : (↑g'.L.length : Int) < ↑g'.L.length + 1 := by omega
    have hCg : ga2 = none \/ ∃ b o, ga2 = some ⟨b, o, none⟩ /\ C ≠ b := by
     rcases HOG.out.2 with ⟨h, _⟩ | ⟨b, _, _, h, _⟩
     ·simp only [Value.slice.injEq] at h
      exact .inl h.1
     ·simp only [Value.slice.injEq] at h
      refine .inr ⟨b, 0, h.1, fun e => ?_⟩
      exact HSTK4.out.chain_off (f := g') (by simp) b (by rw [hgv2, h.1]; rfl) (by rw [e]; rfl)
    have HCG : Hid (∀ c, (Value.slice ga2 g'.L.length gc2).ownBlock = some c -> C ≠ c) := fun c hc => by
     rcases hCg with h | ⟨b, o, h, hne⟩
     ·rw [h] at hc
      cases hc
     ·rw [h] at hc
      have e : b = c := by simpa [Value.ownBlock] using hc
      omega
    clear hCg
    have hba : Below (w3.alloc (.cells #[.int .i64 k, .int .i64 n, .string s, .slice d1 n1 q1, .slice d2 n2 q2] 61)).heap.size (w3.alloc (.cells #[.int .i64 k, .int .i64 n, .string s, .slice d1 n1 q1, .slice d2 n2 q2] 61)) ((w3.alloc (.cells #[.int .i64 k, .int .i64 n, .string s, .slice d1 n1 q1, .slice d2 n2 q2] 61)).alloc (.cells #[.int .i64 0, .int .i64 0, .string ⟨#[]⟩, .slice none 0 0, .slice none 0 0] 61)) := (Below.refl _ _).alloc (Nat.le_refl _) _
    have xa0 := kept_cell hba x0
    have xa1 := kept_cell hba x1
    have xa2 := kept_cell hba x2
    have xa3 := kept_cell hba x3
    have xa4 := kept_cell hba x4
    have pa1 := kept_cell hba p1
    clear hba
    go_wp2_with fail
    generalize (w3.alloc _) = w4 at *
    go_region_law
     (first
      | (refine step_append_lies _ ?_ (.tmp 68) (.tmp 71) 59 ?_ (w.heap.size + 3) 61 i5 (.agg #[.int .i64 0, .int .i64 0, .string ⟨#[]⟩, .slice none 0 0, .slice none 0 0]) 5 80 Tryz.underlying59 hi5 hy0 hy1 hy2 rfl (by decide) (.slice ga2 g'.L.length gc2) g'.L.length (g'.L.flatMap (fun x => x.2)) ?_ ?_ ⟨w4.heap.size, 0, none⟩ 1 1 [.int .i64 0, .int .i64 0, .string ⟨#[]⟩, .slice none 0 0, .slice none 0 0] ?_ rfl ?_ ?_ Nat.one_pos ?_ ?_ ?_ _ rfl ?_; rfl; rfl; rfl; exact (HOG.out.alloc _).drew; rfl; exact news_alloc_drew w4 #[.int .i64 0, .int .i64 0, .string ⟨#[]⟩, .slice none 0 0, .slice none 0 0] 61 _ rfl; simp [Value.oneCell']; (unfold maxLen; omega); omega; (have := HS4.out; have := HSD.out; simp; omega); intro q cap2 w6 hown6 hgrow hat hlt6; obtain ⟨hxl, a0, a1', a2, a3, a4⟩ := P.own_last hown6; have fq := hown6.frozenAt; have hCq : C ≠ q := (by rcases hat with h | h; exact HCG.out q h; (have := HS4.out; rw [h]; simp; omega)); have hbC6 := (P.grown_alloc_drew hgrow).block C (by omega) (fun e => HCG.out C e.symm rfl); have p6 : w6.cell? ⟨C, r.length * 2 + 1, none⟩ = some (.slice ga2 g'.L.length gc2) := cell_block p1 hbC6; have fC6 : w6.frozen? ⟨C, r.length * 2 + 1, none⟩ = false := (by have := hfC (r.length * 2 + 1); unfold World.frozen? at this ⊢; rw [hbC6]; exact this); have p7 : (((((w6.setCell ⟨q, g'.L.length * 5, none⟩ (.int .i64 k)).setCell ⟨q, g'.L.length * 5 + 1, none⟩ (.int .i64 n)).setCell ⟨q, g'.L.length * 5 + 2, none⟩ (.string s)).setCell ⟨q, g'.L.length * 5 + 3, none⟩ (.slice d1 n1 q1)).setCell ⟨q, g'.L.length * 5 + 4, none⟩ (.slice d2 n2 q2)).cell? ⟨C, r.length * 2 + 1, none⟩ = some (.slice ga2 g'.L.length gc2) := cell_block p6 ((P.fr_put w6 q g'.L.length _ _ _ _ _).block C (by have := World.block_lt_of_cell? _ _ p6; exact this) hCq); have fC7 : (((((w6.setCell ⟨q, g'.L.length * 5, none⟩ (.int .i64 k)).setCell ⟨q, g'.L.length * 5 + 1, none⟩ (.int .i64 n)).setCell ⟨q, g'.L.length * 5 + 2, none⟩ (.string s)).setCell ⟨q, g'.L.length * 5 + 3, none⟩ (.slice d1 n1 q1)).setCell ⟨q, g'.L.length * 5 + 4, none⟩ (.slice d2 n2 q2)).frozen? ⟨C, r.length * 2 + 1, none⟩ = false := (by have := (P.fr_put w6 q g'.L.length (.int .i64 k) (.int .i64 n) (.string s) (.slice d1 n1 q1) (.slice d2 n2 q2)).block C (World.block_lt_of_cell? _ _ p6) hCq; unfold World.frozen? at fC6 ⊢; rw [this]; exact fC6)))
    all_goals
     have HEVN := hide (P.Ev.pop HSTK.out HLOW.out HK4.out HB3.out HBX.out hgv2 hown6 (P.grown_alloc_drew hgrow) (by
      rcases hat with h | h
      ·exact .inl h
      ·exact .inr (by rw [h]; simp)))
     have hev2 := HEVN.out
     rw [P.swap5 _ _ _ _ _ _ _ _ _ hCq] at hev2
     have HEVN2 := hide hev2
     clear hev2
     clear hown6 hgrow hat hlt6 hxl a0 a1' a2 a3 a4 fq hbC6 p6 fC6 p7 fC7 hCq xa0 xa1 xa2 xa3 xa4 pa1 x0 x1 x2 x3 x4 p1 hfC HSTK HSTK4 HLOW4 HK4 HOG HB4 HB3 HBX HS4 HSD HCG
     have HMU : Hid (P.mu (({ g' with gv := .slice (some ⟨q, 0, none⟩) (g'.L.length + 1) cap2, L := g'.L ++ [(X.val (f.m + 1) f.e, [.int .i64 k, .int .i64 n, .string s, .slice d1 n1 q1, .slice d2 n2 q2])] } : P.Fm) :: r) < P.mu (f :: g' :: r)) := P.mu_pop rfl rfl (by show (g'.L ++ _).length = _; rw [List.length_append]; rfl)
     generalize (({ g' with gv := .slice (some ⟨q, 0, none⟩) (g'.L.length + 1) cap2, L := g'.L ++ [(X.val (f.m + 1) f.e, [.int .i64 k, .int .i64 n, .string s, .slice d1 n1 q1, .slice d2 n2 q2])] } : P.Fm) :: r) = G2 at *
     go_wp2_with fail
     go_roundg (P.mu G2)
     case measure =>
      rw [hgk]
      exact HMU.out
     case rel => first | with_reducible exact ⟨G2, HEVN.out, rfl⟩ | with_reducible exact ⟨G2, HEVN2.out, rfl⟩
  ·have hlt : f.L.length < f.e.a.length := by omega
   obtain ⟨ab, ao, ca', x, cs', h8, hx, hDab, hl10, hcx, hMx, hplx⟩ := P.child hMf hlt
   simp only [List.getElem?_cons_succ, List.getElem?_cons_zero, Option.some.injEq, Value.slice.injEq] at h8
   obtain ⟨rfl, _, rfl⟩ := h8
   have HNX := hide (next_more C (r.length * 2) pb po f.e.kind ga f.L.length gc f.e.a.length ab ao ca wr z0 z1 yk ya hk7 hlt)
   have haway := hev.stk.away hx (ao := ao + f.L.length * 10) (fun j hj => hcx j hj) hl10 hMx
   obtain ⟨m', hm'⟩ : ∃ m', f.m = m' + 1 := by
    cases hfm : f.m with
    | zero =>
     have := hfi.2.2.2.2 x (List.mem_of_getElem? hx)
     rw [hfm] at this
     exact this.elim
    | succ m' => exact ⟨m', rfl⟩
   rw [hm'] at hMx
   obtain ⟨ps, hps⟩ : ∃ ps : Nat -> Nat × Nat, ∀ i, i < r.length + 1 -> ∃ g, (f :: r).reverse[i]? = some g /\ ps i = (g.pb, g.po) /\ wr.cell? ⟨C, i * 2, none⟩ = some (.pointer (some ⟨g.pb, g.po, none⟩)) := by
    refine ⟨fun i => match (f :: r).reverse[i]? with | some g => (g.pb, g.po) | none => (0, 0), fun i hi => ?_⟩
    obtain ⟨g, hg, h1, _⟩ := hcl i hi
    exact ⟨g, hg, by show (match (f :: r).reverse[i]? with | some g => (g.pb, g.po) | none => (0, 0)) = _; rw [hg], h1⟩
   have HEL := hide (fun nn => endless_any C (r.length + 1) cap ab (ao + f.L.length * 10) ps (wr.drewN nn) (fun i hi => by
     obtain ⟨g, _, h2, h3⟩ := hps i hi
     rw [h2]
     exact h3) (fun i hi => by
     obtain ⟨g, hg, h2, _⟩ := hps i hi
     rw [h2]
     exact haway g (List.mem_reverse.1 (List.mem_of_getElem? hg))) (fun i hi => by
     obtain ⟨g, hg, h2, _⟩ := hps i hi
     rw [h2]
     exact (hev.stk.ok g (List.mem_reverse.1 (List.mem_of_getElem? hg))).plain) hplx (by omega) hlen6)
   obtain ⟨HX, HMX, HDAB, HPLX, HCX⟩ := hd5 hx hMx hDab hplx hcx
   have HOWN : Hid (wr.ownsRow (w.heap.size + 3) 194 2 (.slice (some ⟨C, 0, none⟩) (r.length + 1) cap) (r.length + 1) ((f :: r).reverse.flatMap P.Fm.cells)) := hev.stk.own
   have HSZR : Hid (w.heap.size + 3 <= wr.heap.size) := hev.stk.bw
   clear hev htop hfok hce hMf hKV hrow hvals hfew hfi ya yk z0 z1 hx hDab hl10 hcx hMx hplx haway hps hcl hCur
   go_wp2_with fail
   refine HNX.out.mono ?_
   rintro o w2 ⟨rfl, nn, hw2⟩
   rw [hw2]
   clear hw2 HNX
   go_wp2_with fail
   refine (HEL.out nn).mono ?_
   rintro o w3 ⟨rfl, hw3⟩
   rw [hw3]
   clear hw3 HEL
   go_wp2_with (at_builtin; go_must (refine wpList_append_lies _ rfl (.tmp 35) (.tmp 38) 195 rfl (w.heap.size + 3) 194 i0 (.agg #[.pointer none, .slice none 0 0]) 2 32 Tryz.underlying195 hi0 hz0 hz1 hz2 rfl (by decide) (.slice (some ⟨C, 0, none⟩) (r.length + 1) cap) (r.length + 1) ((f :: r).reverse.flatMap P.Fm.cells) rfl (World.ownsRow.alloc (show (wr.drewN nn).ownsRow _ _ _ _ _ _ from HOWN.out) _) ⟨(wr.drewN nn).heap.size, 0, none⟩ 1 1 [.pointer (some ⟨ab, ao + f.L.length * 10, none⟩), .slice none 0 0] rfl rfl (news_alloc _ _ _ _ rfl) (by simp [Value.oneCell']) Nat.one_pos (by unfold maxLen; omega) (by omega) (by have := HSZR.out; simp; omega) _ rfl ?_); intro q cap2 w6 hown6 hgrow hat hlt6)
   have hbd : Below wr.heap.size wr (wr.drewN nn) := below_drewN (Below.refl _ _) nn
   have hstk := HEV.out.stk.kept hbd
   have hgr := P.grown_alloc hgrow
   have hps2 := P.Stk.push hstk (c := ⟨ab, ao + f.L.length * 10, m', x, .slice none 0 0, []⟩) rfl rfl HPLX.out HDAB.out ⟨cs', HCX.out, HMX.out⟩ HX.out hm' (g := q) (cap := cap2) hown6 hgr (by
    rcases hat with h | h
    ·exact .inl h
    ·exact .inr (by rw [h]; simp))
   have HEVN : Hid (P.Ev w W1 e D0 w6 (.slice (some ⟨q, 0, none⟩) (r.length + 2) cap2) (⟨ab, ao + f.L.length * 10, m', x, .slice none 0 0, []⟩ :: f :: r)) := by
    refine ⟨hps2, (HEV.out.low.trans (hbd.mono HEV.out.stk.bw)).trans ⟨hgr.os, hgr.tape, hgr.output, hgr.size, fun c hc => hgr.block c (by have := hstk.bw; omega) (fun e => ?_)⟩⟩
    have := (hstk.own.lt c e.symm).1
    omega
   have HMU : Hid (P.mu (⟨ab, ao + f.L.length * 10, m', x, .slice none 0 0, []⟩ :: f :: r) < P.mu (f :: r)) := P.mu_push HX.out hm' rfl
   clear hbd hstk hgr hps2 hown6 hgrow hat hlt6
   go_wp2_with fail
   go_roundg (P.mu (⟨ab, ao + f.L.length * 10, m', x, .slice none 0 0, []⟩ :: f :: r))
   case measure =>
    rw [hgk]
    exact HMU.out
   case rel => exact ⟨_, HEVN.out, rfl⟩
end Go.Proofs.YtcekcfjabhlheaaGreatDoor.Vx
