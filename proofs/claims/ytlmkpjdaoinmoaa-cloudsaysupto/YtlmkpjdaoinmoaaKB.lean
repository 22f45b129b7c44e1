/- For CloudSays: the reference's Lose. -/
import Derived.Test.YtlmkpjdaoinmoaaKA
namespace Go.Proofs.Ytlmkpjdaoinmoaa
open Go.RowKit
attribute [local go_sem ↓] Go.wp_at_zero Go.wp_at_succ
theorem K0.owns_base {w : World} {base base2 n z : Nat} {t : TypeId} {v : Value} {xs : List Value} (h : w.ownsRow base t z v n xs) (hb : base2 ≤ base) : w.ownsRow base2 t z v n xs := by
  refine ⟨h.1, ?_⟩
  rcases h.2 with h1 | ⟨g, cap, cur, rfl, hg, r⟩
  · exact .inl h1
  · exact .inr ⟨g, cap, cur, rfl, Nat.le_trans hb hg, r⟩
/-- Those of other numbers. -/
def lessT (L : List Tv) (id : Int) : List Tv := L.filter (fun x => decide (x.1.id ≠ id))
theorem lessT_take (L : List Tv) (id : Int) (k : Nat) (x : Tv) (h : L[k]? = some x) : lessT (L.take (k + 1)) id = lessT (L.take k) id ++ (if x.1.id ≠ id then [x] else []) := by
  unfold lessT
  rw [List.take_add_one, h, List.filter_append]
  by_cases hx : x.1.id = id
  · simp [hx]
  · simp [hx]
theorem lessT_len (L : List Tv) (id : Int) (k : Nat) : (lessT (L.take k) id).length ≤ k := by
  unfold lessT
  have := List.length_filter_le (fun x : Tv => decide (x.1.id ≠ id)) (L.take k)
  have h2 : (L.take k).length ≤ k := List.length_take_le _ _
  omega
/-- Blocks that were there, and new ones. -/
def Newer (w w' : World) (P P2 : Nat → Prop) : Prop := (∀ c, P c → P2 c) ∧ ∀ c, P2 c → P c ∨ (w.heap.size ≤ c ∧ c < w'.heap.size)
set_option maxRecDepth 100000 in
set_option maxHeartbeats 1600000 in
theorem refLose_any (w : World) (P : Nat → Prop) (rd rc : Nat) (tv kv fv : Value) (S : Rm) (id : Int) (h : Rc w P rd rc tv kv fv S) (hn : S.things.length ≤ 900) :
    Calls Try.prog 20 #[.pointer (some ⟨rc, 0, none⟩), .int .i64 id] w fun o w' => o = .returned (.tuple #[]) ∧ ∃ P2 tv2, Newer w w' P P2 ∧ Rc w' P2 rd rc tv2 kv fv { S with things := lessT S.things id } ∧ Fr w w' (fun c => c = rc) := by
  have HH := hide h
  have HT := hide h.t
  have y1 := cell_of_block h.c 1 _ rfl
  obtain ⟨ta, tc, rfl⟩ := owns_shape h.t
  obtain ⟨G, hG⟩ : ∃ G, G = S.things := ⟨_, rfl⟩
  rw [← hG] at HT hn y1 HH ⊢
  have HC := hide h.c
  have hcl := (Array.getElem?_eq_some_iff.1 h.c).1
  clear h hG
  go_enter Try.func20, Try.ntmps20
  go_wp2_with fail
  go_loopw [4, 5] (fun vl vi wr => ∃ k : Nat, k ≤ G.length ∧ vi = .int .i64 k ∧ wr.ownsRow w.heap.size 51 7 vl (lessT (G.take k) id).length ((lessT (G.take k) id).flatMap (fun x => c7 x.1)) ∧ Fr w wr (fun _ => False)) (fun _ vi _ => G.length - (intOf vi).toNat)
  case atStart => exact ⟨0, Nat.zero_le _, rfl, World.ownsRow_nil .., Fr.refl _ _⟩
  case round =>
    obtain ⟨wx, hwx⟩ : ∃ z, z = wr := ⟨_, rfl⟩
    subst hwx
    obtain ⟨k, hk, rfl, hox, hfx⟩ := hrel
    obtain ⟨va, vc, rfl⟩ := owns_shape hox
    have y1 := cell_frx hfx (fun e => e) y1
    have hLk := lessT_len G id k
    obtain ⟨L0, hL0⟩ : ∃ L0, L0 = lessT (G.take k) id := ⟨_, rfl⟩
    rw [← hL0] at hox hLk ⊢
    have HL0 := hide hL0
    clear hL0
    by_cases hlt : k < G.length
    · obtain ⟨x, hx⟩ : ∃ x, G[k]? = some x := ⟨_, List.getElem?_eq_getElem hlt⟩
      obtain ⟨b, cap, e1, hc, _⟩ := own_at (owns_fr HT.out hfx (fun _ _ e => e)) k x hx
      simp only [Value.slice.injEq] at e1
      obtain ⟨rfl, _, rfl⟩ := e1
      have z0 := hc 0 (by omega)
      have z1 := hc 1 (by omega)
      have z2 := hc 2 (by omega)
      have z3 := hc 3 (by omega)
      have z4 := hc 4 (by omega)
      have z5 := hc 5 (by omega)
      have z6 := hc 6 (by omega)
      rw [Nat.add_zero, show (c7 x.1)[0]? = some (.int .i64 x.1.id) from rfl] at z0
      rw [show (c7 x.1)[1]? = some (.string x.1.kind) from rfl] at z1
      rw [show (c7 x.1)[2]? = some (.int .i64 x.1.k) from rfl] at z2
      rw [show (c7 x.1)[3]? = some (.int .i64 x.1.n) from rfl] at z3
      rw [show (c7 x.1)[4]? = some (.string x.1.s) from rfl] at z4
      rw [show (c7 x.1)[5]? = some (.slice x.1.la x.1.ln x.1.lc) from rfl] at z5
      rw [show (c7 x.1)[6]? = some (.slice x.1.fa x.1.fn x.1.fc) from rfl] at z6
      have hstep := lessT_take G id k x hx
      rw [← HL0.out] at hstep
      have HOX := hide hox
      have HFX := hide hfx
      clear hc hx hox hfx
      by_cases hid : x.1.id = id
      · rw [if_neg (by simp [hid]), List.append_nil] at hstep
        have HST := hide hstep
        clear hstep
        go_wp2_with fail
        go_roundw
        case rel => exact ⟨k + 1, by omega, by go_num, by rw [HST.out]; exact HOX.out, HFX.out⟩
        case measure => simp [intOf]; omega
      · rw [if_pos hid] at hstep
        have HST := hide hstep
        clear hstep
        obtain ⟨i0, hi0, hz0, hz1, hz3⟩ := info_parts info51
        have hnw : ∀ j u, (c7 x.1)[j]? = some u → (wx.alloc (.cells #[.int .i64 x.1.id, .string x.1.kind, .int .i64 x.1.k, .int .i64 x.1.n, .string x.1.s, .slice x.1.la x.1.ln x.1.lc, .slice x.1.fa x.1.fn x.1.fc] 51)).cell? ((⟨wx.heap.size, 0, none⟩ : Addr).add j) = some u := news_alloc wx #[.int .i64 x.1.id, .string x.1.kind, .int .i64 x.1.k, .int .i64 x.1.n, .string x.1.s, .slice x.1.la x.1.ln x.1.lc, .slice x.1.fa x.1.fn x.1.fc] 51 _ rfl
        have hszx := HFX.out.size
        go_wp2_with (at_builtin; go_must (refine wpList_append_lies _ rfl (.tmp 25) (.tmp 33) 60 rfl w.heap.size 51 i0 (.agg #[.int .i64 0, .string ⟨#[]⟩, .int .i64 0, .int .i64 0, .string ⟨#[]⟩, .slice none 0 0, .slice none 0 0]) 7 104 u60 hi0 hz0 hz1 hz3 rfl (by decide) (.slice va L0.length vc) L0.length (L0.flatMap (fun x => c7 x.1)) rfl (HOX.out.alloc _) ⟨wx.heap.size, 0, none⟩ 1 1 (c7 x.1) rfl rfl hnw (by simp [c7, Tg.cells, Value.oneCell']) (by decide) (by unfold maxLen; omega) (by omega) (by simp; omega) _ rfl ?_); intro gA capA wA hownA hgrow hat hltA)
        have hf3 : Fr w wA (fun _ => False) := (HFX.out.alloc _).grown hgrow (fun y hy hc => by have := (HOX.out.lt y hy).1; omega)
        have hoA : wA.ownsRow w.heap.size 51 7 (.slice (some ⟨gA, 0, none⟩) (L0.length + 1) capA) (L0 ++ [x]).length ((L0 ++ [x]).flatMap (fun x => c7 x.1)) := by
          rw [List.flatMap_append, List.length_append]
          simpa using hownA
        have HF3 := hide hf3
        have HOA := hide hoA
        clear hf3 hoA hownA hgrow hat hltA hnw
        go_wp2_with fail
        go_roundw
        case rel => exact ⟨k + 1, by omega, by go_num, by rw [HST.out]; exact HOA.out, HF3.out⟩
        case measure => simp [intOf]; omega
    · have hkk : G.take k = G := List.take_of_length_le (by omega)
      have r1 := free_of_block ((hfx.block rc hcl (fun e => e)).trans HC.out) 1
      have HOX := hide hox
      have HFX := hide hfx
      clear hox hfx
      obtain ⟨w5, hw5⟩ : ∃ w5, w5 = wx.setCell ⟨rc, 1, none⟩ (.slice va L0.length vc) := ⟨_, rfl⟩
      go_wp2_with fail
      go_end0
      rw [← hw5]
      have hf5 : Fr wx w5 (fun c => c = rc) := by rw [hw5]; exact (Fr.refl wx (fun c => c = rc)).set _ _ (fun _ => rfl)
      have hc5 : w5.heap[rc]? = some (rcblk rd (.slice va L0.length vc) kv S.next S.quota S.calls fv) := by
        have h1 := (HFX.out.block rc hcl (fun e => e)).trans HC.out
        rw [hw5]
        unfold rcblk at h1 ⊢
        simp [World.setCell, Array.getElem?_modify, h1]
      have hf05 : Fr w w5 (fun c => c = rc) := (HFX.out.weak (fun _ _ e => e.elim)).trans hf5 (fun _ _ e => e)
      have hL : lessT G id = L0 := by rw [HL0.out, hkk]
      have h := HH.out
      have hne : rd ≠ rc := fun e => by
        have h1 := h.d
        rw [e, h.c] at h1
        cases h1
      have hcx : wx.heap[rc]? = some (rcblk rd (.slice ta S.things.length tc) kv S.next S.quota S.calls fv) := (HFX.out.block rc hcl (fun e => e)).trans HC.out
      refine ⟨rfl, fun c => P c ∨ (w.heap.size ≤ c ∧ c < w5.heap.size), .slice va L0.length vc, ⟨fun c hc => .inl hc, fun c hc => hc⟩, ?_, hf05⟩
      rw [hL]
      exact ⟨(hf05.block rd (Array.getElem?_eq_some_iff.1 h.d).1 hne).trans h.d, hc5, owns_fr (K0.owns_base HOX.out (Nat.zero_le _)) hf5 (fun c hc e => owns_type HOX.out hcx (by decide) (by rw [hc, e])), owns_fr h.k hf05 (fun c hc e => owns_type h.k h.c (by decide) (by rw [hc, e])), owns_fr h.f hf05 (fun c hc e => owns_type h.f h.c (by decide) (by rw [hc, e])), .inl h.pd, .inl h.pc, fun c hc => .inr ⟨(HOX.out.lt c hc).1, Nat.lt_of_lt_of_le (HOX.out.lt c hc).2 hf5.size⟩, fun c hc => .inl (h.pk c hc), fun c hc => .inl (h.pf c hc)⟩
end Go.Proofs.Ytlmkpjdaoinmoaa
