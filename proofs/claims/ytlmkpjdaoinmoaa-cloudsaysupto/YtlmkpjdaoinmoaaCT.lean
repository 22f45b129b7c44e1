/- For TopToken: the cloud of the law; Create, Update, Delete, each once and once more. -/
import Derived.Test.YtlmkpjdaoinmoaaCR
namespace Go.Proofs.Ytlmkpjdaoinmoaa
open Go.RowKit
open Go.MapKept (bytes_beq)
/-- What becomes of things by a number. -/
theorem Tv.split (id : Int) : ∀ Q : List Tv,
    (T.get (Q.map Tv.ent) id = none ∧ (∀ x ∈ Q, x.1.id ≠ id) ∧ ∀ (t : Tg) (v : Val), t.id = id → T.put (Q.map Tv.ent) id t.val = (Q ++ [(t, v)]).map Tv.ent) ∨
    ∃ Q1 x Q2, Q = Q1 ++ x :: Q2 ∧ x.1.id = id ∧ T.get (Q.map Tv.ent) id = some x.1.val ∧ (∀ (t : Tg) (v : Val), t.id = id → T.put (Q.map Tv.ent) id t.val = (Q1 ++ (t, v) :: Q2).map Tv.ent) ∧ T.del (Q.map Tv.ent) id = (Q1 ++ Q2).map Tv.ent
  | [] => .inl ⟨rfl, fun x hx => (List.not_mem_nil hx).elim, fun t v e => by
      show [(id, t.val)] = [(t.id, t.val)]
      rw [e]⟩
  | x :: Q => by
    by_cases hx : id = x.1.id
    · refine .inr ⟨[], x, Q, rfl, hx.symm, ?_, fun t v e => ?_, ?_⟩
      · rw [List.map_cons, T.get_cons]
        simp [Tv.ent, hx]
      · rw [List.map_cons, T.put_cons]
        simp [Tv.ent, hx, e]
      · rw [List.map_cons, T.del_cons]
        simp [Tv.ent, hx]
    · have hb : (id == (Tv.ent x).1) = false := beq_eq_false_iff_ne.2 hx
      rcases Tv.split id Q with ⟨h1, h2, h3⟩ | ⟨Q1, y, Q2, rfl, h2, h3, h4, h5⟩
      · refine .inl ⟨?_, fun z hz => ?_, fun t v e => ?_⟩
        · rw [List.map_cons, T.get_cons, hb]
          exact h1
        · rcases List.mem_cons.1 hz with rfl | hz
          · exact fun e => hx e.symm
          · exact h2 z hz
        · rw [List.map_cons, T.put_cons, hb, h3 t v e]
          rfl
      · refine .inr ⟨x :: Q1, y, Q2, rfl, h2, ?_, fun t v e => ?_, ?_⟩
        · rw [List.map_cons, T.get_cons, hb]
          exact h3
        · rw [List.map_cons, T.put_cons, hb, h4 t v e]
          rfl
        · rw [List.map_cons, T.del_cons, hb, h5]
          rfl
/-- The cloud of the law: so many calls were made at most. -/
structure Sta (m : Nat) (w : World) (B : Nat → Prop) (g gc bt bd bf : Nat) (Q : List Tv) (Di : List (ByteArray × Value)) (given : Int) (n : Nat) : Prop where
  cl : ∃ D calls, Cl w B g gc bt bd bf D 20 given calls (Q.map Tv.ent) Di [] ∧ D.left = -1 ∧ D.down = false ∧ (0 ≤ D.steps ∧ D.steps ≤ n) ∧ (0 ≤ calls ∧ calls ≤ n)
  hB : ∀ x, B x → x < w.heap.size
  ok : ∀ x ∈ Q, Tv.Ok (Cl.own B gc bt bd bf) m w x
  nd : (Q.map (fun x => x.1.id)).Nodup
  ids : ∀ x ∈ Q, x.1.id ≤ given
  gv : 0 ≤ given ∧ given ≤ n
  ln : Q.length ≤ n
  de : Deeds Di
section
variable {m : Nat} {w w' : World} {B : Nat → Prop} {g gc bt bd bf : Nat} {Q Q1 : List Tv} {Di Di1 : List (ByteArray × Value)} {given given1 : Int} {n n1 : Nat}
theorem Sta.fr (h : Sta m w B g gc bt bd bf Q Di given n) (hf : Fr w w' (fun _ => False)) : Sta m w' B g gc bt bd bf Q Di given n := by
  obtain ⟨D, calls, hc, hr⟩ := h.cl
  exact ⟨⟨D, calls, hc.fr hf, hr⟩, fun x hx => Nat.lt_of_lt_of_le (h.hB x hx) hf.size, fun x hx => (h.ok x hx).fr (hf.weak (fun _ _ e => e.elim)), h.nd, h.ids, h.gv, h.ln, h.de⟩
theorem Sta.more (h : Sta m w B g gc bt bd bf Q Di given n) (hn : n ≤ n1) : Sta m w B g gc bt bd bf Q Di given n1 := by
  obtain ⟨D, calls, hc, h1, h2, h3, h4⟩ := h.cl
  exact ⟨⟨D, calls, hc, h1, h2, by omega, by omega⟩, h.hB, h.ok, h.nd, h.ids, by have := h.gv; omega, by have := h.ln; omega, h.de⟩
theorem Sta.own_lt (h : Sta m w B g gc bt bd bf Q Di given n) (c : Nat) (hc : Cl.own B gc bt bd bf c) : c < w.heap.size := by
  obtain ⟨D, calls, hcl, _⟩ := h.cl
  rcases hc with hc | rfl | rfl | rfl | rfl
  · exact h.hB c hc
  · exact (Array.getElem?_eq_some_iff.1 hcl.blk).1
  · exact hcl.th.lt
  · exact hcl.di.lt
  · exact hcl.fa.lt
/-- A call that was counted, and left all as it was. -/
theorem Sta.counted (h : Sta m w B g gc bt bd bf Q Di given n) {D : Dk} {calls : Int} (hc : Cl w' B g gc bt bd bf D.step 20 given (calls + 1) (Q.map Tv.ent) Di []) (h1 : D.left = -1) (h2 : D.down = false) (h3 : 0 ≤ D.steps ∧ D.steps ≤ n) (h4 : 0 ≤ calls ∧ calls ≤ n) (hf : Fr w w' (Cl.own B gc bt bd bf)) : Sta m w' B g gc bt bd bf Q Di given (n + 1) :=
  ⟨⟨_, _, hc, by unfold Dk.step; simp [h1], h2, by unfold Dk.step; simp only; omega, by omega⟩, fun x hx => Nat.lt_of_lt_of_le (h.hB x hx) hf.size, fun x hx => (h.ok x hx).fr hf, h.nd, h.ids, by have := h.gv; omega, by have := h.ln; omega, h.de⟩
end
theorem nofail {D : Dk} (h1 : D.left = -1) (h2 : D.down = false) : ¬ D.fails := by
  unfold Dk.fails
  rw [h1, h2]
  simp
theorem deeds_put {Di : List (ByteArray × Value)} (h : Deeds Di) (tok : ByteArray) (p : Int × Int) : Deeds (S.put Di tok (dval p)) := by
  intro t v hv
  rw [S.get_put] at hv
  split at hv
  · exact ⟨p, by simpa using hv.symm⟩
  · exact h t v hv
/-- Create by these arguments, in whatever world that is so, answers that, and leaves all as it is. -/
def Nx12 (m : Nat) (B : Nat → Prop) (g gc bt bd bf : Nat) (Q : List Tv) (Di : List (ByteArray × Value)) (given : Int) (n : Nat) (tok kind : ByteArray) (v : Val) (c0 c1 c2 c3 c4 : Value) (r : Int) (e : Nat) : Prop :=
  ∀ W : World, Sta m W B g gc bt bd bf Q Di given n → V.MemX (Cl.own B gc bt bd bf) (m + 1) W v [c0, c1, c2, c3, c4] →
    Calls Try.prog 12 #[.pointer (some ⟨gc, 0, none⟩), .string tok, .string kind, .agg #[c0, c1, c2, c3, c4]] W fun o w' => o = .returned (.tuple #[.int .i64 r, V.errOf e]) ∧ Sta m w' B g gc bt bd bf Q Di given (n + 1) ∧ Fr W w' (Cl.own B gc bt bd bf)
section
variable (m : Nat) (B : Nat → Prop) (g gc bt bd bf : Nat) (Q : List Tv) (Di : List (ByteArray × Value)) (given : Int) (n : Nat) (tok kind : ByteArray) (v : Val) (c0 c1 c2 c3 c4 : Value) (hn : n ≤ 1000) (hbk : V.bulk (m + 1) v ≤ 2000000) (hk : kind.size ≤ maxLen)
theorem nx12_bad1 (hbk : V.bulk (m + 1) v ≤ 2000000) (hA : attrE (m + 1) v ≠ 0) : Nx12 m B g gc bt bd bf Q Di given n tok kind v c0 c1 c2 c3 c4 0 (attrE (m + 1) v) := by
  intro W hS hM
  obtain ⟨D, calls, hc, h1, h2, h3, h4⟩ := hS.cl
  refine (createBad1 W B g gc bt bd bf D 20 given calls _ Di [] tok kind m v c0 c1 c2 c3 c4 hc hM hbk hA).mono ?_
  rintro o w' ⟨rfl, _, hf⟩
  exact ⟨rfl, (hS.fr hf).more (by omega), hf.weak (fun _ _ e => e.elim)⟩
theorem nx12_bad2 (hbk : V.bulk (m + 1) v ≤ 2000000) (hk : kind.size ≤ maxLen) (hA : attrE (m + 1) v = 0) (hN : V.name (V.bl kind) = false) : Nx12 m B g gc bt bd bf Q Di given n tok kind v c0 c1 c2 c3 c4 0 3 := by
  intro W hS hM
  obtain ⟨D, calls, hc, h1, h2, h3, h4⟩ := hS.cl
  refine (createBad2 W B g gc bt bd bf D 20 given calls _ Di [] tok kind m v c0 c1 c2 c3 c4 hc hM hbk hk hA hN).mono ?_
  rintro o w' ⟨rfl, _, hf⟩
  exact ⟨rfl, (hS.fr hf).more (by omega), hf.weak (fun _ _ e => e.elim)⟩
theorem nx12_old (hn : n ≤ 1000) (hbk : V.bulk (m + 1) v ≤ 2000000) (hk : kind.size ≤ maxLen) (hA : attrE (m + 1) v = 0) (hN : V.name (V.bl kind) = true) (p : Int × Int) (hp : S.get Di tok = some (dval p)) : Nx12 m B g gc bt bd bf Q Di given n tok kind v c0 c1 c2 c3 c4 (if p.1 = 1 then p.2 else 0) (if p.1 = 1 then 0 else 15) := by
  intro W hS hM
  obtain ⟨D, calls, hc, h1, h2, h3, h4⟩ := hS.cl
  refine (createOld W B g gc bt bd bf D 20 given calls _ Di [] tok kind m v c0 c1 c2 c3 c4 hc hM hbk hk hA hN (by omega) (by omega) (nofail h1 h2) (by omega) rfl p hp).mono ?_
  rintro o w' ⟨rfl, hcl, hf⟩
  have hf2 : Fr W w' (Cl.own B gc bt bd bf) := hf.weak (fun _ _ e => e.elim (fun e => .inl (e ▸ hc.disk.has_g)) (fun e => .inr (.inl e)))
  exact ⟨rfl, hS.counted hcl h1 h2 h3 h4 hf2, hf2⟩
theorem nx12_full (hn : n ≤ 1000) (hbk : V.bulk (m + 1) v ≤ 2000000) (hk : kind.size ≤ maxLen) (hA : attrE (m + 1) v = 0) (hN : V.name (V.bl kind) = true) (hp : S.get Di tok = none) (hfu : 20 ≤ Q.length) : Nx12 m B g gc bt bd bf Q Di given n tok kind v c0 c1 c2 c3 c4 0 13 := by
  intro W hS hM
  obtain ⟨D, calls, hc, h1, h2, h3, h4⟩ := hS.cl
  refine (createFull W B g gc bt bd bf D 20 given calls _ Di [] tok kind m v c0 c1 c2 c3 c4 hc hM hbk hk hA hN (by omega) (by omega) (nofail h1 h2) (by omega) rfl hp (by rw [List.length_map]; omega) hS.hB).mono ?_
  rintro o w' ⟨rfl, hcl, hf⟩
  have hf2 : Fr W w' (Cl.own B gc bt bd bf) := hf.weak (fun _ _ e => e.elim (fun e => .inl (e ▸ hc.disk.has_g)) (fun e => .inr (e.imp (fun e => e) (fun e => e.imp (fun e => e) .inl))))
  exact ⟨rfl, hS.counted hcl h1 h2 h3 h4 hf2, hf2⟩
/-- Create: what it answers, and that it answers the same once more. -/
theorem create_first (hn : n ≤ 999) (hbk : V.bulk (m + 1) v ≤ 2000000) (hk : kind.size ≤ maxLen) (w : World) (hS : Sta m w B g gc bt bd bf Q Di given n) (hM : V.MemX (Cl.own B gc bt bd bf) (m + 1) w v [c0, c1, c2, c3, c4]) :
    Calls Try.prog 12 #[.pointer (some ⟨gc, 0, none⟩), .string tok, .string kind, .agg #[c0, c1, c2, c3, c4]] w fun o w' => ∃ (r : Int) (e : Nat) (Q1 : List Tv) (Di1 : List (ByteArray × Value)) (given1 : Int), o = .returned (.tuple #[.int .i64 r, V.errOf e]) ∧ Sta m w' B g gc bt bd bf Q1 Di1 given1 (n + 1) ∧ Fr w w' (Cl.own B gc bt bd bf) ∧
      ((Q1.length = Q.length ∧ given1 = given) ∨ (e = 0 ∧ Q1.length = Q.length + 1 ∧ r = given + 1 ∧ given1 = r)) ∧ Nx12 m B g gc bt bd bf Q1 Di1 given1 (n + 1) tok kind v c0 c1 c2 c3 c4 r e := by
  by_cases hA : attrE (m + 1) v = 0
  · cases hN : V.name (V.bl kind) with
    | false =>
      refine (nx12_bad2 m B g gc bt bd bf Q Di given n tok kind v c0 c1 c2 c3 c4 hbk hk hA hN w hS hM).mono ?_
      rintro o w' ⟨rfl, h1, h2⟩
      exact ⟨_, _, Q, Di, given, rfl, h1, h2, .inl ⟨rfl, rfl⟩, nx12_bad2 m B g gc bt bd bf Q Di given (n + 1) tok kind v c0 c1 c2 c3 c4 hbk hk hA hN⟩
    | true =>
      cases hp : S.get Di tok with
      | some x =>
        obtain ⟨p, rfl⟩ := hS.de tok x hp
        refine (nx12_old m B g gc bt bd bf Q Di given n tok kind v c0 c1 c2 c3 c4 (by omega) hbk hk hA hN p hp w hS hM).mono ?_
        rintro o w' ⟨rfl, h1, h2⟩
        exact ⟨_, _, Q, Di, given, rfl, h1, h2, .inl ⟨rfl, rfl⟩, nx12_old m B g gc bt bd bf Q Di given (n + 1) tok kind v c0 c1 c2 c3 c4 (by omega) hbk hk hA hN p hp⟩
      | none =>
        by_cases hfu : 20 ≤ Q.length
        · refine (nx12_full m B g gc bt bd bf Q Di given n tok kind v c0 c1 c2 c3 c4 (by omega) hbk hk hA hN hp hfu w hS hM).mono ?_
          rintro o w' ⟨rfl, h1, h2⟩
          exact ⟨_, _, Q, Di, given, rfl, h1, h2, .inl ⟨rfl, rfl⟩, nx12_full m B g gc bt bd bf Q Di given (n + 1) tok kind v c0 c1 c2 c3 c4 (by omega) hbk hk hA hN hp hfu⟩
        · obtain ⟨D, calls, hc, h1, h2, h3, h4⟩ := hS.cl
          have hg := hS.gv
          refine (createNew w B g gc bt bd bf D 20 given calls _ Di [] tok kind m v c0 c1 c2 c3 c4 hc hM hbk hk hA hN (by omega) (by omega) (nofail h1 h2) (by omega) rfl hp (by rw [List.length_map]; omega) (by omega) hS.hB).mono ?_
          rintro o w' ⟨rfl, Th1, ⟨t, t1, t2, t3, rfl⟩, hcl, hf⟩
          have hf2 : Fr w w' (Cl.own B gc bt bd bf) := hf.weak (fun _ _ e => e.elim (fun e => .inl (e ▸ hc.disk.has_g)) (fun e => .inr (e.imp (fun e => e) (fun e => e.imp (fun e => e) .inl))))
          rcases Tv.split (given + 1) Q with ⟨_, hne, hput⟩ | ⟨Q1, x, Q2, rfl, hx, _⟩
          · rw [hput t v t1] at hcl
            refine ⟨given + 1, 0, Q ++ [(t, v)], _, given + 1, rfl, ⟨⟨_, _, hcl, by unfold Dk.step; simp [h1], h2, by unfold Dk.step; simp only; omega, by omega⟩, fun x hx => Nat.lt_of_lt_of_le (hS.hB x hx) hf2.size, fun x hx => ?_, ?_, fun x hx => ?_, by omega, ?_, deeds_put hS.de tok _⟩, hf2, .inr ⟨rfl, by simp, rfl, rfl⟩, ?_⟩
            · rcases List.mem_append.1 hx with hx | hx
              · exact (hS.ok x hx).fr hf2
              · have e : x = (t, v) := by simpa using hx
                rw [e]
                exact ⟨t3, hbk, by show 0 ≤ t.id ∧ t.id ≤ 1000000; omega⟩
            · rw [List.map_append, List.nodup_append]
              refine ⟨hS.nd, by simp, fun a ha b hb hab => ?_⟩
              obtain ⟨y, hy, rfl⟩ := List.mem_map.1 ha
              have hb2 : b = t.id := by simpa using hb
              exact hne y hy (by rw [hab, hb2, t1])
            · rcases List.mem_append.1 hx with hx | hx
              · have := hS.ids x hx; omega
              · have e : x = (t, v) := by simpa using hx
                rw [e]
                show t.id ≤ given + 1
                omega
            · have := hS.ln
              simp
              omega
            · have hold := nx12_old m B g gc bt bd bf (Q ++ [(t, v)]) (S.put Di tok (dval (1, given + 1))) (given + 1) (n + 1) tok kind v c0 c1 c2 c3 c4 (by omega) hbk hk hA hN (1, given + 1) (by rw [S.get_put, if_pos ((bytes_beq _ _).2 rfl)])
              simpa using hold
          · have := hS.ids x (by simp)
            omega
  · refine (nx12_bad1 m B g gc bt bd bf Q Di given n tok kind v c0 c1 c2 c3 c4 hbk hA w hS hM).mono ?_
    rintro o w' ⟨rfl, h1, h2⟩
    exact ⟨_, _, Q, Di, given, rfl, h1, h2, .inl ⟨rfl, rfl⟩, nx12_bad1 m B g gc bt bd bf Q Di given (n + 1) tok kind v c0 c1 c2 c3 c4 hbk hA⟩
end
/-- Update by these arguments, likewise. -/
def Nx14 (m : Nat) (B : Nat → Prop) (g gc bt bd bf : Nat) (Q : List Tv) (Di : List (ByteArray × Value)) (given : Int) (n : Nat) (tok : ByteArray) (id : Int) (v : Val) (c0 c1 c2 c3 c4 : Value) (e : Nat) : Prop :=
  ∀ W : World, Sta m W B g gc bt bd bf Q Di given n → V.MemX (Cl.own B gc bt bd bf) (m + 1) W v [c0, c1, c2, c3, c4] →
    Calls Try.prog 14 #[.pointer (some ⟨gc, 0, none⟩), .string tok, .int .i64 id, .agg #[c0, c1, c2, c3, c4]] W fun o w' => o = .returned (V.errOf e) ∧ Sta m w' B g gc bt bd bf Q Di given (n + 1) ∧ Fr W w' (Cl.own B gc bt bd bf)
/-- Delete by these arguments, likewise. -/
def Nx15 (m : Nat) (B : Nat → Prop) (g gc bt bd bf : Nat) (Q : List Tv) (Di : List (ByteArray × Value)) (given : Int) (n : Nat) (tok : ByteArray) (id : Int) (e : Nat) : Prop :=
  ∀ W : World, Sta m W B g gc bt bd bf Q Di given n →
    Calls Try.prog 15 #[.pointer (some ⟨gc, 0, none⟩), .string tok, .int .i64 id] W fun o w' => o = .returned (V.errOf e) ∧ Sta m w' B g gc bt bd bf Q Di given (n + 1) ∧ Fr W w' (Cl.own B gc bt bd bf)
theorem ent_val (Q : List Tv) : ∀ x ∈ Q.map Tv.ent, ∃ t : Tg, x.2 = t.val := by
  intro x hx
  obtain ⟨y, _, rfl⟩ := List.mem_map.1 hx
  exact ⟨y.1, rfl⟩
section
variable (m : Nat) (B : Nat → Prop) (g gc bt bd bf : Nat) (Q : List Tv) (Di : List (ByteArray × Value)) (given : Int) (n : Nat) (tok : ByteArray) (id : Int) (v : Val) (c0 c1 c2 c3 c4 : Value)
theorem nx14_bad (hbk : V.bulk (m + 1) v ≤ 2000000) (hA : attrE (m + 1) v ≠ 0) : Nx14 m B g gc bt bd bf Q Di given n tok id v c0 c1 c2 c3 c4 (attrE (m + 1) v) := by
  intro W hS hM
  obtain ⟨D, calls, hc, h1, h2, h3, h4⟩ := hS.cl
  refine (updateBad W B g gc bt bd bf D 20 given calls _ Di [] tok id m v c0 c1 c2 c3 c4 hc hM hbk hA).mono ?_
  rintro o w' ⟨rfl, _, hf⟩
  exact ⟨rfl, (hS.fr hf).more (by omega), hf.weak (fun _ _ e => e.elim)⟩
theorem nx14_old (hn : n ≤ 1000) (hbk : V.bulk (m + 1) v ≤ 2000000) (hA : attrE (m + 1) v = 0) (p : Int × Int) (hp : S.get Di tok = some (dval p)) : Nx14 m B g gc bt bd bf Q Di given n tok id v c0 c1 c2 c3 c4 (if p.1 = 2 then 0 else 15) := by
  intro W hS hM
  obtain ⟨D, calls, hc, h1, h2, h3, h4⟩ := hS.cl
  refine (updateOld W B g gc bt bd bf D 20 given calls _ Di [] tok id m v c0 c1 c2 c3 c4 hc hM hbk hA (by omega) (by omega) (nofail h1 h2) (by omega) rfl p hp).mono ?_
  rintro o w' ⟨rfl, hcl, hf⟩
  have hf2 : Fr W w' (Cl.own B gc bt bd bf) := hf.weak (fun _ _ e => e.elim (fun e => .inl (e ▸ hc.disk.has_g)) (fun e => .inr (.inl e)))
  exact ⟨rfl, hS.counted hcl h1 h2 h3 h4 hf2, hf2⟩
theorem nx14_none (hn : n ≤ 1000) (hbk : V.bulk (m + 1) v ≤ 2000000) (hA : attrE (m + 1) v = 0) (hp : S.get Di tok = none) (hg0 : T.get (Q.map Tv.ent) id = none) : Nx14 m B g gc bt bd bf Q Di given n tok id v c0 c1 c2 c3 c4 7 := by
  intro W hS hM
  obtain ⟨D, calls, hc, h1, h2, h3, h4⟩ := hS.cl
  refine (updateNone W B g gc bt bd bf D 20 given calls _ Di [] tok id m v c0 c1 c2 c3 c4 hc hM hbk hA (by omega) (by omega) (nofail h1 h2) (by omega) rfl hp (ent_val Q) hg0 hS.hB).mono ?_
  rintro o w' ⟨rfl, hcl, hf⟩
  have hf2 : Fr W w' (Cl.own B gc bt bd bf) := hf.weak (fun _ _ e => e.elim (fun e => .inl (e ▸ hc.disk.has_g)) (fun e => .inr (e.imp (fun e => e) (fun e => e.imp (fun e => e) .inl))))
  exact ⟨rfl, hS.counted hcl h1 h2 h3 h4 hf2, hf2⟩
/-- Update: what it answers, and that it answers the same once more. -/
theorem update_first (hn : n ≤ 999) (hbk : V.bulk (m + 1) v ≤ 2000000) (w : World) (hS : Sta m w B g gc bt bd bf Q Di given n) (hM : V.MemX (Cl.own B gc bt bd bf) (m + 1) w v [c0, c1, c2, c3, c4]) :
    Calls Try.prog 14 #[.pointer (some ⟨gc, 0, none⟩), .string tok, .int .i64 id, .agg #[c0, c1, c2, c3, c4]] w fun o w' => ∃ (e : Nat) (Q1 : List Tv) (Di1 : List (ByteArray × Value)), o = .returned (V.errOf e) ∧ Sta m w' B g gc bt bd bf Q1 Di1 given (n + 1) ∧ Fr w w' (Cl.own B gc bt bd bf) ∧ Nx14 m B g gc bt bd bf Q1 Di1 given (n + 1) tok id v c0 c1 c2 c3 c4 e := by
  by_cases hA : attrE (m + 1) v = 0
  · cases hp : S.get Di tok with
    | some x =>
      obtain ⟨p, rfl⟩ := hS.de tok x hp
      refine (nx14_old m B g gc bt bd bf Q Di given n tok id v c0 c1 c2 c3 c4 (by omega) hbk hA p hp w hS hM).mono ?_
      rintro o w' ⟨rfl, h1, h2⟩
      exact ⟨_, Q, Di, rfl, h1, h2, nx14_old m B g gc bt bd bf Q Di given (n + 1) tok id v c0 c1 c2 c3 c4 (by omega) hbk hA p hp⟩
    | none =>
      rcases Tv.split id Q with ⟨hg0, _, _⟩ | ⟨Q1, x, Q2, rfl, hx, hg0, hput, _⟩
      · refine (nx14_none m B g gc bt bd bf Q Di given n tok id v c0 c1 c2 c3 c4 (by omega) hbk hA hp hg0 w hS hM).mono ?_
        rintro o w' ⟨rfl, h1, h2⟩
        exact ⟨_, Q, Di, rfl, h1, h2, nx14_none m B g gc bt bd bf Q Di given (n + 1) tok id v c0 c1 c2 c3 c4 (by omega) hbk hA hp hg0⟩
      · obtain ⟨D, calls, hc, h1, h2, h3, h4⟩ := hS.cl
        have hg := hS.gv
        refine (updateNew w B g gc bt bd bf D 20 given calls _ Di [] tok id m v c0 c1 c2 c3 c4 hc hM hbk hA (by omega) (by omega) (nofail h1 h2) (by omega) rfl hp (ent_val _) x.1 hg0 hS.hB).mono ?_
        rintro o w' ⟨rfl, Th1, ⟨t, t1, t2, t3, rfl⟩, hcl, hf⟩
        have hf2 : Fr w w' (Cl.own B gc bt bd bf) := hf.weak (fun _ _ e => e.elim (fun e => .inl (e ▸ hc.disk.has_g)) (fun e => .inr (e.imp (fun e => e) (fun e => e.imp (fun e => e) .inl))))
        rw [hput t v (t1.trans hx)] at hcl
        have hids : (Q1 ++ (t, v) :: Q2).map (fun x : Tv => x.1.id) = (Q1 ++ x :: Q2).map (fun x => x.1.id) := by simp [t1]
        have hmem : ∀ y ∈ Q1 ++ (t, v) :: Q2, y = (t, v) ∨ y ∈ Q1 ++ x :: Q2 := fun y hy => by
          rcases List.mem_append.1 hy with hy | hy
          · exact .inr (List.mem_append.2 (.inl hy))
          · rcases List.mem_cons.1 hy with hy | hy
            · exact .inl hy
            · exact .inr (List.mem_append.2 (.inr (List.mem_cons.2 (.inr hy))))
        have hxm : x ∈ Q1 ++ x :: Q2 := by simp
        refine ⟨0, Q1 ++ (t, v) :: Q2, _, rfl, ⟨⟨_, _, hcl, by unfold Dk.step; simp [h1], h2, by unfold Dk.step; simp only; omega, by omega⟩, fun x hx => Nat.lt_of_lt_of_le (hS.hB x hx) hf2.size, fun y hy => ?_, ?_, fun y hy => ?_, by omega, ?_, deeds_put hS.de tok _⟩, hf2, ?_⟩
        · rcases hmem y hy with rfl | hy
          · exact ⟨t3, hbk, by show 0 ≤ t.id ∧ t.id ≤ 1000000; rw [t1]; exact (hS.ok x hxm).2.2⟩
          · exact (hS.ok y hy).fr hf2
        · rw [hids]
          exact hS.nd
        · rcases hmem y hy with rfl | hy
          · show t.id ≤ given
            rw [t1]
            exact hS.ids x hxm
          · exact hS.ids y hy
        · have := hS.ln
          simp at this ⊢
          omega
        · have hold := nx14_old m B g gc bt bd bf (Q1 ++ (t, v) :: Q2) (S.put Di tok (dval (2, 0))) given (n + 1) tok id v c0 c1 c2 c3 c4 (by omega) hbk hA (2, 0) (by rw [S.get_put, if_pos ((bytes_beq _ _).2 rfl)])
          simpa using hold
  · refine (nx14_bad m B g gc bt bd bf Q Di given n tok id v c0 c1 c2 c3 c4 hbk hA w hS hM).mono ?_
    rintro o w' ⟨rfl, h1, h2⟩
    exact ⟨_, Q, Di, rfl, h1, h2, nx14_bad m B g gc bt bd bf Q Di given (n + 1) tok id v c0 c1 c2 c3 c4 hbk hA⟩
theorem nx15_old (hn : n ≤ 1000) (p : Int × Int) (hp : S.get Di tok = some (dval p)) : Nx15 m B g gc bt bd bf Q Di given n tok id (if p.1 = 3 then 0 else 15) := by
  intro W hS
  obtain ⟨D, calls, hc, h1, h2, h3, h4⟩ := hS.cl
  refine (delete_any W B g gc bt bd bf D 20 given calls _ Di [] tok id (some p) hc hS.hB hp (ent_val Q) (by omega) (by omega) (nofail h1 h2) (by omega) rfl).mono ?_
  rintro o w' ⟨rfl, hcl, hf⟩
  rw [if_neg (by simp), if_neg (by simp)] at hcl
  have hf2 : Fr W w' (Cl.own B gc bt bd bf) := hf.weak (fun _ _ e => e.elim (fun e => .inl (e ▸ hc.disk.has_g)) (fun e => .inr (e.imp (fun e => e) (fun e => e.imp (fun e => e) .inl))))
  exact ⟨rfl, hS.counted hcl h1 h2 h3 h4 hf2, hf2⟩
theorem nx15_none (hn : n ≤ 1000) (hp : S.get Di tok = none) (hg0 : T.get (Q.map Tv.ent) id = none) : Nx15 m B g gc bt bd bf Q Di given n tok id 7 := by
  intro W hS
  obtain ⟨D, calls, hc, h1, h2, h3, h4⟩ := hS.cl
  refine (delete_any W B g gc bt bd bf D 20 given calls _ Di [] tok id none hc hS.hB hp (ent_val Q) (by omega) (by omega) (nofail h1 h2) (by omega) rfl).mono ?_
  rintro o w' ⟨rfl, hcl, hf⟩
  rw [hg0, if_neg (by simp), if_neg (by simp)] at hcl
  have hf2 : Fr W w' (Cl.own B gc bt bd bf) := hf.weak (fun _ _ e => e.elim (fun e => .inl (e ▸ hc.disk.has_g)) (fun e => .inr (e.imp (fun e => e) (fun e => e.imp (fun e => e) .inl))))
  exact ⟨by rw [hg0]; rfl, hS.counted hcl h1 h2 h3 h4 hf2, hf2⟩
/-- Delete: what it answers, and that it answers the same once more. -/
theorem delete_first (hn : n ≤ 999) (w : World) (hS : Sta m w B g gc bt bd bf Q Di given n) :
    Calls Try.prog 15 #[.pointer (some ⟨gc, 0, none⟩), .string tok, .int .i64 id] w fun o w' => ∃ (e : Nat) (Q1 : List Tv) (Di1 : List (ByteArray × Value)), o = .returned (V.errOf e) ∧ Sta m w' B g gc bt bd bf Q1 Di1 given (n + 1) ∧ Fr w w' (Cl.own B gc bt bd bf) ∧ Nx15 m B g gc bt bd bf Q1 Di1 given (n + 1) tok id e := by
  cases hp : S.get Di tok with
  | some x =>
    obtain ⟨p, rfl⟩ := hS.de tok x hp
    refine (nx15_old m B g gc bt bd bf Q Di given n tok id (by omega) p hp w hS).mono ?_
    rintro o w' ⟨rfl, h1, h2⟩
    exact ⟨_, Q, Di, rfl, h1, h2, nx15_old m B g gc bt bd bf Q Di given (n + 1) tok id (by omega) p hp⟩
  | none =>
    rcases Tv.split id Q with ⟨hg0, _, _⟩ | ⟨Q1, x, Q2, rfl, hx, hg0, _, hdel⟩
    · refine (nx15_none m B g gc bt bd bf Q Di given n tok id (by omega) hp hg0 w hS).mono ?_
      rintro o w' ⟨rfl, h1, h2⟩
      exact ⟨_, Q, Di, rfl, h1, h2, nx15_none m B g gc bt bd bf Q Di given (n + 1) tok id (by omega) hp hg0⟩
    · obtain ⟨D, calls, hc, h1, h2, h3, h4⟩ := hS.cl
      have hg := hS.gv
      refine (delete_any w B g gc bt bd bf D 20 given calls _ Di [] tok id none hc hS.hB hp (ent_val _) (by omega) (by omega) (nofail h1 h2) (by omega) rfl).mono ?_
      rintro o w' ⟨rfl, hcl, hf⟩
      rw [hg0, if_pos (by simp), if_pos (by simp), hdel] at hcl
      have hf2 : Fr w w' (Cl.own B gc bt bd bf) := hf.weak (fun _ _ e => e.elim (fun e => .inl (e ▸ hc.disk.has_g)) (fun e => .inr (e.imp (fun e => e) (fun e => e.imp (fun e => e) .inl))))
      have hsub : (Q1 ++ Q2).Sublist (Q1 ++ x :: Q2) := List.Sublist.append (List.Sublist.refl _) (List.sublist_cons_self _ _)
      refine ⟨0, Q1 ++ Q2, _, by rw [hg0]; rfl, ⟨⟨_, _, hcl, by unfold Dk.step; simp [h1], h2, by unfold Dk.step; simp only; omega, by omega⟩, fun x hx => Nat.lt_of_lt_of_le (hS.hB x hx) hf2.size, fun y hy => (hS.ok y (hsub.subset hy)).fr hf2, hS.nd.sublist (hsub.map _), fun y hy => hS.ids y (hsub.subset hy), by omega, ?_, deeds_put hS.de tok _⟩, hf2, ?_⟩
      · have := hS.ln
        simp at this ⊢
        omega
      · have hold := nx15_old m B g gc bt bd bf (Q1 ++ Q2) (S.put Di tok (dval (3, 0))) given (n + 1) tok id (by omega) (3, 0) (by rw [S.get_put, if_pos ((bytes_beq _ _).2 rfl)])
        simpa using hold
end
end Go.Proofs.Ytlmkpjdaoinmoaa
