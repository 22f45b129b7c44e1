/- For CloudSays: both clouds beside each other, what ties them, each act of the law on both, rains, the start. -/
import Derived.Test.YtlmkpjdaoinmoaaKG
import Derived.Test.YtlmkpjdaoinmoaaKF
import Derived.Test.YtlmkpjdaoinmoaaKH
import Derived.Test.YtlmkpjdaoinmoaaCT
import Derived.Test.YtlmkpjdaoinmoaaCU
import Derived.Deep.CutBlock
import Derived.Deep.RegionHeld3
import Derived.Deep.AppendLies
namespace Go.Proofs.Ytlmkpjdaoinmoaa
open Go.RowKit
/-- The blocks of both. -/
def Zs (B P : Nat → Prop) (gc bt bd bf : Nat) (c : Nat) : Prop := Cl.own B gc bt bd bf c ∨ P c
/-- Both in memory. -/
structure Mm (m : Nat) (w : World) (B P : Nat → Prop) (g gc bt bd bf rd rc : Nat) (D : Dk) (q given calls : Int) (Q : List Tv) (Di : List (ByteArray × Value)) (Fa : List (Int × Value)) (tv kv fv : Value) (s : Rm) : Prop where
  cl : Cl w B g gc bt bd bf D q given calls (Q.map Tv.ent) Di Fa
  r : Rc w P rd rc tv kv fv s
  hB : ∀ x, B x → x < w.heap.size
  hP : ∀ x, P x → x < w.heap.size
  ap : ∀ c, P c → ¬ Cl.own B gc bt bd bf c
  okQ : ∀ x ∈ Q, Tv.Ok (Zs B P gc bt bd bf) m w x
  okS : ∀ x ∈ s.things, Tv.Ok (Zs B P gc bt bd bf) m w x
section
variable {m : Nat} {w w' : World} {B B2 P P2 : Nat → Prop} {g gc bt bd bf rd rc : Nat} {D D2 : Dk} {q given given2 calls calls2 : Int} {Q Q2 : List Tv} {Di Di2 : List (ByteArray × Value)} {Fa Fa2 : List (Int × Value)} {tv kv fv tv2 kv2 fv2 : Value} {s s2 : Rm}
theorem Mm.own_lt (h : Mm m w B P g gc bt bd bf rd rc D q given calls Q Di Fa tv kv fv s) (c : Nat) (hc : Cl.own B gc bt bd bf c) : c < w.heap.size := by
  rcases hc with hc | rfl | rfl | rfl | rfl
  · exact h.hB c hc
  · exact (Array.getElem?_eq_some_iff.1 h.cl.blk).1
  · exact h.cl.th.lt
  · exact h.cl.di.lt
  · exact h.cl.fa.lt
theorem Mm.lt (h : Mm m w B P g gc bt bd bf rd rc D q given calls Q Di Fa tv kv fv s) (c : Nat) (hc : Zs B P gc bt bd bf c) : c < w.heap.size := hc.elim (h.own_lt c) (h.hP c)
/-- The program's cloud has changed. -/
theorem Mm.prog (h : Mm m w B P g gc bt bd bf rd rc D q given calls Q Di Fa tv kv fv s) (hc : Cl w' B g gc bt bd bf D2 q given2 calls2 (Q2.map Tv.ent) Di2 Fa2) (hf : Fr w w' (Cl.own B gc bt bd bf)) (hQ : ∀ x ∈ Q2, x ∈ Q ∨ Tv.Ok (Zs B P gc bt bd bf) m w' x) : Mm m w' B P g gc bt bd bf rd rc D2 q given2 calls2 Q2 Di2 Fa2 tv kv fv s :=
  ⟨hc, h.r.fr hf (fun c hp => h.ap c hp), fun x hx => Nat.lt_of_lt_of_le (h.hB x hx) hf.size, fun x hx => Nat.lt_of_lt_of_le (h.hP x hx) hf.size, h.ap, fun x hx => (hQ x hx).elim (fun e => (h.okQ x e).fr (hf.weak (fun _ _ e => .inl e))) (fun e => e), fun x hx => (h.okS x hx).fr (hf.weak (fun _ _ e => .inl e))⟩
/-- The reference's cloud has changed. -/
theorem Mm.ref (h : Mm m w B P g gc bt bd bf rd rc D q given calls Q Di Fa tv kv fv s) (hr : Rc w' P2 rd rc tv2 kv2 fv2 s2) (hn : Newer w w' P P2) (hf : Fr w w' P) (hS : ∀ x ∈ s2.things, x ∈ s.things ∨ Tv.Ok (Zs B P gc bt bd bf) m w x) : Mm m w' B P2 g gc bt bd bf rd rc D q given calls Q Di Fa tv2 kv2 fv2 s2 := by
  have hok : ∀ x, Tv.Ok (Zs B P gc bt bd bf) m w x → Tv.Ok (Zs B P2 gc bt bd bf) m w' x := fun x hx => by
    refine (hx.more (ex2 := Zs B P2 gc bt bd bf) (fun c hc => ?_)).fr (hf.weak (fun c _ e => .inr (hn.1 c e)))
    rcases hc with hc | hc
    · exact .inl (.inl hc)
    · rcases hn.2 c hc with e | e
      · exact .inl (.inr e)
      · exact .inr e.1
  refine ⟨h.cl.frx hf (fun c hc hp => h.ap c hp hc), hr, fun x hx => Nat.lt_of_lt_of_le (h.hB x hx) hf.size, fun x hx => ?_, fun c hc ho => ?_, fun x hx => hok x (h.okQ x hx), fun x hx => (hS x hx).elim (fun e => hok x (h.okS x e)) (hok x)⟩
  · rcases hn.2 x hx with e | e
    · exact Nat.lt_of_lt_of_le (h.hP x e) hf.size
    · exact e.2
  · rcases hn.2 c hc with e | e
    · exact h.ap c e ho
    · have := h.own_lt c ho
      omega
/-- Nothing old has changed. -/
theorem Mm.fr (h : Mm m w B P g gc bt bd bf rd rc D q given calls Q Di Fa tv kv fv s) (hf : Fr w w' (fun _ => False)) : Mm m w' B P g gc bt bd bf rd rc D q given calls Q Di Fa tv kv fv s :=
  h.prog (h.cl.fr hf) (hf.weak (fun _ _ e => e.elim)) (fun _ hx => .inl hx)
end
theorem Newer.refl {w w' : World} (P : Nat → Prop) : Newer w w' P P := ⟨fun _ h => h, fun _ h => .inl h⟩
/-- What ties them. -/
structure Ti (q : Int) (D : Dk) (given calls : Int) (Q : List Tv) (Di : List (ByteArray × Value)) (Fa : List (Int × Value)) (s : Rm) (n : Nat) : Prop where
  nd : (Q.map (fun x => x.1.id)).Nodup
  ids : ∀ x ∈ Q, 1 ≤ x.1.id ∧ x.1.id ≤ given
  ts : s.things.map Tv.md = Td.sort (Q.map Tv.md)
  nx : s.next = given + 1
  ca : s.calls = calls
  qu : s.quota = q
  dn : s.down = D.down
  fu : D.down = false → s.fuse = max D.left (-1)
  fr : -1 ≤ s.fuse ∧ s.fuse ≤ 9223372036854775807
  ba : D.bare
  lf : -9223372036854775808 ≤ D.left ∧ D.left ≤ 9223372036854775807
  tk : ∀ tok, S.get Di tok = (s.toks.find? (fun d => d.1.toList == tok.toList)).map (fun d => dval (d.2.1, if d.2.1 = 1 then d.2.2 else 0))
  fl : ∀ k, calls ≤ k → ((T.get Fa k).isSome = true ↔ k ∈ s.fails)
  fz : ∀ k v, T.get Fa k = some v → v = .agg #[]
  fn : (Fa.map (·.1)).Nodup
  bg : 0 ≤ given ∧ given ≤ n
  bc : 0 ≤ calls ∧ calls ≤ n
  bs : 0 ≤ D.steps ∧ D.steps ≤ n
  br : 0 ≤ s.steps ∧ s.steps ≤ n
  bq : Q.length ≤ n
  bk : s.toks.length ≤ n
  bx : s.fails.length ≤ n
  bn : n ≤ 800
section
variable {q : Int} {D D2 : Dk} {given calls : Int} {Q : List Tv} {Di : List (ByteArray × Value)} {Fa : List (Int × Value)} {s s2 : Rm} {n : Nat}
theorem Ti.len (h : Ti q D given calls Q Di Fa s n) : s.things.length = Q.length := by
  have := congrArg List.length h.ts
  rw [Td.sort_len] at this
  simpa using this
theorem Ti.more (h : Ti q D given calls Q Di Fa s n) {n2 : Nat} (hn : n ≤ n2) (h8 : n2 ≤ 800) : Ti q D given calls Q Di Fa s n2 :=
  { h with bg := by have := h.bg; omega, bc := by have := h.bc; omega, bs := by have := h.bs; omega, br := by have := h.br; omega, bq := by have := h.bq; omega, bk := by have := h.bk; omega, bx := by have := h.bx; omega, bn := h8 }
theorem Ti.mem_md (h : Ti q D given calls Q Di Fa s n) {d : Td} : d ∈ s.things.map Tv.md ↔ d ∈ Q.map Tv.md := by
  rw [h.ts]
  exact (List.mergeSort_perm _ _).mem_iff
/-- A number is a thing's there just if it is here. -/
theorem Ti.has (h : Ti q D given calls Q Di Fa s n) (id : Int) : (∃ x ∈ s.things, x.1.id = id) ↔ ∃ x ∈ Q, x.1.id = id := by
  constructor
  · rintro ⟨x, hx, e⟩
    obtain ⟨y, hy, e2⟩ := List.mem_map.1 (h.mem_md.1 (List.mem_map.2 ⟨x, hx, rfl⟩))
    exact ⟨y, hy, by rw [← e]; exact congrArg Prod.fst e2⟩
  · rintro ⟨x, hx, e⟩
    obtain ⟨y, hy, e2⟩ := List.mem_map.1 (h.mem_md.2 (List.mem_map.2 ⟨x, hx, rfl⟩))
    exact ⟨y, hy, by rw [← e]; exact congrArg Prod.fst e2⟩
theorem Ti.fails (h : Ti q D given calls Q Di Fa s n) : D.fails ↔ (s.down = true ∨ s.fuse = 0) := by
  unfold Dk.fails
  rw [h.dn]
  cases hd : D.down with
  | true => simp
  | false =>
    have := h.fu hd
    simp
    omega
/-- A call fell. -/
theorem Ti.fell (h : Ti q D given calls Q Di Fa s n) : Ti q D.fell given calls Q Di Fa { s with down := true, fuse := -1 } n :=
  { h with dn := rfl, fu := (fun e => by cases e), fr := (by show (-1 : Int) ≤ -1 ∧ (-1 : Int) ≤ 9223372036854775807; omega), ba := h.ba, lf := h.lf, bs := h.bs }
theorem Ti.fell2 (h : Ti q D given calls Q Di Fa s n) (hd : s.down = true) : Ti q D.fell given calls Q Di Fa s n :=
  { h with dn := hd, fu := (fun e => by cases e), ba := h.ba, lf := h.lf, bs := h.bs }
/-- A call was let. -/
theorem Ti.step (h : Ti q D given calls Q Di Fa s n) (hn : ¬ D.fails) (h8 : n + 1 ≤ 800) : Ti q D.step given (calls + 1) Q Di Fa { s with fuse := fuse1 s.fuse, down := false, steps := s.steps + 1, calls := s.calls + 1 } (n + 1) := by
  have hd : D.down = false := by
    cases e : D.down with
    | false => rfl
    | true => exact absurd (.inr e) hn
  have hl : D.left ≠ 0 := fun e => hn (.inl e)
  have hfu := h.fu hd
  have hfr := h.fr
  have hlf := h.lf
  have h1 := h.bg
  have h2 := h.bc
  have h3 := h.bs
  have h4 := h.br
  have h5 := h.bq
  have h6 := h.bk
  have h7 := h.bx
  exact { nd := h.nd, ids := h.ids, ts := h.ts, nx := h.nx, ca := by show s.calls + 1 = _; rw [h.ca], qu := h.qu, dn := hd.symm, fu := (fun _ => by
            show fuse1 s.fuse = max (if 0 < D.left then D.left - 1 else D.left) (-1)
            unfold fuse1
            split <;> split <;> omega), fr := by
            show -1 ≤ fuse1 s.fuse ∧ fuse1 s.fuse ≤ _
            unfold fuse1
            split <;> omega, ba := h.ba, lf := by
            show -9223372036854775808 ≤ (if 0 < D.left then D.left - 1 else D.left) ∧ (if 0 < D.left then D.left - 1 else D.left) ≤ _
            split <;> omega, tk := h.tk, fl := (fun k hk => h.fl k (by omega)), fz := h.fz, fn := h.fn, bg := by omega, bc := by omega, bs := by show 0 ≤ D.steps + 1 ∧ _; exact ⟨by omega, by show D.steps + 1 ≤ _; omega⟩, br := by show 0 ≤ s.steps + 1 ∧ s.steps + 1 ≤ _; omega, bq := by omega, bk := by show s.toks.length ≤ _; omega, bx := by show s.fails.length ≤ _; omega, bn := h8 }
/-- The refusal is used up. -/
theorem Ti.used (h : Ti q D given (calls + 1) Q Di Fa s n) : Ti q D given (calls + 1) Q Di (T.del Fa calls) s n :=
  { h with fl := (fun k hk => by rw [T.get_del h.fn, if_neg (by simp; omega)]; exact h.fl k hk), fz := (fun k v hv => by
      rw [T.get_del h.fn] at hv
      split at hv
      · cases hv
      · exact h.fz k v hv), fn := T.del_keys h.fn }
end
end Go.Proofs.Ytlmkpjdaoinmoaa
namespace Go.Proofs.Ytlmkpjdaoinmoaa
open Go.RowKit
open Go.MapKept (bytes_beq)
/-- Both, tied. -/
def Jx (m L : Nat) (w : World) (g gc bt bd bf rd rc : Nat) (q : Int) (n : Nat) : Prop := ∃ B P D given calls Q Di Fa tv kv fv s, Mm m w B P g gc bt bd bf rd rc D q given calls Q Di Fa tv kv fv s ∧ Ti q D given calls Q Di Fa s n ∧ ∀ c, Zs B P gc bt bd bf c → L ≤ c
def Fk (L kb : Nat) (c : Nat) : Prop := L ≤ c ∧ c ≠ kb
def a5 (a : Tg) : Value := .agg #[.int .i64 a.k, .int .i64 a.n, .string a.s, .slice a.la a.ln a.lc, .slice a.fa a.fn a.fc]
theorem errOf_ne {e : Nat} (h : e ≠ 0) : V.errOf e = .iface 80 (.int .i64 e) := by unfold V.errOf; rw [if_neg h]
theorem list_eq {a b : ByteArray} : a.toList = b.toList ↔ a = b := ⟨V.toList_inj, fun e => by rw [e]⟩
theorem find_put (L : List (ByteArray × Int × Int)) (d : ByteArray × Int × Int) (tok : ByteArray) (hno : L.find? (fun x => x.1.toList == d.1.toList) = none) : (L ++ [d]).find? (fun x => x.1.toList == tok.toList) = if d.1 = tok then some d else L.find? (fun x => x.1.toList == tok.toList) := by
  rw [List.find?_append]
  by_cases e : d.1 = tok
  · rw [if_pos e, ← e, hno]
    simp
  · rw [if_neg e]
    have : ([d].find? (fun x => x.1.toList == tok.toList)) = none := by
      rw [List.find?_cons]
      have h2 : (d.1.toList == tok.toList) = false := by simp [list_eq, e]
      rw [h2]
      rfl
    rw [this, Option.or_none]
theorem tk_put {Di : List (ByteArray × Value)} {L : List (ByteArray × Int × Int)} (h : ∀ tok, S.get Di tok = (L.find? (fun d => d.1.toList == tok.toList)).map (fun d => dval (d.2.1, if d.2.1 = 1 then d.2.2 else 0))) (tok : ByteArray) (hno : S.get Di tok = none) (op id id2 : Int) (hid : id = if op = 1 then id2 else 0) :
    ∀ t, S.get (S.put Di tok (dval (op, id))) t = ((L ++ [(tok, op, id2)]).find? (fun d => d.1.toList == t.toList)).map (fun d => dval (d.2.1, if d.2.1 = 1 then d.2.2 else 0)) := by
  intro t
  have hn : L.find? (fun x => x.1.toList == tok.toList) = none := by
    have h1 := h tok
    rw [hno] at h1
    cases hf : L.find? (fun x => x.1.toList == tok.toList) with
    | none => rfl
    | some d => rw [hf] at h1; cases h1
  rw [S.get_put, find_put L (tok, op, id2) t hn]
  by_cases e : tok = t
  · rw [if_pos ((bytes_beq _ _).2 e), if_pos e, hid]
    rfl
  · rw [if_neg (fun q => e ((bytes_beq _ _).1 q)), if_neg e]
    exact h t
/-- A thing with a number above all. -/
theorem ts_push {Q : List Tv} {T0 : List Tv} {given : Int} (ht : T0.map Tv.md = Td.sort (Q.map Tv.md)) (hids : ∀ x ∈ Q, 1 ≤ x.1.id ∧ x.1.id ≤ given) (hnd : (Q.map (fun x => x.1.id)).Nodup) (x y : Tv) (hx : Tv.md x = Tv.md y) (hy : y.1.id = given + 1) : (T0 ++ [x]).map Tv.md = Td.sort ((Q ++ [y]).map Tv.md) ∧ ((Q ++ [y]).map (fun x => x.1.id)).Nodup := by
  have hn2 : ((Q ++ [y]).map (fun x => x.1.id)).Nodup := by
    rw [List.map_append, List.nodup_append]
    refine ⟨hnd, by simp, fun a ha b hb hab => ?_⟩
    obtain ⟨z, hz, rfl⟩ := List.mem_map.1 ha
    have hb2 : b = y.1.id := by simpa using hb
    have := (hids z hz).2
    omega
  refine ⟨?_, hn2⟩
  have hp : (T0.map Tv.md).Perm (Q.map Tv.md) := by rw [ht]; exact List.mergeSort_perm _ _
  refine Td.sort_eq ?_ ?_ (by rw [List.map_map]; exact hn2)
  · rw [List.map_append, List.map_append]
    exact hp.append (by simp [hx])
  · rw [List.map_append, List.pairwise_append]
    refine ⟨?_, by simp, fun a ha b hb => ?_⟩
    · rw [ht]
      have := List.pairwise_mergeSort (le := fun a b : Td => decide (a.1 ≤ b.1)) (fun a b c h1 h2 => by simp at h1 h2 ⊢; omega) (fun a b => by simp; omega) (Q.map Tv.md)
      exact this.imp (fun h => by simpa using h)
    · have hb2 : b = Tv.md y := by rw [← hx]; simpa using hb
      obtain ⟨z, hz, rfl⟩ := List.mem_map.1 (hp.mem_iff.1 ha)
      rw [hb2]
      have := (hids z hz).2
      show z.1.id ≤ y.1.id
      omega
section
variable {m L : Nat} {w : World} {B P : Nat → Prop} {g gc bt bd bf rd rc : Nat} {D : Dk} {q given calls : Int} {Q : List Tv} {Di : List (ByteArray × Value)} {Fa : List (Int × Value)} {tv kv fv : Value} {s : Rm} {n : Nat}
theorem Ti.bounds (t : Ti q D given calls Q Di Fa s n) : (0 ≤ s.steps ∧ s.steps ≤ 900000) ∧ (0 ≤ s.calls ∧ s.calls ≤ 900000) ∧ (-1 ≤ s.fuse ∧ s.fuse ≤ 9223372036854775807) ∧ s.things.length ≤ 900 ∧ s.toks.length ≤ 900 ∧ s.fails.length ≤ 900 := by
  have h0 := t.bn
  have h1 := t.br
  have h2 := t.bc
  have h3 := t.bq
  have h4 := t.bk
  have h5 := t.bx
  have h6 := t.len
  have h7 := t.ca
  exact ⟨by omega, by omega, t.fr, by omega, by omega, by omega⟩
theorem Ti.no_tok (t : Ti q D given calls Q Di Fa s n) {tok : ByteArray} (h : S.get Di tok = none) : ∀ d ∈ s.toks, d.1.toList ≠ tok.toList := by
  intro d hd e
  have h1 := t.tk tok
  rw [h] at h1
  cases hf : s.toks.find? (fun x => x.1.toList == tok.toList) with
  | none =>
    have := List.find?_eq_none.1 hf d hd
    simp [e] at this
  | some d2 => rw [hf] at h1; cases h1
theorem create_arm (h : Mm m w B P g gc bt bd bf rd rc D q given calls Q Di Fa tv kv fv s) (t : Ti q D given calls Q Di Fa s n) (hn : n + 1 ≤ 800) (hL : ∀ c, Zs B P gc bt bd bf c → L ≤ c) (hLw : L ≤ w.heap.size) (kb : Nat) (hkb : ¬ Zs B P gc bt bd bf kb) (tok kind : ByteArray) (v : Val) (a : Tg) (hM : V.MemX (Zs B P gc bt bd bf) (m + 1) w v a.cells) (hbk : V.bulk (m + 1) v ≤ 2000000) (hk : kind.size ≤ maxLen) :
    Calls Try.prog 12 #[.pointer (some ⟨gc, 0, none⟩), .string tok, .string kind, a5 a] w fun o w1 => ∃ (r : Int) (e : Nat), o = .returned (.tuple #[.int .i64 r, V.errOf e]) ∧ Fr w w1 (Fk L kb) ∧
      Calls Try.prog 13 #[.pointer (some ⟨rc, 0, none⟩), .int .i64 1, .string tok, .string kind, .int .i64 0, a5 a] w1 fun o2 w2 => o2 = .returned (.tuple #[.int .i64 r, .int .i64 e]) ∧ Jx m L w2 g gc bt bd bf rd rc q (n + 1) ∧ Fr w w2 (Fk L kb) := by
  have hfk : ∀ c, Zs B P gc bt bd bf c → Fk L kb c := fun c hc => ⟨hL c hc, fun e => hkb (e ▸ hc)⟩
  have hMo : V.MemX (Cl.own B gc bt bd bf) (m + 1) w v a.cells := hM.more (fun c hc => .inl (.inl hc))
  have hMP : ∀ w1, Fr w w1 (Cl.own B gc bt bd bf) → V.MemX P (m + 1) w1 v a.cells := fun w1 hf => (hM.fr (hf.weak (fun _ _ e => .inl e))).more (fun c hc => .inl (.inr hc))
  have hb := t.bounds
  have hbc := t.bc
  have hbs := t.bs
  have hbn := t.bn
  have hgB := h.cl.disk.has_g
  have hown : ∀ c, (c = g ∨ c = gc ∨ c = bf) → Cl.own B gc bt bd bf c := fun c e => by
    rcases e with rfl | rfl | rfl
    · exact .inl hgB
    · exact .inr (.inl rfl)
    · exact .inr (.inr (.inr (.inr rfl)))
  have hown2 : ∀ c, (c = g ∨ c = gc ∨ c = bt ∨ c = bd) → Cl.own B gc bt bd bf c := fun c e => by
    rcases e with rfl | rfl | rfl | rfl
    · exact .inl hgB
    · exact .inr (.inl rfl)
    · exact .inr (.inr (.inl rfl))
    · exact .inr (.inr (.inr (.inl rfl)))
  -- what a way through both leaves
  have fin : ∀ {w1 w2 : World} {P2 : Nat → Prop} {D2 : Dk} {given2 calls2 : Int} {Q2 : List Tv} {Di2 : List (ByteArray × Value)} {Fa2 : List (Int × Value)} {tv2 kv2 : Value} {s2 : Rm}, Mm m w1 B P g gc bt bd bf rd rc D2 q given2 calls2 Q2 Di2 Fa2 tv kv fv s → Fr w w1 (Cl.own B gc bt bd bf) → Rc w2 P2 rd rc tv2 kv2 fv s2 → Newer w1 w2 P P2 → Fr w1 w2 P → (∀ x ∈ s2.things, x ∈ s.things ∨ Tv.Ok (Zs B P gc bt bd bf) m w1 x) → Ti q D2 given2 calls2 Q2 Di2 Fa2 s2 (n + 1) → Jx m L w2 g gc bt bd bf rd rc q (n + 1) ∧ Fr w w2 (Fk L kb) := by
    intro w1 w2 P2 D2 given2 calls2 Q2 Di2 Fa2 tv2 kv2 s2 h1 hf1 hr hnw hf2 hS ht
    refine ⟨⟨B, P2, D2, given2, calls2, Q2, Di2, Fa2, tv2, kv2, fv, s2, h1.ref hr hnw hf2 hS, ht, fun c hc => ?_⟩, ?_⟩
    · rcases hc with hc | hc
      · exact hL c (.inl hc)
      · rcases hnw.2 c hc with e | e
        · exact hL c (.inr e)
        · have := hf1.size
          omega
    · exact (hf1.weak (fun c _ e => hfk c (.inl e))).trans hf2 (fun c _ e => hfk c (.inr e))
  have fwd : ∀ {w1 : World}, Fr w w1 (Cl.own B gc bt bd bf) → Fr w w1 (Fk L kb) := fun hf => hf.weak (fun c _ e => hfk c (.inl e))
  unfold a5
  by_cases hA : attrE (m + 1) v = 0
  rotate_left
  · refine (createBad1 w B g gc bt bd bf D q given calls _ Di Fa tok kind m v _ _ _ _ _ h.cl hMo hbk hA).mono ?_
    rintro o w1 ⟨rfl, _, hf⟩
    have hf1 : Fr w w1 (Cl.own B gc bt bd bf) := hf.weak (fun _ _ e => e.elim)
    refine ⟨0, _, rfl, fwd hf1, (refDo_bad1 w1 P rd rc tv kv fv s tok kind 0 m v a (h.fr hf).r (hMP w1 hf1) hbk hk hA).mono ?_⟩
    rintro o2 w2 ⟨rfl, hr, hf2⟩
    exact ⟨rfl, fin (h.fr hf) hf1 hr (Newer.refl P) hf2 (fun _ hx => .inl hx) (t.more (by omega) hn)⟩
  cases hN : V.name (V.bl kind) with
  | false =>
    refine (createBad2 w B g gc bt bd bf D q given calls _ Di Fa tok kind m v _ _ _ _ _ h.cl hMo hbk hk hA hN).mono ?_
    rintro o w1 ⟨rfl, _, hf⟩
    have hf1 : Fr w w1 (Cl.own B gc bt bd bf) := hf.weak (fun _ _ e => e.elim)
    refine ⟨0, 3, rfl, fwd hf1, (refDo_name w1 P rd rc tv kv fv s tok kind 0 m v a (h.fr hf).r (hMP w1 hf1) hbk hk hA hN).mono ?_⟩
    rintro o2 w2 ⟨rfl, hr, hf2⟩
    exact ⟨rfl, fin (h.fr hf) hf1 hr (Newer.refl P) hf2 (fun _ hx => .inl hx) (t.more (by omega) hn)⟩
  | true =>
    by_cases hfl : D.fails
    · refine (createErr w B g gc bt bd bf D q given calls _ Di Fa tok kind m v _ _ _ _ _ h.cl hMo hbk hk hA hN 10 D.fell calls Fa (fun W hW => begin_down W B g gc bt bd bf D q given calls _ Di Fa hW (by omega) t.lf hfl)).mono ?_
      rintro o w1 ⟨rfl, hcl, hf⟩
      have hf1 : Fr w w1 (Cl.own B gc bt bd bf) := hf.weak (fun c _ e => hown c e)
      have h1 := h.prog (Q2 := Q) hcl hf1 (fun _ hx => .inl hx)
      refine ⟨0, 10, rfl, fwd hf1, ?_⟩
      cases hd : s.down with
      | true =>
        refine (refDo_down1 w1 P rd rc tv kv fv s tok kind 0 m v a h1.r (hMP w1 hf1) hbk hk hA hN hb hd).mono ?_
        rintro o2 w2 ⟨rfl, hr, hf2⟩
        exact ⟨rfl, fin h1 hf1 hr (Newer.refl P) hf2 (fun _ hx => .inl hx) ((t.fell2 hd).more (by omega) hn)⟩
      | false =>
        have h0 : s.fuse = 0 := by
          rcases t.fails.1 hfl with e | e
          · rw [hd] at e; cases e
          · exact e
        refine (refDo_fall1 w1 P rd rc tv kv fv s tok kind 0 m v a h1.r (hMP w1 hf1) hbk hk hA hN hb hd h0).mono ?_
        rintro o2 w2 ⟨rfl, hr, hf2⟩
        exact ⟨rfl, fin h1 hf1 hr (Newer.refl P) hf2 (fun _ hx => .inl hx) (t.fell.more (by omega) hn)⟩
    · have hd : s.down = false := by
        cases hd : s.down with
        | false => rfl
        | true => exact absurd (t.fails.2 (.inl hd)) hfl
      have h0 : s.fuse ≠ 0 := fun e => hfl (t.fails.2 (.inr e))
      have ts := t.step hfl hn
      cases hFa : T.get Fa calls with
      | some x =>
        have hx := t.fz calls x hFa
        subst hx
        refine (createErr w B g gc bt bd bf D q given calls _ Di Fa tok kind m v _ _ _ _ _ h.cl hMo hbk hk hA hN 12 D.step (calls + 1) (T.del Fa calls) (fun W hW => begin_busy W B g gc bt bd bf D q given calls _ Di Fa hW (by omega) t.lf hfl (by omega) hFa)).mono ?_
        rintro o w1 ⟨rfl, hcl, hf⟩
        have hf1 : Fr w w1 (Cl.own B gc bt bd bf) := hf.weak (fun c _ e => hown c e)
        have h1 := h.prog (Q2 := Q) hcl hf1 (fun _ hx => .inl hx)
        have hbs2 : s.calls ∈ s.fails := by
          rw [t.ca]
          exact (t.fl calls (by omega)).1 (by rw [hFa]; rfl)
        refine ⟨0, 12, rfl, fwd hf1, (refDo_busy1 w1 P rd rc tv kv fv s tok kind 0 m v a h1.r (hMP w1 hf1) hbk hk hA hN hb hd h0 hbs2).mono ?_⟩
        rintro o2 w2 ⟨rfl, hr, hf2⟩
        exact ⟨rfl, fin h1 hf1 hr (Newer.refl P) hf2 (fun _ hx => .inl hx) ts.used⟩
      | none =>
        have hbs2 : s.calls ∉ s.fails := fun e => by
          rw [t.ca] at e
          have := (t.fl calls (by omega)).2 e
          rw [hFa] at this
          cases this
        cases hp : S.get Di tok with
        | some x =>
          have h1k := t.tk tok
          rw [hp] at h1k
          cases hfd : s.toks.find? (fun d => d.1.toList == tok.toList) with
          | none => rw [hfd] at h1k; cases h1k
          | some d =>
            rw [hfd] at h1k
            have hx : x = dval (d.2.1, if d.2.1 = 1 then d.2.2 else 0) := by simpa using h1k
            subst hx
            refine (createOld w B g gc bt bd bf D q given calls _ Di Fa tok kind m v _ _ _ _ _ h.cl hMo hbk hk hA hN (by omega) t.lf hfl (by omega) hFa _ hp).mono ?_
            rintro o w1 ⟨rfl, hcl, hf⟩
            have hf1 : Fr w w1 (Cl.own B gc bt bd bf) := hf.weak (fun c _ e => hown c (e.imp (fun e => e) .inl))
            have h1 := h.prog (Q2 := Q) hcl hf1 (fun _ hx => .inl hx)
            refine ⟨if d.2.1 = 1 then d.2.2 else 0, if d.2.1 = 1 then 0 else 15, by simp only; split <;> rfl, fwd hf1, (refDo_old1 w1 P rd rc tv kv fv s tok kind 0 m v a h1.r (hMP w1 hf1) hbk hk hA hN hb hd h0 hbs2 d hfd).mono ?_⟩
            rintro o2 w2 ⟨rfl, hr, hf2⟩
            exact ⟨by split <;> rfl, fin h1 hf1 hr (Newer.refl P) hf2 (fun _ hx => .inl hx) ts⟩
        | none =>
          by_cases hfu : q ≤ (Q.length : Int)
          · refine (createFull w B g gc bt bd bf D q given calls _ Di Fa tok kind m v _ _ _ _ _ h.cl hMo hbk hk hA hN (by omega) t.lf hfl (by omega) hFa hp (by rw [List.length_map]; exact hfu) h.hB).mono ?_
            rintro o w1 ⟨rfl, hcl, hf⟩
            have hf1 : Fr w w1 (Cl.own B gc bt bd bf) := hf.weak (fun c _ e => hown2 c e)
            have h1 := h.prog (Q2 := Q) hcl hf1 (fun _ hx => .inl hx)
            refine ⟨0, 13, rfl, fwd hf1, (refDo_full w1 P rd rc tv kv fv s tok kind 0 m v a h1.r (hMP w1 hf1) hbk hk hA hN hb hd h0 hbs2 (t.no_tok hp) (by rw [t.qu, t.len]; exact hfu)).mono ?_⟩
            rintro o2 w2 ⟨rfl, hr, hf2⟩
            exact ⟨rfl, fin h1 hf1 hr (Newer.refl P) hf2 (fun _ hx => .inl hx) ts⟩
          · have hbg := t.bg
            refine (createNewZ w B g gc bt bd bf D q given calls _ Di Fa tok kind m v _ _ _ _ _ h.cl (Zs B P gc bt bd bf) (fun _ e => .inl e) h.lt hM hbk hk hA hN (by omega) t.lf hfl (by omega) hFa hp (by rw [List.length_map]; exact hfu) (by omega) h.hB).mono ?_
            rintro o w1 ⟨rfl, Th1, ⟨t0, t1, t2, t3, rfl⟩, hcl, hf⟩
            have hf1 : Fr w w1 (Cl.own B gc bt bd bf) := hf.weak (fun c _ e => hown2 c e)
            have hne : ∀ x ∈ Q, x.1.id ≠ given + 1 := fun x hx => by have := (t.ids x hx).2; omega
            rcases Tv.split (given + 1) Q with ⟨_, _, hput⟩ | ⟨Q1, x, Q2, rfl, hx, _⟩
            rotate_left
            · exact absurd hx (hne x (by simp))
            rw [hput t0 v t1] at hcl
            have hok0 : Tv.Ok (Zs B P gc bt bd bf) m w1 (t0, v) := ⟨t3, hbk, by show 0 ≤ t0.id ∧ t0.id ≤ 1000000; omega⟩
            have h1 := h.prog hcl hf1 (fun x hx => by
              rcases List.mem_append.1 hx with hx | hx
              · exact .inl hx
              · have e : x = (t0, v) := by simpa using hx
                exact .inr (by rw [e]; exact hok0))
            refine ⟨given + 1, 0, rfl, fwd hf1, ?_⟩
            have hnx : s.next = given + 1 := t.nx
            refine (refDo_new w1 P rd rc tv kv fv s tok kind 0 m v a h1.r (hMP w1 hf1) hbk hk hA hN hb hd h0 hbs2 (t.no_tok hp) (by rw [t.qu, t.len]; exact hfu) (by omega)).mono ?_
            rintro o2 w2 ⟨rfl, P2, tv2, kv2, hnw, hr, hf2⟩
            have hpush := ts_push t.ts t.ids t.nd (({ a with id := s.next, kind := kind }, v) : Tv) (t0, v) (by show ((s.next, kind, v) : Td) = (t0.id, t0.kind, v); rw [hnx, t1, t2]) t1
            refine ⟨by rw [hnx]; rfl, fin h1 hf1 hr hnw hf2 (fun x hx => ?_) { ts with nd := hpush.2, ids := (fun x hx => ?_), ts := hpush.1, nx := by show s.next + 1 = _; omega, tk := ?_, bg := by omega, bq := ?_, bk := ?_ }⟩
            · rcases List.mem_append.1 hx with hx | hx
              · exact .inl hx
              · have e : x = ({ a with id := s.next, kind := kind }, v) := by simpa using hx
                refine .inr ?_
                rw [e]
                exact ⟨hM.fr (hf1.weak (fun _ _ e => .inl e)), hbk, by show 0 ≤ s.next ∧ s.next ≤ 1000000; omega⟩
            · rcases List.mem_append.1 hx with hx | hx
              · have := t.ids x hx; omega
              · have e : x = (t0, v) := by simpa using hx
                rw [e]
                show 1 ≤ t0.id ∧ t0.id ≤ given + 1
                omega
            · exact tk_put t.tk tok hp 1 (given + 1) s.next (by simp [hnx])
            · have := t.bq
              simp
              omega
            · have := t.bk
              show (s.toks ++ [(tok, 1, s.next)]).length ≤ _
              simp
              omega
end
end Go.Proofs.Ytlmkpjdaoinmoaa
namespace Go.Proofs.Ytlmkpjdaoinmoaa
open Go.RowKit
open Go.MapKept (bytes_beq)
def newV (id : Int) (v : Val) (d : Td) : Td := if d.1 = id then (d.1, d.2.1, v) else d
theorem newV_fst (id : Int) (v : Val) (d : Td) : (newV id v d).1 = d.1 := by unfold newV; split <;> rfl
theorem upd_map {Q1 Q2 : List Tv} {x y : Tv} {id : Int} {v : Val} (hnd : ((Q1 ++ x :: Q2).map (fun x => x.1.id)).Nodup) (hx : x.1.id = id) (hy : y.1.id = id) (hk : y.1.kind = x.1.kind) (hv : y.2 = v) : (Q1 ++ y :: Q2).map Tv.md = ((Q1 ++ x :: Q2).map Tv.md).map (newV id v) := by
  have h1 : ∀ z ∈ Q1, newV id v (Tv.md z) = Tv.md z := fun z hz => by
    rw [List.map_append, List.nodup_append] at hnd
    have : z.1.id ≠ x.1.id := hnd.2.2 _ (List.mem_map.2 ⟨z, hz, rfl⟩) _ (List.mem_map.2 ⟨x, by simp, rfl⟩)
    unfold newV
    rw [if_neg (fun e => this (by rw [hx]; exact e))]
  have h2 : ∀ z ∈ Q2, newV id v (Tv.md z) = Tv.md z := fun z hz => by
    rw [List.map_append, List.nodup_append] at hnd
    have h3 := hnd.2.1
    rw [List.map_cons, List.nodup_cons] at h3
    unfold newV
    rw [if_neg (fun e => h3.1 (List.mem_map.2 ⟨z, hz, by rw [hx]; exact e⟩))]
  rw [List.map_append, List.map_append, List.map_append, List.map_cons, List.map_cons, List.map_cons, List.map_map, List.map_map]
  congr 1
  · exact List.map_congr_left (fun z hz => (h1 z hz).symm)
  · congr 1
    · show (y.1.id, y.1.kind, y.2) = newV id v (x.1.id, x.1.kind, x.2)
      unfold newV
      rw [if_pos hx, hy, hk, hv, hx]
    · exact List.map_congr_left (fun z hz => (h2 z hz).symm)
theorem sort_newV (id : Int) (v : Val) (L : List Td) : (Td.sort L).map (newV id v) = Td.sort (L.map (newV id v)) := by
  unfold Td.sort
  exact List.map_mergeSort (fun a _ b _ => by rw [newV_fst, newV_fst])
theorem less_map (L : List Tv) (id : Int) : (lessT L id).map Tv.md = (L.map Tv.md).filter (fun d => decide (d.1 ≠ id)) := by
  unfold lessT
  rw [List.filter_map]
  rfl
theorem less_eq {Q1 Q2 : List Tv} {x : Tv} {id : Int} (hnd : ((Q1 ++ x :: Q2).map (fun x => x.1.id)).Nodup) (hx : x.1.id = id) : lessT (Q1 ++ x :: Q2) id = Q1 ++ Q2 := by
  have h1 : ∀ z ∈ Q1, z.1.id ≠ id := fun z hz => by
    rw [List.map_append, List.nodup_append] at hnd
    have : z.1.id ≠ x.1.id := hnd.2.2 _ (List.mem_map.2 ⟨z, hz, rfl⟩) _ (List.mem_map.2 ⟨x, by simp, rfl⟩)
    rwa [hx] at this
  have h2 : ∀ z ∈ Q2, z.1.id ≠ id := fun z hz e => by
    rw [List.map_append, List.nodup_append] at hnd
    have h3 := hnd.2.1
    rw [List.map_cons, List.nodup_cons] at h3
    exact h3.1 (List.mem_map.2 ⟨z, hz, by rw [hx]; exact e⟩)
  unfold lessT
  rw [List.filter_append, List.filter_cons_of_neg (by simp [hx]), List.filter_eq_self.2 (fun z hz => by simp [h1 z hz]), List.filter_eq_self.2 (fun z hz => by simp [h2 z hz])]
theorem sort_less (id : Int) {A L : List Td} (h : A = Td.sort L) (hn : (L.map (·.1)).Nodup) : A.filter (fun d => decide (d.1 ≠ id)) = Td.sort (L.filter (fun d => decide (d.1 ≠ id))) := by
  refine Td.sort_eq ?_ ?_ (hn.sublist ((List.filter_sublist).map _))
  · rw [h]
    exact (List.mergeSort_perm _ _).filter _
  · rw [h]
    have := List.pairwise_mergeSort (le := fun a b : Td => decide (a.1 ≤ b.1)) (fun a b c h1 h2 => by simp at h1 h2 ⊢; omega) (fun a b => by simp; omega) L
    exact (this.imp (fun h => by simpa using h)).filter _
section
variable {m L : Nat} {w : World} {B P : Nat → Prop} {g gc bt bd bf rd rc : Nat} {D : Dk} {q given calls : Int} {Q : List Tv} {Di : List (ByteArray × Value)} {Fa : List (Int × Value)} {tv kv fv : Value} {s : Rm} {n : Nat}
theorem Ti.nds (t : Ti q D given calls Q Di Fa s n) : (s.things.map (fun x => x.1.id)).Nodup := by
  have h1 : (s.things.map Tv.md).Perm (Q.map Tv.md) := by rw [t.ts]; exact List.mergeSort_perm _ _
  have h2 := h1.map (·.1)
  rw [List.map_map, List.map_map] at h2
  exact h2.nodup_iff.2 t.nd
/-- The reference's call first, and the program's. -/
theorem Mm.fin2 (_h : Mm m w B P g gc bt bd bf rd rc D q given calls Q Di Fa tv kv fv s) (hL : ∀ c, Zs B P gc bt bd bf c → L ≤ c) (hLw : L ≤ w.heap.size) (kb : Nat) (hkb : ¬ Zs B P gc bt bd bf kb) {w1 w2 : World} {P2 : Nat → Prop} {D2 : Dk} {given2 calls2 : Int} {Q2 : List Tv} {Di2 : List (ByteArray × Value)} {Fa2 : List (Int × Value)} {tv2 kv2 fv2 : Value} {s2 : Rm} (h1 : Mm m w1 B P2 g gc bt bd bf rd rc D q given calls Q Di Fa tv2 kv2 fv2 s2) (hnw : Newer w w1 P P2) (hf1 : Fr w w1 P) (hcl : Cl w2 B g gc bt bd bf D2 q given2 calls2 (Q2.map Tv.ent) Di2 Fa2) (hf2 : Fr w1 w2 (Cl.own B gc bt bd bf)) (hQ : ∀ x ∈ Q2, x ∈ Q ∨ Tv.Ok (Zs B P2 gc bt bd bf) m w2 x) (n2 : Nat) (ht : Ti q D2 given2 calls2 Q2 Di2 Fa2 s2 n2) : Jx m L w2 g gc bt bd bf rd rc q n2 ∧ Fr w w2 (Fk L kb) := by
  have hfk : ∀ c, Zs B P gc bt bd bf c → Fk L kb c := fun c hc => ⟨hL c hc, fun e => hkb (e ▸ hc)⟩
  refine ⟨⟨B, P2, D2, given2, calls2, Q2, Di2, Fa2, tv2, kv2, fv2, s2, h1.prog hcl hf2 hQ, ht, fun c hc => ?_⟩, (hf1.weak (fun c _ e => hfk c (.inr e))).trans hf2 (fun c _ e => hfk c (.inl e))⟩
  rcases hc with hc | hc
  · exact hL c (.inl hc)
  · rcases hnw.2 c hc with e | e
    · exact hL c (.inr e)
    · omega
theorem Zs.newer {w w1 : World} {B P P2 : Nat → Prop} {gc bt bd bf : Nat} (hn : Newer w w1 P P2) (c : Nat) (hc : Zs B P2 gc bt bd bf c) : Zs B P gc bt bd bf c ∨ w.heap.size ≤ c := by
  rcases hc with hc | hc
  · exact .inl (.inl hc)
  · rcases hn.2 c hc with e | e
    · exact .inl (.inr e)
    · exact .inr e.1
theorem update_arm (h : Mm m w B P g gc bt bd bf rd rc D q given calls Q Di Fa tv kv fv s) (t : Ti q D given calls Q Di Fa s n) (hn : n + 1 ≤ 800) (hL : ∀ c, Zs B P gc bt bd bf c → L ≤ c) (hLw : L ≤ w.heap.size) (kb : Nat) (hkb : ¬ Zs B P gc bt bd bf kb) (tok kind : ByteArray) (id : Int) (v : Val) (a : Tg) (hM : V.MemX (Zs B P gc bt bd bf) (m + 1) w v a.cells) (hbk : V.bulk (m + 1) v ≤ 2000000) (hk : kind.size ≤ maxLen) :
    Calls Try.prog 13 #[.pointer (some ⟨rc, 0, none⟩), .int .i64 2, .string tok, .string kind, .int .i64 id, a5 a] w fun o w1 => ∃ (r : Int) (e : Nat), o = .returned (.tuple #[.int .i64 r, .int .i64 e]) ∧ Fr w w1 (Fk L kb) ∧
      Calls Try.prog 14 #[.pointer (some ⟨gc, 0, none⟩), .string tok, .int .i64 id, a5 a] w1 fun o2 w2 => o2 = .returned (V.errOf e) ∧ Jx m L w2 g gc bt bd bf rd rc q (n + 1) ∧ Fr w w2 (Fk L kb) := by
  have hfk : ∀ c, Zs B P gc bt bd bf c → Fk L kb c := fun c hc => ⟨hL c hc, fun e => hkb (e ▸ hc)⟩
  have hMP : V.MemX P (m + 1) w v a.cells := hM.more (fun c hc => .inl (.inr hc))
  have hMZ : ∀ {w1 : World} {P2 : Nat → Prop}, Newer w w1 P P2 → Fr w w1 P → V.MemX (Zs B P2 gc bt bd bf) (m + 1) w1 v a.cells := fun hnw hf => (hM.more (Zs.newer hnw)).fr (hf.weak (fun c _ e => .inr (hnw.1 c e)))
  have hMo : ∀ {w1 : World}, Fr w w1 P → V.MemX (Cl.own B gc bt bd bf) (m + 1) w1 v a.cells := fun hf => (hMZ (Newer.refl P) hf).more (fun c hc => .inl (.inl hc))
  have hb := t.bounds
  have hbc := t.bc
  have hbs := t.bs
  have hbn := t.bn
  have hgB := h.cl.disk.has_g
  have hown : ∀ c, (c = g ∨ c = gc ∨ c = bf) → Cl.own B gc bt bd bf c := fun c e => by
    rcases e with rfl | rfl | rfl
    · exact .inl hgB
    · exact .inr (.inl rfl)
    · exact .inr (.inr (.inr (.inr rfl)))
  have hown2 : ∀ c, (c = g ∨ c = gc ∨ c = bt ∨ c = bd) → Cl.own B gc bt bd bf c := fun c e => by
    rcases e with rfl | rfl | rfl | rfl
    · exact .inl hgB
    · exact .inr (.inl rfl)
    · exact .inr (.inr (.inl rfl))
    · exact .inr (.inr (.inr (.inl rfl)))
  have fwd : ∀ {w1 : World}, Fr w w1 P → Fr w w1 (Fk L kb) := fun hf => hf.weak (fun c _ e => hfk c (.inr e))
  unfold a5
  by_cases hA : attrE (m + 1) v = 0
  rotate_left
  · refine (refDo_bad2 w P rd rc tv kv fv s tok kind id m v a h.r hMP hbk hk hA).mono ?_
    rintro o w1 ⟨rfl, hr, hf1⟩
    have h1 := h.ref hr (Newer.refl P) hf1 (fun _ hx => .inl hx)
    refine ⟨0, _, rfl, fwd hf1, (updateBad w1 B g gc bt bd bf D q given calls _ Di Fa tok id m v _ _ _ _ _ h1.cl (hMo hf1) hbk hA).mono ?_⟩
    rintro o2 w2 ⟨rfl, hcl, hf2⟩
    exact ⟨rfl, h.fin2 hL hLw kb hkb h1 (Newer.refl P) hf1 hcl (hf2.weak (fun _ _ e => e.elim)) (fun _ hx => .inl hx) _ (t.more (by omega) hn)⟩
  by_cases hfl : D.fails
  · have prog : ∀ {w1 : World} {s2 : Rm}, Rc w1 P rd rc tv kv fv s2 → Fr w w1 P → s2.things = s.things → Ti q D.fell given calls Q Di Fa s2 (n + 1) → Calls Try.prog 14 #[.pointer (some ⟨gc, 0, none⟩), .string tok, .int .i64 id, .agg #[.int .i64 a.k, .int .i64 a.n, .string a.s, .slice a.la a.ln a.lc, .slice a.fa a.fn a.fc]] w1 fun o2 w2 => o2 = .returned (V.errOf 10) ∧ Jx m L w2 g gc bt bd bf rd rc q (n + 1) ∧ Fr w w2 (Fk L kb) := by
      intro w1 s2 hr hf1 he ht
      have h1 := h.ref hr (Newer.refl P) hf1 (fun _ hx => .inl (he ▸ hx))
      refine (updateErr w1 B g gc bt bd bf D q given calls _ Di Fa tok id m v _ _ _ _ _ h1.cl (hMo hf1) hbk hA 10 D.fell calls Fa (fun W hW => begin_down W B g gc bt bd bf D q given calls _ Di Fa hW (by omega) t.lf hfl)).mono ?_
      rintro o2 w2 ⟨rfl, hcl, hf2⟩
      exact ⟨rfl, h.fin2 hL hLw kb hkb h1 (Newer.refl P) hf1 hcl (hf2.weak (fun c _ e => hown c e)) (fun _ hx => .inl hx) _ ht⟩
    cases hd : s.down with
    | true =>
      refine (refDo_down2 w P rd rc tv kv fv s tok kind id m v a h.r hMP hbk hk hA hb hd).mono ?_
      rintro o w1 ⟨rfl, hr, hf1⟩
      exact ⟨0, 10, rfl, fwd hf1, prog hr hf1 rfl ((t.fell2 hd).more (by omega) hn)⟩
    | false =>
      have h0 : s.fuse = 0 := by
        rcases t.fails.1 hfl with e | e
        · rw [hd] at e; cases e
        · exact e
      refine (refDo_fall2 w P rd rc tv kv fv s tok kind id m v a h.r hMP hbk hk hA hb hd h0).mono ?_
      rintro o w1 ⟨rfl, hr, hf1⟩
      exact ⟨0, 10, rfl, fwd hf1, prog hr hf1 rfl (t.fell.more (by omega) hn)⟩
  have hd : s.down = false := by
    cases hd : s.down with
    | false => rfl
    | true => exact absurd (t.fails.2 (.inl hd)) hfl
  have h0 : s.fuse ≠ 0 := fun e => hfl (t.fails.2 (.inr e))
  have ts := t.step hfl hn
  cases hFa : T.get Fa calls with
  | some x =>
    have hx := t.fz calls x hFa
    subst hx
    have hbs2 : s.calls ∈ s.fails := by
      rw [t.ca]
      exact (t.fl calls (by omega)).1 (by rw [hFa]; rfl)
    refine (refDo_busy2 w P rd rc tv kv fv s tok kind id m v a h.r hMP hbk hk hA hb hd h0 hbs2).mono ?_
    rintro o w1 ⟨rfl, hr, hf1⟩
    have h1 := h.ref hr (Newer.refl P) hf1 (fun _ hx => .inl hx)
    refine ⟨0, 12, rfl, fwd hf1, (updateErr w1 B g gc bt bd bf D q given calls _ Di Fa tok id m v _ _ _ _ _ h1.cl (hMo hf1) hbk hA 12 D.step (calls + 1) (T.del Fa calls) (fun W hW => begin_busy W B g gc bt bd bf D q given calls _ Di Fa hW (by omega) t.lf hfl (by omega) hFa)).mono ?_⟩
    rintro o2 w2 ⟨rfl, hcl, hf2⟩
    exact ⟨rfl, h.fin2 hL hLw kb hkb h1 (Newer.refl P) hf1 hcl (hf2.weak (fun c _ e => hown c e)) (fun _ hx => .inl hx) _ ts.used⟩
  | none =>
    have hbs2 : s.calls ∉ s.fails := fun e => by
      rw [t.ca] at e
      have := (t.fl calls (by omega)).2 e
      rw [hFa] at this
      cases this
    cases hp : S.get Di tok with
    | some x =>
      have h1k := t.tk tok
      rw [hp] at h1k
      cases hfd : s.toks.find? (fun d => d.1.toList == tok.toList) with
      | none => rw [hfd] at h1k; cases h1k
      | some d =>
        rw [hfd] at h1k
        have hx : x = dval (d.2.1, if d.2.1 = 1 then d.2.2 else 0) := by simpa using h1k
        subst hx
        refine (refDo_old2 w P rd rc tv kv fv s tok kind id m v a h.r hMP hbk hk hA hb hd h0 hbs2 d hfd).mono ?_
        rintro o w1 ⟨rfl, hr, hf1⟩
        have h1 := h.ref hr (Newer.refl P) hf1 (fun _ hx => .inl hx)
        refine ⟨if d.2.1 = 2 then d.2.2 else 0, if d.2.1 = 2 then 0 else 15, by split <;> rfl, fwd hf1, (updateOld w1 B g gc bt bd bf D q given calls _ Di Fa tok id m v _ _ _ _ _ h1.cl (hMo hf1) hbk hA (by omega) t.lf hfl (by omega) hFa _ hp).mono ?_⟩
        rintro o2 w2 ⟨rfl, hcl, hf2⟩
        exact ⟨rfl, h.fin2 hL hLw kb hkb h1 (Newer.refl P) hf1 hcl (hf2.weak (fun c _ e => hown c (e.imp (fun e => e) .inl))) (fun _ hx => .inl hx) _ ts⟩
    | none =>
      rcases Tv.split id Q with ⟨hg0, hne, _⟩ | ⟨Q1, x, Q2, rfl, hx, hg0, hput, _⟩
      · have hin : ∀ x ∈ s.things, x.1.id ≠ id := fun x hx e => by
          obtain ⟨y, hy, e2⟩ := (t.has id).1 ⟨x, hx, e⟩
          exact hne y hy e2
        refine (refDo_none2 w P rd rc tv kv fv s tok kind id m v a h.r hMP hbk hk hA hb hd h0 hbs2 (t.no_tok hp) hin).mono ?_
        rintro o w1 ⟨rfl, hr, hf1⟩
        have h1 := h.ref hr (Newer.refl P) hf1 (fun _ hx => .inl hx)
        refine ⟨0, 7, rfl, fwd hf1, (updateNone w1 B g gc bt bd bf D q given calls _ Di Fa tok id m v _ _ _ _ _ h1.cl (hMo hf1) hbk hA (by omega) t.lf hfl (by omega) hFa hp (ent_val _) hg0 h1.hB).mono ?_⟩
        rintro o2 w2 ⟨rfl, hcl, hf2⟩
        exact ⟨rfl, h.fin2 hL hLw kb hkb h1 (Newer.refl P) hf1 hcl (hf2.weak (fun c _ e => hown2 c e)) (fun _ hx => .inl hx) _ ts⟩
      · have hxm : x ∈ Q1 ++ x :: Q2 := by simp
        have hin : ∃ x ∈ s.things, x.1.id = id := (t.has id).2 ⟨x, hxm, hx⟩
        refine (refDo_upd w P rd rc tv kv fv s tok kind id m v a h.r hMP hbk hk hA hb hd h0 hbs2 (t.no_tok hp) hin).mono ?_
        rintro o w1 ⟨rfl, k, z, hz, hzi, P2, tv2, kv2, hnw, hr, hf1⟩
        have hzm : z ∈ s.things := List.mem_of_getElem? hz
        have h1 := h.ref hr hnw hf1 (fun y hy => by
          rcases List.mem_or_eq_of_mem_set hy with hy | rfl
          · exact .inl hy
          · exact .inr ⟨hM, hbk, (h.okS z hzm).2.2⟩)
        refine ⟨id, 0, rfl, fwd hf1, (updateNewZ w1 B g gc bt bd bf D q given calls _ Di Fa tok id m v _ _ _ _ _ h1.cl (Zs B P2 gc bt bd bf) (fun _ e => .inl e) h1.lt (hMZ hnw hf1) hbk hA (by omega) t.lf hfl (by omega) hFa hp (ent_val _) x.1 hg0 h1.hB).mono ?_⟩
        rintro o2 w2 ⟨rfl, Th1, ⟨t0, t1, t2, t3, rfl⟩, hcl, hf2⟩
        have hf3 : Fr w1 w2 (Cl.own B gc bt bd bf) := hf2.weak (fun c _ e => hown2 c e)
        rw [hput t0 v (t1.trans hx)] at hcl
        have hmem : ∀ y ∈ Q1 ++ (t0, v) :: Q2, y = (t0, v) ∨ y ∈ Q1 ++ x :: Q2 := fun y hy => by
          rcases List.mem_append.1 hy with hy | hy
          · exact .inr (List.mem_append.2 (.inl hy))
          · rcases List.mem_cons.1 hy with hy | hy
            · exact .inl hy
            · exact .inr (List.mem_append.2 (.inr (List.mem_cons.2 (.inr hy))))
        have hids : (Q1 ++ (t0, v) :: Q2).map (fun x : Tv => x.1.id) = (Q1 ++ x :: Q2).map (fun x => x.1.id) := by simp [t1]
        refine ⟨rfl, h.fin2 hL hLw kb hkb h1 hnw hf1 hcl hf3 (fun y hy => ?_) _ { ts with nd := ?_, ids := (fun y hy => ?_), ts := ?_, tk := ?_, bq := ?_, bk := ?_ }⟩
        · rcases hmem y hy with rfl | hy
          · exact .inr ⟨t3, hbk, by show 0 ≤ t0.id ∧ t0.id ≤ 1000000; rw [t1]; exact (h.okQ x hxm).2.2⟩
          · exact .inl hy
        · rw [hids]
          exact t.nd
        · rcases hmem y hy with rfl | hy
          · show 1 ≤ t0.id ∧ t0.id ≤ given
            rw [t1]
            exact t.ids x hxm
          · exact t.ids y hy
        · have hkl : k < s.things.length := (List.getElem?_eq_some_iff.1 hz).1
          have hsp : s.things = s.things.take k ++ z :: s.things.drop (k + 1) := by
            have h9 : s.things[k] = z := (List.getElem?_eq_some_iff.1 hz).2
            rw [← h9, List.getElem_cons_drop, List.take_append_drop]
          have hnds := t.nds
          rw [hsp] at hnds
          show (s.things.set k (tgPut z.1 a, v)).map Tv.md = _
          rw [List.set_eq_take_append_cons_drop, if_pos hkl, upd_map (y := (tgPut z.1 a, v)) hnds hzi hzi rfl rfl, ← hsp, t.ts, sort_newV, ← upd_map (y := (t0, v)) t.nd hx (t1.trans hx) t2 rfl]
        · exact tk_put t.tk tok hp 2 0 id (by simp)
        · have := t.bq
          simp at this ⊢
          omega
        · have := t.bk
          show (s.toks ++ [(tok, 2, id)]).length ≤ _
          simp
          omega
theorem delete_arm (h : Mm m w B P g gc bt bd bf rd rc D q given calls Q Di Fa tv kv fv s) (t : Ti q D given calls Q Di Fa s n) (hn : n + 1 ≤ 800) (hL : ∀ c, Zs B P gc bt bd bf c → L ≤ c) (hLw : L ≤ w.heap.size) (kb : Nat) (hkb : ¬ Zs B P gc bt bd bf kb) (tok kind : ByteArray) (id : Int) (a : Tg) (hk : kind.size ≤ maxLen) :
    Calls Try.prog 13 #[.pointer (some ⟨rc, 0, none⟩), .int .i64 3, .string tok, .string kind, .int .i64 id, a5 a] w fun o w1 => ∃ (r : Int) (e : Nat), o = .returned (.tuple #[.int .i64 r, .int .i64 e]) ∧ Fr w w1 (Fk L kb) ∧
      Calls Try.prog 15 #[.pointer (some ⟨gc, 0, none⟩), .string tok, .int .i64 id] w1 fun o2 w2 => o2 = .returned (V.errOf e) ∧ Jx m L w2 g gc bt bd bf rd rc q (n + 1) ∧ Fr w w2 (Fk L kb) := by
  have hfk : ∀ c, Zs B P gc bt bd bf c → Fk L kb c := fun c hc => ⟨hL c hc, fun e => hkb (e ▸ hc)⟩
  have hb := t.bounds
  have hbc := t.bc
  have hbs := t.bs
  have hbn := t.bn
  have hgB := h.cl.disk.has_g
  have hown : ∀ c, (c = g ∨ c = gc ∨ c = bf) → Cl.own B gc bt bd bf c := fun c e => by
    rcases e with rfl | rfl | rfl
    · exact .inl hgB
    · exact .inr (.inl rfl)
    · exact .inr (.inr (.inr (.inr rfl)))
  have hown2 : ∀ c, (c = g ∨ c = gc ∨ c = bt ∨ c = bd) → Cl.own B gc bt bd bf c := fun c e => by
    rcases e with rfl | rfl | rfl | rfl
    · exact .inl hgB
    · exact .inr (.inl rfl)
    · exact .inr (.inr (.inl rfl))
    · exact .inr (.inr (.inr (.inl rfl)))
  have fwd : ∀ {w1 : World}, Fr w w1 P → Fr w w1 (Fk L kb) := fun hf => hf.weak (fun c _ e => hfk c (.inr e))
  unfold a5
  by_cases hfl : D.fails
  · have prog : ∀ {w1 : World} {s2 : Rm}, Rc w1 P rd rc tv kv fv s2 → Fr w w1 P → s2.things = s.things → Ti q D.fell given calls Q Di Fa s2 (n + 1) → Calls Try.prog 15 #[.pointer (some ⟨gc, 0, none⟩), .string tok, .int .i64 id] w1 fun o2 w2 => o2 = .returned (V.errOf 10) ∧ Jx m L w2 g gc bt bd bf rd rc q (n + 1) ∧ Fr w w2 (Fk L kb) := by
      intro w1 s2 hr hf1 he ht
      have h1 := h.ref hr (Newer.refl P) hf1 (fun _ hx => .inl (he ▸ hx))
      refine (deleteErr w1 B g gc bt bd bf D q given calls _ Di Fa tok id h1.cl 10 D.fell calls Fa (fun W hW => begin_down W B g gc bt bd bf D q given calls _ Di Fa hW (by omega) t.lf hfl)).mono ?_
      rintro o2 w2 ⟨rfl, hcl, hf2⟩
      exact ⟨rfl, h.fin2 hL hLw kb hkb h1 (Newer.refl P) hf1 hcl (hf2.weak (fun c _ e => hown c e)) (fun _ hx => .inl hx) _ ht⟩
    cases hd : s.down with
    | true =>
      refine (refDo_down3 w P rd rc tv kv fv s tok kind id a h.r hk hb hd).mono ?_
      rintro o w1 ⟨rfl, hr, hf1⟩
      exact ⟨0, 10, rfl, fwd hf1, prog hr hf1 rfl ((t.fell2 hd).more (by omega) hn)⟩
    | false =>
      have h0 : s.fuse = 0 := by
        rcases t.fails.1 hfl with e | e
        · rw [hd] at e; cases e
        · exact e
      refine (refDo_fall3 w P rd rc tv kv fv s tok kind id a h.r hk hb hd h0).mono ?_
      rintro o w1 ⟨rfl, hr, hf1⟩
      exact ⟨0, 10, rfl, fwd hf1, prog hr hf1 rfl (t.fell.more (by omega) hn)⟩
  have hd : s.down = false := by
    cases hd : s.down with
    | false => rfl
    | true => exact absurd (t.fails.2 (.inl hd)) hfl
  have h0 : s.fuse ≠ 0 := fun e => hfl (t.fails.2 (.inr e))
  have ts := t.step hfl hn
  cases hFa : T.get Fa calls with
  | some x =>
    have hx := t.fz calls x hFa
    subst hx
    have hbs2 : s.calls ∈ s.fails := by
      rw [t.ca]
      exact (t.fl calls (by omega)).1 (by rw [hFa]; rfl)
    refine (refDo_busy3 w P rd rc tv kv fv s tok kind id a h.r hk hb hd h0 hbs2).mono ?_
    rintro o w1 ⟨rfl, hr, hf1⟩
    have h1 := h.ref hr (Newer.refl P) hf1 (fun _ hx => .inl hx)
    refine ⟨0, 12, rfl, fwd hf1, (deleteErr w1 B g gc bt bd bf D q given calls _ Di Fa tok id h1.cl 12 D.step (calls + 1) (T.del Fa calls) (fun W hW => begin_busy W B g gc bt bd bf D q given calls _ Di Fa hW (by omega) t.lf hfl (by omega) hFa)).mono ?_⟩
    rintro o2 w2 ⟨rfl, hcl, hf2⟩
    exact ⟨rfl, h.fin2 hL hLw kb hkb h1 (Newer.refl P) hf1 hcl (hf2.weak (fun c _ e => hown c e)) (fun _ hx => .inl hx) _ ts.used⟩
  | none =>
    have hbs2 : s.calls ∉ s.fails := fun e => by
      rw [t.ca] at e
      have := (t.fl calls (by omega)).2 e
      rw [hFa] at this
      cases this
    cases hp : S.get Di tok with
    | some x =>
      have h1k := t.tk tok
      rw [hp] at h1k
      cases hfd : s.toks.find? (fun d => d.1.toList == tok.toList) with
      | none => rw [hfd] at h1k; cases h1k
      | some d =>
        rw [hfd] at h1k
        have hx : x = dval (d.2.1, if d.2.1 = 1 then d.2.2 else 0) := by simpa using h1k
        subst hx
        refine (refDo_old3 w P rd rc tv kv fv s tok kind id a h.r hk hb hd h0 hbs2 d hfd).mono ?_
        rintro o w1 ⟨rfl, hr, hf1⟩
        have h1 := h.ref hr (Newer.refl P) hf1 (fun _ hx => .inl hx)
        refine ⟨if d.2.1 = 3 then d.2.2 else 0, if d.2.1 = 3 then 0 else 15, by split <;> rfl, fwd hf1, (delete_any w1 B g gc bt bd bf D q given calls _ Di Fa tok id (some (d.2.1, if d.2.1 = 1 then d.2.2 else 0)) h1.cl h1.hB hp (ent_val _) (by omega) t.lf hfl (by omega) hFa).mono ?_⟩
        rintro o2 w2 ⟨rfl, hcl, hf2⟩
        rw [if_neg (by simp), if_neg (by simp)] at hcl
        exact ⟨rfl, h.fin2 hL hLw kb hkb h1 (Newer.refl P) hf1 hcl (hf2.weak (fun c _ e => hown2 c e)) (fun _ hx => .inl hx) _ ts⟩
    | none =>
      rcases Tv.split id Q with ⟨hg0, hne, _⟩ | ⟨Q1, x, Q2, rfl, hx, hg0, _, hdel⟩
      · have hin : ∀ x ∈ s.things, x.1.id ≠ id := fun x hx e => by
          obtain ⟨y, hy, e2⟩ := (t.has id).1 ⟨x, hx, e⟩
          exact hne y hy e2
        refine (refDo_none3 w P rd rc tv kv fv s tok kind id a h.r hk hb hd h0 hbs2 (t.no_tok hp) hin).mono ?_
        rintro o w1 ⟨rfl, hr, hf1⟩
        have h1 := h.ref hr (Newer.refl P) hf1 (fun _ hx => .inl hx)
        refine ⟨0, 7, rfl, fwd hf1, (delete_any w1 B g gc bt bd bf D q given calls _ Di Fa tok id none h1.cl h1.hB hp (ent_val _) (by omega) t.lf hfl (by omega) hFa).mono ?_⟩
        rintro o2 w2 ⟨rfl, hcl, hf2⟩
        rw [hg0, if_neg (by simp), if_neg (by simp)] at hcl
        exact ⟨by rw [hg0]; rfl, h.fin2 hL hLw kb hkb h1 (Newer.refl P) hf1 hcl (hf2.weak (fun c _ e => hown2 c e)) (fun _ hx => .inl hx) _ ts⟩
      · have hxm : x ∈ Q1 ++ x :: Q2 := by simp
        have hin : ∃ x ∈ s.things, x.1.id = id := (t.has id).2 ⟨x, hxm, hx⟩
        refine (refDo_del w P rd rc tv kv fv s tok kind id a h.r hk hb hd h0 hbs2 (t.no_tok hp) hin).mono ?_
        rintro o w1 ⟨rfl, P2, tv2, kv2, hnw, hr, hf1⟩
        have h1 := h.ref hr hnw hf1 (fun y hy => .inl ((List.mem_filter.1 hy).1))
        refine ⟨id, 0, rfl, fwd hf1, (delete_any w1 B g gc bt bd bf D q given calls _ Di Fa tok id none h1.cl h1.hB hp (ent_val _) (by omega) t.lf hfl (by omega) hFa).mono ?_⟩
        rintro o2 w2 ⟨rfl, hcl, hf2⟩
        rw [hg0, if_pos (by simp), if_pos (by simp), hdel] at hcl
        have hsub : (Q1 ++ Q2).Sublist (Q1 ++ x :: Q2) := List.Sublist.append (List.Sublist.refl _) (List.sublist_cons_self _ _)
        refine ⟨by rw [hg0]; rfl, h.fin2 hL hLw kb hkb h1 hnw hf1 hcl (hf2.weak (fun c _ e => hown2 c e)) (fun y hy => .inl (hsub.subset hy)) _ { ts with nd := t.nd.sublist (hsub.map _), ids := (fun y hy => t.ids y (hsub.subset hy)), ts := ?_, tk := tk_put t.tk tok hp 3 0 id (by simp), bq := ?_, bk := ?_ }⟩
        · show (lessT s.things id).map Tv.md = _
          rw [less_map, ← less_eq t.nd hx, less_map]
          exact sort_less id t.ts (by rw [List.map_map]; exact t.nd)
        · have := t.bq
          simp at this ⊢
          omega
        · have := t.bk
          show (s.toks ++ [(tok, 3, id)]).length ≤ _
          simp
          omega
end
end Go.Proofs.Ytlmkpjdaoinmoaa
namespace Go.Proofs.Ytlmkpjdaoinmoaa
open Go.RowKit
theorem del_none {Q : List Tv} {id : Int} (h : ∀ x ∈ Q, x.1.id ≠ id) : T.del (Q.map Tv.ent) id = Q.map Tv.ent := by
  induction Q with
  | nil => rfl
  | cons x Q ih =>
    have hb : (id == (Tv.ent x).1) = false := beq_eq_false_iff_ne.2 (fun e => h x (by simp) e.symm)
    rw [List.map_cons, T.del_cons, hb, ih (fun y hy => h y (by simp [hy]))]
    rfl
theorem less_none {Q : List Tv} {id : Int} (h : ∀ x ∈ Q, x.1.id ≠ id) : lessT Q id = Q := List.filter_eq_self.2 (fun z hz => by simp [h z hz])
theorem del_less {Q : List Tv} (id : Int) (hnd : (Q.map (fun x => x.1.id)).Nodup) : T.del (Q.map Tv.ent) id = (lessT Q id).map Tv.ent := by
  rcases Tv.split id Q with ⟨_, hne, _⟩ | ⟨Q1, x, Q2, rfl, hx, _, _, hdel⟩
  · rw [del_none hne, less_none hne]
  · rw [hdel, less_eq hnd hx]
section
variable {m L : Nat} {w : World} {B P : Nat → Prop} {g gc bt bd bf rd rc : Nat} {D : Dk} {q given calls : Int} {Q : List Tv} {Di : List (ByteArray × Value)} {Fa : List (Int × Value)} {tv kv fv : Value} {s : Rm} {n : Nat}
theorem Ti.lose (t : Ti q D given calls Q Di Fa s n) (id : Int) : Ti q D given calls (lessT Q id) Di Fa { s with things := lessT s.things id } n := by
  have hsub : (lessT Q id).Sublist Q := List.filter_sublist
  refine { t with nd := t.nd.sublist (hsub.map _), ids := (fun y hy => t.ids y (hsub.subset hy)), ts := ?_, bq := ?_ }
  · show (lessT s.things id).map Tv.md = _
    rw [less_map, less_map]
    exact sort_less id t.ts (by rw [List.map_map]; exact t.nd)
  · have h1 := t.bq
    have h2 := hsub.length_le
    omega
/-- The program's call first, and the reference's. -/
theorem Mm.fin1 (hL : ∀ c, Zs B P gc bt bd bf c → L ≤ c) (hLw : L ≤ w.heap.size) (kb : Nat) (hkb : ¬ Zs B P gc bt bd bf kb) {w1 w2 : World} {P2 : Nat → Prop} {D2 : Dk} {given2 calls2 : Int} {Q2 : List Tv} {Di2 : List (ByteArray × Value)} {Fa2 : List (Int × Value)} {tv2 kv2 fv2 : Value} {s2 : Rm} (h1 : Mm m w1 B P g gc bt bd bf rd rc D2 q given2 calls2 Q2 Di2 Fa2 tv kv fv s) (hf1 : Fr w w1 (Cl.own B gc bt bd bf)) (hr : Rc w2 P2 rd rc tv2 kv2 fv2 s2) (hnw : Newer w1 w2 P P2) (hf2 : Fr w1 w2 P) (hS : ∀ x ∈ s2.things, x ∈ s.things ∨ Tv.Ok (Zs B P gc bt bd bf) m w1 x) (n2 : Nat) (ht : Ti q D2 given2 calls2 Q2 Di2 Fa2 s2 n2) : Jx m L w2 g gc bt bd bf rd rc q n2 ∧ Fr w w2 (Fk L kb) := by
  have hfk : ∀ c, Zs B P gc bt bd bf c → Fk L kb c := fun c hc => ⟨hL c hc, fun e => hkb (e ▸ hc)⟩
  refine ⟨⟨B, P2, D2, given2, calls2, Q2, Di2, Fa2, tv2, kv2, fv2, s2, h1.ref hr hnw hf2 hS, ht, fun c hc => ?_⟩, (hf1.weak (fun c _ e => hfk c (.inl e))).trans hf2 (fun c _ e => hfk c (.inr e))⟩
  rcases hc with hc | hc
  · exact hL c (.inl hc)
  · rcases hnw.2 c hc with e | e
    · exact hL c (.inr e)
    · have := hf1.size
      omega
theorem lose_arm (h : Mm m w B P g gc bt bd bf rd rc D q given calls Q Di Fa tv kv fv s) (t : Ti q D given calls Q Di Fa s n) (hn : n + 1 ≤ 800) (hL : ∀ c, Zs B P gc bt bd bf c → L ≤ c) (hLw : L ≤ w.heap.size) (kb : Nat) (hkb : ¬ Zs B P gc bt bd bf kb) (id : Int) :
    Calls Try.prog 19 #[.pointer (some ⟨gc, 0, none⟩), .int .i64 id] w fun o w1 => o = .returned (.tuple #[]) ∧ Fr w w1 (Fk L kb) ∧
      Calls Try.prog 20 #[.pointer (some ⟨rc, 0, none⟩), .int .i64 id] w1 fun o2 w2 => o2 = .returned (.tuple #[]) ∧ Jx m L w2 g gc bt bd bf rd rc q (n + 1) ∧ Fr w w2 (Fk L kb) := by
  have hfk : ∀ c, Zs B P gc bt bd bf c → Fk L kb c := fun c hc => ⟨hL c hc, fun e => hkb (e ▸ hc)⟩
  have hb := t.bounds
  refine (lose_any w B g gc bt bd bf D q given calls _ Di Fa id h.cl).mono ?_
  rintro o w1 ⟨rfl, hcl, hf⟩
  have hf1 : Fr w w1 (Cl.own B gc bt bd bf) := hf.weak (fun c _ e => .inr (.inr (.inl e)))
  rw [del_less id t.nd] at hcl
  have h1 := h.prog hcl hf1 (fun x hx => .inl (List.mem_filter.1 hx).1)
  refine ⟨rfl, hf1.weak (fun c _ e => hfk c (.inl e)), (refLose_any w1 P rd rc tv kv fv s id h1.r hb.2.2.2.1).mono ?_⟩
  rintro o2 w2 ⟨rfl, P2, tv2, hnw, hr, hf2⟩
  have hrc : P rc := h.r.pc
  exact ⟨rfl, Mm.fin1 hL hLw kb hkb h1 hf1 hr hnw (hf2.weak (fun c _ e => e ▸ hrc)) (fun x hx => .inl (List.mem_filter.1 hx).1) _ ((t.lose id).more (by omega) hn)⟩
theorem spoil_arm (h : Mm m w B P g gc bt bd bf rd rc D q given calls Q Di Fa tv kv fv s) (t : Ti q D given calls Q Di Fa s n) (hn : n + 1 ≤ 800) (hL : ∀ c, Zs B P gc bt bd bf c → L ≤ c) (hLw : L ≤ w.heap.size) (kb : Nat) (hkb : ¬ Zs B P gc bt bd bf kb) (id : Int) (v : Val) (a : Tg) (hM : V.MemX (Zs B P gc bt bd bf) (m + 1) w v a.cells) (hbk : V.bulk (m + 1) v ≤ 2000000) :
    Calls Try.prog 21 #[.pointer (some ⟨gc, 0, none⟩), .int .i64 id, a5 a] w fun o w1 => o = .returned (.tuple #[]) ∧ Fr w w1 (Fk L kb) ∧
      Calls Try.prog 22 #[.pointer (some ⟨rc, 0, none⟩), .int .i64 id, a5 a] w1 fun o2 w2 => o2 = .returned (.tuple #[]) ∧ Jx m L w2 g gc bt bd bf rd rc q (n + 1) ∧ Fr w w2 (Fk L kb) := by
  have hfk : ∀ c, Zs B P gc bt bd bf c → Fk L kb c := fun c hc => ⟨hL c hc, fun e => hkb (e ▸ hc)⟩
  have hb := t.bounds
  have hMP : ∀ {w1}, Fr w w1 (Cl.own B gc bt bd bf) → V.MemX P (m + 1) w1 v a.cells := fun hf => (hM.fr (hf.weak (fun _ _ e => .inl e))).more (fun c hc => .inl (.inr hc))
  unfold a5
  rcases Tv.split id Q with ⟨hg0, hne, _⟩ | ⟨Q1, x, Q2, rfl, hx, hg0, hput, _⟩
  · have hin : ∀ x ∈ s.things, x.1.id ≠ id := fun x hx e => by
      obtain ⟨y, hy, e2⟩ := (t.has id).1 ⟨x, hx, e⟩
      exact hne y hy e2
    refine (spoil_none w B g gc bt bd bf D q given calls _ Di Fa id m v _ _ _ _ _ h.cl (Zs B P gc bt bd bf) (ent_val _) hM hg0).mono ?_
    rintro o w1 ⟨rfl, hcl, hf⟩
    have hf1 : Fr w w1 (Cl.own B gc bt bd bf) := hf.weak (fun c _ e => e.elim)
    have h1 := h.prog hcl hf1 (fun x hx => .inl hx)
    refine ⟨rfl, hf1.weak (fun c _ e => hfk c (.inl e)), (refSpoil_none w1 P rd rc tv kv fv s id a h1.r hb.2.2.2.1 hin).mono ?_⟩
    rintro o2 w2 ⟨rfl, hr, hf2⟩
    exact ⟨rfl, Mm.fin1 hL hLw kb hkb h1 hf1 hr (Newer.refl P) (hf2.weak (fun c _ e => e.elim)) (fun x hx => .inl hx) _ (t.more (by omega) hn)⟩
  · have hxm : x ∈ Q1 ++ x :: Q2 := by simp
    have hin : ∃ x ∈ s.things, x.1.id = id := (t.has id).2 ⟨x, hxm, hx⟩
    by_cases hA : attrE (m + 1) v = 0
    rotate_left
    · refine (spoil_bad w B g gc bt bd bf D q given calls _ Di Fa id m v _ _ _ _ _ h.cl (Zs B P gc bt bd bf) (ent_val _) hM hbk (by rw [hg0]; rfl) hA).mono ?_
      rintro o w1 ⟨rfl, hcl, hf⟩
      have hf1 : Fr w w1 (Cl.own B gc bt bd bf) := hf.weak (fun c _ e => e.elim)
      have h1 := h.prog hcl hf1 (fun x hx => .inl hx)
      refine ⟨rfl, hf1.weak (fun c _ e => hfk c (.inl e)), (refSpoil_bad w1 P rd rc tv kv fv s id m v a h1.r hb.2.2.2.1 (hMP hf1) hbk hA hin).mono ?_⟩
      rintro o2 w2 ⟨rfl, hr, hf2⟩
      exact ⟨rfl, Mm.fin1 hL hLw kb hkb h1 hf1 hr (Newer.refl P) (hf2.weak (fun c _ e => e.elim)) (fun x hx => .inl hx) _ (t.more (by omega) hn)⟩
    · refine (spoil_yes w B g gc bt bd bf D q given calls _ Di Fa id m v _ _ _ _ _ h.cl (Zs B P gc bt bd bf) (ent_val _) hM (fun _ e => .inl e) h.lt h.hB hbk x.1 hg0 hA).mono ?_
      rintro o w1 ⟨rfl, t0, t1, t2, t3, hcl, hf⟩
      have hf1 : Fr w w1 (Cl.own B gc bt bd bf) := hf.weak (fun c _ e => .inr (.inr (.inl e)))
      rw [hput t0 v (t1.trans hx)] at hcl
      have hmem : ∀ y ∈ Q1 ++ (t0, v) :: Q2, y = (t0, v) ∨ y ∈ Q1 ++ x :: Q2 := fun y hy => by
        rcases List.mem_append.1 hy with hy | hy
        · exact .inr (List.mem_append.2 (.inl hy))
        · rcases List.mem_cons.1 hy with hy | hy
          · exact .inl hy
          · exact .inr (List.mem_append.2 (.inr (List.mem_cons.2 (.inr hy))))
      have hids : (Q1 ++ (t0, v) :: Q2).map (fun x : Tv => x.1.id) = (Q1 ++ x :: Q2).map (fun x => x.1.id) := by simp [t1]
      have h1 := h.prog hcl hf1 (fun y hy => by
        rcases hmem y hy with rfl | hy
        · exact .inr ⟨t3, hbk, by show 0 ≤ t0.id ∧ t0.id ≤ 1000000; rw [t1]; exact (h.okQ x hxm).2.2⟩
        · exact .inl hy)
      refine ⟨rfl, hf1.weak (fun c _ e => hfk c (.inl e)), (refSpoil_yes w1 P rd rc tv kv fv s id m v a h1.r hb.2.2.2.1 (hMP hf1) h1.hP hbk hA hin).mono ?_⟩
      rintro o2 w2 ⟨rfl, k, z, hz, hzi, hr, hf2⟩
      have hzm : z ∈ s.things := List.mem_of_getElem? hz
      refine ⟨rfl, Mm.fin1 hL hLw kb hkb h1 hf1 hr (Newer.refl P) hf2 (fun y hy => ?_) _ { t.more (Nat.le_succ n) hn with nd := ?_, ids := (fun y hy => ?_), ts := ?_, bq := ?_ }⟩
      · rcases List.mem_or_eq_of_mem_set hy with hy | rfl
        · exact .inl hy
        · exact .inr ⟨hM.fr (hf1.weak (fun _ _ e => .inl e)), hbk, (h.okS z hzm).2.2⟩
      · rw [hids]
        exact t.nd
      · rcases hmem y hy with rfl | hy
        · show 1 ≤ t0.id ∧ t0.id ≤ given
          rw [t1]
          exact t.ids x hxm
        · exact t.ids y hy
      · have hkl : k < s.things.length := (List.getElem?_eq_some_iff.1 hz).1
        have hsp : s.things = s.things.take k ++ z :: s.things.drop (k + 1) := by
          have h9 : s.things[k] = z := (List.getElem?_eq_some_iff.1 hz).2
          rw [← h9, List.getElem_cons_drop, List.take_append_drop]
        have hnds := t.nds
        rw [hsp] at hnds
        show (s.things.set k (tgPut z.1 a, v)).map Tv.md = _
        rw [List.set_eq_take_append_cons_drop, if_pos hkl, upd_map (y := (tgPut z.1 a, v)) hnds hzi hzi rfl rfl, ← hsp, t.ts, sort_newV, ← upd_map (y := (t0, v)) t.nd hx (t1.trans hx) t2 rfl]
      · have := t.bq
        simp at this ⊢
        omega
theorem Mm.fin0 (h : Mm m w B P g gc bt bd bf rd rc D q given calls Q Di Fa tv kv fv s) (hL : ∀ c, Zs B P gc bt bd bf c → L ≤ c) {w1 : World} (hf : Fr w w1 (fun _ => False)) (t : Ti q D given calls Q Di Fa s n) : Jx m L w1 g gc bt bd bf rd rc q n :=
  ⟨B, P, D, given, calls, Q, Di, Fa, tv, kv, fv, s, h.fr hf, t, hL⟩
/-- Nothing, as it lies in memory. -/
def noTg : Tg := { id := 0, kind := ⟨#[]⟩, k := 0, n := 0, s := ⟨#[]⟩, la := none, ln := 0, lc := 0, fa := none, fn := 0, fc := 0 }
def noV : Val := ⟨0, 0, ⟨#[]⟩, [], []⟩
theorem noV_mem (m : Nat) (w : World) : V.Mem (m + 1) w noV noTg.cells := ⟨_, _, rfl, ⟨none, 0, rfl, .inl rfl⟩, ⟨none, 0, rfl, .inl rfl⟩⟩
theorem read_arm (h : Mm m w B P g gc bt bd bf rd rc D q given calls Q Di Fa tv kv fv s) (t : Ti q D given calls Q Di Fa s n) (id : Int) :
    Calls Try.prog 16 #[.pointer (some ⟨gc, 0, none⟩), .int .i64 id] w fun o w1 => ∃ (t1 : Tg) (e : Nat), o = .returned (.tuple #[t1.val, V.errOf e]) ∧ Fr w w1 (fun _ => False) ∧
      Calls Try.prog 17 #[.pointer (some ⟨rc, 0, none⟩), .int .i64 id] w1 fun o2 w2 => ∃ t2 : Tg, o2 = .returned (.tuple #[t2.val, .int .i64 e]) ∧ Fr w w2 (fun _ => False) ∧
        Calls Try.prog 18 #[t1.val, t2.val] w2 fun o3 w3 => o3 = .returned (.bool true) ∧ Fr w w3 (fun _ => False) := by
  have hb := t.bounds
  obtain ⟨sm, hsm⟩ : ∃ sm : Val → Val → Bool, V.Says sm := V.says_some
  have hno : ∀ W : World, Fr w W (fun _ => False) → Calls Try.prog 18 #[noTg.val, noTg.val] W fun o3 w3 => o3 = .returned (.bool true) ∧ Fr w w3 (fun _ => False) := fun W hW => by
    refine (sameThing_any sm hsm m W noTg noTg noV noV (noV_mem m W) (noV_mem m W) (by show V.bulk (m + 1) noV ≤ _; rw [show V.bulk (m + 1) noV = 1 from rfl]; omega) (by rw [show V.bulk (m + 1) noV = 1 from rfl]; omega)).mono ?_
    rintro o w3 ⟨rfl, hb3⟩
    exact ⟨by rw [hsm.yes _ _ rfl]; simp, hW.trans (fr_of_below hb3) (fun _ _ e => e)⟩
  cases hd : D.down with
  | true =>
    refine (read_down w B g gc bt bd bf D q given calls _ Di Fa id h.cl hd).mono ?_
    rintro o w1 ⟨rfl, hf1⟩
    refine ⟨noTg, 10, rfl, hf1, (refRead_down w1 P rd rc tv kv fv s id (h.fr hf1).r (by rw [t.dn, hd])).mono ?_⟩
    rintro o2 w2 ⟨rfl, hf2⟩
    have hf3 := hf1.trans hf2 (fun _ _ e => e)
    exact ⟨noTg, rfl, hf3, hno w2 hf3⟩
  | false =>
    rcases Tv.split id Q with ⟨hg0, hne, _⟩ | ⟨Q1, x, Q2, hQ, hx, hg0, _, _⟩
    · have hin : ∀ x ∈ s.things, x.1.id ≠ id := fun x hx e => by
        obtain ⟨y, hy, e2⟩ := (t.has id).1 ⟨x, hx, e⟩
        exact hne y hy e2
      refine (read_none w B g gc bt bd bf D q given calls _ Di Fa id h.cl (ent_val _) hd hg0).mono ?_
      rintro o w1 ⟨rfl, hf1⟩
      refine ⟨noTg, 7, rfl, hf1, (refRead_none w1 P rd rc tv kv fv s id (h.fr hf1).r hb.2.2.2.1 (by rw [t.dn, hd]) hin).mono ?_⟩
      rintro o2 w2 ⟨rfl, hf2⟩
      have hf3 := hf1.trans hf2 (fun _ _ e => e)
      exact ⟨noTg, rfl, hf3, hno w2 hf3⟩
    · have hxm : x ∈ Q := by rw [hQ]; simp
      have hxo := h.okQ x hxm
      refine (read_ok w B g gc bt bd bf D q given calls _ Di Fa id h.cl (ent_val _) hd x.1 hg0 (Zs B P gc bt bd bf) h.lt m x.2 hxo.1 hxo.2.1).mono ?_
      rintro o w1 ⟨t2, rfl, u1, u2, u3, hf1⟩
      refine ⟨t2, 0, rfl, hf1, (refRead_ok w1 P rd rc tv kv fv s id (h.fr hf1).r hb.2.2.2.1 (by rw [t.dn, hd]) ((t.has id).2 ⟨x, hxm, hx⟩)).mono ?_⟩
      rintro o2 w2 ⟨k, z, hz, hzi, rfl, hf2⟩
      have hzm : z ∈ s.things := List.mem_of_getElem? hz
      have hzo := h.okS z hzm
      have hf3 := hf1.trans hf2 (fun _ _ e => e)
      have e1 : Tv.md z = Tv.md x := by
        obtain ⟨y, hy, e2⟩ := List.mem_map.1 (t.mem_md.1 (List.mem_map.2 ⟨z, hzm, rfl⟩))
        have hyi : y.1.id = x.1.id := by
          have : y.1.id = z.1.id := congrArg Prod.fst e2
          rw [this, hzi, hx]
        have : y = x := by
          obtain ⟨i, hi, rfl⟩ := List.getElem_of_mem hy
          obtain ⟨j, hj, rfl⟩ := List.getElem_of_mem hxm
          have hij : i = j := nodup_at t.nd (x := Q[j].1.id) (by rw [List.getElem?_map, List.getElem?_eq_getElem hi]; simp [hyi]) (by rw [List.getElem?_map, List.getElem?_eq_getElem hj]; rfl)
          subst hij
          rfl
        rw [← e2, this]
      refine ⟨z.1, rfl, hf3, (sameThing_any sm hsm m w2 t2 z.1 x.2 z.2 (u3.fr (hf2.weak (fun _ _ e => e.elim))).mem ((hzo.fr (hf3.weak (fun _ _ e => e.elim))).1).mem hxo.2.1 hzo.2.1).mono ?_⟩
      rintro o3 w3 ⟨rfl, hb3⟩
      refine ⟨?_, hf3.trans (fr_of_below hb3) (fun _ _ e => e)⟩
      have e3 : z.1.id = x.1.id := congrArg Prod.fst e1
      have e4 : z.1.kind = x.1.kind := congrArg (fun d : Td => d.2.1) e1
      have e5 : z.2 = x.2 := congrArg (fun d : Td => d.2.2) e1
      rw [e3, e4, e5, u1, u2, hsm.yes _ _ rfl]
      simp
end
end Go.Proofs.Ytlmkpjdaoinmoaa
namespace Go.Proofs.Ytlmkpjdaoinmoaa
open Go.RowKit
attribute [local go_sem ↓] Go.wp_at_zero Go.wp_at_succ
set_option maxRecDepth 100000 in
theorem same_any (e : Nat) (w : World) : Calls Try.prog 9 #[V.errOf e, .int .i64 e] w fun o w' => o = .returned (.bool true) ∧ w' = w := by
  by_cases he : e = 0
  · subst he
    rw [show V.errOf 0 = .nilIface from rfl, show ((0 : Nat) : Int) = 0 from rfl]
    go_enter Try.func9, Try.ntmps9
    go_wp2_with fail
    go_ret
    exact ⟨rfl, rfl⟩
  · rw [errOf_ne he]
    have hta := ta_errno e w
    have hpos : (0 : Int) < e := by omega
    go_enter Try.func9, Try.ntmps9
    go_wp2_with fail
    go_ret
    exact ⟨rfl, rfl⟩
set_option maxRecDepth 100000 in
/-- A cloud whose quota is out of bounds is not made. -/
theorem cbad_any (w : World) (v : Value) (q : Int) (hq : q < 0 ∨ 40 < q) : Calls Try.prog 8 #[v, .int .i64 q] w fun o w' => o = .returned (.tuple #[.pointer none, .iface 80 (.int .i64 1)]) ∧ w' = w := by
  by_cases h0 : q < 0
  · go_enter Try.func8, Try.ntmps8
    go_wp2_with fail
    go_ret2
    exact ⟨rfl, rfl⟩
  · have h40 : (40 : Int) < q := by omega
    go_enter Try.func8, Try.ntmps8
    go_wp2_with fail
    go_ret2
    exact ⟨rfl, rfl⟩
set_option maxRecDepth 100000 in
theorem newDisk_any (w : World) : Calls Try.prog 10 #[] w fun o w' => o = .returned (.pointer (some ⟨w.heap.size, 0, none⟩)) ∧ w' = w.alloc (rdblk (-1) false 0) := by
  unfold rdblk
  go_enter Try.func10, Try.ntmps10
  go_wp2_with fail
  go_ret
  exact ⟨rfl, rfl⟩
set_option maxRecDepth 100000 in
theorem newCloud_any (w : World) (rd : Nat) (q : Int) : Calls Try.prog 11 #[.pointer (some ⟨rd, 0, none⟩), .int .i64 q] w fun o w' => o = .returned (.pointer (some ⟨w.heap.size, 0, none⟩)) ∧ w' = w.alloc (rcblk rd (.slice none 0 0) (.slice none 0 0) 1 q 0 (.slice none 0 0)) := by
  unfold rcblk
  go_enter Try.func11, Try.ntmps11
  go_wp2_with fail
  go_ret
  exact ⟨rfl, rfl⟩
section
variable {m L : Nat} {w w' : World} {B B2 P : Nat → Prop} {g gc bt bd bf rd rc : Nat} {D : Dk} {q given calls : Int} {Q : List Tv} {Di : List (ByteArray × Value)} {Fa : List (Int × Value)} {tv kv fv : Value} {s : Rm} {n : Nat}
/-- The disk's files lie anew. -/
theorem Mm.moved (h : Mm m w B P g gc bt bd bf rd rc D q given calls Q Di Fa tv kv fv s) {D2 : Dk} (hd : Disk w' B2 g D2) (hn : Newer w w' B B2) (hf : Fr w w' (fun c => c = g)) : Mm m w' B2 P g gc bt bd bf rd rc D2 q given calls Q Di Fa tv kv fv s := by
  have hg := h.cl.disk.has_g
  have hnew : ∀ c, c < w.heap.size → ¬ B c → ¬ B2 c := fun c hc hb e => (hn.2 c e).elim hb (fun e => by omega)
  have hl := h.own_lt
  have hok : ∀ x, Tv.Ok (Zs B P gc bt bd bf) m w x → Tv.Ok (Zs B2 P gc bt bd bf) m w' x := fun x hx => by
    refine (hx.more (ex2 := Zs B2 P gc bt bd bf) (fun c hc => ?_)).fr (hf.weak (fun c _ e => .inl (.inl (e ▸ hn.1 g hg))))
    rcases hc with (hc | hc) | hc
    · rcases hn.2 c hc with e | e
      · exact .inl (.inl (.inl e))
      · exact .inr e.1
    · exact .inl (.inl (.inr hc))
    · exact .inl (.inr hc)
  have hc := h.cl
  refine ⟨⟨hd, (hf.block gc (hl gc (.inr (.inl rfl))) (fun e => hc.nc (e ▸ hg))).trans hc.blk, hc.th.at (hf.block bt hc.th.lt (fun e => hc.nt (e ▸ hg))), hc.di.at (hf.block bd hc.di.lt (fun e => hc.nd (e ▸ hg))), hc.fa.at (hf.block bf hc.fa.lt (fun e => hc.nf (e ▸ hg))), hnew gc (hl gc (.inr (.inl rfl))) hc.nc, hnew bt hc.th.lt hc.nt, hnew bd hc.di.lt hc.nd, hnew bf hc.fa.lt hc.nf, hc.e1, hc.e2, hc.e3, hc.e4, hc.e5, hc.e6⟩, h.r.fr hf (fun c hp e => h.ap c hp (.inl (e ▸ hg))), fun x hx => ?_, fun x hx => Nat.lt_of_lt_of_le (h.hP x hx) hf.size, fun c hp ho => ?_, fun x hx => hok x (h.okQ x hx), fun x hx => hok x (h.okS x hx)⟩
  · rcases hn.2 x hx with e | e
    · exact Nat.lt_of_lt_of_le (h.hB x e) hf.size
    · exact e.2
  · rcases ho with ho | ho
    · rcases hn.2 c ho with e | e
      · exact h.ap c hp (.inl e)
      · have := h.hP c hp
        omega
    · exact h.ap c hp (.inr ho)
theorem Ti.restarted (t : Ti q D given calls Q Di Fa s n) : Ti q { D with left := -1, down := false } given calls Q Di Fa { s with fuse := -1, down := false } n :=
  { t with dn := rfl, fu := (fun _ => by show (-1 : Int) = max (-1) (-1); rfl), fr := (by show (-1 : Int) ≤ -1 ∧ (-1 : Int) ≤ 9223372036854775807; omega), ba := t.ba, lf := (by show (-9223372036854775808 : Int) ≤ -1 ∧ (-1 : Int) ≤ 9223372036854775807; omega), bs := t.bs }
theorem restart_arm (h : Mm m w B P g gc bt bd bf rd rc D q given calls Q Di Fa tv kv fv s) (t : Ti q D given calls Q Di Fa s n) (hn : n + 1 ≤ 800) (hL : ∀ c, Zs B P gc bt bd bf c → L ≤ c) (hLw : L ≤ w.heap.size) (kb : Nat) (hkb : ¬ Zs B P gc bt bd bf kb) (keep torn : Int) :
    Calls Try.prog 25 #[.pointer (some ⟨g, 0, none⟩), .int .i64 keep, .int .i64 torn] w fun o w1 => o = .returned (.tuple #[]) ∧ Fr w w1 (Fk L kb) ∧
      Calls Try.prog 26 #[.pointer (some ⟨rd, 0, none⟩), .int .i64 keep, .int .i64 torn] w1 fun o2 w2 => o2 = .returned (.tuple #[]) ∧ Jx m L w2 g gc bt bd bf rd rc q (n + 1) ∧ Fr w w2 (Fk L kb) := by
  have hfk : ∀ c, Zs B P gc bt bd bf c → Fk L kb c := fun c hc => ⟨hL c hc, fun e => hkb (e ▸ hc)⟩
  have hg := h.cl.disk.has_g
  refine (restart0_any w B g D keep torn h.cl.disk t.ba h.hB).mono ?_
  rintro o w1 ⟨rfl, B2, hnw, hd, hf⟩
  have h1 := h.moved hd hnw hf
  have hf1 : Fr w w1 (Fk L kb) := hf.weak (fun c _ e => hfk c (.inl (.inl (e ▸ hg))))
  refine ⟨rfl, hf1, (refRestart0_any w1 rd s.fuse s.down s.steps keep torn h1.r.d).mono ?_⟩
  rintro o2 w2 ⟨rfl, hb, hf2⟩
  have hpd := h.r.pd
  refine ⟨rfl, ⟨B2, P, _, given, calls, Q, Di, Fa, tv, kv, fv, _, h1.ref (h1.r.stepd hb hf2) (Newer.refl P) (hf2.weak (fun c _ e => e ▸ hpd)) (fun _ hx => .inl hx), t.restarted.more (by omega) hn, fun c hc => ?_⟩, hf1.trans hf2 (fun c _ e => hfk c (.inr (e ▸ hpd)))⟩
  rcases hc with (hc | hc) | hc
  · rcases hnw.2 c hc with e | e
    · exact hL c (.inl (.inl e))
    · omega
  · exact hL c (.inl (.inr hc))
  · exact hL c (.inr hc)
theorem Ti.armed (t : Ti q D given calls Q Di Fa s n) (A : Int) (hA : -9223372036854775808 ≤ A ∧ A ≤ 9223372036854775807) : Ti q { D with left := A } given calls Q Di Fa { s with fuse := max A (-1) } n :=
  { t with dn := t.dn, fu := (fun _ => rfl), fr := (by show -1 ≤ max A (-1) ∧ max A (-1) ≤ 9223372036854775807; omega), ba := t.ba, lf := hA, bs := t.bs }
theorem Ti.failed (t : Ti q D given calls Q Di Fa s n) (A : Int) (hn : n + 1 ≤ 800) : Ti q D given calls Q Di (if calls ≤ A then T.put Fa A (.agg #[]) else Fa) { s with fails := s.fails ++ [A] } (n + 1) := by
  refine { t.more (Nat.le_succ n) hn with fl := (fun k hk => ?_), fz := (fun k v hv => ?_), fn := ?_, bx := ?_ }
  · show _ ↔ k ∈ s.fails ++ [A]
    rw [List.mem_append, List.mem_singleton, ← t.fl k hk]
    by_cases hA : calls ≤ A
    · rw [if_pos hA, T.get_put]
      by_cases e : A = k
      · simp [e]
      · rw [if_neg (by simpa using e)]
        exact ⟨.inl, fun h => h.elim (fun h => h) (fun h => absurd h.symm e)⟩
    · rw [if_neg hA]
      exact ⟨.inl, fun h => h.elim (fun h => h) (fun h => by omega)⟩
  · split at hv
    · rw [T.get_put] at hv
      split at hv
      · simpa using hv.symm
      · exact t.fz k v hv
    · exact t.fz k v hv
  · split
    · exact T.put_keys t.fn
    · exact t.fn
  · have := t.bx
    show (s.fails ++ [A]).length ≤ _
    simp
    omega
/-- The fuse is set. -/
theorem Rc.fused (h : Rc w P rd rc tv kv fv s) (x : Int) : Rc (w.setCell ⟨rd, 3, none⟩ (.int .i64 x)) P rd rc tv kv fv { s with fuse := x } := by
  have hb : (w.setCell ⟨rd, 3, none⟩ (.int .i64 x)).heap[rd]? = some (rdblk x s.down s.steps) := by
    have h1 := h.d
    unfold rdblk at h1 ⊢
    simp [World.setCell, Array.getElem?_modify, h1]
  exact h.stepd hb ((Fr.refl w (fun c => c = rd)).set _ _ (fun _ => rfl))
/-- A refusal is put behind the others. -/
theorem Rc.pushF (h : Rc w P rd rc tv kv fv s) {ob : Obj} {wA : World} {gA n cap : Nat} (x : Int) (hg : (w.alloc ob).drew.grownBy wA fv.ownBlock) (ho : wA.ownsRow 0 3 1 (.slice (some ⟨gA, 0, none⟩) n cap) (s.fails ++ [x]).length (ci (s.fails ++ [x]))) (hat : fv.ownBlock = some gA ∨ gA = (w.alloc ob).heap.size) (hlt : gA < wA.heap.size) :
    ∃ P2, Newer w (wA.setCell ⟨rc, 6, none⟩ (.slice (some ⟨gA, 0, none⟩) n cap)) P P2 ∧ Rc (wA.setCell ⟨rc, 6, none⟩ (.slice (some ⟨gA, 0, none⟩) n cap)) P2 rd rc tv kv (.slice (some ⟨gA, 0, none⟩) n cap) { s with fails := s.fails ++ [x] } ∧ Fr w (wA.setCell ⟨rc, 6, none⟩ (.slice (some ⟨gA, 0, none⟩) n cap)) P := by
  have hf1 : Fr w (w.alloc ob).drew (fun _ => False) := ((Fr.refl _ _).alloc _).drew
  have hfA : Fr w wA (fun c => fv.ownBlock = some c) := (hf1.weak (fun _ _ e => e.elim)).grown hg (fun c hc _ => hc)
  have hk : ∀ c, fv.ownBlock = some c → c ≠ rd ∧ c ≠ rc := fun c hc => ⟨fun e => owns_type h.f h.d (by decide) (by rw [hc, e]), fun e => owns_type h.f h.c (by decide) (by rw [hc, e])⟩
  have hcA : wA.heap[rc]? = some (rcblk rd tv kv s.next s.quota s.calls fv) := (hfA.block rc (Array.getElem?_eq_some_iff.1 h.c).1 (fun e => (hk rc e).2 rfl)).trans h.c
  have hdA : wA.heap[rd]? = some (rdblk s.fuse s.down s.steps) := (hfA.block rd (Array.getElem?_eq_some_iff.1 h.d).1 (fun e => (hk rd e).1 rfl)).trans h.d
  have hgc : gA ≠ rc := fun e => owns_type ho hcA (by decide) (by rw [e]; rfl)
  have hfs : Fr wA (wA.setCell ⟨rc, 6, none⟩ (.slice (some ⟨gA, 0, none⟩) n cap)) (fun c => c = rc) := (Fr.refl wA (fun c => c = rc)).set _ _ (fun _ => rfl)
  have hsA := hfs.size
  have hs1 : w.heap.size ≤ (w.alloc ob).heap.size := ((Fr.refl w (fun _ => False)).alloc ob).size
  refine ⟨fun c => P c ∨ c = gA, ⟨fun c hc => .inl hc, fun c hc => ?_⟩, ⟨?_, ?_, ?_, ?_, ?_, .inl h.pd, .inl h.pc, fun c hc => .inl (h.pt c hc), fun c hc => .inl (h.pk c hc), fun c hc => .inr (by simpa [Value.ownBlock] using hc.symm)⟩, ?_⟩
  · rcases hc with hc | rfl
    · exact .inl hc
    · rcases hat with e | e
      · exact .inl (h.pf _ e)
      · exact .inr ⟨by omega, by omega⟩
  · exact (hfs.block rd (Array.getElem?_eq_some_iff.1 hdA).1 h.ne).trans hdA
  · unfold rcblk at hcA ⊢
    simp [World.setCell, Array.getElem?_modify, hcA]
  · exact owns_fr (owns_fr h.t hfA (fun c hc e => owns_other h.t h.f (by decide) hc e)) hfs (fun c hc e => owns_type h.t h.c (by decide) (by rw [hc, e]))
  · exact owns_fr (owns_fr h.k hfA (fun c hc e => owns_other h.k h.f (by decide) hc e)) hfs (fun c hc e => owns_type h.k h.c (by decide) (by rw [hc, e]))
  · exact owns_fr ho hfs (fun c hc e => hgc (by rw [← e]; simpa [Value.ownBlock] using hc))
  · exact (hfA.weak (fun c _ e => h.pf c e)).trans hfs (fun c _ e => by rw [e]; exact h.pc)
end
end Go.Proofs.Ytlmkpjdaoinmoaa
namespace Go.Proofs.Ytlmkpjdaoinmoaa
open Go.RowKit
attribute [local go_sem ↓] Go.wp_at_zero Go.wp_at_succ
def tT : ByteArray := ⟨#[116]⟩
theorem rain_first (m : Nat) (w : World) (B : Nat → Prop) (g gc bt bd bf : Nat) (hc : Cl w B g gc bt bd bf Dk.new 3 0 0 [] [] []) (hB : ∀ x, B x → x < w.heap.size) :
    Calls Try.prog 12 #[.pointer (some ⟨gc, 0, none⟩), .string tT, .string tVm, .agg #[.int .i64 5, .int .i64 0, .string ⟨#[]⟩, .slice none 0 0, .slice none 0 0]] w fun o w' => o = .returned (.tuple #[.int .i64 1, .nilIface]) ∧ (∃ t : Tg, t.id = 1 ∧ V.MemX (Cl.own B gc bt bd bf) (m + 1) w' recV t.cells ∧ Cl w' B g gc bt bd bf Dk.new.step 3 1 1 [Tv.ent (t, recV)] (S.put [] tT (dval (1, 1))) []) ∧ Fr w w' (Cl.own B gc bt bd bf) := by
  refine (createNew w B g gc bt bd bf Dk.new 3 0 0 [] [] [] tT tVm m recV _ _ _ _ _ hc (recV_mem _ m w) (recV_bulk m) (by decide) (recV_attr m) (by decide) (by decide) (by decide) (nofail rfl rfl) (by decide) rfl rfl (by decide) (by decide) hB).mono ?_
  rintro o w' ⟨rfl, Th1, ⟨t, t1, t2, t3, rfl⟩, hcl, hf⟩
  have hf2 : Fr w w' (Cl.own B gc bt bd bf) := hf.weak (fun _ _ e => e.elim (fun e => .inl (e ▸ hc.disk.has_g)) (fun e => .inr (e.imp (fun e => e) (fun e => e.imp (fun e => e) .inl))))
  refine ⟨rfl, ⟨t, t1, t3, ?_⟩, hf2⟩
  have e : T.put [] (0 + 1) t.val = [Tv.ent (t, recV)] := by
    show [((0 : Int) + 1, t.val)] = [(t.id, t.val)]
    rw [t1]
  rw [e] at hcl
  exact hcl
theorem rain_next (m : Nat) (w : World) (B : Nat → Prop) (g gc bt bd bf : Nat) (Th : List (Int × Value)) (hc : Cl w B g gc bt bd bf Dk.new.step 3 1 1 Th (S.put [] tT (dval (1, 1))) []) :
    Calls Try.prog 12 #[.pointer (some ⟨gc, 0, none⟩), .string tT, .string tVm, .agg #[.int .i64 5, .int .i64 0, .string ⟨#[]⟩, .slice none 0 0, .slice none 0 0]] w fun o w' => o = .returned (.tuple #[.int .i64 1, .nilIface]) ∧ Cl w' B g gc bt bd bf Dk.new.step.step 3 1 2 Th (S.put [] tT (dval (1, 1))) [] ∧ Fr w w' (Cl.own B gc bt bd bf) := by
  refine (createOld w B g gc bt bd bf Dk.new.step 3 1 1 Th (S.put [] tT (dval (1, 1))) [] tT tVm m recV _ _ _ _ _ hc (recV_mem _ m w) (recV_bulk m) (by decide) (recV_attr m) (by decide) (by decide) (by decide) (nofail rfl rfl) (by decide) rfl (1, 1) rfl).mono ?_
  rintro o w' ⟨rfl, hcl, hf⟩
  exact ⟨rfl, hcl, hf.weak (fun _ _ e => e.elim (fun e => .inl (e ▸ hc.disk.has_g)) (fun e => .inr (.inl e)))⟩
set_option maxRecDepth 100000 in
set_option maxHeartbeats 4000000 in
theorem rains_any (hsort : SortC) (w : World) : Calls Try.prog 5 #[] w fun o w' => o = .returned (.bool true) ∧ Below w.heap.size w w' := by
  have HSO := hide hsort
  clear hsort
  go_enter Try.func5, Try.ntmps5
  go_wp2_with fail
  refine (new_any w).mono ?_
  rintro o w1 ⟨g, rfl, hD1, hf1⟩
  obtain ⟨B, hBe⟩ : ∃ B : Nat → Prop, B = fun x => w.heap.size ≤ x ∧ x < w1.heap.size := ⟨_, rfl⟩
  have hd1 : Disk w1 B g Dk.new := by rw [hBe]; exact hD1.clip
  have hB1 : ∀ x, B x → x < w1.heap.size := fun x hx => by rw [hBe] at hx; exact hx.2
  have HBL : Hid (∀ x, B x → w.heap.size ≤ x) := fun x hx => by rw [hBe] at hx; exact hx.1
  have HCN := hide (cnew_any w1 B g Dk.new 3 hd1 hB1 (by decide))
  have HF1 := hide hf1
  have HB1 := hide hB1
  clear hD1 hd1 hf1 hBe hB1
  go_wp2_with fail
  refine HCN.out.mono ?_
  rintro o w2 ⟨gc, bt, bd, bf, rfl, hcl2, hlo, hf2⟩
  have hB2 : ∀ x, B x → x < w2.heap.size := fun x hx => Nat.lt_of_lt_of_le (HB1.out x hx) hf2.size
  have HOWN : Hid (∀ x, Cl.own B gc bt bd bf x → w.heap.size ≤ x) := fun x hx => by
    have hz := HF1.out.size
    rcases hx with hx | rfl | rfl | rfl | rfl
    · exact HBL.out x hx
    · omega
    · omega
    · omega
    · omega
  have HFM := hide (rain_first 0 w2 B g gc bt bd bf hcl2 hB2)
  unfold tT tVm at HFM
  have HF2 := hide (HF1.out.trans hf2 (fun _ _ e => e))
  have HB2 := hide hB2
  clear hcl2 hlo hf2 hB2 HCN HF1 HB1 HBL
  go_wp2_with fail
  refine HFM.out.mono ?_
  rintro o w3 ⟨rfl, ⟨t, t1, t3, hcl3⟩, hf3⟩
  have HNX := hide (rain_next 0 w3 B g gc bt bd bf _ hcl3)
  have HF3 := hide (HF2.out.weak (ex1 := Cl.own B gc bt bd bf) (fun _ _ e => e.elim) |>.trans hf3 (fun _ _ e => e))
  have HB3 : Hid (∀ x, B x → x < w3.heap.size) := fun x hx => Nat.lt_of_lt_of_le (HB2.out x hx) hf3.size
  have HT3 := hide t3
  unfold tT tVm at HNX
  clear hcl3 hf3 t3 HFM HF2 HB2
  go_wp2_with fail
  refine HNX.out.mono ?_
  rintro o w4 ⟨rfl, hcl4, hf4⟩
  have hok : ∀ x ∈ [((t, recV) : Tv)], Tv.Ok (Cl.own B gc bt bd bf) 0 w4 x := fun x hx => by
    have e : x = (t, recV) := by simpa using hx
    rw [e]
    exact ⟨HT3.out.fr hf4, recV_bulk 0, by show 0 ≤ t.id ∧ t.id ≤ 1000000; omega⟩
  have HAL := hide (all_any HSO.out 0 w4 B g gc bt bd bf _ 3 1 2 [(t, recV)] _ [] hcl4 (fun x hx => Nat.lt_of_lt_of_le (HB3.out x hx) hf4.size) hok (by simp) (by simp))
  have HC4 := hide hcl4
  have HS1 := hide (same_any 0 w4)
  rw [show V.errOf 0 = .nilIface from rfl, show ((0 : Nat) : Int) = 0 from rfl] at HS1
  have HB4 : Hid (Below w.heap.size w w4) := (HF3.out.trans hf4 (fun c _ e => e)).below (Nat.le_refl _) HOWN.out
  clear hcl4 hf4 hok HNX HF3 HB3 HT3
  go_wp2_with fail
  refine HS1.out.mono ?_
  rintro o w5 ⟨rfl, rfl⟩
  go_wp2_with fail
  refine HS1.out.mono ?_
  rintro o w6 ⟨rfl, rfl⟩
  go_wp2_with fail
  refine HAL.out.mono ?_
  rintro o w7 ⟨u, rfl, hr, hf7⟩
  obtain ⟨a7, c7, e7⟩ := V.Row.shape hr.row
  rw [Td.sort_len] at e7
  subst e7
  have HC7 := hide (calls_any w7 B g gc bt bd bf _ 3 1 2 _ _ [] (HC4.out.fr hf7))
  have HB7 := hide (HB4.out.trans (hf7.below HB4.out.size (fun _ e => e.elim)))
  clear hr hf7 HAL HC4 HS1 HB4
  go_wp2_with fail
  refine HC7.out.mono ?_
  rintro o w8 ⟨rfl, rfl⟩
  go_wp2_with fail
  go_ret
  exact ⟨rfl, HB7.out⟩
end Go.Proofs.Ytlmkpjdaoinmoaa
namespace Go.Proofs.Ytlmkpjdaoinmoaa
open Go.RowKit
attribute [local go_sem ↓] Go.wp_at_zero Go.wp_at_succ
theorem Rc.row {m : Nat} {w : World} {P : Nat → Prop} {rd rc : Nat} {tv kv fv : Value} {S : Rm} (h : Rc w P rd rc tv kv fv S) (hok : ∀ x ∈ S.things, V.Mem (m + 1) w x.2 x.1.cells ∧ V.bulk (m + 1) x.2 ≤ 2000000) : TRow m w tv (S.things.map Tv.md) := by
  unfold TRow
  rw [List.length_map]
  by_cases h0 : S.things.length = 0
  · obtain ⟨a, c, e⟩ := owns_shape h.t
    exact ⟨a, c, e, .inl h0⟩
  · obtain ⟨b, cap, e, hc⟩ := own_cell h.t h0
    refine ⟨_, cap, e, .inr ⟨b, 0, rfl, fun i hi => ?_⟩⟩
    have hx : S.things[i]? = some S.things[i] := List.getElem?_eq_getElem hi
    obtain ⟨b2, cap2, e2, hc2, _⟩ := own_at h.t i _ hx
    rw [e] at e2
    simp only [Value.slice.injEq, Option.some.injEq, Addr.mk.injEq] at e2
    obtain ⟨⟨rfl, _⟩, _⟩ := e2
    refine ⟨c7 S.things[i].1, c7_len _, fun j hj => ?_, Tv.md S.things[i], S.things[i].1, ?_, rfl, rfl, rfl, (hok _ (List.getElem_mem hi)).1, (hok _ (List.getElem_mem hi)).2⟩
    · rw [Nat.zero_add]
      exact hc2 j hj
    · rw [List.getElem?_map, hx]
      rfl
/-- What the law asks at the end of a round. -/
theorem tail_all (hsort : SortC) {m : Nat} {w : World} {B P : Nat → Prop} {g gc bt bd bf rd rc : Nat} {D : Dk} {q given calls : Int} {Q : List Tv} {Di : List (ByteArray × Value)} {Fa : List (Int × Value)} {tv kv fv : Value} {s : Rm} {n : Nat} (h : Mm m w B P g gc bt bd bf rd rc D q given calls Q Di Fa tv kv fv s) (t : Ti q D given calls Q Di Fa s n) :
    ∀ W, Fr w W (fun _ => False) → Calls Try.prog 29 #[.pointer (some ⟨gc, 0, none⟩)] W fun o W2 => ∃ u, o = .returned u ∧ Fr w W2 (fun _ => False) ∧ ∀ W3, Fr W2 W3 (fun _ => False) → Calls Try.prog 28 #[u, tv] W3 fun o W4 => o = .returned (.bool true) ∧ Fr w W4 (fun _ => False) := by
  intro W hf
  have h1 := h.fr hf
  have hbq := t.bq
  have hbn := t.bn
  refine (all_any hsort m W B g gc bt bd bf D q given calls Q Di Fa h1.cl h1.hB (fun x hx => (h1.okQ x hx).more (fun c hc => .inl (.inl hc))) (by omega) t.nd).mono ?_
  rintro o W2 ⟨u, rfl, hr, hf2⟩
  refine ⟨u, rfl, hf.trans hf2 (fun _ _ e => e), fun W3 hf3 => ?_⟩
  have h3 := (h1.fr hf2).fr hf3
  obtain ⟨sl, hsl⟩ := lists_same
  have hrow := h3.r.row (m := m) (fun x hx => ⟨(h3.okS x hx).1.mem, (h3.okS x hx).2.1⟩)
  rw [t.ts] at hrow
  have hst := sameThings_any sl hsl m W3 u tv _ _ (hr.fr (hf3.weak (fun _ _ e => e.elim))).row hrow (by rw [Td.sort_len, List.length_map]; omega)
  rw [(hsl _ _).2 rfl] at hst
  refine hst.mono ?_
  rintro o W4 ⟨rfl, hb⟩
  exact ⟨rfl, (hf.trans hf2 (fun _ _ e => e)).trans (hf3.trans (fr_of_below hb) (fun _ _ e => e)) (fun _ _ e => e)⟩
theorem start (m : Nat) (w w3 : World) (B : Nat → Prop) (g gc bt bd bf : Nat) (q : Int) (hc : Cl w B g gc bt bd bf Dk.new q 0 0 [] [] []) (hB : ∀ x, B x → x < w.heap.size) (L : Nat) (hL : ∀ x, Cl.own B gc bt bd bf x → L ≤ x) (hLw : L ≤ w.heap.size) (h3 : w3 = (w.alloc (rdblk (-1) false 0)).alloc (rcblk w.heap.size (.slice none 0 0) (.slice none 0 0) 1 q 0 (.slice none 0 0))) : Jx m L w3 g gc bt bd bf w.heap.size (w.heap.size + 1) q 0 ∧ Fr w w3 (fun _ => False) := by
  have f1 : Fr w (w.alloc (rdblk (-1) false 0)) (fun _ => False) := (Fr.refl _ _).alloc _
  have f2 : Fr (w.alloc (rdblk (-1) false 0)) w3 (fun _ => False) := by rw [h3]; exact (Fr.refl _ _).alloc _
  have f3 := f1.trans f2 (fun _ _ e => e)
  have s1 : (w.alloc (rdblk (-1) false 0)).heap.size = w.heap.size + 1 := World.size_alloc _ _
  have s3 : w3.heap.size = w.heap.size + 2 := by rw [h3, World.size_alloc, s1]
  have d1 : w3.heap[w.heap.size]? = some (rdblk (-1) false 0) := (f2.block w.heap.size (by omega) (fun e => e)).trans (heap_alloc_new _ _)
  have d2 : w3.heap[w.heap.size + 1]? = some (rcblk w.heap.size (.slice none 0 0) (.slice none 0 0) 1 q 0 (.slice none 0 0)) := by
    rw [h3, ← s1]
    exact heap_alloc_new _ _
  have hol : ∀ x, Cl.own B gc bt bd bf x → x < w.heap.size := fun x hx => by
    rcases hx with hx | rfl | rfl | rfl | rfl
    · exact hB x hx
    · exact (Array.getElem?_eq_some_iff.1 hc.blk).1
    · exact hc.th.lt
    · exact hc.di.lt
    · exact hc.fa.lt
  refine ⟨⟨B, fun c => c = w.heap.size ∨ c = w.heap.size + 1, Dk.new, 0, 0, [], [], [], .slice none 0 0, .slice none 0 0, .slice none 0 0, { things := [], toks := [], next := 1, quota := q, calls := 0, fails := [], fuse := -1, down := false, steps := 0 }, ⟨hc.fr f3, ⟨d1, d2, ⟨rfl, .inl ⟨rfl, rfl⟩⟩, ⟨rfl, .inl ⟨rfl, rfl⟩⟩, ⟨rfl, .inl ⟨rfl, rfl⟩⟩, .inl rfl, .inr rfl, (fun x e => by cases e), (fun x e => by cases e), (fun x e => by cases e)⟩, fun x hx => Nat.lt_of_lt_of_le (hB x hx) f3.size, (fun x hx => by omega), (fun c hp ho => by have := hol c ho; omega), fun x hx => (List.not_mem_nil hx).elim, fun x hx => (List.not_mem_nil hx).elim⟩, ?_, fun c hc => ?_⟩, f3⟩
  · exact { nd := List.nodup_nil, ids := (fun x hx => (List.not_mem_nil hx).elim), ts := (by show ([] : List Td) = Td.sort []; simp [Td.sort]), nx := rfl, ca := rfl, qu := rfl, dn := rfl, fu := (fun _ => rfl), fr := (by show (-1 : Int) ≤ -1 ∧ (-1 : Int) ≤ 9223372036854775807; decide), ba := ⟨rfl, rfl, rfl⟩, lf := (by decide), tk := (fun _ => rfl), fl := (fun k _ => by simp [T.get, T.at_]), fz := (fun k v e => by cases e), fn := List.nodup_nil, bg := (by decide), bc := (by decide), bs := (by decide), br := (by show (0 : Int) ≤ 0 ∧ (0 : Int) ≤ _; decide), bq := Nat.le_refl _, bk := Nat.le_refl _, bx := Nat.le_refl _, bn := (by decide) }
  · rcases hc with hc | hc
    · exact hL c hc
    · omega
end Go.Proofs.Ytlmkpjdaoinmoaa
namespace Go.Proofs.Ytlmkpjdaoinmoaa
open Go.RowKit
section
variable {m : Nat} {w : World} {B P : Nat → Prop} {g gc bt bd bf rd rc : Nat} {D : Dk} {q given calls : Int} {Q : List Tv} {Di : List (ByteArray × Value)} {Fa : List (Int × Value)} {tv kv fv : Value} {s : Rm} {n : Nat}
theorem read_arm2 (h : Mm m w B P g gc bt bd bf rd rc D q given calls Q Di Fa tv kv fv s) (t : Ti q D given calls Q Di Fa s n) (id : Int) :
    Calls Try.prog 16 #[.pointer (some ⟨gc, 0, none⟩), .int .i64 id] w fun o w1 => ∃ (t1 : Tg) (e : Nat), o = .returned (.tuple #[t1.val, V.errOf e]) ∧ Fr w w1 (fun _ => False) ∧ ∀ W, Fr w1 W (fun _ => False) →
      Calls Try.prog 17 #[.pointer (some ⟨rc, 0, none⟩), .int .i64 id] W fun o2 w2 => ∃ t2 : Tg, o2 = .returned (.tuple #[t2.val, .int .i64 e]) ∧ Fr W w2 (fun _ => False) ∧ ∀ W2, Fr w2 W2 (fun _ => False) →
        Calls Try.prog 18 #[t1.val, t2.val] W2 fun o3 w3 => o3 = .returned (.bool true) ∧ Fr W2 w3 (fun _ => False) := by
  have hb := t.bounds
  obtain ⟨sm, hsm⟩ : ∃ sm : Val → Val → Bool, V.Says sm := V.says_some
  have hno : ∀ W : World, Calls Try.prog 18 #[noTg.val, noTg.val] W fun o3 w3 => o3 = .returned (.bool true) ∧ Fr W w3 (fun _ => False) := fun W => by
    refine (sameThing_any sm hsm m W noTg noTg noV noV (noV_mem m W) (noV_mem m W) (by show V.bulk (m + 1) noV ≤ _; rw [show V.bulk (m + 1) noV = 1 from rfl]; omega) (by rw [show V.bulk (m + 1) noV = 1 from rfl]; omega)).mono ?_
    rintro o w3 ⟨rfl, hb3⟩
    exact ⟨by rw [hsm.yes _ _ rfl]; simp, fr_of_below hb3⟩
  cases hd : D.down with
  | true =>
    refine (read_down w B g gc bt bd bf D q given calls _ Di Fa id h.cl hd).mono ?_
    rintro o w1 ⟨rfl, hf1⟩
    refine ⟨noTg, 10, rfl, hf1, fun W hW => (refRead_down W P rd rc tv kv fv s id ((h.fr hf1).fr hW).r (by rw [t.dn, hd])).mono ?_⟩
    rintro o2 w2 ⟨rfl, hf2⟩
    exact ⟨noTg, rfl, hf2, fun W2 _ => hno W2⟩
  | false =>
    rcases Tv.split id Q with ⟨hg0, hne, _⟩ | ⟨Q1, x, Q2, hQ, hx, hg0, _, _⟩
    · have hin : ∀ x ∈ s.things, x.1.id ≠ id := fun x hx e => by
        obtain ⟨y, hy, e2⟩ := (t.has id).1 ⟨x, hx, e⟩
        exact hne y hy e2
      refine (read_none w B g gc bt bd bf D q given calls _ Di Fa id h.cl (ent_val _) hd hg0).mono ?_
      rintro o w1 ⟨rfl, hf1⟩
      refine ⟨noTg, 7, rfl, hf1, fun W hW => (refRead_none W P rd rc tv kv fv s id ((h.fr hf1).fr hW).r hb.2.2.2.1 (by rw [t.dn, hd]) hin).mono ?_⟩
      rintro o2 w2 ⟨rfl, hf2⟩
      exact ⟨noTg, rfl, hf2, fun W2 _ => hno W2⟩
    · have hxm : x ∈ Q := by rw [hQ]; simp
      have hxo := h.okQ x hxm
      refine (read_ok w B g gc bt bd bf D q given calls _ Di Fa id h.cl (ent_val _) hd x.1 hg0 (Zs B P gc bt bd bf) h.lt m x.2 hxo.1 hxo.2.1).mono ?_
      rintro o w1 ⟨t2, rfl, u1, u2, u3, hf1⟩
      refine ⟨t2, 0, rfl, hf1, fun W hW => (refRead_ok W P rd rc tv kv fv s id ((h.fr hf1).fr hW).r hb.2.2.2.1 (by rw [t.dn, hd]) ((t.has id).2 ⟨x, hxm, hx⟩)).mono ?_⟩
      rintro o2 w2 ⟨k, z, hz, hzi, rfl, hf2⟩
      have hzm : z ∈ s.things := List.mem_of_getElem? hz
      have hzo := h.okS z hzm
      have e1 : Tv.md z = Tv.md x := by
        obtain ⟨y, hy, e2⟩ := List.mem_map.1 (t.mem_md.1 (List.mem_map.2 ⟨z, hzm, rfl⟩))
        have hyi : y.1.id = x.1.id := by
          have : y.1.id = z.1.id := congrArg Prod.fst e2
          rw [this, hzi, hx]
        have : y = x := by
          obtain ⟨i, hi, rfl⟩ := List.getElem_of_mem hy
          obtain ⟨j, hj, rfl⟩ := List.getElem_of_mem hxm
          have hij : i = j := nodup_at t.nd (x := Q[j].1.id) (by rw [List.getElem?_map, List.getElem?_eq_getElem hi]; simp [hyi]) (by rw [List.getElem?_map, List.getElem?_eq_getElem hj]; rfl)
          subst hij
          rfl
        rw [← e2, this]
      refine ⟨z.1, rfl, hf2, fun W2 hW2 => ?_⟩
      have hf4 : Fr w1 W2 (fun _ => False) := (hW.trans hf2 (fun _ _ e => e)).trans hW2 (fun _ _ e => e)
      have hf3 : Fr w W2 (fun _ => False) := hf1.trans hf4 (fun _ _ e => e)
      refine (sameThing_any sm hsm m W2 t2 z.1 x.2 z.2 (u3.fr (hf4.weak (fun _ _ e => e.elim))).mem ((hzo.fr (hf3.weak (fun _ _ e => e.elim))).1).mem hxo.2.1 hzo.2.1).mono ?_
      rintro o3 w3 ⟨rfl, hb3⟩
      refine ⟨?_, fr_of_below hb3⟩
      have e3 : z.1.id = x.1.id := congrArg Prod.fst e1
      have e4 : z.1.kind = x.1.kind := congrArg (fun d : Td => d.2.1) e1
      have e5 : z.2 = x.2 := congrArg (fun d : Td => d.2.2) e1
      rw [e3, e4, e5, u1, u2, hsm.yes _ _ rfl]
      simp
end
end Go.Proofs.Ytlmkpjdaoinmoaa
