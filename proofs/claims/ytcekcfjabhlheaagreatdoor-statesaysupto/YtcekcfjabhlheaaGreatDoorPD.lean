/- StateSays: PA PB PC PD. -/
import Derived.Test.YtcekcfjabhlheaaGreatDoorXD
import Derived.Lib.ItoaNum
import Derived.Test.YtcekcfjabhlheaaGreatDoorTopC
import Derived.Lib.Join
namespace Go.Proofs.YtcekcfjabhlheaaGreatDoor.Vx
open Go.RowKit
namespace P
abbrev T := Nat × List UInt8
def kNull : List UInt8 := [110, 117, 108, 108]
def kTrue : List UInt8 := [116, 114, 117, 101]
def kFalse : List UInt8 := [102, 97, 108, 115, 101]
def kIn : List UInt8 := [105, 110]
def kRes : List UInt8 := [114, 101, 115]
def kStack : List UInt8 := [115, 116, 97, 99, 107]
def kGet : List UInt8 := [103, 101, 116]
def kInput : List UInt8 := [105, 110, 112, 117, 116]
def kResource : List UInt8 := [114, 101, 115, 111, 117, 114, 99, 101]
def kOutput : List UInt8 := [111, 117, 116, 112, 117, 116]
def found (k : Nat) (s : List UInt8) : List T -> Option (List T)
 | [] => none
 | t :: r => if t.1 = k /\ t.2 = s then some r else none
def name : List T -> Option (ByteArray × List T)
 | [] => none
 | t :: r => if V.name t.2 = true then some (V.str t.2, r) else none
def num (l : List UInt8) : Nat := l.foldl (fun n c => 10 * n + (c.toNat - 48)) 0
def begins : List T -> Option Int
 | [] => none
 | t :: _ =>
  if t.1 = 2 then (if num t.2 <= 1000000000 then some 1 else none)
  else if t.1 = 3 then some 1
  else if t.1 = 1 then
   (if t.2 = kNull \/ t.2 = kTrue \/ t.2 = kFalse then some 1 else if t.2 = kIn then some 2 else if t.2 = kRes then some 3 else if t.2 = kStack then some 4 else if t.2 = kGet then some 10 else none)
  else if t.1 = 4 then (if t.2 = [45] then some 1 else if t.2 = [91] then some 8 else if t.2 = [123] then some 9 else if t.2 = [40] then some (-1) else none)
  else none
def number (least : Nat) : List T -> Option (Nat × List T)
 | [] => none
 | t :: r => if t.1 = 2 then (if num t.2 < least \/ 1000000000 < num t.2 then none else some (num t.2, r)) else none
def lit : List T -> Option (Val × List T)
 | [] => none
 | t :: r =>
  if t.1 = 2 then (number 0 (t :: r)).map (fun p => (⟨1, p.1, ⟨#[]⟩, [], []⟩, p.2))
  else if t.1 = 3 then some (⟨2, 0, V.str t.2, [], []⟩, r)
  else if t.2 = kTrue then some (⟨3, 1, ⟨#[]⟩, [], []⟩, r)
  else if t.2 = kFalse then some (⟨3, 0, ⟨#[]⟩, [], []⟩, r)
  else if t.2 = [45] then (number 1 r).map (fun p => (⟨1, -(p.1 : Int), ⟨#[]⟩, [], []⟩, p.2))
  else some (V.zero, r)
def row {α : Type} (e : List UInt8) (one : List T -> Option (α × List T)) : Nat -> List T -> Option (List α × List T)
 | 0, _ => none
 | n + 1, ts =>
  match one ts with
  | none => none
  | some (a, t1) =>
   match found 4 [44] t1 with
   | some t2 => (row e one n t2).map (fun p => (a :: p.1, p.2))
   | none => (found 4 e t1).map (fun t2 => ([a], t2))
def rows {α : Type} (e : List UInt8) (one : List T -> Option (α × List T)) (ts : List T) : Option (List α × List T) :=
 match found 4 e ts with
 | some r => some ([], r)
 | none => row e one ts.length ts
def above (last : Option ByteArray) (s : ByteArray) : Bool :=
 match last with
 | none => true
 | some l => Op.bytesLess (V.bl l) (V.bl s)
def fieldRow (most : Nat) (one : List T -> Option (Ex × List T)) : Nat -> Option ByteArray -> Nat -> List T -> Option (List (ByteArray × Ex) × List T)
 | 0, _, _, _ => none
 | n + 1, last, c, ts =>
  match name ts with
  | none => none
  | some (s, t1) =>
   if c = most then none
   else if above last s = false then none
   else
    match found 4 [58] t1 with
    | none => none
    | some t2 =>
     match one t2 with
     | none => none
     | some (x, t3) =>
      match found 4 [44] t3 with
      | some t4 => (fieldRow most one n (some s) (c + 1) t4).map (fun p => ((s, x) :: p.1, p.2))
      | none => (found 4 [125] t3).map (fun t4 => ([(s, x)], t4))
def fields (most : Nat) (one : List T -> Option (Ex × List T)) (ts : List T) : Option (List (ByteArray × Ex) × List T) :=
 match found 4 [125] ts with
 | some r => some ([], r)
 | none => fieldRow most one ts.length none 0 ts
def dot (ts : List T) : Option (ByteArray × List T) :=
 match found 4 [46] ts with
 | none => none
 | some r => name r
def two : List T -> Option (Int × List T)
 | [] => none
 | t :: r => if t.1 = 4 then (if t.2 = [43] then some (5, r) else if t.2 = [61, 61] then some (6, r) else none) else none
def choice (one : List T -> Option (Ex × List T)) (a : Ex) (ts : List T) : Option (Ex × List T) :=
 match one ts with
 | none => none
 | some (y, t1) =>
  match found 4 [58] t1 with
  | none => none
  | some t2 =>
   match one t2 with
   | none => none
   | some (z, t3) => (found 4 [41] t3).map (fun t4 => (⟨7, V.zero, ⟨#[]⟩, ⟨#[]⟩, [a, y, z], []⟩, t4))
def group (one : List T -> Option (Ex × List T)) (ts : List T) : Option (Ex × List T) :=
 match one ts with
 | none => none
 | some (a, t1) =>
  match found 4 [63] t1 with
  | some t2 => choice one a t2
  | none =>
   match two t1 with
   | none => none
   | some (k, t2) =>
    match one t2 with
    | none => none
    | some (b, t3) => (found 4 [41] t3).map (fun t4 => (⟨k, V.zero, ⟨#[]⟩, ⟨#[]⟩, [a, b], []⟩, t4))
def names2 (k : Int) (ts : List T) : Option (Ex × List T) :=
 match dot ts with
 | none => none
 | some (s, t1) => (dot t1).map (fun q => (⟨k, V.zero, s, q.1, [], []⟩, q.2))
def pick (one : List T -> Option (Ex × List T)) (ts : List T) : Option (Ex × List T) :=
 match one ts with
 | none => none
 | some (a, t1) => (name t1).map (fun q => (⟨10, V.zero, q.1, ⟨#[]⟩, [a], []⟩, q.2))
def ex : Nat -> List T -> Option (Ex × List T)
 | 0, _ => none
 | d + 1, ts =>
  match begins ts with
  | none => none
  | some k =>
   if k = 1 then (lit ts).map (fun p => (⟨1, p.1, ⟨#[]⟩, ⟨#[]⟩, [], []⟩, p.2))
   else if k = 2 then (dot (ts.drop 1)).map (fun p => (⟨2, V.zero, p.1, ⟨#[]⟩, [], []⟩, p.2))
   else if k = 3 \/ k = 4 then names2 k (ts.drop 1)
   else if k = 10 then pick (ex d) (ts.drop 1)
   else if k = 8 then (rows [93] (ex d) (ts.drop 1)).map (fun p => (⟨8, V.zero, ⟨#[]⟩, ⟨#[]⟩, p.1, []⟩, p.2))
   else if k = 9 then (fields 4000 (ex d) (ts.drop 1)).map (fun p => (⟨9, V.zero, ⟨#[]⟩, ⟨#[]⟩, p.1.map (·.2), p.1.map (·.1)⟩, p.2))
   else group (ex d) (ts.drop 1)
def whole (ok : Ex -> Bool) (ts : List T) : Option (Ex × List T) :=
 match ex 6 ts with
 | none => none
 | some p => if ok p.1 = true then some p else none
def each {α : Type} (w : List UInt8) (most : Nat) (one : List T -> Option (α × List T)) : Nat -> Nat -> List T -> Option (List α × List T)
 | 0, _, _ => none
 | n + 1, c, ts =>
  match found 1 w ts with
  | none => some ([], ts)
  | some t1 =>
   if c = most then none
   else
    match one t1 with
    | none => none
    | some (x, t2) => (each w most one n (c + 1) t2).map (fun p => (x :: p.1, p.2))
def nameEq (ts : List T) : Option (ByteArray × List T) :=
 match name ts with
 | none => none
 | some (s, t1) => (found 4 [61] t1).map (fun t2 => (s, t2))
def input (ok : Ex -> Bool) (ts : List T) : Option ((ByteArray × Val) × List T) :=
 match nameEq ts with
 | none => none
 | some (s, t1) =>
  match whole ok t1 with
  | none => none
  | some (e, t2) => if e.kind = 1 then some ((s, e.v), t2) else none
def output (ok : Ex -> Bool) (ts : List T) : Option ((ByteArray × Ex) × List T) :=
 match nameEq ts with
 | none => none
 | some (s, t1) => (whole ok t1).map (fun p => ((s, p.1), p.2))
def resource (ok : Ex -> Bool) (ts : List T) : Option (Rs × List T) :=
 match name ts with
 | none => none
 | some (k, t1) =>
  match name t1 with
  | none => none
  | some (s, t2) =>
   match found 4 [123] t2 with
   | none => none
   | some t3 => (fields 6 (whole ok) t3).map (fun p => (⟨k, s, p.1⟩, p.2))
def stack (ok : Ex -> Bool) (ts : List T) : Option (Sk × List T) :=
 match name ts with
 | none => none
 | some (s, t0) =>
  match each kInput 8 (input ok) (t0.length + 1) 0 t0 with
  | none => none
  | some (i, t1) =>
   match each kResource 8 (resource ok) (t1.length + 1) 0 t1 with
   | none => none
   | some (r, t2) => (each kOutput 8 (output ok) (t2.length + 1) 0 t2).map (fun p => (⟨s, i, r, p.1⟩, p.2))
def tokV (v : Val) : List T :=
 if v.kind = 1 then (if v.n < 0 then [(4, [45]), (2, Lib.decDigits v.n.natAbs)] else [(2, Lib.decDigits v.n.toNat)])
 else if v.kind = 2 then [(3, V.bl v.s)]
 else if v.kind = 3 then [(1, if v.n = 1 then kTrue else kFalse)]
 else [(1, kNull)]
def commas : List (List T) -> List T
 | [] => []
 | [a] => a
 | a :: b :: l => a ++ (4, [44]) :: commas (b :: l)
def at2 (l : List (List T)) (i : Nat) : List T := l.getD i []
def tokE : Nat -> Ex -> List T
 | 0, _ => []
 | d + 1, e =>
  let a := e.a.map (tokE d)
  if e.kind = 2 then [(1, kIn), (4, [46]), (1, V.bl e.s)]
  else if e.kind = 3 then [(1, kRes), (4, [46]), (1, V.bl e.s), (4, [46]), (1, V.bl e.t)]
  else if e.kind = 4 then [(1, kStack), (4, [46]), (1, V.bl e.s), (4, [46]), (1, V.bl e.t)]
  else if e.kind = 5 then (4, [40]) :: (at2 a 0 ++ (4, [43]) :: (at2 a 1 ++ [(4, [41])]))
  else if e.kind = 6 then (4, [40]) :: (at2 a 0 ++ (4, [61, 61]) :: (at2 a 1 ++ [(4, [41])]))
  else if e.kind = 7 then (4, [40]) :: (at2 a 0 ++ (4, [63]) :: (at2 a 1 ++ (4, [58]) :: (at2 a 2 ++ [(4, [41])])))
  else if e.kind = 8 then (4, [91]) :: (commas a ++ [(4, [93])])
  else if e.kind = 9 then (4, [123]) :: (commas ((e.n.zip a).map (fun p => (1, V.bl p.1) :: (4, [58]) :: p.2)) ++ [(4, [125])])
  else if e.kind = 10 then (1, kGet) :: (at2 a 0 ++ [(1, V.bl e.s)])
  else tokV e.v
end P
namespace P
theorem found_cons (k : Nat) (s : List UInt8) (r : List T) : found k s ((k, s) :: r) = some r := by simp [found]
theorem found_other {k k' : Nat} {s s' : List UInt8} {r : List T} (h : k' ≠ k \/ s' ≠ s) : found k s ((k', s') :: r) = none := by
 rw [found, if_neg];rintro ⟨h1, h2⟩;rcases h with h | h
 ·exact h h1
 ·exact h h2
theorem name_cons {k : Nat} {s : ByteArray} {r : List T} (h : V.name (V.bl s) = true) : name ((k, V.bl s) :: r) = some (s, r) := by
 rw [name];simp only [h, if_true, V.str_bl]
theorem digit_val (d : Nat) (h : d < 10) : (UInt8.ofNat (48 + d)).toNat - 48 = d := by
 have : (UInt8.ofNat (48 + d)).toNat = 48 + d := by
  rw [UInt8.toNat_ofNat'];omega
 omega
theorem num_snoc (l : List UInt8) (c : UInt8) : num (l ++ [c]) = 10 * num l + (c.toNat - 48) := by
 unfold num;rw [List.foldl_append];rfl
theorem num_dec (u : Nat) : num (Lib.decDigits u) = u := by
 induction u using Nat.strongRecOn with
 | ind u ih =>
  rw [Lib.decDigits];split
  ·rename_i h;show 10 * 0 + ((UInt8.ofNat (48 + u)).toNat - 48) = u;rw [digit_val u h];omega
  ·rename_i h;rw [num_snoc, ih (u / 10) (by omega), digit_val (u % 10) (by omega)];omega
def Plain (v : Val) : Prop := v = V.zero \/ (∃ n : Int, v = ⟨1, n, ⟨#[]⟩, [], []⟩ /\ -1000000000 <= n /\ n <= 1000000000) \/ (∃ s : ByteArray, v = ⟨2, 0, s, [], []⟩ /\ s.size <= 40) \/ v = ⟨3, 0, ⟨#[]⟩, [], []⟩ \/ v = ⟨3, 1, ⟨#[]⟩, [], []⟩
theorem lit_tok {v : Val} (h : Plain v) (rest : List T) : begins (tokV v ++ rest) = some 1 /\ lit (tokV v ++ rest) = some (v, rest) := by
 rcases h with rfl | ⟨n, rfl, h1, h2⟩ | ⟨s, rfl, _⟩ | rfl | rfl
 ·exact ⟨rfl, rfl⟩
 ·by_cases hn : n < 0
  ·have e : tokV ⟨1, n, ⟨#[]⟩, [], []⟩ = [(4, [45]), (2, Lib.decDigits n.natAbs)] := by simp [tokV, hn]
   rw [e];refine ⟨rfl, ?_⟩;show (number 1 ((2, Lib.decDigits n.natAbs) :: rest)).map _ = _;rw [number];simp only [num_dec, if_true];rw [if_neg (by omega)];simp only [Option.map_some, Option.some.injEq, Prod.mk.injEq, Val.mk.injEq, and_true, true_and];omega
  ·have e : tokV ⟨1, n, ⟨#[]⟩, [], []⟩ = [(2, Lib.decDigits n.toNat)] := by simp [tokV, hn]
   rw [e];constructor
   ·show (if num (Lib.decDigits n.toNat) <= 1000000000 then some (1 : Int) else none) = some 1;rw [num_dec, if_pos (by omega)]
   ·show (number 0 ((2, Lib.decDigits n.toNat) :: rest)).map _ = _;rw [number];simp only [num_dec, if_true];rw [if_neg (by omega)];simp only [Option.map_some, Option.some.injEq, Prod.mk.injEq, Val.mk.injEq, and_true, true_and];omega
 ·refine ⟨rfl, ?_⟩;show some ((⟨2, 0, V.str (V.bl s), [], []⟩ : Val), rest) = _;rw [V.str_bl]
 ·exact ⟨rfl, rfl⟩
 ·exact ⟨rfl, rfl⟩
def Rises : Option ByteArray -> List ByteArray -> Prop
 | _, [] => True
 | last, s :: l => V.name (V.bl s) = true /\ above last s = true /\ Rises (some s) l
def Gd : Nat -> Ex -> Prop
 | 0, _ => False
 | d + 1, e => (∃ v, e = ⟨1, v, ⟨#[]⟩, ⟨#[]⟩, [], []⟩ /\ Plain v) \/ (∃ s, e = ⟨2, V.zero, s, ⟨#[]⟩, [], []⟩ /\ V.name (V.bl s) = true) \/
  (∃ k s t, e = ⟨k, V.zero, s, t, [], []⟩ /\ (k = 3 \/ k = 4) /\ V.name (V.bl s) = true /\ V.name (V.bl t) = true) \/
  (∃ k x y, e = ⟨k, V.zero, ⟨#[]⟩, ⟨#[]⟩, [x, y], []⟩ /\ (k = 5 \/ k = 6) /\ Gd d x /\ Gd d y) \/
  (∃ x y z, e = ⟨7, V.zero, ⟨#[]⟩, ⟨#[]⟩, [x, y, z], []⟩ /\ Gd d x /\ Gd d y /\ Gd d z) \/
  (∃ l, e = ⟨8, V.zero, ⟨#[]⟩, ⟨#[]⟩, l, []⟩ /\ ∀ x ∈ l, Gd d x) \/
  (∃ l : List (ByteArray × Ex), e = ⟨9, V.zero, ⟨#[]⟩, ⟨#[]⟩, l.map (·.2), l.map (·.1)⟩ /\ l.length <= 60 /\ Rises none (l.map (·.1)) /\ ∀ x ∈ l, Gd d x.2) \/
  (∃ s x, e = ⟨10, V.zero, s, ⟨#[]⟩, [x], []⟩ /\ V.name (V.bl s) = true /\ Gd d x)
theorem commas_len : ∀ l : List (List T), l.length <= (commas l).length + 1
 | [] => by simp
 | [a] => by simp
 | a :: b :: l => by
  have := commas_len (b :: l);simp only [commas, List.length_append, List.length_cons] at this ⊢;omega
theorem row_tok {α : Type} {e : List UInt8} {one : List T -> Option (α × List T)} {tok : α -> List T} (he : e ≠ [44]) (rest : List T) : ∀ (l : List α) (n : Nat), l ≠ [] -> l.length <= n -> (∀ x ∈ l, ∀ rest, one (tok x ++ rest) = some (x, rest)) ->
  row e one n (commas (l.map tok) ++ (4, e) :: rest) = some (l, rest)
 | [], _, h, _, _ => absurd rfl h
 | [a], 0, _, h, _ => by simp at h
 | [a], n + 1, _, _, h => by
  simp only [List.map_cons, List.map_nil, commas];rw [row, h a (by simp)];simp only;rw [found_other (.inr he)];simp only;rw [found_cons];rfl
 | a :: b :: l, 0, _, h, _ => by simp at h
 | a :: b :: l, n + 1, _, hn, h => by
  have ih := row_tok he rest (b :: l) n (by simp) (by simpa using hn) (fun x hx => h x (by simp [hx]));simp only [List.map_cons, commas, List.append_assoc, List.cons_append] at ih ⊢;rw [row, h a (by simp)];simp only;rw [found_cons];simp only;rw [ih];rfl
theorem field_tok {one : List T -> Option (Ex × List T)} {tok : Ex -> List T} {most : Nat} (rest : List T) : ∀ (l : List (ByteArray × Ex)) (n : Nat) (last : Option ByteArray) (c : Nat), l ≠ [] -> l.length <= n -> c + l.length <= most -> Rises last (l.map (·.1)) -> (∀ x ∈ l, ∀ rest, one (tok x.2 ++ rest) = some (x.2, rest)) ->
  fieldRow most one n last c (commas (l.map (fun p => (1, V.bl p.1) :: (4, [58]) :: tok p.2)) ++ (4, [125]) :: rest) = some (l, rest)
 | [], _, _, _, h, _, _, _, _ => absurd rfl h
 | [a], 0, _, _, _, h, _, _, _ => by simp at h
 | [a], n + 1, last, c, _, _, hm, hr, h => by
  simp only [List.map_cons, List.map_nil, Rises] at hr;simp only [List.map_cons, List.map_nil, commas, List.cons_append];rw [fieldRow, name_cons hr.1];simp only;rw [if_neg (by simp at hm; omega), if_neg (by simp [hr.2.1]), found_cons];simp only;rw [h a (by simp)];simp only;rw [found_other (.inr (by decide)), found_cons];rfl
 | a :: b :: l, 0, _, _, _, h, _, _, _ => by simp at h
 | a :: b :: l, n + 1, last, c, _, hn, hm, hr, h => by
  have hr0 : V.name (V.bl a.1) = true /\ above last a.1 = true /\ Rises (some a.1) ((b :: l).map (·.1)) := hr;have ih := field_tok (one := one) (tok := tok) (most := most) rest (b :: l) n (some a.1) (c + 1) (by simp) (by simpa using hn) (by simp at hm ⊢; omega) hr0.2.2 (fun x hx => h x (by simp [hx]));simp only [List.map_cons, commas, List.append_assoc, List.cons_append] at ih ⊢;rw [fieldRow, name_cons hr0.1];simp only;rw [if_neg (by simp at hm; omega), if_neg (by simp [hr0.2.1]), found_cons];simp only;rw [h a (by simp)];simp only;rw [found_cons];simp only;rw [ih];rfl
theorem rows_tok {d : Nat} {tok : Ex -> List T} (rest : List T) (l : List Ex) (h : ∀ x ∈ l, ∀ rest, ex d (tok x ++ rest) = some (x, rest)) : rows [93] (ex d) (commas (l.map tok) ++ (4, [93]) :: rest) = some (l, rest) := by
 unfold rows;cases l with
 | nil => simp only [List.map_nil, commas, List.nil_append]; rw [found_cons]
 | cons a l =>
  have hf : found 4 [93] (commas ((a :: l).map tok) ++ (4, [93]) :: rest) = none := by
   have h1 := h a (by simp) [];cases ht : tok a with
   | nil =>
    rw [ht] at h1;cases d with
    | zero => cases h1
    | succ d => cases h1
   | cons t r =>
    have hne : ¬ (t.1 = 4 /\ t.2 = [93]) := by
     rintro ⟨e1, e2⟩;rw [ht] at h1;have : t = (4, [93]) := by rw [<- e1, <- e2]
     rw [this] at h1;cases d with
     | zero => cases h1
     | succ d => cases h1
    cases l with
    | nil => simp only [List.map_cons, List.map_nil, commas, ht, List.cons_append]; rw [found, if_neg hne]
    | cons b l => simp only [List.map_cons, commas, ht, List.cons_append]; rw [found, if_neg hne]
  rw [hf];simp only;refine row_tok (by decide) rest (a :: l) _ (by simp) ?_ h;have := commas_len ((a :: l).map tok);simp only [List.length_map] at this;simp only [List.length_append, List.length_cons] at this ⊢;omega
theorem fields_tok {one : List T -> Option (Ex × List T)} {tok : Ex -> List T} {most : Nat} (rest : List T) (l : List (ByteArray × Ex)) (hm : l.length <= most) (hr : Rises none (l.map (·.1))) (h : ∀ x ∈ l, ∀ rest, one (tok x.2 ++ rest) = some (x.2, rest)) :
  fields most one (commas (l.map (fun p => (1, V.bl p.1) :: (4, [58]) :: tok p.2)) ++ (4, [125]) :: rest) = some (l, rest) := by
 unfold fields;cases l with
 | nil => simp only [List.map_nil, commas, List.nil_append]; rw [found_cons]
 | cons a l =>
  have hf : found 4 [125] (commas ((a :: l).map (fun p => (1, V.bl p.1) :: (4, [58]) :: tok p.2)) ++ (4, [125]) :: rest) = none := by
   cases l with
   | nil => simp only [List.map_cons, List.map_nil, commas, List.cons_append]; rw [found_other (.inl (by decide))]
   | cons b l => simp only [List.map_cons, commas, List.cons_append]; rw [found_other (.inl (by decide))]
  rw [hf];simp only;refine field_tok rest (a :: l) _ none 0 (by simp) ?_ (by omega) hr h;have := commas_len ((a :: l).map (fun p => (1, V.bl p.1) :: (4, [58]) :: tok p.2));simp only [List.length_map] at this;simp only [List.length_append, List.length_cons] at this ⊢;omega
theorem zip_map {α β : Type} (tok : β -> List T) : ∀ l : List (α × β), (l.map (·.1)).zip ((l.map (·.2)).map tok) = l.map (fun p => (p.1, tok p.2))
 | [] => rfl
 | a :: l => by simp only [List.map_cons, List.zip_cons_cons]; rw [zip_map tok l]
theorem dot_cons {s : ByteArray} {r : List T} (h : V.name (V.bl s) = true) : dot ((4, [46]) :: (1, V.bl s) :: r) = some (s, r) := by
 unfold dot;rw [found_cons];exact name_cons h
theorem ex_tok : ∀ (d : Nat) (e : Ex) (rest : List T), Gd d e -> ex d (tokE d e ++ rest) = some (e, rest)
 | 0, _, _, h => h.elim
 | d + 1, e, rest, h => by
  rcases h with ⟨v, rfl, hv⟩ | ⟨s, rfl, hs⟩ | ⟨k, s, t, rfl, hk, hs, ht⟩ | ⟨k, x, y, rfl, hk, hx, hy⟩ | ⟨x, y, z, rfl, hx, hy, hz⟩ | ⟨l, rfl, hl⟩ | ⟨l, rfl, hlen, hr, hl⟩ | ⟨s, x, rfl, hs, hx⟩
  ·have := lit_tok hv rest;show ex (d + 1) (tokV v ++ rest) = _;rw [ex, this.1];simp only [if_true];rw [this.2];rfl
  ·show ex (d + 1) ((1, kIn) :: (4, [46]) :: (1, V.bl s) :: rest) = _;rw [ex, show begins ((1, kIn) :: (4, [46]) :: (1, V.bl s) :: rest) = some 2 from rfl];simp only [List.drop_succ_cons, List.drop_zero];rw [dot_cons hs];rfl
  ·rcases hk with rfl | rfl
   ·show ex (d + 1) ((1, kRes) :: (4, [46]) :: (1, V.bl s) :: (4, [46]) :: (1, V.bl t) :: rest) = _;rw [ex, show begins ((1, kRes) :: (4, [46]) :: (1, V.bl s) :: (4, [46]) :: (1, V.bl t) :: rest) = some 3 from rfl];simp only [List.drop_succ_cons, List.drop_zero];show names2 3 _ = _;unfold names2;rw [dot_cons hs];simp only;rw [dot_cons ht];rfl
   ·show ex (d + 1) ((1, kStack) :: (4, [46]) :: (1, V.bl s) :: (4, [46]) :: (1, V.bl t) :: rest) = _;rw [ex, show begins ((1, kStack) :: (4, [46]) :: (1, V.bl s) :: (4, [46]) :: (1, V.bl t) :: rest) = some 4 from rfl];simp only [List.drop_succ_cons, List.drop_zero];show names2 4 _ = _;unfold names2;rw [dot_cons hs];simp only;rw [dot_cons ht];rfl
  ·rcases hk with rfl | rfl
   ·have e1 : tokE (d + 1) ⟨5, V.zero, ⟨#[]⟩, ⟨#[]⟩, [x, y], []⟩ ++ rest = (4, [40]) :: (tokE d x ++ (4, [43]) :: (tokE d y ++ (4, [41]) :: rest)) := by simp [tokE, at2]
    rw [e1, ex, show begins ((4, [40]) :: (tokE d x ++ (4, [43]) :: (tokE d y ++ (4, [41]) :: rest))) = some (-1) from rfl];simp only [List.drop_succ_cons, List.drop_zero];show group (ex d) _ = _;unfold group;rw [ex_tok d x _ hx];simp only;rw [found_other (.inr (by decide))];simp only;rw [show two ((4, [43]) :: (tokE d y ++ (4, [41]) :: rest)) = some (5, tokE d y ++ (4, [41]) :: rest) from rfl];simp only;rw [ex_tok d y _ hy];simp only;rw [found_cons];rfl
   ·have e1 : tokE (d + 1) ⟨6, V.zero, ⟨#[]⟩, ⟨#[]⟩, [x, y], []⟩ ++ rest = (4, [40]) :: (tokE d x ++ (4, [61, 61]) :: (tokE d y ++ (4, [41]) :: rest)) := by simp [tokE, at2]
    rw [e1, ex, show begins ((4, [40]) :: (tokE d x ++ (4, [61, 61]) :: (tokE d y ++ (4, [41]) :: rest))) = some (-1) from rfl];simp only [List.drop_succ_cons, List.drop_zero];show group (ex d) _ = _;unfold group;rw [ex_tok d x _ hx];simp only;rw [found_other (.inr (by decide))];simp only;rw [show two ((4, [61, 61]) :: (tokE d y ++ (4, [41]) :: rest)) = some (6, tokE d y ++ (4, [41]) :: rest) from rfl];simp only;rw [ex_tok d y _ hy];simp only;rw [found_cons];rfl
  ·have e1 : tokE (d + 1) ⟨7, V.zero, ⟨#[]⟩, ⟨#[]⟩, [x, y, z], []⟩ ++ rest = (4, [40]) :: (tokE d x ++ (4, [63]) :: (tokE d y ++ (4, [58]) :: (tokE d z ++ (4, [41]) :: rest))) := by simp [tokE, at2]
   rw [e1, ex, show begins ((4, [40]) :: (tokE d x ++ (4, [63]) :: (tokE d y ++ (4, [58]) :: (tokE d z ++ (4, [41]) :: rest)))) = some (-1) from rfl];simp only [List.drop_succ_cons, List.drop_zero];show group (ex d) _ = _;unfold group;rw [ex_tok d x _ hx];simp only;rw [found_cons];simp only;unfold choice;rw [ex_tok d y _ hy];simp only;rw [found_cons];simp only;rw [ex_tok d z _ hz];simp only;rw [found_cons];rfl
  ·have e1 : tokE (d + 1) ⟨8, V.zero, ⟨#[]⟩, ⟨#[]⟩, l, []⟩ ++ rest = (4, [91]) :: (commas (l.map (tokE d)) ++ (4, [93]) :: rest) := by simp [tokE]
   rw [e1, ex, show begins ((4, [91]) :: (commas (l.map (tokE d)) ++ (4, [93]) :: rest)) = some 8 from rfl];simp only [List.drop_succ_cons, List.drop_zero];show (rows [93] (ex d) _).map _ = _;rw [rows_tok rest l (fun x hx r => ex_tok d x r (hl x hx))];rfl
  ·have e1 : tokE (d + 1) ⟨9, V.zero, ⟨#[]⟩, ⟨#[]⟩, l.map (·.2), l.map (·.1)⟩ ++ rest = (4, [123]) :: (commas (l.map (fun p => (1, V.bl p.1) :: (4, [58]) :: tokE d p.2)) ++ (4, [125]) :: rest) := by
    simp only [tokE];rw [zip_map (tokE d) l];simp;rfl
   rw [e1, ex, show begins ((4, [123]) :: (commas (l.map (fun p => (1, V.bl p.1) :: (4, [58]) :: tokE d p.2)) ++ (4, [125]) :: rest)) = some 9 from rfl];simp only [List.drop_succ_cons, List.drop_zero];show (fields 4000 (ex d) _).map _ = _;rw [fields_tok (tok := tokE d) rest l (by omega) hr (fun x hx r => ex_tok d x.2 r (hl x hx))];rfl
  ·have e1 : tokE (d + 1) ⟨10, V.zero, s, ⟨#[]⟩, [x], []⟩ ++ rest = (1, kGet) :: (tokE d x ++ (1, V.bl s) :: rest) := by simp [tokE, at2]
   rw [e1, ex, show begins ((1, kGet) :: (tokE d x ++ (1, V.bl s) :: rest)) = some 10 from rfl];simp only [List.drop_succ_cons, List.drop_zero];show pick (ex d) _ = _;unfold pick;rw [ex_tok d x _ hx];simp only;rw [name_cons hs];rfl
end P
namespace P
def Lit (v : Val) : Ex := ⟨1, v, ⟨#[]⟩, ⟨#[]⟩, [], []⟩
def Behind (rest : List T) : Prop := found 1 kInput rest = none /\ found 1 kResource rest = none /\ found 1 kOutput rest = none
end P
namespace P
def Lexes : List UInt8 -> List T -> Prop
 | l, [] => l.drop (Lx.gapLen false l) = []
 | l, (k, t) :: ts => ∃ n, Lx.firstTok (l.drop (Lx.gapLen false l)) = ⟨k, t, n, 0⟩ /\ k ≠ 0 /\ 0 < n /\ n <= (l.drop (Lx.gapLen false l)).length /\ Lexes ((l.drop (Lx.gapLen false l)).drop n) ts
theorem Lexes.nil {l : List UInt8} (h : l.drop (Lx.gapLen false l) = []) : Lexes l [] := h
theorem Lexes.len : ∀ {ts : List T} {l : List UInt8}, Lexes l ts -> ts.length <= l.length
 | [], _, _ => Nat.zero_le _
 | (k, t) :: ts, l, ⟨n, h, hk, hn, hle, r⟩ => by
  have ih := Lexes.len r;simp only [List.length_drop, List.length_cons] at ih hle ⊢;omega
theorem Lexes.toks {l : List UInt8} : ∀ {ts : List T} {v : List UInt8}, Lexes v ts -> ∀ (k n : Nat) (acc : List (Nat × Nat × List UInt8)), l.drop k = v -> ts.length < n -> ∃ r, Lx.toks n l k acc = .ok r /\ r.map Lx.face = acc.map Lx.face ++ ts
 | [], v, h, k, n, acc, hv, hn => by
  have h : v.drop (Lx.gapLen false v) = [] := h;obtain ⟨n, rfl⟩ : ∃ m, n = m + 1 := ⟨n - 1, by simp at hn; omega⟩
  refine ⟨acc, ?_, by simp⟩;rw [Lx.toks, hv, <- List.drop_drop, hv, h];rfl
 | (k0, t) :: ts, v, ⟨n0, h, hk, hn0, hle, r⟩, k, n, acc, hv, hn => by
  obtain ⟨n, rfl⟩ : ∃ m, n = m + 1 := ⟨n - 1, by simp at hn; omega⟩
  obtain ⟨r', h1, h2⟩ := Lexes.toks (l := l) r (k + Lx.gapLen false v + n0) n (acc ++ [(k0, k + Lx.gapLen false v, t)]) (by rw [<- hv, List.drop_drop, List.drop_drop, Nat.add_assoc]) (by simp at hn; omega);refine ⟨r', ?_, by rw [h2]; simp [Lx.face]⟩;rw [Lx.toks, hv, <- List.drop_drop, hv, h];simp only [ne_eq, not_true, if_false, hk];exact h1
theorem Lexes.all {l : List UInt8} {ts : List T} (h : Lexes l ts) (hl : l.length <= 4000) : ∃ r, Lx.lexAll l = .ok r /\ r.map Lx.face = ts := by
 have := h.len;obtain ⟨r, h1, h2⟩ := h.toks 0 (l.length + 1) [] rfl (by omega);refine ⟨r, ?_, by simpa using h2⟩;unfold Lx.lexAll;rw [if_neg (by omega), h1]
theorem Lexes.blank {c : UInt8} (hc : c = 32 \/ c = 10) {v : List UInt8} {ts : List T} (h : Lexes v ts) : Lexes (c :: v) ts := by
 have e : (c :: v).drop (Lx.gapLen false (c :: v)) = v.drop (Lx.gapLen false v) := by
  have h1 : Lx.skips false c = true := by rcases hc with rfl | rfl <;> decide
  have h2 : Lx.nextR false c = false := by rcases hc with rfl | rfl <;> decide
  rw [Lx.gapLen, if_pos h1, h2, List.drop_succ_cons]
 cases ts with
 | nil =>
  show (c :: v).drop (Lx.gapLen false (c :: v)) = [];rw [e];exact h
 | cons x ts =>
  obtain ⟨n, h, hk, hn, hle, r⟩ := h;exact ⟨n, by rw [e]; exact h, hk, hn, by rw [e]; exact hle, by rw [e]; exact r⟩
def Stop (v : List UInt8) : Prop := ∀ c r, v = c :: r -> Lx.wordy c = false
def Reads (u : List UInt8) (ts : List T) : Prop := ∀ v ts', Stop v -> Lexes v ts' -> Lexes (u ++ v) (ts ++ ts')
def Free (u : List UInt8) (ts : List T) : Prop := ∀ v ts', Lexes v ts' -> Lexes (u ++ v) (ts ++ ts')
theorem Free.reads {u : List UInt8} {ts : List T} (h : Free u ts) : Reads u ts := fun v ts' _ hl => h v ts' hl
theorem Free.blank {c : UInt8} (hc : c = 32 \/ c = 10) : Free [c] [] := fun _ _ h => h.blank hc
theorem Free.append {u u' : List UInt8} {ts ts' : List T} (h : Free u ts) (h' : Free u' ts') : Free (u ++ u') (ts ++ ts') := fun v t hl => by
 rw [List.append_assoc, List.append_assoc];exact h _ _ (h' v t hl)
theorem Free.reads_append {u u' : List UInt8} {ts ts' : List T} (h : Free u ts) (h' : Reads u' ts') : Reads (u ++ u') (ts ++ ts') := fun v t hs hl => by
 rw [List.append_assoc, List.append_assoc];exact h _ _ (h' v t hs hl)
theorem Reads.free_append {u u' : List UInt8} {ts ts' : List T} {c : UInt8} (h : Reads u ts) (h' : Free (c :: u') ts') (hc : Lx.wordy c = false) : Free (u ++ c :: u') (ts ++ ts') := fun v t hl => by
 rw [List.append_assoc, List.append_assoc];exact h _ _ (fun d r e => by simp only [List.cons_append, List.cons.injEq] at e; rw [<- e.1]; exact hc) (h' v t hl)
theorem Reads.append {u u' : List UInt8} {ts ts' : List T} {c : UInt8} (h : Reads u ts) (h' : Reads (c :: u') ts') (hc : Lx.wordy c = false) : Reads (u ++ c :: u') (ts ++ ts') := fun v t hs hl => by
 rw [List.append_assoc, List.append_assoc];exact h _ _ (fun d r e => by simp only [List.cons_append, List.cons.injEq] at e; rw [<- e.1]; exact hc) (h' v t hs hl)
theorem gap_zero {c : UInt8} {x : List UInt8} (h1 : ¬ c.toNat = 32) (h2 : ¬ c.toNat = 10) (h3 : ¬ c.toNat = 35) : (c :: x).drop (Lx.gapLen false (c :: x)) = c :: x := by
 rw [Lx.head_gap c x h1 h2 h3, List.drop_zero]
theorem lexes_tok {u v : List UInt8} {c : UInt8} {r : List UInt8} {k : Nat} {t : List UInt8} {ts : List T} (hu : u = c :: r) (h1 : ¬ c.toNat = 32) (h2 : ¬ c.toNat = 10) (h3 : ¬ c.toNat = 35) (hf : Lx.firstTok (u ++ v) = ⟨k, t, u.length, 0⟩) (hk : k ≠ 0) (h : Lexes v ts) : Lexes (u ++ v) ((k, t) :: ts) := by
 subst hu;have e : ((c :: r) ++ v).drop (Lx.gapLen false ((c :: r) ++ v)) = (c :: r) ++ v := gap_zero h1 h2 h3;refine ⟨(c :: r).length, by rw [e]; exact hf, hk, by simp, by rw [e]; simp, ?_⟩;rw [e, List.drop_left']
 ·exact h
 ·rfl
theorem plen_stop {p : UInt8 -> Bool} {u v : List UInt8} (hu : ∀ b ∈ u, p b = true) (hv : ∀ c r, v = c :: r -> p c = false) : Lx.plen p (u ++ v) = u.length := by
 cases v with
 | nil =>
  rw [List.append_nil];clear hv;induction u with
  | nil => rfl
  | cons b u ih => rw [Lx.plen, if_pos (hu b (by simp)), ih (fun x hx => hu x (by simp [hx]))]; rfl
 | cons c r => exact Lx.plen_all p r c (hv c r rfl) u hu
theorem reads_word {w : List UInt8} (h : V.name w = true) : Reads w [(1, w)] := by
 intro v ts hs hl;have hn := h;rw [V.name] at hn;simp only [Bool.and_eq_true, decide_eq_true_eq] at hn;obtain ⟨⟨h1, h2⟩, h3⟩ := hn;cases w with
 | nil => simp at h1
 | cons c r =>
  have hall : ∀ (i : Nat) (l : List UInt8), V.nameFrom i l = true -> ∀ b ∈ l, Lx.wordy b = true := by
   intro i l;induction l generalizing i with
   | nil => intro _ b hb; cases hb
   | cons a l ih =>
    intro hf b hb;rw [V.nameFrom] at hf;simp only [Bool.and_eq_true] at hf;rcases List.mem_cons.1 hb with rfl | hb
    ·have := hf.1;unfold V.nameByte at this;unfold Lx.wordy;simp only [Bool.or_eq_true, Bool.and_eq_true] at this ⊢;rcases this with h | h
     ·exact .inl h
     ·exact .inr h.1
    ·exact ih _ hf.2 b hb
  have hc : Lx.letter c = true := by
   rw [V.nameFrom] at h3;simp only [Bool.and_eq_true] at h3;have := h3.1;unfold V.nameByte at this;simp only [Bool.or_eq_true, Bool.and_eq_true, decide_eq_true_eq] at this;rcases this with h | h
   ·exact h
   ·omega
  have hlet : 97 <= c.toNat /\ c.toNat <= 122 := Lx.is_letter' c hc;have hp := plen_stop (p := Lx.wordy) (u := c :: r) (v := v) (hall 0 _ h3) (fun d x e => hs d x e);refine lexes_tok rfl (by omega) (by omega) (by omega) ?_ (by decide) hl;rw [List.cons_append, Lx.firstTok, if_pos hc, Lx.wordTok, <- List.cons_append, hp, if_neg (by omega), List.take_left'];rfl
theorem dec_digits (u : Nat) : (∀ b ∈ Lib.decDigits u, Lx.digit b = true) /\ (∃ c r, Lib.decDigits u = c :: r /\ (c = 48 -> u = 0)) := by
 induction u using Nat.strongRecOn with
 | ind u ih =>
  rw [Lib.decDigits];split
  ·rename_i h;have hv : (UInt8.ofNat (48 + u)).toNat = 48 + u := by rw [UInt8.toNat_ofNat']; omega
   refine ⟨fun b hb => ?_, _, _, rfl, fun e => ?_⟩
   ·rw [List.mem_singleton] at hb;subst hb;unfold Lx.digit;rw [hv];simp;omega
   ·rw [e] at hv;have : (48 : UInt8).toNat = 48 := rfl;omega
  ·rename_i h;obtain ⟨i1, c, r, i2, i3⟩ := ih (u / 10) (by omega);have hv : (UInt8.ofNat (48 + u % 10)).toNat = 48 + u % 10 := by rw [UInt8.toNat_ofNat']; omega
   refine ⟨fun b hb => ?_, c, r ++ [UInt8.ofNat (48 + u % 10)], by rw [i2]; rfl, fun e => ?_⟩
   ·rcases List.mem_append.1 hb with hb | hb
    ·exact i1 b hb
    ·rw [List.mem_singleton] at hb;subst hb;unfold Lx.digit;rw [hv];simp;omega
   ·have := i3 e;omega
theorem dec_len (u : Nat) (h : u < 10000000000) : (Lib.decDigits u).length <= 10 := by
 have : ∀ (k u : Nat), u < 10 ^ (k + 1) -> (Lib.decDigits u).length <= k + 1 := by
  intro k;induction k with
  | zero => intro u hu; rw [Lib.decDigits, dif_pos (by omega)]; simp
  | succ k ih =>
   intro u hu;rw [Lib.decDigits];split
   ·simp
   ·have := ih (u / 10) (by rw [Nat.pow_succ] at hu; omega);simp only [List.length_append, List.length_cons, List.length_nil];omega
 exact this 9 u h
theorem reads_dec {u : Nat} (h : u <= 1000000000) : Reads (Lib.decDigits u) [(2, Lib.decDigits u)] := by
 intro v ts hs hl;obtain ⟨hd, c, r, e, h0⟩ := dec_digits u;have hlen := dec_len u (by omega);have hc : Lx.digit c = true := hd c (by rw [e]; simp);have hcn : 48 <= c.toNat /\ c.toNat <= 57 := Lx.is_digit' c hc;have hlet : Lx.letter c = false := by
  unfold Lx.letter;simp;omega
 have hp := plen_stop (p := Lx.digit) (u := Lib.decDigits u) (v := v) hd (fun d x e => by have := hs d x e; unfold Lx.wordy at this; simp only [Bool.or_eq_false_iff] at this; exact this.2);refine lexes_tok e (by omega) (by omega) (by omega) ?_ (by decide) hl;have hone : ¬ ((Lib.decDigits u).length > 10 \/ (Lib.decDigits u).length > 1 /\ c = 48) := by
  rintro (h1 | ⟨h1, h2⟩)
  ·omega
  ·have := h0 h2;subst this;rw [Lib.decDigits] at h1;simp at h1
 have e2 : Lib.decDigits u ++ v = c :: (r ++ v) := by rw [e]; rfl
 rw [e2, Lx.firstTok, if_neg (by simp [hlet]), if_pos hc, Lx.digitsTok, <- e2, hp];rw [show (Lib.decDigits u ++ v).headD 0 = c by rw [e2]; rfl, if_neg hone, List.take_left'];rfl
theorem free_quote {t : List UInt8} (h : t.length <= 40) : Free (Lx.quote t) [(3, t)] := by
 intro v ts hl;refine lexes_tok (c := 34) (r := t.flatMap Lx.quoteByte ++ [34]) (by simp [Lx.quote]) (by decide) (by decide) (by decide) ?_ (by decide) hl;have e : Lx.quote t ++ v = 34 :: (t.flatMap Lx.quoteByte ++ 34 :: v) := by simp [Lx.quote]
 rw [e, Lx.firstTok, if_neg (by decide), if_neg (by decide), if_pos (by decide), Lx.quotedTok, List.drop_succ_cons, List.drop_zero, Lx.qt_flat t v 1 [] (by simpa using h)];simp [Lx.quote];omega
theorem free_sign {c : UInt8} (h : c ∈ ([123, 125, 91, 93, 40, 41, 58, 44, 46, 43, 63, 45] : List UInt8)) : Free [c] [(4, [c])] := by
 intro v ts hl;have hcs : Lx.letter c = false /\ Lx.digit c = false /\ ¬ c.toNat = 34 /\ ¬ c.toNat = 32 /\ ¬ c.toNat = 10 /\ ¬ c.toNat = 35 /\ c ≠ 61 /\ ¬ Lib.indexByte Lx.signList c < 0 := by
  revert c
  decide +kernel
 obtain ⟨a1, a2, a3, a4, a5, a6, a7, a8⟩ := hcs;refine lexes_tok rfl a4 a5 a6 ?_ (by decide) hl;rw [List.cons_append, List.nil_append, Lx.firstTok, if_neg (by simp [a1]), if_neg (by simp [a2]), if_neg a3, Lx.signTok, if_neg (by
  intro e;rw [List.take_succ_cons] at e;exact a7 (List.cons.inj e).1), if_neg (show ¬ Lib.indexByte Lx.signList ((c :: v).headD 0) < 0 from a8)]
 rfl
theorem free_eqeq : Free [61, 61] [(4, [61, 61])] := by
 intro v ts hl;refine lexes_tok rfl (by decide) (by decide) (by decide) ?_ (by decide) hl;rw [List.cons_append, Lx.firstTok, if_neg (by decide), if_neg (by decide), if_neg (by decide), Lx.signTok, if_pos (by rfl)];rfl
end P
end Go.Proofs.YtcekcfjabhlheaaGreatDoor.Vx
