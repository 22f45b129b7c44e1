/- StateSays: PE. -/
import Derived.Test.YtcekcfjabhlheaaGreatDoorPD
namespace Go.Proofs.YtcekcfjabhlheaaGreatDoor.Vx
open Go.RowKit
namespace P
def textV (v : Val) : List UInt8 :=
 if v.kind = 1 then Lib.itoa v.n else if v.kind = 2 then Lx.quote (V.bl v.s) else if v.kind = 3 then (if v.n = 1 then kTrue else kFalse) else kNull
def at1 (l : List (List UInt8)) (i : Nat) : List UInt8 := l.getD i []
def textE : Nat -> Ex -> List UInt8
 | 0, _ => []
 | d + 1, e =>
  let a := e.a.map (textE d)
  if e.kind = 2 then [105, 110, 46] ++ V.bl e.s
  else if e.kind = 3 then [114, 101, 115, 46] ++ (V.bl e.s ++ ([46] ++ V.bl e.t))
  else if e.kind = 4 then [115, 116, 97, 99, 107, 46] ++ (V.bl e.s ++ ([46] ++ V.bl e.t))
  else if e.kind = 5 then [40] ++ (at1 a 0 ++ ([32, 43, 32] ++ (at1 a 1 ++ [41])))
  else if e.kind = 6 then [40] ++ (at1 a 0 ++ ([32, 61, 61, 32] ++ (at1 a 1 ++ [41])))
  else if e.kind = 7 then [40] ++ (at1 a 0 ++ ([32, 63, 32] ++ (at1 a 1 ++ ([32, 58, 32] ++ (at1 a 2 ++ [41])))))
  else if e.kind = 8 then [91] ++ (Lib.join a [44, 32] ++ [93])
  else if e.kind = 9 then [123] ++ (Lib.join ((e.n.zip a).map (fun p => V.bl p.1 ++ ([58, 32] ++ p.2))) [44, 32] ++ [125])
  else if e.kind = 10 then [103, 101, 116, 32] ++ (at1 a 0 ++ ([32] ++ V.bl e.s))
  else textV e.v
theorem Free.eq {u u' : List UInt8} {ts ts' : List T} (h : Free u ts) (hu : u = u') (ht : ts = ts') : Free u' ts' := by subst hu; subst ht; exact h
theorem Reads.eq {u u' : List UInt8} {ts ts' : List T} (h : Reads u ts) (hu : u = u') (ht : ts = ts') : Reads u' ts' := by subst hu; subst ht; exact h
theorem reads_V {v : Val} (h : Plain v) : Reads (textV v) (tokV v) := by
 rcases h with rfl | ⟨n, rfl, h1, h2⟩ | ⟨s, rfl, h⟩ | rfl | rfl
 ·exact (reads_word (w := kNull) (by decide)).eq rfl rfl
 ·by_cases hn : n < 0
  ·have := (free_sign (c := 45) (by decide)).reads_append (reads_dec (u := n.natAbs) (by omega));refine this.eq ?_ ?_
   ·simp [textV, Lib.itoa, hn]
   ·simp [tokV, hn]
  ·refine (reads_dec (u := n.toNat) (by omega)).eq ?_ ?_
   ·simp [textV, Lib.itoa, hn]
   ·simp [tokV, hn]
 ·exact (free_quote (t := V.bl s) (by rw [V.length_bl]; exact h)).reads.eq rfl rfl
 ·exact (reads_word (w := kFalse) (by decide)).eq rfl rfl
 ·exact (reads_word (w := kTrue) (by decide)).eq rfl rfl
theorem join_two (x y : List UInt8) (r : List (List UInt8)) (sep : List UInt8) : Lib.join (x :: y :: r) sep = x ++ (sep ++ Lib.join (y :: r) sep) := by
 simp [Lib.join, List.intercalate]
theorem free_join {α : Type} {f : α -> List UInt8} {tok : α -> List T} {c : UInt8} (hc : Lx.wordy c = false) (hs : Free [c] [(4, [c])]) : ∀ l : List α, (∀ x ∈ l, Reads (f x) (tok x)) -> Free (Lib.join (l.map f) [44, 32] ++ [c]) (commas (l.map tok) ++ [(4, [c])])
 | [], _ => by simpa [Lib.join, commas] using hs
 | [a], h => by
  simp only [List.map_cons, List.map_nil, Lib.join_one, commas];exact (h a (by simp)).free_append hs hc
 | a :: b :: l, h => by
  have ih := free_join hc hs (b :: l) (fun x hx => h x (by simp [hx]));have h1 := (h a (by simp)).free_append (c := 44) (u' := 32 :: (Lib.join ((b :: l).map f) [44, 32] ++ [c])) ((free_sign (c := 44) (by decide)).append ((Free.blank (c := 32) (.inl rfl)).append ih)) (by decide);refine h1.eq ?_ ?_
  ·simp only [List.map_cons];rw [join_two];simp
  ·simp [commas]
theorem reads_E : ∀ (d : Nat) (e : Ex), Gd d e -> Reads (textE d e) (tokE d e)
 | 0, _, h => h.elim
 | d + 1, e, h => by
  rcases h with ⟨v, rfl, hv⟩ | ⟨s, rfl, hs⟩ | ⟨k, s, t, rfl, hk, hs, ht⟩ | ⟨k, x, y, rfl, hk, hx, hy⟩ | ⟨x, y, z, rfl, hx, hy, hz⟩ | ⟨l, rfl, hl⟩ | ⟨l, rfl, hlen, hr, hl⟩ | ⟨s, x, rfl, hs, hx⟩
  ·exact (reads_V hv).eq rfl rfl
  ·refine ((reads_word (w := kIn) (by decide)).append (c := 46) (u' := V.bl s) ((free_sign (c := 46) (by decide)).reads_append (reads_word hs)) (by decide)).eq ?_ ?_
   ·simp [textE, kIn]
   ·simp [tokE];rfl
  ·have h1 := (reads_word hs).append (c := 46) (u' := V.bl t) ((free_sign (c := 46) (by decide)).reads_append (reads_word ht)) (by decide);rcases hk with rfl | rfl
   ·refine ((reads_word (w := kRes) (by decide)).append (c := 46) (u' := V.bl s ++ 46 :: V.bl t) ((free_sign (c := 46) (by decide)).reads_append h1) (by decide)).eq ?_ ?_
    ·simp [textE, kRes]
    ·simp [tokE];rfl
   ·refine ((reads_word (w := kStack) (by decide)).append (c := 46) (u' := V.bl s ++ 46 :: V.bl t) ((free_sign (c := 46) (by decide)).reads_append h1) (by decide)).eq ?_ ?_
    ·simp [textE, kStack]
    ·simp [tokE];rfl
  ·have r1 := (reads_E d y hy).free_append (c := 41) (u' := []) (free_sign (c := 41) (by decide)) (by decide);rcases hk with rfl | rfl
   ·have r3 := (reads_E d x hx).free_append (c := 32) (u' := 43 :: 32 :: (textE d y ++ [41])) ((Free.blank (c := 32) (.inl rfl)).append ((free_sign (c := 43) (by decide)).append ((Free.blank (c := 32) (.inl rfl)).append r1))) (by decide);refine ((free_sign (c := 40) (by decide)).append r3).reads.eq ?_ ?_
    ·simp [textE, at1]
    ·simp [tokE, at2]
   ·have r3 := (reads_E d x hx).free_append (c := 32) (u' := 61 :: 61 :: 32 :: (textE d y ++ [41])) ((Free.blank (c := 32) (.inl rfl)).append (free_eqeq.append ((Free.blank (c := 32) (.inl rfl)).append r1))) (by decide);refine ((free_sign (c := 40) (by decide)).append r3).reads.eq ?_ ?_
    ·simp [textE, at1]
    ·simp [tokE, at2]
  ·have r1 := (reads_E d z hz).free_append (c := 41) (u' := []) (free_sign (c := 41) (by decide)) (by decide);have r2 := (reads_E d y hy).free_append (c := 32) (u' := 58 :: 32 :: (textE d z ++ [41])) ((Free.blank (c := 32) (.inl rfl)).append ((free_sign (c := 58) (by decide)).append ((Free.blank (c := 32) (.inl rfl)).append r1))) (by decide);have r3 := (reads_E d x hx).free_append (c := 32) (u' := 63 :: 32 :: (textE d y ++ 32 :: 58 :: 32 :: (textE d z ++ [41]))) ((Free.blank (c := 32) (.inl rfl)).append ((free_sign (c := 63) (by decide)).append ((Free.blank (c := 32) (.inl rfl)).append r2))) (by decide);refine ((free_sign (c := 40) (by decide)).append r3).reads.eq ?_ ?_
   ·simp [textE, at1]
   ·simp [tokE, at2]
  ·have r1 := free_join (f := textE d) (tok := tokE d) (c := 93) (by decide) (free_sign (by decide)) l (fun x hx => reads_E d x (hl x hx));refine ((free_sign (c := 91) (by decide)).append r1).reads.eq ?_ ?_
   ·simp [textE]
   ·simp [tokE]
  ·have hn : ∀ x ∈ l, V.name (V.bl x.1) = true := by
    have : ∀ (m : List (ByteArray × Ex)) (last : Option ByteArray), Rises last (m.map (·.1)) -> ∀ x ∈ m, V.name (V.bl x.1) = true := by
     intro m;induction m with
     | nil => intro _ _ x hx; cases hx
     | cons a m ih =>
      intro last hr x hx;simp only [List.map_cons, Rises] at hr;rcases List.mem_cons.1 hx with rfl | hx
      ·exact hr.1
      ·exact ih _ hr.2.2 x hx
    exact this l none hr
   have r1 := free_join (f := fun p : ByteArray × Ex => V.bl p.1 ++ ([58, 32] ++ textE d p.2)) (tok := fun p => (1, V.bl p.1) :: (4, [58]) :: tokE d p.2) (c := 125) (by decide) (free_sign (by decide)) l (fun x hx => by
    refine ((reads_word (hn x hx)).append (c := 58) (u' := 32 :: textE d x.2) ((free_sign (c := 58) (by decide)).reads_append ((Free.blank (c := 32) (.inl rfl)).reads_append (reads_E d x.2 (hl x hx)))) (by decide)).eq ?_ ?_
    ·simp
    ·simp)
   refine ((free_sign (c := 123) (by decide)).append r1).reads.eq ?_ ?_
   ·simp only [textE];have e : ((l.map (·.1)).zip ((l.map (·.2)).map (textE d))).map (fun p => V.bl p.1 ++ ([58, 32] ++ p.2)) = l.map (fun p => V.bl p.1 ++ ([58, 32] ++ textE d p.2)) := by
     clear r1 hn hl hr hlen;induction l with
     | nil => rfl
     | cons a l ih => simp only [List.map_cons, List.zip_cons_cons]; rw [ih]
    rw [e];simp
   ·simp only [tokE];rw [zip_map (tokE d) l];simp;rfl
  ·have r1 := (reads_E d x hx).append (c := 32) (u' := V.bl s) ((Free.blank (c := 32) (.inl rfl)).reads_append (reads_word hs)) (by decide);refine ((reads_word (w := kGet) (by decide)).append (c := 32) (u' := textE d x ++ 32 :: V.bl s) ((Free.blank (c := 32) (.inl rfl)).reads_append r1) (by decide)).eq ?_ ?_
   ·simp [textE, at1, kGet]
   ·simp [tokE, at2];rfl
end P
end Go.Proofs.YtcekcfjabhlheaaGreatDoor.Vx
