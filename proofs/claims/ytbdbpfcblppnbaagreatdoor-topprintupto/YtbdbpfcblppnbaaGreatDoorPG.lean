/- For TopPrint: how long what is printed is. -/
import Derived.Test.YtbdbpfcblppnbaaGreatDoorT1
import Derived.Test.YtbdbpfcblppnbaaGreatDoorX3
namespace Go.Proofs.YtbdbpfcblppnbaaGreatDoor.Vx
open Go.RowKit
namespace P
theorem sum300 {α : Type} (l : List α) (g h : α → Nat) (c : Nat) (hh : ∀ x ∈ l, g x ≤ 300 * h x + c) : (l.map g).sum ≤ 300 * (l.map h).sum + c * l.length := by
 induction l with
 | nil => simp
 | cons a t ih =>
  have h1 := hh a (by simp)
  have h2 := ih (fun x hx => hh x (by simp [hx]))
  simp only [List.map_cons, List.sum_cons, List.length_cons]
  rw [Nat.mul_add, Nat.mul_add, Nat.mul_one]
  omega
theorem flat_sum {α : Type} (f : α → List UInt8) (l : List α) : (l.flatMap f).length = (l.map (fun x => (f x).length)).sum := by
 induction l with
 | nil => rfl
 | cons a t ih => simp [List.flatMap_cons, ih]
theorem vbulk_up : ∀ (m : Nat) (v : Val), V.bulk m v ≤ V.bulk (m + 1) v
 | 0, v => by simp [V.bulk]
 | m + 1, v => by
  have h1 := V.sumL_mono (V.bulk m) (V.bulk (m + 1)) v.l (vbulk_up m)
  have h2 := V.sumF_mono (fun x => x.1.size + V.bulk m x.2) (fun x => x.1.size + V.bulk (m + 1) x.2) v.f (fun x => by have := vbulk_up m x.2; omega)
  rw [V.bulk, V.bulk]
  omega
theorem sumA_mono (g h : Ex → Nat) (hh : ∀ x, g x ≤ h x) : ∀ l : List Ex, X.sumA g l ≤ X.sumA h l
 | [] => Nat.le_refl _
 | a :: l => by
  have := sumA_mono g h hh l
  have := hh a
  unfold X.sumA at *
  simp only [List.map_cons, List.sum_cons]
  omega
theorem xbulk_up : ∀ (m : Nat) (e : Ex), X.bulk m e ≤ X.bulk (m + 1) e
 | 0, _ => Nat.zero_le _
 | m + 1, e => by
  have h1 := vbulk_up (m + 1) e.v
  have h2 := sumA_mono _ _ (xbulk_up m) e.a
  rw [X.bulk, X.bulk]
  omega
theorem xbulk_le {m k : Nat} (h : m ≤ k) (e : Ex) : X.bulk m e ≤ X.bulk k e := by
 obtain ⟨j, rfl⟩ := Nat.exists_eq_add_of_le h
 clear h
 induction j with
 | zero => exact Nat.le_refl _
 | succ j ih => exact Nat.le_trans ih (xbulk_up (m + j) e)
theorem zip_texts (f : Ex → List UInt8) : ∀ l : List (ByteArray × Ex), ((l.map (·.1)).zip ((l.map (·.2)).map f)).map (fun p => V.bl p.1 ++ ([58, 32] ++ p.2)) = l.map (fun p => V.bl p.1 ++ ([58, 32] ++ f p.2))
 | [] => rfl
 | a :: l => by
  have := zip_texts f l
  simp only [List.map_cons, List.zip_cons_cons]
  rw [this]
theorem textE_len : ∀ (d : Nat) (e : Ex), Gd d e → (textE d e).length ≤ 300 * X.bulk d e
 | 0, _, h => h.elim
 | d + 1, e, h => by
  have ih := textE_len d
  have e0 : (⟨#[]⟩ : ByteArray).size = 0 := rfl
  rcases h with ⟨v, rfl, hp⟩ | ⟨s, rfl, h1⟩ | ⟨k, s, t, rfl, hk, h1, h2⟩ | ⟨k, x, y, rfl, hk, h1, h2⟩ | ⟨x, y, z, rfl, h1, h2, h3⟩ | ⟨l, rfl, h1⟩ | ⟨l, rfl, hl, hr, h1⟩ | ⟨s, x, rfl, h1, h2⟩
  ·have := textV_len hp
   have e1 : textE (d + 1) ⟨1, v, ⟨#[]⟩, ⟨#[]⟩, [], []⟩ = textV v := rfl
   rw [e1, X.bulk]
   omega
  ·have e1 : textE (d + 1) ⟨2, V.zero, s, ⟨#[]⟩, [], []⟩ = [105, 110, 46] ++ V.bl s := rfl
   rw [e1, X.bulk, List.length_append, V.length_bl]
   simp only [List.length_cons, List.length_nil]
   omega
  ·rcases hk with rfl | rfl
   ·have e1 : textE (d + 1) ⟨3, V.zero, s, t, [], []⟩ = [114, 101, 115, 46] ++ (V.bl s ++ ([46] ++ V.bl t)) := rfl
    rw [e1, X.bulk]
    simp only [List.length_append, V.length_bl, List.length_cons, List.length_nil]
    omega
   ·have e1 : textE (d + 1) ⟨4, V.zero, s, t, [], []⟩ = [115, 116, 97, 99, 107, 46] ++ (V.bl s ++ ([46] ++ V.bl t)) := rfl
    rw [e1, X.bulk]
    simp only [List.length_append, V.length_bl, List.length_cons, List.length_nil]
    omega
  ·have i1 := ih x h1
   have i2 := ih y h2
   rcases hk with rfl | rfl
   ·have e1 : textE (d + 1) ⟨5, V.zero, ⟨#[]⟩, ⟨#[]⟩, [x, y], []⟩ = [40] ++ (textE d x ++ ([32, 43, 32] ++ (textE d y ++ [41]))) := rfl
    rw [e1, X.bulk]
    simp only [List.length_append, List.length_cons, List.length_nil, X.sumA, List.map_cons, List.map_nil, List.sum_cons, List.sum_nil]
    omega
   ·have e1 : textE (d + 1) ⟨6, V.zero, ⟨#[]⟩, ⟨#[]⟩, [x, y], []⟩ = [40] ++ (textE d x ++ ([32, 61, 61, 32] ++ (textE d y ++ [41]))) := rfl
    rw [e1, X.bulk]
    simp only [List.length_append, List.length_cons, List.length_nil, X.sumA, List.map_cons, List.map_nil, List.sum_cons, List.sum_nil]
    omega
  ·have i1 := ih x h1
   have i2 := ih y h2
   have i3 := ih z h3
   have e1 : textE (d + 1) ⟨7, V.zero, ⟨#[]⟩, ⟨#[]⟩, [x, y, z], []⟩ = [40] ++ (textE d x ++ ([32, 63, 32] ++ (textE d y ++ ([32, 58, 32] ++ (textE d z ++ [41]))))) := rfl
   rw [e1, X.bulk]
   simp only [List.length_append, List.length_cons, List.length_nil, X.sumA, List.map_cons, List.map_nil, List.sum_cons, List.sum_nil]
   omega
  ·have e1 : textE (d + 1) ⟨8, V.zero, ⟨#[]⟩, ⟨#[]⟩, l, []⟩ = [91] ++ (Lib.join (l.map (textE d)) [44, 32] ++ [93]) := rfl
   have hj := V.join_len [44, 32] (l.map (textE d))
   rw [List.map_map] at hj
   have hs := sum300 l ((fun x => [44, 32].length + x.length) ∘ textE d) (X.bulk d) 2 (fun x hx => by
    have := ih x (h1 x hx)
    show 2 + (textE d x).length ≤ _
    omega)
   rw [e1, X.bulk]
   simp only [List.length_append, List.length_cons, List.length_nil, X.sumA]
   omega
  ·have e1 : textE (d + 1) ⟨9, V.zero, ⟨#[]⟩, ⟨#[]⟩, l.map (·.2), l.map (·.1)⟩ = [123] ++ (Lib.join (((l.map (·.1)).zip ((l.map (·.2)).map (textE d))).map (fun p => V.bl p.1 ++ ([58, 32] ++ p.2))) [44, 32] ++ [125]) := rfl
   rw [zip_texts] at e1
   have hj := V.join_len [44, 32] (l.map (fun p => V.bl p.1 ++ ([58, 32] ++ textE d p.2)))
   rw [List.map_map] at hj
   have hs := sum300 l ((fun x => [44, 32].length + x.length) ∘ (fun p => V.bl p.1 ++ ([58, 32] ++ textE d p.2))) (fun p => p.1.size + X.bulk d p.2) 4 (fun x hx => by
    have := ih x.2 (h1 x hx)
    show 2 + (V.bl x.1 ++ ([58, 32] ++ textE d x.2)).length ≤ _
    simp only [List.length_append, V.length_bl, List.length_cons, List.length_nil]
    omega)
   have hq := sumP_eq d l
   unfold X.sumP at hq
   rw [e1, X.bulk]
   simp only [List.length_append, List.length_cons, List.length_nil, List.length_map]
   omega
  ·have i2 := ih x h2
   have e1 : textE (d + 1) ⟨10, V.zero, s, ⟨#[]⟩, [x], []⟩ = [103, 101, 116, 32] ++ (textE d x ++ ([32] ++ V.bl s)) := rfl
   rw [e1, X.bulk]
   simp only [List.length_append, List.length_cons, List.length_nil, V.length_bl, X.sumA, List.map_cons, List.map_nil, List.sum_cons, List.sum_nil]
   omega
theorem sk_len {ok : Ex → Bool} {m : Nat} (hm : 6 ≤ m) {s : Sk} (h : Sv ok s) : (skText 6 s).length ≤ 300 * X.bulkS m s + 20 := by
 have hi := sum300 s.ins (fun x => (inText x).length) (fun x => x.1.size + V.bulk m x.2) 250 (fun x hx => by
  have := textV_len (h.ins x hx).2.1
  show (kInput ++ ([32] ++ (V.bl x.1 ++ ([32, 61, 32] ++ (textV x.2 ++ [10]))))).length ≤ _
  simp only [List.length_append, V.length_bl, kInput, List.length_cons, List.length_nil]
  omega)
 have hr := sum300 s.res (fun x => (resText 6 x).length) (fun r => r.kind.size + r.name.size + X.sumP m r.parts) 100 (fun x hx => by
  obtain ⟨_, _, h6, _, hg⟩ := h.res x hx
  have hp : (partsText 6 x.parts).length ≤ 300 * X.sumP m x.parts + 4 * x.parts.length := by
   have hj := V.join_len [44] (x.parts.map (partText 6))
   rw [List.map_map] at hj
   have hs := sum300 x.parts ((fun x => [44].length + x.length) ∘ partText 6) (fun p => p.1.size + X.bulk m p.2) 4 (fun y hy => by
    have h1 := textE_len 6 y.2 (hg y hy).1
    have h2 := xbulk_le hm y.2
    show 1 + ([32] ++ (V.bl y.1 ++ ([58, 32] ++ textE 6 y.2))).length ≤ _
    simp only [List.length_append, V.length_bl, List.length_cons, List.length_nil]
    omega)
   unfold partsText X.sumP
   omega
  show (kResource ++ ([32] ++ (V.bl x.kind ++ ([32] ++ (V.bl x.name ++ ([32, 123] ++ (partsText 6 x.parts ++ [32, 125, 10]))))))).length ≤ _
  simp only [List.length_append, V.length_bl, kResource, List.length_cons, List.length_nil]
  omega)
 have ho := sum300 s.outs (fun x => (outText 6 x).length) (fun x => x.1.size + X.bulk m x.2) 50 (fun x hx => by
  have h1 := textE_len 6 x.2 (h.outs x hx).2.1
  have h2 := xbulk_le hm x.2
  show (kOutput ++ ([32] ++ (V.bl x.1 ++ ([32, 61, 32] ++ (textE 6 x.2 ++ [10]))))).length ≤ _
  simp only [List.length_append, V.length_bl, kOutput, List.length_cons, List.length_nil]
  omega)
 unfold skText X.bulkS X.sumI X.sumR X.sumP
 simp only [List.length_append, V.length_bl, kStack, List.length_cons, List.length_nil, flat_sum]
 unfold X.sumP at hr
 omega
end P
end Go.Proofs.YtbdbpfcblppnbaaGreatDoor.Vx
