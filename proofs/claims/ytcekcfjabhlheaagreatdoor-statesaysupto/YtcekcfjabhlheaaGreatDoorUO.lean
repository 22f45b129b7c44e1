/- StateSays: UB UO. -/
import Derived.Test.YtcekcfjabhlheaaGreatDoorVJ
import Derived.Test.YtcekcfjabhlheaaGreatDoorDE
import Derived.Test.YtcekcfjabhlheaaGreatDoorUK
import Derived.Test.YtcekcfjabhlheaaGreatDoorVY
set_option maxRecDepth 100000
set_option maxHeartbeats 3200000
namespace Go.Proofs.YtcekcfjabhlheaaGreatDoor.Vx
open Go.RowKit
structure Hd where
 name : ByteArray
 kind : ByteArray
 id : Int
 v : Val
structure It where
 op : Int
 h : Hd
 token : ByteArray
structure St where
 serial : Int
 held : List Hd
 its : List It
 outs : List (ByteArray × Val)
namespace S
def in64 (n : Int) : Prop := -9223372036854775808 <= n /\ n <= 9223372036854775807
def HB (m : Nat) (w : World) (h : Hd) (cs : List Value) : Prop := ∃ a0 a1 a2 a3 a4, cs = [.string h.name, .string h.kind, .int .i64 h.id, a0, a1, a2, a3, a4] /\ V.Mem m w h.v [a0, a1, a2, a3, a4] /\ in64 h.id
def IB (m : Nat) (w : World) (x : It) (cs : List Value) : Prop := ∃ a0 a1 a2 a3 a4, cs = [.int .i64 x.op, .string x.h.name, .string x.h.kind, .int .i64 x.h.id, a0, a1, a2, a3, a4, .string x.token] /\ V.Mem m w x.h.v [a0, a1, a2, a3, a4] /\ in64 x.h.id /\ in64 x.op
def HRow (m : Nat) (w : World) (v : Value) (l : List Hd) : Prop := V.Row w v l.length 8 (fun i c => ∃ x, l[i]? = some x /\ HB m w x c)
def IRow (m : Nat) (w : World) (v : Value) (l : List It) : Prop := V.Row w v l.length 10 (fun i c => ∃ x, l[i]? = some x /\ IB m w x c)
def ORow (m : Nat) (w : World) (v : Value) (l : List (ByteArray × Val)) : Prop := V.Row w v l.length 6 (fun i c => ∃ x c', l[i]? = some x /\ c = .string x.1 :: c' /\ V.Mem m w x.2 c')
def Mem (m : Nat) (w : World) (s : St) (cs : List Value) : Prop := ∃ hv iv ov, cs = [.int .i64 s.serial, hv, iv, ov] /\ HRow m w hv s.held /\ IRow m w iv s.its /\ ORow m w ov s.outs /\ in64 s.serial
theorem HB.kept {m : Nat} {w w' : World} {h : Hd} {cs : List Value} (k : HB m w h cs) (hb : Below w.heap.size w w') : HB m w' h cs := by
 obtain ⟨a0, a1, a2, a3, a4, e, hm, hi⟩ := k;exact ⟨a0, a1, a2, a3, a4, e, V.Mem.kept m hm hb, hi⟩
theorem IB.kept {m : Nat} {w w' : World} {h : It} {cs : List Value} (k : IB m w h cs) (hb : Below w.heap.size w w') : IB m w' h cs := by
 obtain ⟨a0, a1, a2, a3, a4, e, hm, hi⟩ := k;exact ⟨a0, a1, a2, a3, a4, e, V.Mem.kept m hm hb, hi⟩
theorem HRow.kept {m : Nat} {w w' : World} {v : Value} {l : List Hd} (k : HRow m w v l) (hb : Below w.heap.size w w') : HRow m w' v l := V.Row.kept k hb (fun _ _ ⟨x, hx, h⟩ => ⟨x, hx, h.kept hb⟩)
theorem IRow.kept {m : Nat} {w w' : World} {v : Value} {l : List It} (k : IRow m w v l) (hb : Below w.heap.size w w') : IRow m w' v l := V.Row.kept k hb (fun _ _ ⟨x, hx, h⟩ => ⟨x, hx, h.kept hb⟩)
theorem ORow.kept {m : Nat} {w w' : World} {v : Value} {l : List (ByteArray × Val)} (k : ORow m w v l) (hb : Below w.heap.size w w') : ORow m w' v l := V.Row.kept k hb (fun _ _ ⟨x, c', hx, e, h⟩ => ⟨x, c', hx, e, V.Mem.kept m h hb⟩)
theorem Mem.kept {m : Nat} {w w' : World} {s : St} {cs : List Value} (k : Mem m w s cs) (hb : Below w.heap.size w w') : Mem m w' s cs := by
 obtain ⟨hv, iv, ov, e, h1, h2, h3, h4⟩ := k;exact ⟨hv, iv, ov, e, h1.kept hb, h2.kept hb, h3.kept hb, h4⟩
theorem elemH {m : Nat} {w : World} {v : Value} {l : List Hd} (h : HRow m w v l) (i : Nat) (hi : i < l.length) :
  ∃ b off cap x a0 a1 a2 a3 a4, v = .slice (some ⟨b, off, none⟩) l.length cap /\ l[i]? = some x /\ V.Mem m w x.v [a0, a1, a2, a3, a4] /\ in64 x.id /\
   w.cell? ⟨b, off + i * 8, none⟩ = some (.string x.name) /\ w.cell? ⟨b, off + i * 8 + 1, none⟩ = some (.string x.kind) /\ w.cell? ⟨b, off + i * 8 + 2, none⟩ = some (.int .i64 x.id) /\
   w.cell? ⟨b, off + i * 8 + 3, none⟩ = some a0 /\ w.cell? ⟨b, off + i * 8 + 4, none⟩ = some a1 /\ w.cell? ⟨b, off + i * 8 + 5, none⟩ = some a2 /\ w.cell? ⟨b, off + i * 8 + 6, none⟩ = some a3 /\ w.cell? ⟨b, off + i * 8 + 7, none⟩ = some a4 := by
 obtain ⟨ao, cap, rfl, h | ⟨b, off, rfl, h⟩⟩ := h
 ·omega
 ·obtain ⟨cs, h1, h2, x, hx, a0, a1, a2, a3, a4, rfl, hm, hr⟩ := h i hi;exact ⟨b, off, cap, x, a0, a1, a2, a3, a4, rfl, hx, hm, hr, h2 0 (by omega), h2 1 (by omega), h2 2 (by omega), h2 3 (by omega), h2 4 (by omega), h2 5 (by omega), h2 6 (by omega), h2 7 (by omega)⟩
theorem elemI {m : Nat} {w : World} {v : Value} {l : List It} (h : IRow m w v l) (i : Nat) (hi : i < l.length) :
  ∃ b off cap x a0 a1 a2 a3 a4, v = .slice (some ⟨b, off, none⟩) l.length cap /\ l[i]? = some x /\ V.Mem m w x.h.v [a0, a1, a2, a3, a4] /\ in64 x.h.id /\ in64 x.op /\
   w.cell? ⟨b, off + i * 10, none⟩ = some (.int .i64 x.op) /\ w.cell? ⟨b, off + i * 10 + 1, none⟩ = some (.string x.h.name) /\ w.cell? ⟨b, off + i * 10 + 2, none⟩ = some (.string x.h.kind) /\ w.cell? ⟨b, off + i * 10 + 3, none⟩ = some (.int .i64 x.h.id) /\
   w.cell? ⟨b, off + i * 10 + 4, none⟩ = some a0 /\ w.cell? ⟨b, off + i * 10 + 5, none⟩ = some a1 /\ w.cell? ⟨b, off + i * 10 + 6, none⟩ = some a2 /\ w.cell? ⟨b, off + i * 10 + 7, none⟩ = some a3 /\ w.cell? ⟨b, off + i * 10 + 8, none⟩ = some a4 /\ w.cell? ⟨b, off + i * 10 + 9, none⟩ = some (.string x.token) := by
 obtain ⟨ao, cap, rfl, h | ⟨b, off, rfl, h⟩⟩ := h
 ·omega
 ·obtain ⟨cs, h1, h2, x, hx, a0, a1, a2, a3, a4, rfl, hm, hr, ho⟩ := h i hi;exact ⟨b, off, cap, x, a0, a1, a2, a3, a4, rfl, hx, hm, hr, ho, h2 0 (by omega), h2 1 (by omega), h2 2 (by omega), h2 3 (by omega), h2 4 (by omega), h2 5 (by omega), h2 6 (by omega), h2 7 (by omega), h2 8 (by omega), h2 9 (by omega)⟩
theorem elemO {m : Nat} {w : World} {v : Value} {l : List (ByteArray × Val)} (h : ORow m w v l) (i : Nat) (hi : i < l.length) :
  ∃ b off cap x a0 a1 a2 a3 a4, v = .slice (some ⟨b, off, none⟩) l.length cap /\ l[i]? = some x /\ V.Mem m w x.2 [a0, a1, a2, a3, a4] /\
   w.cell? ⟨b, off + i * 6, none⟩ = some (.string x.1) /\ w.cell? ⟨b, off + i * 6 + 1, none⟩ = some a0 /\ w.cell? ⟨b, off + i * 6 + 2, none⟩ = some a1 /\ w.cell? ⟨b, off + i * 6 + 3, none⟩ = some a2 /\ w.cell? ⟨b, off + i * 6 + 4, none⟩ = some a3 /\ w.cell? ⟨b, off + i * 6 + 5, none⟩ = some a4 := by
 obtain ⟨ao, cap, rfl, h | ⟨b, off, rfl, h⟩⟩ := h
 ·omega
 ·obtain ⟨cs, h1, h2, x, c', hx, rfl, hm⟩ := h i hi
  match c', h1 with
  | [a0, a1, a2, a3, a4], _ => exact ⟨b, off, cap, x, a0, a1, a2, a3, a4, rfl, hx, hm, h2 0 (by omega), h2 1 (by omega), h2 2 (by omega), h2 3 (by omega), h2 4 (by omega), h2 5 (by omega)⟩
theorem Mem.form {m : Nat} {w : World} {v : Val} {cs : List Value} (h : V.Mem m w v cs) : ∃ al l cl af f cf, cs = [.int .i64 v.kind, .int .i64 v.n, .string v.s, .slice al l cl, .slice af f cf] := by
 cases m with
 | zero => exact h.elim
 | succ m =>
  obtain ⟨lv, fv, rfl, ⟨al, cl, rfl, _⟩, ⟨af, cf, rfl, _⟩⟩ := h;exact ⟨al, _, cl, af, _, cf, rfl⟩
def faultH (m : Nat) (h : Hd) : Nat := if V.name (V.bl h.name) = true /\ V.name (V.bl h.kind) = true /\ 0 <= h.id /\ h.v.kind = 5 then V.fault m h.v else 3
end S
theorem checkOne_any (m : Nat) (w : World) (h : Hd) (a0 a1 a2 a3 a4 : Value) (hm : V.Mem m w h.v [a0, a1, a2, a3, a4]) (hbk : V.bulk m h.v <= 2000000) (hn : h.name.size <= maxLen) (hk : h.kind.size <= maxLen) :
  Calls Tryz.prog 67 #[.agg #[.string h.name, .string h.kind, .int .i64 h.id, a0, a1, a2, a3, a4]] w fun o w' => o = .returned (V.errOf (S.faultH m h)) /\ Below w.heap.size w w' := by
 obtain ⟨al, ll, cl, af, lf, cf, hcs⟩ := S.Mem.form hm;obtain ⟨rfl, rfl, rfl, rfl, rfl⟩ := ij5 hcs;have hb0 : Below w.heap.size w (w.alloc (.cells #[.string h.name, .string h.kind, .int .i64 h.id, .int .i64 h.v.kind, .int .i64 h.v.n, .string h.v.s, .slice al ll cl, .slice af lf cf] 63)) := ba;have hA := heap_alloc_new w (.cells #[.string h.name, .string h.kind, .int .i64 h.id, .int .i64 h.v.kind, .int .i64 h.v.n, .string h.v.s, .slice al ll cl, .slice af lf cf] 63);have HB0 := hide hb0;have HCK := hide (check_any m _ h.v _ _ _ _ _ (V.Mem.kept m hm hb0) hbk);have HF : Hid (S.faultH m h = if V.name (V.bl h.name) = true /\ V.name (V.bl h.kind) = true /\ 0 <= h.id /\ h.v.kind = 5 then V.fault m h.v else 3) := rfl;obtain ⟨x0, x1, x2, x3, x4, x5, x6, x7⟩ := cl8 hA;have f0 := free_of_block hA;clear hA hb0 hm hbk;have HN1 := hide (fun w => name_any h.name w hn);have HN2 := hide (fun w => name_any h.kind w hk);clear hn hk;go_enter Tryz.func67, Tryz.ntmps67;go_wp2_with fail;refine (HN1.out _).mono ?_;rintro e w1 ⟨rfl, hw⟩;rw [hw];clear hw;cases hn1 : V.name (V.bl h.name)
 ·have E : Hid (S.faultH m h = 3) := HF.out.trans (if_neg (fun e => by rw [hn1] at e; exact absurd e.1 (by decide)));clear HF hn1 HN1 HN2 HCK;go_wp2_with fail;go_ret;exact ⟨ret_val (by rw [E.out]; rfl), HB0.out⟩
 ·go_wp2_with fail;refine (HN2.out _).mono ?_;rintro e w2 ⟨rfl, hw⟩;rw [hw];clear hw;cases hn2 : V.name (V.bl h.kind)
  ·have E : Hid (S.faultH m h = 3) := HF.out.trans (if_neg (fun e => by rw [hn2] at e; exact absurd e.2.1 (by decide)));clear HF hn1 hn2 HN1 HN2 HCK;go_wp2_with fail;go_ret;exact ⟨ret_val (by rw [E.out]; rfl), HB0.out⟩
  ·by_cases hid : h.id < 0
   ·have E : Hid (S.faultH m h = 3) := HF.out.trans (if_neg (fun e => by omega));clear HF hn1 hn2 HN1 HN2 HCK;go_wp2_with fail;go_ret;exact ⟨ret_val (by rw [E.out]; rfl), HB0.out⟩
   ·by_cases hkd : h.v.kind = 5
    ·have E : Hid (S.faultH m h = V.fault m h.v) := HF.out.trans (if_pos ⟨hn1, hn2, by omega, hkd⟩);clear HF hn1 hn2 HN1 HN2;have hd : (h.v.kind != 5) = false := by simp [hkd]
     clear hkd;go_wp2_with fail;refine HCK.out.mono ?_;rintro e w3 ⟨rfl, hb⟩;have HB3 := bt HB0 hb;clear hb;go_wp2_with fail;go_ret;exact ⟨ret_val (by rw [E.out]; rfl), HB3.out⟩
    ·have E : Hid (S.faultH m h = 3) := HF.out.trans (if_neg (fun e => hkd e.2.2.2));have hd : (h.v.kind != 5) = true := by simp [hkd]
     clear HF hn1 hn2 HN1 HN2 HCK hkd;go_wp2_with fail;go_ret;exact ⟨ret_val (by rw [E.out]; rfl), HB0.out⟩
namespace P
theorem grown_alloc_drew {w w4 : World} {o : Obj} {row : Option Nat} (hg : (w.alloc o).drew.grownBy w4 row) : w.grownBy w4 row :=
 ⟨hg.os, hg.tape, hg.output, Nat.le_trans (by simp) hg.size, fun c hc he => (hg.block c (by show c < (w.alloc o).heap.size; simp; omega) he).trans (heap_alloc_old _ _ hc)⟩
structure GrowD {α : Type} (B : Base α) (ty : TypeId) (sz base : Nat) (D : Nat -> Prop) (w : World) (v : Value) (L : List (α × List Value)) : Prop where
 len : ∀ x ∈ L, x.2.length = sz
 own : w.ownsRow base ty sz v L.length (L.flatMap (fun x => x.2))
 mem : ∀ x ∈ L, KM B D w x.1 x.2
 apart : ∀ c, v.ownBlock = some c -> ¬ D c
theorem GrowD.nil {α : Type} (B : Base α) (ty : TypeId) (sz base : Nat) (D : Nat -> Prop) (w : World) : GrowD B ty sz base D w (.slice none 0 0) [] := ⟨fun _ h => absurd h (by simp), World.ownsRow_nil _ _ _ _, fun _ h => absurd h (by simp), fun _ h => by cases h⟩
theorem GrowD.keep {α : Type} {B : Base α} {ty : TypeId} {sz base : Nat} {D D2 : Nat -> Prop} {w w' : World} {v : Value} {L : List (α × List Value)} {ex : Nat -> Prop} (h : GrowD B ty sz base D w v L) (hf : Fr w w' ex) (h1 : ∀ c, D c -> c < w.heap.size /\ ¬ ex c) (h2 : ∀ c, v.ownBlock = some c -> ¬ ex c) (hD : ∀ c, D c -> D2 c) (h3 : ∀ c, v.ownBlock = some c -> ¬ D2 c) : GrowD B ty sz base D2 w' v L :=
 ⟨h.len, owns_fr h.own hf h2, fun x hx => (h.mem x hx).to (fun c hc => hf.block c (h1 c hc).1 (h1 c hc).2) hD, h3⟩
theorem GrowD.app {α : Type} {B : Base α} {ty : TypeId} {sz base g cap : Nat} {D : Nat -> Prop} {w w' : World} {v : Value} {L : List (α × List Value)} {x : α} {cs : List Value} (h : GrowD B ty sz base D w v L) (hDs : ∀ c, D c -> c < w.heap.size) (hl : cs.length = sz)
  (hm : KM B D w x cs) (ho : w'.ownsRow base ty sz (.slice (some ⟨g, 0, none⟩) (L.length + 1) cap) (L.length + 1) (L.flatMap (fun x => x.2) ++ cs)) (hg : w.grownBy w' v.ownBlock) (hat : v.ownBlock = some g \/ w.heap.size <= g) :
  GrowD B ty sz base D w' (.slice (some ⟨g, 0, none⟩) (L ++ [(x, cs)]).length cap) (L ++ [(x, cs)]) := by
 have e1 : (L ++ [(x, cs)]).length = L.length + 1 := by simp
 have hk : ∀ c, D c -> w'.heap[c]? = w.heap[c]? := fun c hc => hg.block c (hDs c hc) (fun e => h.apart c e.symm hc)
 refine ⟨fun y hy => ?_, ?_, fun y hy => ?_, fun c hc hD => ?_⟩
 ·rcases List.mem_append.1 hy with h1 | h1
  ·exact h.len y h1
  ·rw [List.mem_singleton] at h1;subst h1;exact hl
 ·rw [e1, List.flatMap_append];simpa using ho
 ·rcases List.mem_append.1 hy with h1 | h1
  ·exact (h.mem y h1).to hk (fun _ h => h)
  ·rw [List.mem_singleton] at h1;subst h1;exact hm.to hk (fun _ h => h)
 ·have e2 : g = c := by simpa [Value.ownBlock] using hc
  subst e2;rcases hat with h1 | h1
  ·exact h.apart g h1 hD
  ·have := hDs g hD;omega
theorem GrowD.row {α : Type} {B : Base α} {ty : TypeId} {sz base : Nat} {D : Nat -> Prop} {w : World} {v : Value} {L : List (α × List Value)} (h : GrowD B ty sz base D w v L) : KRow B sz (fun c => D c \/ v.ownBlock = some c) w v (L.map (fun x => x.1)) := by
 intro w2 hw;rcases h.own.2 with ⟨hv, hn⟩ | ⟨g, cap', cur, hv, hg, hh, hnc, _, hcs, htk⟩
 ·have hL : L = [] := List.length_eq_zero_iff.1 hn;subst hL;rw [hv];exact V.Row.zero _ _ _
 ·have hlt := (blt hh)
  refine ⟨some ⟨g, 0, none⟩, cap', by rw [hv, List.length_map], .inr ⟨g, 0, rfl, fun i hi => ?_⟩⟩;rw [List.length_map] at hi;have hx : L[i]? = some L[i] := List.getElem?_eq_getElem hi;obtain ⟨h1, h2⟩ := flat_atK sz L h.len i _ hx;refine ⟨L[i].2, h1, fun j hj => ?_, L[i].1, by rw [List.getElem?_map, hx]; rfl, ?_⟩
  ·have h3 := h2 j hj;have hij : i * sz + j < L.length * sz := by
    have : (i + 1) * sz <= L.length * sz := Nat.mul_le_mul_right sz hi;rw [Nat.succ_mul] at this;omega
   rw [<- htk, List.getElem?_toArray, List.getElem?_take, if_pos hij, Array.getElem?_toList] at h3;have hh2 := (hw g (.inr (by rw [hv]; rfl))).trans hh;rw [cell_of_row w2 g _ _ _ _ hh2, Nat.zero_add];exact h3
  ·exact h.mem L[i] (List.getElem_mem hi) w2 (fun c hc => hw c (.inl hc))
def BV (m : Nat) : Base Val := fun w x cs => V.Mem m w x cs
def BF (m : Nat) : Base (ByteArray × Val) := fun w x cs => ∃ c', cs = .string x.1 :: c' /\ V.Mem m w x.2 c'
theorem GrowD.cell {α : Type} {B : Base α} {ty : TypeId} {sz base : Nat} {D : Nat -> Prop} {w : World} {v : Value} {L : List (α × List Value)} (h : GrowD B ty sz base D w v L) (i : Nat) (hi : i < L.length) : ∃ g cap, v = .slice (some ⟨g, 0, none⟩) L.length cap /\ ∀ j, j < sz -> w.cell? ⟨g, i * sz + j, none⟩ = L[i].2[j]? := by
 rcases h.own.2 with ⟨hv, hn⟩ | ⟨g, cap', cur, hv, hg, hh, hnc, _, hcs, htk⟩
 ·omega
 ·refine ⟨g, cap', hv, fun j hj => ?_⟩;have hx : L[i]? = some L[i] := List.getElem?_eq_getElem hi;obtain ⟨h1, h2⟩ := flat_atK sz L h.len i _ hx;have h3 := h2 j hj;have hij : i * sz + j < L.length * sz := by
   have : (i + 1) * sz <= L.length * sz := Nat.mul_le_mul_right sz hi;rw [Nat.succ_mul] at this;omega
  rw [<- htk, List.getElem?_toArray, List.getElem?_take, if_pos hij, Array.getElem?_toList] at h3;rw [cell_of_row w g _ _ _ _ hh];exact h3
end P
theorem info68 : (Tryz.prog.info? 68).map (fun i => (i.zero, i.size, i.bytes)) = some (some (.agg #[.string ⟨#[]⟩, .int .i64 0, .int .i64 0, .string ⟨#[]⟩, .slice none 0 0, .slice none 0 0]), 6, 96) := by kernel_rfl
theorem record_any (m : Nat) (w : World) (N : List ByteArray) (L : List (Val × List Value)) (an : Option Addr) (cn : Nat) (lv : Value) (D : Nat -> Prop) (base : Nat) (hN : V.Row w (.slice an N.length cn) N.length 1 (fun i c => ∃ x, N[i]? = some x /\ c = [.string x]))
  (hL : P.GrowD (P.BV m) 61 5 base D w lv L) (hDs : ∀ c, D c -> c < w.heap.size) (hNL : N.length = L.length) (hlen : L.length <= 60) :
  Calls Tryz.prog 191 #[.slice an N.length cn, lv] w fun e w' => (∃ af cf, e = .returned (.agg #[.int .i64 5, .int .i64 0, .string ⟨#[]⟩, .slice none 0 0, .slice af L.length cf]) /\
   P.KM (P.BV (m + 1)) (fun c => D c \/ P.New w w' c) w' ⟨5, 0, ⟨#[]⟩, [], N.zip (L.map (fun x => x.1))⟩ [.int .i64 5, .int .i64 0, .string ⟨#[]⟩, .slice none 0 0, .slice af L.length cf]) /\ Below w.heap.size w w' := by
 obtain ⟨i0, hi0, hz0, hz1, hz2⟩ := info_parts info68;obtain ⟨al, cl, rfl⟩ := own_shape hL.own;have hA1 : ((w.alloc (.cells #[.int .i64 0, .int .i64 0, .string ⟨#[]⟩, .slice none 0 0, .slice none 0 0] 61)).alloc (.cells #[.int .i64 5, .int .i64 0, .string ⟨#[]⟩, .slice none 0 0, .slice none 0 0] 61)).heap[w.heap.size + 1]? = some (.cells #[.int .i64 5, .int .i64 0, .string ⟨#[]⟩, .slice none 0 0, .slice none 0 0] 61 (0, 0)) := by
  have := heap_alloc_new (w.alloc (.cells #[.int .i64 0, .int .i64 0, .string ⟨#[]⟩, .slice none 0 0, .slice none 0 0] 61)) (.cells #[.int .i64 5, .int .i64 0, .string ⟨#[]⟩, .slice none 0 0, .slice none 0 0] 61);simpa using this
 have hA0 : ((w.alloc (.cells #[.int .i64 0, .int .i64 0, .string ⟨#[]⟩, .slice none 0 0, .slice none 0 0] 61)).alloc (.cells #[.int .i64 5, .int .i64 0, .string ⟨#[]⟩, .slice none 0 0, .slice none 0 0] 61)).heap[w.heap.size]? = some (.cells #[.int .i64 0, .int .i64 0, .string ⟨#[]⟩, .slice none 0 0, .slice none 0 0] 61 (0, 0)) := by
  rw [heap_alloc_old _ _ (by simp)];exact heap_alloc_new _ _
 have hb0 : Below w.heap.size w ((w.alloc (.cells #[.int .i64 0, .int .i64 0, .string ⟨#[]⟩, .slice none 0 0, .slice none 0 0] 61)).alloc (.cells #[.int .i64 5, .int .i64 0, .string ⟨#[]⟩, .slice none 0 0, .slice none 0 0] 61)) := (ba).alloc (by simp) _;have HS0 : Hid (w.heap.size + 2 <= ((w.alloc (.cells #[.int .i64 0, .int .i64 0, .string ⟨#[]⟩, .slice none 0 0, .slice none 0 0] 61)).alloc (.cells #[.int .i64 5, .int .i64 0, .string ⟨#[]⟩, .slice none 0 0, .slice none 0 0] 61)).heap.size) := by
  show _ <= _;simp
 obtain ⟨HA1, HA0, HB0, HN, HL, HDS, HNL⟩ := hd7 hA1 hA0 hb0 hN hL hDs hNL;clear hN hL hDs hA1 hA0 hb0 hNL;go_enter Tryz.func191, Tryz.ntmps191;go_wp2_with fail;generalize ((w.alloc _).alloc _) = w0 at *;go_loopw [10, 6] (fun vi _ wr => ∃ (k : Nat) (af : Option Addr) (cf : Nat) (C : List ((ByteArray × Val) × List Value)), k <= L.length /\ vi = .int .i64 k /\ wr.heap[w.heap.size + 1]? = some (.cells #[.int .i64 5, .int .i64 0, .string ⟨#[]⟩, .slice none 0 0, .slice af k cf] 61 (0, 0)) /\
   wr.heap[w.heap.size]? = some (.cells #[.int .i64 0, .int .i64 0, .string ⟨#[]⟩, .slice none 0 0, .slice none 0 0] 61 (0, 0)) /\ P.GrowD (P.BF m) 68 6 (w.heap.size + 2) D wr (.slice af k cf) C /\ C.map (fun x => x.1) = (N.zip (L.map (fun x => x.1))).take k /\ Below w.heap.size w wr)
  (fun vi _ _ => L.length - (intOf vi).toNat)
 case atStart => exact ⟨0, none, 0, [], Nat.zero_le _, rfl, HA1.out, HA0.out, P.GrowD.nil _ _ _ _ _ _, rfl, HB0.out⟩
 case round =>
  clear HA1 HA0 HB0;obtain ⟨k, af, cf, C, hk, rfl, h1, h0, hC, hCm, hB⟩ := hrel;have hCl : C.length = k := by
   have := congrArg List.length hCm;rw [List.length_map, List.length_take, List.length_zip, List.length_map, HNL.out] at this;omega
  by_cases hlt : k < L.length
  ·obtain ⟨b, off, cap2, nm, e1, hnm, yn⟩ := X.elemN (HN.out.kept hB (fun _ _ h => h)) k (by rw [HNL.out]; exact hlt);obtain ⟨rfl, _, rfl⟩ := Value.slice.inj e1;obtain ⟨g, cap3, e2, hcell⟩ := HL.out.cell k hlt;obtain ⟨rfl, _, rfl⟩ := Value.slice.inj e2;have hx : L[k]? = some L[k] := List.getElem?_eq_getElem hlt;have hmx := HL.out.mem L[k] (List.getElem_mem hlt);obtain ⟨⟨x, cs⟩, hxe⟩ : ∃ y, y = L[k] := ⟨_, rfl⟩
   rw [<- hxe] at hx hmx hcell;obtain ⟨a1, n1, c1, a2, n2, c2, hcs⟩ := S.Mem.form (hmx w (fun _ _ => rfl));simp only at hcs hcell;subst hcs;have y0 := kept_cell hB (hcell 0 (by decide));have y1 := kept_cell hB (hcell 1 (by decide));have y2 := kept_cell hB (hcell 2 (by decide));have y3 := kept_cell hB (hcell 3 (by decide));have y4 := kept_cell hB (hcell 4 (by decide));simp only [Nat.add_zero] at y0;have x4 := cell_of_block h1 4 _ rfl;have HKX : Hid (P.KM (P.BF m) D wr (nm, x) [.string nm, .int .i64 x.kind, .int .i64 x.n, .string x.s, .slice a1 n1 c1, .slice a2 n2 c2]) := fun w2 hw2 => ⟨_, rfl, hmx w2 (fun c hc => (hw2 c hc).trans (hB.block c (HDS.out c hc)))⟩
   have HZ : Hid ((N.zip (L.map (fun x => x.1))).take (k + 1) = (N.zip (L.map (fun x => x.1))).take k ++ [(nm, x)]) := by
    show _ = _;rw [List.take_add_one];have : (N.zip (L.map (fun x => x.1)))[k]? = some (nm, x) := by
     rw [List.getElem?_zip_eq_some];exact ⟨hnm, by rw [List.getElem?_map, hx]; rfl⟩
    rw [this];rfl
   obtain ⟨HH1, HH0, HC, HCM, HB⟩ := hd5 h1 h0 hC hCm hB;have HSZ : Hid (w.heap.size + 2 <= wr.heap.size) := by
    show _ <= _;have := (blt h1)
    omega
   have HCL := hide hCl;have HO : Hid (wr.ownsRow (w.heap.size + 2) 68 6 (.slice af k cf) k (C.flatMap (fun x => x.2))) := by
    show World.ownsRow _ _ _ _ _ _ _;have := hC.own;rw [hCl] at this;exact this
   have hltN : k < N.length := by have := HNL.out; omega
   have x4c : (wr.alloc (.cells #[.string nm, .int .i64 x.kind, .int .i64 x.n, .string x.s, .slice a1 n1 c1, .slice a2 n2 c2] 68)).cell? ⟨w.heap.size + 1, 4, none⟩ = some (.slice af k cf) := kept_cell (ba) x4;have x4d : (wr.alloc (.cells #[.string nm, .int .i64 x.kind, .int .i64 x.n, .string x.s, .slice a1 n1 c1, .slice a2 n2 c2] 68)).drew.cell? ⟨w.heap.size + 1, 4, none⟩ = some (.slice af k cf) := x4c;clear hmx hcell hx hxe hnm h1 h0 hC hCm hB hCl;go_wp2_with fail;go_region_law
    (first
     | (refine step_append_lies _ ?_ (.tmp 14) (.tmp 24) 24 ?_ (w.heap.size + 2) 68 i0 (.agg #[.string ⟨#[]⟩, .int .i64 0, .int .i64 0, .string ⟨#[]⟩, .slice none 0 0, .slice none 0 0]) 6 96 Tryz.underlying24 hi0 hz0 hz1 hz2 rfl (by decide) (.slice af k cf) k (C.flatMap (fun x => x.2)) ?_ ?_ ⟨wr.heap.size, 0, none⟩ 1 1 [.string nm, .int .i64 x.kind, .int .i64 x.n, .string x.s, .slice a1 n1 c1, .slice a2 n2 c2] ?_ rfl ?_ ?_ Nat.one_pos ?_ ?_ ?_ _ rfl ?_; rfl; rfl; rfl; exact (HO.out.alloc _).drew; rfl; exact news_alloc_drew wr #[.string nm, .int .i64 x.kind, .int .i64 x.n, .string x.s, .slice a1 n1 c1, .slice a2 n2 c2] 68 _ rfl; simp [Value.oneCell']; (unfold maxLen; omega); omega; (have := HSZ.out; simp; omega); intro g4 cap4 w4 hown4 hgrow hat hlt4; have h4 := ((P.grown_alloc_drew hgrow).block (w.heap.size + 1) (by have := HSZ.out; omega) (fun e => by have := (HO.out.lt _ e.symm).1; omega)).trans HH1.out; have x4b := cell_of_block h4 4 _ rfl; have f4b := free_of_block h4 4))
   all_goals
    have hg := P.grown_alloc_drew hgrow;have hB4 : Below w.heap.size w w4 := HB.out.trans ⟨hg.os, hg.tape, hg.output, hg.size, fun c hc => hg.block c (by have := HSZ.out; omega) (fun e => by have := (HO.out.lt c e.symm).1; omega)⟩;have hF5 : Fr w4 (w4.setCell ⟨w.heap.size + 1, 4, none⟩ (.slice (some ⟨g4, 0, none⟩) (k + 1) cap4)) (fun c => c = w.heap.size + 1) := Fr.set1 _ _ _ _;have h5 : (w4.setCell ⟨w.heap.size + 1, 4, none⟩ (.slice (some ⟨g4, 0, none⟩) (k + 1) cap4)).heap[w.heap.size + 1]? = some (.cells #[.int .i64 5, .int .i64 0, .string ⟨#[]⟩, .slice none 0 0, .slice (some ⟨g4, 0, none⟩) (k + 1) cap4] 61 (0, 0)) := block_set (i := 4) h4 _;have h40 := (hg.block w.heap.size (by have := HSZ.out; omega) (fun e => by have := (HO.out.lt _ e.symm).1; omega)).trans HH0.out;have HH0' := hide ((hF5.block w.heap.size (blt h40) (by omega)).trans h40);have hsw : w.heap.size <= w4.heap.size := by have := hg.size; have := HSZ.out; omega
    have HB5 := hide (hB4.trans (hF5.below hsw (fun c e => by omega)));have hGA := P.GrowD.app (g := g4) (cap := cap4) HC.out (fun c hc => by have := HDS.out c hc; have := HSZ.out; omega) rfl HKX.out (by rw [HCL.out]; exact hown4) hg (by
     rcases hat with h | h
     ·exact .inl h
     ·exact .inr (by rw [h]; simp))
    have hle4 : (C ++ [((nm, x), ([.string nm, .int .i64 x.kind, .int .i64 x.n, .string x.s, .slice a1 n1 c1, .slice a2 n2 c2] : List Value))]).length = k + 1 := by rw [List.length_append, HCL.out]; rfl
    rw [hle4] at hGA;have HG5 := hide (hGA.keep (D2 := D) hF5 (fun c hc => ⟨by have := HDS.out c hc; omega, by have := HDS.out c hc; omega⟩) (fun c hc => by have := (hGA.own.lt c hc).1; omega) (fun _ h => h) hGA.apart);have HM5 : Hid ((C ++ [((nm, x), ([.string nm, .int .i64 x.kind, .int .i64 x.n, .string x.s, .slice a1 n1 c1, .slice a2 n2 c2] : List Value))]).map (fun x => x.1) = (N.zip (L.map (fun x => x.1))).take (k + 1)) := by
     show _ = _;rw [HZ.out, List.map_append, HCM.out];rfl
    have H5 := hide h5;clear hown4 hgrow hat hlt4 h4 x4b f4b hg hB4 h5 h40 hsw hGA hle4 hF5;go_wp2_with fail;go_roundw
    case rel => exact ⟨k + 1, _, _, _, by omega, by go_num, H5.out, HH0'.out, HG5.out, HM5.out, HB5.out⟩
    case measure => simp [intOf]; omega
  ·have hkk : k = L.length := by omega
   subst hkk;rw [List.take_of_length_le (by rw [List.length_zip, List.length_map]; omega)] at hCm;obtain ⟨HC, HCM, HB, HH0⟩ := hd4 hC hCm hB h0;have HSZ : Hid (w.heap.size + 2 <= wr.heap.size) := by
    show _ <= _;have := (blt h1)
    omega
   obtain ⟨x0, x1, x2, x3, x4⟩ := cl5 h1;obtain ⟨z0, z1, z2, z3, z4⟩ := cl5 h0;obtain ⟨f0, f1, f2, f3, f4⟩ := fl5 h0;clear hC hCm hB h1 h0 hCl;go_wp2_with fail;have hF5 : Fr wr (((((wr.setCell ⟨w.heap.size, 0, none⟩ (.int .i64 5)).setCell ⟨w.heap.size, 1, none⟩ (.int .i64 0)).setCell ⟨w.heap.size, 2, none⟩ (.string ⟨#[]⟩)).setCell ⟨w.heap.size, 3, none⟩ (.slice none 0 0)).setCell ⟨w.heap.size, 4, none⟩ (.slice af L.length cf)) (fun c => c = w.heap.size) := (((((Fr.refl wr (fun c => c = w.heap.size)).set ⟨w.heap.size, 0, none⟩ _ (fun _ => rfl)).set ⟨w.heap.size, 1, none⟩ _ (fun _ => rfl)).set ⟨w.heap.size, 2, none⟩ _ (fun _ => rfl)).set ⟨w.heap.size, 3, none⟩ _ (fun _ => rfl)).set ⟨w.heap.size, 4, none⟩ _ (fun _ => rfl);have hB5 : (((((wr.setCell ⟨w.heap.size, 0, none⟩ (.int .i64 5)).setCell ⟨w.heap.size, 1, none⟩ (.int .i64 0)).setCell ⟨w.heap.size, 2, none⟩ (.string ⟨#[]⟩)).setCell ⟨w.heap.size, 3, none⟩ (.slice none 0 0)).setCell ⟨w.heap.size, 4, none⟩ (.slice af L.length cf)).heap[w.heap.size]? = some (.cells #[.int .i64 5, .int .i64 0, .string ⟨#[]⟩, .slice none 0 0, .slice af L.length cf] 61 (0, 0)) := by
    have q0 : (wr.setCell ⟨w.heap.size, 0, none⟩ (.int .i64 5)).heap[w.heap.size]? = _ := block_set (i := 0) HH0.out (.int .i64 5);have q1 := block_set (i := 1) q0 (.int .i64 0);have q2 := block_set (i := 2) q1 (.string ⟨#[]⟩);have q3 := block_set (i := 3) q2 (.slice none 0 0);exact block_set (i := 4) q3 (.slice af L.length cf)
   generalize (((((wr.setCell _ _).setCell _ _).setCell _ _).setCell _ _).setCell _ _) = wz at *;obtain ⟨r0, r1, r2, r3, r4⟩ := cl5 hB5;have hsz := HSZ.out;refine bodyPost_ret (v := .agg #[.int .i64 5, .int .i64 0, .string ⟨#[]⟩, .slice none 0 0, .slice af L.length cf]) (by simp [results, Tryz.results191, go_sem, r0, r1, r2, r3, r4]) rfl ⟨⟨af, cf, rfl, fun w2 hw2 => ?_⟩, HB.out.trans (hF5.below HB.out.size (fun c e => by omega))⟩;have hrow := HC.out.row w2 (fun c hc => by
    have hne : c ≠ w.heap.size /\ c < wr.heap.size := by
     rcases hc with h | h
     ·have := HDS.out c h;omega
     ·have := HC.out.own.lt c h;omega
    refine (hw2 c ?_).trans (hF5.block c hne.2 hne.1);rcases hc with h | h
    ·exact .inl h
    ·have := HC.out.own.lt c h;have := hF5.size;exact .inr ⟨by omega, by omega⟩)
   rw [HCM.out] at hrow;refine ⟨_, _, rfl, V.Row.zero _ _ _, ?_⟩;refine V.Row.imp hrow (fun i c ⟨x, hx, c', hc, hm⟩ => ⟨x, c', hx, hc, hm⟩)
end Go.Proofs.YtcekcfjabhlheaaGreatDoor.Vx
