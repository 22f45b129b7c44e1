/- StateSays: DF DG DH DI DJ FA FB FC FD FE. -/
import Derived.Test.YtcekcfjabhlheaaGreatDoorDE
import Derived.Maps.RangeRun
set_option maxRecDepth 100000
set_option maxHeartbeats 2000000
namespace Go.Proofs.YtcekcfjabhlheaaGreatDoor.Dx
open Go.RowKit
attribute [local go_sem ↓] Go.wp_at_zero Go.wp_at_succ
def errV (k : Nat) : Value := if k = 0 then .nilIface else .iface 54 (.int .i64 k)
def Dk.fit (D : Dk) (n : ByteArray) (b : Int) : Nat := if N.may n = false then 3 else if 4000 < b \/ ((M.get D.files n).isSome = false /\ 40 <= D.files.length) then 2 else 0
theorem is_len {w : World} {b : Nat} {F : List (ByteArray × ByteArray)} (h : M.Is w b F) : ∃ es c, w.heap[b]? = some (.map es c) /\ es.size = F.length := by
 obtain ⟨es, c, hb, hF, _⟩ := h;have h5 := congrArg List.length hF;simp at h5;exact ⟨es, c, hb, h5⟩
theorem len_run {w : World} {b : Nat} {F : List (ByteArray × ByteArray)} (h : M.Is w b F) : (Builtin.len_ #[50] 3 #[.map (some b)]).run Tryz.prog w = .ok (.int .i64 F.length) w := by
 obtain ⟨es, c, hb, hl⟩ := is_len h;simp [Builtin.len_, run_underlying M.u112, MapKept.run_getObj_map hb, Result.andThen, goInt, hl]
theorem fits_any (w : World) (B : Nat -> Prop) (g : Nat) (D : Dk) (n : ByteArray) (b : Int) (h : Disk w B g D) (hn : n.size <= maxLen) (hF : D.files.length <= 1000000) :
  Calls Tryz.prog 76 #[.pointer (some ⟨g, 0, none⟩), .string n, .int .i64 b] w fun o w' => o = .returned (errV (D.fit n b)) /\ Fr w w' (fun _ => False) := by
 have hnm := name_any n w hn;have hha := has_any w B g D n h;obtain ⟨HNM, HHA, H⟩ := hd3 hnm hha h;clear hnm hha h hn;cases hm : N.may n with
 | false =>
  rw [show errV (D.fit n b) = .iface 54 (.int .i64 3) by unfold Dk.fit; rw [if_pos hm]; rfl];rw [hm] at HNM;go_enter Tryz.func76, Tryz.ntmps76;go_wp2_with fail;refine HNM.out.mono ?_;rintro o w' ⟨rfl, hw⟩;rw [hw];clear hw w';go_wp2_with fail;go_ret;exact ⟨rfl, Fr.refl _ _⟩
 | true =>
  rw [hm] at HNM;by_cases hb : 4000 < b
  ·rw [show errV (D.fit n b) = .iface 54 (.int .i64 2) by unfold Dk.fit; rw [if_neg (by rw [hm]; decide), if_pos (.inl hb)]; rfl];go_enter Tryz.func76, Tryz.ntmps76;go_wp2_with fail;refine HNM.out.mono ?_;rintro o w' ⟨rfl, hw⟩;rw [hw];clear hw w';go_wp2_with fail;go_ret;exact ⟨rfl, Fr.refl _ _⟩
  ·cases hh : (M.get D.files n).isSome with
   | true =>
    rw [show errV (D.fit n b) = .nilIface by unfold Dk.fit; rw [if_neg (by rw [hm]; decide), if_neg (fun hx => hx.elim hb (fun hx => by rw [hh] at hx; exact absurd hx.1 (by decide)))]; rfl];rw [hh] at HHA;go_enter Tryz.func76, Tryz.ntmps76;go_wp2_with fail;refine HNM.out.mono ?_;rintro o w' ⟨rfl, hw⟩;rw [hw];clear hw w';go_wp2_with fail;refine HHA.out.mono ?_;rintro o w1 ⟨rfl, hf1⟩;have HF1 := hide hf1;clear hf1;go_wp2_with fail;go_ret;exact ⟨rfl, HF1.out⟩
   | false =>
    rw [hh] at HHA;go_enter Tryz.func76, Tryz.ntmps76;go_wp2_with fail;refine HNM.out.mono ?_;rintro o w' ⟨rfl, hw⟩;rw [hw];clear hw w';go_wp2_with fail;refine HHA.out.mono ?_;rintro o w1 ⟨rfl, hf1⟩;have hD1 := H.out.fr hf1 (fun _ _ h => h);obtain ⟨bk, bf, cv, h1, h2, h3, h4, h5, h6, h7, h8, h9⟩ := hD1;have hln := len_run h3;have c1 := cell_of_block h1 1 _ rfl;have HF1 := hide hf1;clear hf1 h1 h2 h3 h4 h5 h6 h7 h8 h9;by_cases h40 : 40 <= D.files.length
    ·have HE : Hid (errV (D.fit n b) = .iface 54 (.int .i64 2)) := by show _ = _; unfold Dk.fit; rw [if_neg (by rw [hm]; decide), if_pos (.inr ⟨hh, h40⟩)]; rfl
     go_wp2_with fail;go_ret;rw [HE.out];exact ⟨rfl, HF1.out⟩
    ·have HE : Hid (errV (D.fit n b) = .nilIface) := by show _ = _; unfold Dk.fit; rw [if_neg (by rw [hm]; decide), if_neg (fun hx => hx.elim (fun hx => by omega) (fun hx => h40 hx.2))]; rfl
     go_wp2_with fail;go_ret;rw [HE.out];exact ⟨rfl, HF1.out⟩
theorem Doing.up {w w1 w' : World} {B : Nat -> Prop} {g : Nat} {D D' : Dk} {o : Ending} (h : Doing w1 w' B g D D' o) (hf : Fr w w1 (fun _ => False)) : Doing w w' B g D D' o := by
 obtain ⟨h1, h2⟩ := h;refine ⟨?_, (hf.weak (fun _ _ h => h.elim)).trans h2 (fun _ _ h => h)⟩;rcases h1 with h1 | ⟨a, b, B', c, d⟩
 ·exact .inl h1
 ·exact .inr ⟨a, b, B', c, fun x hx => (d x hx).imp id (fun h => Nat.le_trans hf.size h)⟩
def Changed (w w' : World) (B : Nat -> Prop) (g : Nat) (D D' : Dk) (k : Nat) (o : Ending) : Prop := (k ≠ 0 /\ o = .returned (errV k) /\ Fr w w' (fun _ => False)) \/ (k = 0 /\ Doing w w' B g D D' o)
theorem errV_ne {k : Nat} (h : k ≠ 0) : errV k = .iface 54 (.int .i64 k) := by unfold errV; rw [if_neg h]
end Go.Proofs.YtcekcfjabhlheaaGreatDoor.Dx
namespace Go.Proofs.YtcekcfjabhlheaaGreatDoor.Dx
open Go.RowKit
attribute [local go_sem ↓] Go.wp_at_zero Go.wp_at_succ
def Dk.read (D : Dk) (n : ByteArray) : ByteArray × Nat := if D.down = true then (⟨#[]⟩, 10) else match M.get D.files n with | none => (⟨#[]⟩, 7) | some d => (d, 0)
theorem read_any (w : World) (B : Nat -> Prop) (g : Nat) (D : Dk) (n : ByteArray) (h : Disk w B g D) :
  Calls Tryz.prog 25 #[.pointer (some ⟨g, 0, none⟩), .string n] w fun o w' => o = .returned (.tuple #[.string (D.read n).1, errV (D.read n).2]) /\ Fr w w' (fun _ => False) := by
 have hha := has_any w B g D n h;have hD1 : Hid (∀ w1, Fr w w1 (fun _ => False) -> Disk w1 B g D) := fun w1 hf => h.fr hf (fun _ _ h => h)
 obtain ⟨bk, bf, cv, h1, h2, h3, h4, h5, h6, h7, h8, h9⟩ := h;have c5 := cell_of_block h1 5 _ rfl;have HHA := hide hha;clear hha h1 h2 h3 h4 h5 h6 h7 h8 h9;cases hd : D.down with
 | true =>
  rw [hd] at c5;have HR : Hid (D.read n = (⟨#[]⟩, 10)) := by show _ = _; unfold Dk.read; rw [if_pos hd]
  go_enter Tryz.func25, Tryz.ntmps25;go_wp2_with fail;go_ret2;rw [HR.out];exact ⟨rfl, Fr.refl _ _⟩
 | false =>
  rw [hd] at c5;cases hg : M.get D.files n with
  | none =>
   have HR : Hid (D.read n = (⟨#[]⟩, 7)) := by show _ = _; unfold Dk.read; rw [if_neg (by rw [hd]; decide), hg]
   rw [hg] at HHA;go_enter Tryz.func25, Tryz.ntmps25;go_wp2_with fail;refine HHA.out.mono ?_;rintro o w1 ⟨rfl, hf1⟩;have HF1 := hide hf1;clear hf1 c5;simp only [Option.isSome_none];go_wp2_with fail;go_ret2;rw [HR.out];exact ⟨rfl, HF1.out⟩
  | some d =>
   have HR : Hid (D.read n = (d, 0)) := by show _ = _; unfold Dk.read; rw [if_neg (by rw [hd]; decide), hg]
   rw [hg] at HHA;go_enter Tryz.func25, Tryz.ntmps25;go_wp2_with fail;refine HHA.out.mono ?_;rintro o w1 ⟨rfl, hf1⟩;have hD := hD1.out w1 hf1;obtain ⟨bk, bf, cv, h1, h2, h3, h4, h5, h6, h7, h8, h9⟩ := hD;have c1 := cell_of_block h1 1 _ rfl;have hlk : (Instr.lookup 50 (.map (some bf)) (.string n) false).run Tryz.prog w1 = .ok (.agg #[.string d]) w1 := by
    rw [M.look h3 n false];unfold M.get at hg;cases ha : M.at_ n D.files 0 with
    | none => rw [ha] at hg; cases hg
    | some p =>
     rw [ha] at hg;have : p.2 = d := by simpa using hg
     rw [<- this]; rfl
   have hfd := fun w => field127 d w
   have HF1 := hide hf1;clear hf1 h1 h2 h3 h4 h5 h6 h7 h8 h9 c5;simp only [Option.isSome_some];go_wp2_with fail;go_ret2;rw [HR.out];exact ⟨rfl, HF1.out⟩
theorem flat4 : ∀ (Q : List (List Value)), (∀ c ∈ Q, c.length = 4) -> ∀ (i j : Nat) c, Q[i]? = some c -> j < 4 -> Q.flatten[i * 4 + j]? = c[j]?
 | [], _, i, j, c, h, _ => by simp at h
 | a :: Q, hQ, i, j, c, h, hj => by
  have ha : a.length = 4 := hQ a (by simp);rw [List.flatten_cons];cases i with
  | zero =>
   have e : a = c := by simpa using h
   subst e;rw [Nat.zero_mul, Nat.zero_add, List.getElem?_append_left (by omega)]
  | succ i =>
   rw [List.getElem?_append_right (by omega), show (i + 1) * 4 + j - a.length = i * 4 + j by omega];exact flat4 Q (fun c hc => hQ c (by simp [hc])) i j c (by simpa using h) hj
def Dk.keepTo (D : Dk) (k : Nat) : List (ByteArray × ByteArray) := (D.chg.take k).foldl (fun F c => c.on F) D.kept
theorem chg_at {w : World} {cv : Value} {l : List Ch} (h : w.ownsRow 0 74 4 cv l.length (l.map Ch.cells).flatten) {k : Nat} {c : Ch} (hc : l[k]? = some c) :
  ∃ gc cap, cv = .slice (some ⟨gc, 0, none⟩) l.length cap /\ w.cell? ⟨gc, k * 4, none⟩ = some (.int .i64 c.kind) /\ w.cell? ⟨gc, k * 4 + 1, none⟩ = some (.string c.name) /\ w.cell? ⟨gc, k * 4 + 2, none⟩ = some (.string c.dest) /\ w.cell? ⟨gc, k * 4 + 3, none⟩ = some (.string c.data) := by
 rcases h.2 with ⟨rfl, h0⟩ | ⟨gc, cap, cur, rfl, _, hg, _⟩
 ·have := (List.getElem?_eq_some_iff.1 hc).1; omega
 ·have key : ∀ j u, j < 4 -> c.cells[j]? = some u -> w.cell? ⟨gc, k * 4 + j, none⟩ = some u := by
   intro j u hj hu;have hf := flat4 (l.map Ch.cells) (fun c hc => by obtain ⟨x, _, rfl⟩ := List.mem_map.1 hc; rfl) k j c.cells (by rw [List.getElem?_map, hc]; rfl) hj;rw [hu] at hf;have h3 := h.cells (g := gc) rfl (k * 4 + j) u hf;have e : (⟨gc, 0, none⟩ : Addr).add (k * 4 + j) = ⟨gc, k * 4 + j, none⟩ := by unfold Addr.add; split <;> simp_all
   rw [e] at h3; exact h3
  exact ⟨gc, cap, rfl, key 0 _ (by omega) rfl, key 1 _ (by omega) rfl, key 2 _ (by omega) rfl, key 3 _ (by omega) rfl⟩
end Go.Proofs.YtcekcfjabhlheaaGreatDoor.Dx
namespace Go.Proofs.YtcekcfjabhlheaaGreatDoor.Dx
open Go.RowKit
attribute [local go_sem ↓] Go.wp_at_zero Go.wp_at_succ
theorem Disk.cut {w : World} {B : Nat -> Prop} {g : Nat} {D : Dk} (h : Disk w B g D) : Disk (w.setCell ⟨g, 2, none⟩ (.slice none 0 0)) B g { D with chg := [] } := by
 obtain ⟨bk, bf, cv, h1, h2, h3, h4, h5, h6, h7, h8, h9⟩ := h;have hset := Fr.set1 w g 2 (.slice none 0 0);have hk : bk ≠ g := fun e => by
  obtain ⟨es, c, hb, _⟩ := h2;rw [e, h1] at hb; cases hb
 have hf2 : bf ≠ g := fun e => by
  obtain ⟨es, c, hb, _⟩ := h3;rw [e, h1] at hb; cases hb
 exact ⟨bk, bf, .slice none 0 0, block_set (i := 2) h1 _, is_fr h2 hset hk, is_fr h3 hset hf2, World.ownsRow_nil .., h5, h6, h7, h8, fun c hc => by cases hc⟩
end Go.Proofs.YtcekcfjabhlheaaGreatDoor.Dx
namespace Go.Proofs.YtcekcfjabhlheaaGreatDoor.Dx
open Go.RowKit
open Go.ChangeMaps (setBlock)
attribute [local go_sem ↓] Go.wp_at_zero Go.wp_at_succ
def Ch.first (c : Ch) (n : Int) (F : List (ByteArray × ByteArray)) : List (ByteArray × ByteArray) := if min n c.data.size < 1 then F else ({ c with data := c.data.extract 0 (min n c.data.size).toNat } : Ch).on F
end Go.Proofs.YtcekcfjabhlheaaGreatDoor.Dx
namespace Go.Proofs.YtcekcfjabhlheaaGreatDoor.Dx
open Go.RowKit
attribute [local go_sem ↓] Go.wp_at_zero Go.wp_at_succ
def Dk.many (D : Dk) (keep : Int) : Nat := (min (max keep 0) D.chg.length).toNat
def Dk.stays (D : Dk) (keep torn : Int) : List (ByteArray × ByteArray) := match D.chg[D.many keep]? with | some c => c.first torn (D.keepTo (D.many keep)) | none => D.keepTo (D.many keep)
end Go.Proofs.YtcekcfjabhlheaaGreatDoor.Dx
namespace Go.Proofs.YtcekcfjabhlheaaGreatDoor.Dx
open Go.RowKit
attribute [local go_sem ↓] Go.wp_at_zero Go.wp_at_succ
namespace M
open MapKept ChangeMaps
def del (F : List (ByteArray × ByteArray)) (n : ByteArray) : List (ByteArray × ByteArray) :=
 match at_ n F 0 with
 | some p => F.eraseIdx p.1
 | none => F
theorem Stamps.drop {es : Array MapEntry} {c : Nat} (h : Stamps es c) (j : Nat) (hj : j < es.size) : Stamps (es.eraseIdxIfInBounds j) c := by
 have e : (es.eraseIdxIfInBounds j).toList = es.toList.eraseIdx j := by
  unfold Array.eraseIdxIfInBounds;rw [dif_pos hj]; simp
 refine ⟨fun x hx => h.1 x ?_, ?_⟩
 ·rw [e] at hx;exact (List.eraseIdx_sublist _ _).subset hx
 ·rw [e];exact (List.eraseIdx_sublist _ _).map _ |>.nodup h.2
theorem delete {w : World} {b : Nat} {F : List (ByteArray × ByteArray)} (h : Is w b F) (n : ByteArray) (ty : TypeId) :
  ∃ w', (Builtin.delete_ #[50, 9] ty #[.map (some b), .string n]).run Tryz.prog w = .ok (.tuple #[]) w' /\ Is w' b (del F n) /\ w.grownBy w' (some b) := by
 obtain ⟨es, c, hb, hF, hS⟩ := h;have hf := find_run n es F w hF;cases ha : at_ n F 0 with
 | none =>
  rw [ha] at hf;refine ⟨ChangeMaps.setBlock w b (.map es c), ?_, ⟨_, _, heap_setBlock_same hb _, ?_, hS⟩, ⟨rfl, rfl, rfl, by simp [ChangeMaps.setBlock], fun i _ hi => heap_setBlock_other hb _ (fun e => hi (by rw [e]))⟩⟩
  ·simp [Builtin.delete_, run_underlying u112, MapKept.run_getObj_map hb, key_run, hf, MapKept.run_setObj_map _ hb, Result.andThen, ChangeMaps.setBlock]
  ·unfold del;rw [ha];exact hF
 | some p =>
  rw [ha] at hf;obtain ⟨j, x, h1, h2, h3, h4⟩ := at_spec n F 0 p ha;have hj : p.1 = j := by omega
  have hje : j < es.size := by
   have h5 := congrArg List.length hF;simp at h5;rw [h5]; exact (List.getElem?_eq_some_iff.1 h2).1
  refine ⟨setBlock w b (.map (es.eraseIdxIfInBounds j) c), ?_, ⟨_, _, heap_setBlock_same hb _, ?_, hS.drop j hje⟩, ⟨rfl, rfl, rfl, by simp [setBlock], fun i _ hi => heap_setBlock_other hb _ (fun e => hi (by rw [e]))⟩⟩
  ·simp [Builtin.delete_, run_underlying u112, MapKept.run_getObj_map hb, key_run, hf, MapKept.run_setObj_map _ hb, Result.andThen, setBlock, hj]
  ·unfold del;rw [ha];simp only;rw [hj];have e : (es.eraseIdxIfInBounds j).toList = es.toList.eraseIdx j := by
    unfold Array.eraseIdxIfInBounds;rw [dif_pos hje]; simp
   rw [e];have e2 : ∀ {α β : Type} (g : α -> β) (l : List α) (j : Nat), (l.eraseIdx j).map g = (l.map g).eraseIdx j := by
    intro α β g l;induction l with
    | nil => intro j; rfl
    | cons a t ih =>
     intro j;cases j with
     | zero => rfl
     | succ j => simp [ih]
   rw [e2, e2, hF]
end M
def Ch.act (c : Ch) (F : List (ByteArray × ByteArray)) : List (ByteArray × ByteArray) :=
 if c.kind = 0 then M.put F c.name c.data else if c.kind = 1 then M.put F c.name ((M.get F c.name).getD ⟨#[]⟩ ++ c.data) else if c.kind = 2 then M.del (M.put F c.dest ((M.get F c.name).getD ⟨#[]⟩)) c.name else M.del F c.name
def Ch.kinds (c : Ch) : Prop := c.kind = 0 \/ c.kind = 1 \/ c.kind = 2 \/ c.kind = 3
theorem act_any (w : World) (b : Nat) (c : Ch) (F : List (ByteArray × ByteArray)) (h : M.Is w b F) (hk : c.kinds) (hlen : c.data.size <= 1000000 /\ ((M.get F c.name).getD ⟨#[]⟩).size <= 1000000) :
  Calls Tryz.prog 55 #[.agg #[.int .i64 c.kind, .string c.name, .string c.dest, .string c.data], .map (some b)] w fun o w' => o = .returned (.tuple #[]) /\ M.Is w' b (c.act F) /\ Fr w w' (fun x => x = b) := by
 have h01 : c.kind = 0 \/ c.kind = 1 -> c.act F = c.on F := by
  intro e;unfold Ch.act Ch.on;rcases e with e | e
  ·rw [if_pos e, if_pos e]
  ·rw [if_neg (show ¬ c.kind = 0 by omega), if_pos e, if_neg (show ¬ c.kind = 0 by omega)]
 rcases hk with hk | hk | hk | hk
 ·rw [h01 (.inl hk)]; exact on_any w b c F h (.inl hk) hlen
 ·rw [h01 (.inr hk)]; exact on_any w b c F h (.inr hk) hlen
 ·obtain ⟨kk, nn, dd, da⟩ := c;simp only at hk hlen ⊢;subst hk;have hI : ∀ ob, M.Is (w.alloc ob) b F := fun ob => h.kept (World.grownBy_alloc _ _ none) (by simp)
  have HI := hide hI;unfold Ch.act;simp only [show ¬ ((2 : Int) = 0) by decide, show ¬ ((2 : Int) = 1) by decide, if_false, if_true];have hlk : ∀ ob, (Instr.lookup 50 (.map (some b)) (.string nn) false).run Tryz.prog (w.alloc ob) = .ok (.agg #[.string ((M.get F nn).getD ⟨#[]⟩)]) (w.alloc ob) := by
   intro ob;rw [M.look (hI ob) nn false];unfold M.get;cases M.at_ nn F 0 <;> rfl
  generalize hG : (M.get F nn).getD ⟨#[]⟩ = G at *;have HLT := hide h.lt;clear h hI hG;have HC : Hid (∀ w2, (w.alloc (.cells #[.int .i64 2, .string nn, .string dd, .string da] 74)).grownBy w2 (some b) -> w2.cell? ⟨w.heap.size, 1, none⟩ = some (.string nn)) := by
   intro w2 hg;have h1 := hg.block w.heap.size (by simp) (fun e => by
    have : w.heap.size = b := by simpa using e
    have := HLT.out;omega)
   exact cell_of_block (h1.trans (heap_alloc_new _ _)) 1 _ rfl
  go_enter Tryz.func55, Tryz.ntmps55;go_wp2_with (at_mapUpdate; go_must (refine M.wpList_update rfl (.tmp 30) (.tmp 32) (.tmp 36) rfl (b := b) (F := F) dd G rfl rfl rfl (HI.out _) ?_); intro w2 hI2 hg2; have c1 := HC.out w2 hg2);obtain ⟨w3, hrun, hI3, hg3⟩ := M.delete hI2 nn 0;rw [hrun];clear hrun;go_wp2_with fail;go_end0;exact ⟨rfl, hI3, (((Fr.refl _ _).alloc _).grown hg2 (fun c e _ => (Option.some.inj e).symm)).grown hg3 (fun c e _ => (Option.some.inj e).symm)⟩
 ·obtain ⟨kk, nn, dd, da⟩ := c;simp only at hk hlen ⊢;subst hk;have hI : ∀ ob, M.Is (w.alloc ob) b F := fun ob => h.kept (World.grownBy_alloc _ _ none) (by simp)
  have HI := hide hI;unfold Ch.act;simp only [show ¬ ((3 : Int) = 0) by decide, show ¬ ((3 : Int) = 1) by decide, show ¬ ((3 : Int) = 2) by decide, if_false];clear h hI;go_enter Tryz.func55, Tryz.ntmps55;go_wp2_with fail;obtain ⟨w3, hrun, hI3, hg3⟩ := M.delete (HI.out _) nn 0;rw [hrun];clear hrun;go_wp2_with fail;go_end0;exact ⟨rfl, hI3, ((Fr.refl _ _).alloc _).grown hg3 (fun c e _ => (Option.some.inj e).symm)⟩
end Go.Proofs.YtcekcfjabhlheaaGreatDoor.Dx
namespace Go.Proofs.YtcekcfjabhlheaaGreatDoor.Dx
open Go.RowKit
attribute [local go_sem ↓] Go.wp_at_zero Go.wp_at_succ
def Dk.did4 (D : Dk) (c : Ch) : Dk := { D.step with files := c.act D.files, chg := D.chg ++ [c] }
theorem do4 (w : World) (B : Nat -> Prop) (g : Nat) (D : Dk) (c : Ch) (h : Disk w B g D) (hB : ∀ x, B x -> x < w.heap.size) (hs : 0 <= D.steps /\ D.steps <= 1000000) (hl : -9223372036854775808 <= D.left /\ D.left <= 9223372036854775807) (hk : c.kinds) (hlen : c.data.size <= 1000000 /\ ((M.get D.files c.name).getD ⟨#[]⟩).size <= 1000000) (hch : D.chg.length <= 100000) :
  Calls Tryz.prog 77 #[.pointer (some ⟨g, 0, none⟩), .agg #[.int .i64 c.kind, .string c.name, .string c.dest, .string c.data]] w fun o w' => Doing w w' B g D (D.did4 c) o := by
 have hf0 : Fr w (w.alloc (.cells #[.int .i64 c.kind, .string c.name, .string c.dest, .string c.data] 74)) (fun _ => False) := (Fr.refl _ _).alloc _;have hD0 := h.fr hf0 (fun _ _ h => h);have hE0 := heap_alloc_new w (.cells #[.int .i64 c.kind, .string c.name, .string c.dest, .string c.data] 74);have hst := step_any _ B g D hD0 hs hl;have hBg : B g := by obtain ⟨_, _, _, _, _, _, _, _, h6, _⟩ := h; exact h6
 have hgl := hB g hBg;obtain ⟨HST, HE0, HF0, HB⟩ := hd4 hst hE0 hf0 hB;clear hst hE0 hf0 hD0 h hB;go_enter Tryz.func77, Tryz.ntmps77;go_wp2_with fail;generalize w.alloc _ = w0 at *
 go_fit HST.out
 rintro o w1 ⟨hst1, hf1⟩;have hf01 := (HF0.out.weak (ex1 := fun c => c = g) (fun _ _ h => h.elim)).trans hf1 (fun _ _ h => h);have hE1 := (hf1.block w.heap.size (blt HE0.out) (by show ¬ w.heap.size = g; omega)).trans HE0.out;have hs01 := HF0.out.size;clear HST HE0;rcases hst1 with ⟨hfa, rfl, hD1⟩ | ⟨hnf, rfl, hD1⟩
 ·have HFA := hide hfa;obtain ⟨HD1, HF01⟩ := hd2 hD1 hf01;clear hfa hD1 hf01 hf1 hE1;go_wp2_with fail;go_ret;exact ⟨.inl ⟨HFA.out, rfl, HD1.out⟩, HF01.out.weak (fun c _ e => by rw [e]; exact hBg)⟩
 ·obtain ⟨bk, bf, cv, h1, h2, h3, h4, h5, h6, h7, h8, h9⟩ := hD1;have hon := act_any w1.drew bf c D.files h3 hk hlen;obtain ⟨e0, e1, e2, e3⟩ := cl4 hE1;have c1 := cell_of_block h1 1 _ rfl;obtain ⟨av, cp, ecv⟩ := owns_shape h4;subst ecv;have hbg : bf ≠ g := fun e => by
   obtain ⟨es, c, hb, _⟩ := h3;rw [e, h1] at hb; cases hb
  have hbw : bf ≠ w.heap.size := fun e => by
   obtain ⟨es, c, hb, _⟩ := h3;rw [e, hE1] at hb; cases hb
  have K2 : Hid (∀ w2, Fr w1.drew w2 (fun x => x = bf) -> w2.heap[g]? = some (.cells #[.map (some bk), .map (some bf), .slice av D.chg.length cp, .int .i64 D.step.steps, .int .i64 D.step.left, .bool D.step.down] 53 (0, 0)) /\ M.Is w2 bk D.kept /\ w2.ownsRow 0 74 4 (.slice av D.chg.length cp) D.chg.length (D.chg.map Ch.cells).flatten /\ w2.heap[w.heap.size]? = some (.cells #[.int .i64 c.kind, .string c.name, .string c.dest, .string c.data] 74 (0, 0))) := by
   intro w2 hf0;have hf : Fr w1 w2 (fun x => x = bf) := ⟨hf0.os, hf0.tape, hf0.output, hf0.size, hf0.block⟩
   exact ⟨(hf.block g (blt h1) (fun e => hbg e.symm)).trans h1, is_fr h2 hf h5, owns_fr h4 hf (fun x hx e => by
    obtain ⟨es, c, hb, _⟩ := h3;exact owns_ne h4 hb (fun cs x hh => by cases hh) (by rw [<- e]; exact hx)), (hf.block w.heap.size (blt hE1) (fun e => hbw e.symm)).trans hE1⟩
  obtain ⟨HON, HNF, HF01, H9⟩ := hd4 hon hnf hf01 h9;have H678 := hide (And.intro h6 (And.intro h7 h8));have H5 := hide h5;clear hon hnf hf01 hf1 hE1 h1 h2 h3 h4 h5 h6 h7 h8 h9 hbg hbw;go_wp2_with fail;go_region_held3 (fun W' => W'.cell? ⟨w.heap.size, 0, none⟩ = some (.int .i64 c.kind) /\ W'.cell? ⟨w.heap.size, 1, none⟩ = some (.string c.name) /\ W'.cell? ⟨w.heap.size, 2, none⟩ = some (.string c.dest) /\ W'.cell? ⟨w.heap.size, 3, none⟩ = some (.string c.data) /\ W'.cell? ⟨g, 1, none⟩ = some (.map (some bf))) (first | exact ⟨e0, e1, e2, e3, c1⟩ | exact ⟨t0, t1, t2, t3, t4⟩ | go_keep)
   (first | (go_at_call 55; (with_reducible refine Calls.mono HON.out ?_); rintro o w2 ⟨rfl, hI2, hf2⟩; obtain ⟨k1, k2, k3, k4⟩ := K2.out w2 hf2; have t0 := cell_of_block k4 0 _ rfl; have t1 := cell_of_block k4 1 _ rfl; have t2 := cell_of_block k4 2 _ rfl; have t3 := cell_of_block k4 3 _ rfl; have t4 := cell_of_block k1 1 _ rfl))
  have hf12 : Fr w w2 B := (HF01.out.weak (fun x _ e => by rw [e]; exact hBg)).trans (⟨hf2.os, hf2.tape, hf2.output, hf2.size, hf2.block⟩ : Fr w1 w2 (fun x => x = bf)) (fun x _ e => by rw [e]; exact H678.out.2.2);have c2 := cell_of_block k1 2 _ rfl;have f2 := free_of_block k1 2;have hle2 : w.heap.size <= w2.heap.size := hf12.size;have KG : Hid (∀ ob wA, (w2.alloc ob).drew.grownBy wA (Value.slice av D.chg.length cp).ownBlock -> wA.cell? ⟨g, 2, none⟩ = some (.slice av D.chg.length cp) /\ wA.frozen? ⟨g, 2, none⟩ = false) := by
   intro ob wA hg;have h := grown_fr ((Fr.refl w2 _).alloc ob).drew hg;have hb := (h.block g (blt k1) (owns_ne k3 k1 (fun cs x hh => by cases hh))).trans k1;exact ⟨cell_of_block hb 2 _ rfl, free_of_block hb 2⟩
  have c2a : ∀ ob, (w2.alloc ob).cell? ⟨g, 2, none⟩ = some (.slice av D.chg.length cp) := fun ob => kept_cell ((Below.refl _ _).alloc (Nat.le_refl _) ob) c2
  obtain ⟨K1, KK2, K3, HI2, HF12⟩ := hd5 k1 k2 k3 hI2 hf12;clear k1 k2 k3 hI2 hf12 hf2 k4 HON K2 HF01;obtain ⟨i0, hi0, hz0, hz1, hz2⟩ := info_parts info119;have h4pos : 0 < 4 := by decide
  go_wp2_with fail;go_region_law
   (first
    | (refine step_append_lies _ ?_ (.tmp 21) (.tmp 23) 51 ?_ 0 74 i0 (.agg #[.int .i64 0, .string ⟨#[]⟩, .string ⟨#[]⟩, .string ⟨#[]⟩]) 4 56 u113 hi0 hz0 hz1 hz2 rfl h4pos (.slice av D.chg.length cp) D.chg.length (D.chg.map Ch.cells).flatten ?_ ?_ ⟨w2.heap.size, 0, none⟩ 1 1 [.int .i64 c.kind, .string c.name, .string c.dest, .string c.data] ?_ rfl ?_ ?_ Nat.one_pos ?_ ?_ ?_ _ rfl ?_; rfl; rfl; rfl; exact (K3.out.alloc _).drew; rfl; exact news_alloc_drew w2 #[.int .i64 c.kind, .string c.name, .string c.dest, .string c.data] 74 _ rfl; simp [Value.oneCell']; (unfold maxLen; omega); omega; exact Nat.zero_le _; intro gA capA wA hownA hgrowA hatA hltA; obtain ⟨r2, s2⟩ := KG.out _ wA hgrowA))
  all_goals
   have hown2 : wA.ownsRow 0 74 4 (.slice (some ⟨gA, 0, none⟩) (D.chg.length + 1) capA) (D.did4 c).chg.length ((D.did4 c).chg.map Ch.cells).flatten := by
    have e1 : (D.did4 c).chg = D.chg ++ [c] := rfl;rw [e1, List.length_append, List.map_append, List.flatten_append];exact hownA
   have hnew := Disk.pushed (B := B) (D' := D.did4 c) (gA := gA) K1.out KK2.out HI2.out K3.out H5.out H678.out.1 H678.out.2.1 H678.out.2.2 ((Fr.refl w2 _).alloc _).drew hgrowA hown2 rfl rfl rfl rfl;have hfin : Fr w (wA.setCell ⟨g, 2, none⟩ (.slice (some ⟨gA, 0, none⟩) (D.chg.length + 1) capA)) B := ((HF12.out.alloc _).drew.grown hgrowA (fun x hx _ => H9.out x hx)).set _ _ (fun _ => hBg);have hin : ∀ x, (B x \/ x = gA) -> B x \/ w.heap.size <= x := by
    intro x hx;rcases hx with hx | rfl
    ·exact .inl hx
    ·rcases hatA with h | h
     ·exact .inl (H9.out _ h)
     ·right;simp at h;omega
   obtain ⟨HNEW, HFIN, HIN⟩ := hd3 hnew hfin hin;clear hnew hfin hin hown2 hownA hgrowA hatA;go_wp2_with fail;go_ret;exact ⟨.inr ⟨HNF.out, rfl, _, HNEW.out, HIN.out⟩, HFIN.out⟩
def Dk.keep4 (D : Dk) (k : Nat) : List (ByteArray × ByteArray) := (D.chg.take k).foldl (fun F c => c.act F) D.kept
theorem Dk.keep4_next {D : Dk} {k : Nat} {c : Ch} (h : D.chg[k]? = some c) : D.keep4 (k + 1) = c.act (D.keep4 k) := by
 unfold Dk.keep4;rw [List.take_add_one, h, Option.toList_some, List.foldl_append]; rfl
theorem keep4_any (w : World) (B : Nat -> Prop) (g : Nat) (D : Dk) (n : Nat) (h : Disk w B g D) (hn : n <= D.chg.length) (hch : D.chg.length <= 100000) (hk : ∀ c ∈ D.chg, c.kinds) (hsz : ∀ k c, k < n -> D.chg[k]? = some c -> c.data.size <= 1000000 /\ ((M.get (D.keep4 k) c.name).getD ⟨#[]⟩).size <= 1000000) :
  Calls Tryz.prog 28 #[.pointer (some ⟨g, 0, none⟩), .int .i64 n] w fun o w' => o = .returned (.tuple #[]) /\ Disk w' B g { D with kept := D.keep4 n } /\ Fr w w' B := by
 obtain ⟨bk, bf, cv, h1, h2, h3, h4, h5, h6, h7, h8, h9⟩ := h;have hkg : bk ≠ g := fun e => by
  obtain ⟨es, c, hb, _⟩ := h2;rw [e, h1] at hb; cases hb
 have hkc : ∀ c, cv.ownBlock = some c -> c ≠ bk := fun c hc e => by
  obtain ⟨es, c2, hb, _⟩ := h2;exact owns_ne h4 hb (fun cs x hh => by cases hh) (by rw [<- e]; exact hc)
 have KF : Hid (∀ wx, M.Is wx bk (D.keep4 n) -> Fr w wx (fun x => x = bk) -> Disk wx B g { D with kept := D.keep4 n } /\ Fr w wx B) := by
  intro wx hI hf;exact ⟨⟨bk, bf, cv, (hf.block g (blt h1) (fun e => hkg e.symm)).trans h1, hI, is_fr h3 hf (fun e => h5 e.symm), owns_fr h4 hf hkc, h5, h6, h7, h8, h9⟩, hf.weak (fun x _ e => by rw [e]; exact h7)⟩
 have c2 := cell_of_block h1 2 _ rfl;have KC : Hid (∀ wx, Fr w wx (fun x => x = bk) -> wx.cell? ⟨g, 0, none⟩ = some (.map (some bk))) := by
  intro wx hf;exact cell_of_block ((hf.block g (blt h1) (fun e => hkg e.symm)).trans h1) 0 _ rfl
 have KE : Hid (∀ wx, Fr w wx (fun x => x = bk) -> wx.ownsRow 0 74 4 cv D.chg.length (D.chg.map Ch.cells).flatten) := fun wx hf => owns_fr h4 hf hkc
 have hI0 : M.Is w bk (D.keep4 0) := h2;have hgl := blt h1;have hbl : bk < w.heap.size := h2.lt;obtain ⟨HI0, HK, HSZ⟩ := hd3 hI0 hk hsz;obtain ⟨av, cp, rfl⟩ := owns_shape h4;have hcap : D.chg.length <= cp := by
  rcases h4.2 with ⟨e, h0⟩ | ⟨gc, cap, cur, e, _, _, h0, _⟩
  ·simp only [Value.slice.injEq] at e; omega
  ·simp only [Value.slice.injEq] at e; omega
 clear h1 h2 h3 h4 h5 h6 h7 h8 h9 hkg hkc hI0 hk hsz;go_enter Tryz.func28, Tryz.ntmps28;go_wp2_with fail;go_loopw [13, 5] (fun vi _ wx => ∃ k : Nat, k <= n /\ vi = .int .i64 k /\ M.Is wx bk (D.keep4 k) /\ Fr w wx (fun x => x = bk)) (fun vi _ _ => n - (intOf vi).toNat)
 case atStart => exact ⟨0, Nat.zero_le _, rfl, HI0.out, Fr.refl _ _⟩
 case round =>
  obtain ⟨wx, hwx⟩ : ∃ z, z = wr := ⟨_, rfl⟩
  subst hwx;obtain ⟨k, hkn, rfl, hIx, hfx⟩ := hrel;by_cases hlt : k < n
  ·obtain ⟨c, hc⟩ : ∃ c, D.chg[k]? = some c := ⟨_, List.getElem?_eq_getElem (by omega)⟩
   obtain ⟨gc, cap2, ecv, y0, y1, y2, y3⟩ := chg_at (KE.out wx hfx) hc;simp only [Value.slice.injEq] at ecv;obtain ⟨rfl, _, rfl⟩ := ecv;have hfv := (hfx.alloc (.cells #[.int .i64 c.kind, .string c.name, .string c.dest, .string c.data] 74))
   have hIv0 : M.Is (wx.alloc (.cells #[.int .i64 c.kind, .string c.name, .string c.dest, .string c.data] 74)) bk (D.keep4 k) := hIx.kept (World.grownBy_alloc _ _ none) (by simp);have hIv : M.Is (wx.alloc (.cells #[.int .i64 c.kind, .string c.name, .string c.dest, .string c.data] 74)).drew bk (D.keep4 k) := hIv0;have hon := act_any _ bk c (D.keep4 k) hIv (HK.out c (List.mem_of_getElem? hc)) (HSZ.out k c hlt hc);have hEv := heap_alloc_new wx (.cells #[.int .i64 c.kind, .string c.name, .string c.dest, .string c.data] 74);have c0 := KC.out _ hfv;have HNX : Hid (D.keep4 (k + 1) = c.act (D.keep4 k)) := Dk.keep4_next hc;have K2 : Hid (∀ w2, Fr (wx.alloc (.cells #[.int .i64 c.kind, .string c.name, .string c.dest, .string c.data] 74)).drew w2 (fun x => x = bk) -> Fr w w2 (fun x => x = bk) /\ w2.cell? ⟨g, 0, none⟩ = some (.map (some bk)) /\ w2.heap[wx.heap.size]? = some (.cells #[.int .i64 c.kind, .string c.name, .string c.dest, .string c.data] 74 (0, 0))) := by
    intro w2 hf0;have hf : Fr (wx.alloc (.cells #[.int .i64 c.kind, .string c.name, .string c.dest, .string c.data] 74)) w2 (fun x => x = bk) := ⟨hf0.os, hf0.tape, hf0.output, hf0.size, hf0.block⟩
    have h1 := hfv.trans hf (fun _ _ e => e);exact ⟨h1, KC.out _ h1, (hf.block wx.heap.size (blt hEv) (by show ¬ wx.heap.size = bk; have := hfx.size; omega)).trans hEv⟩
   obtain ⟨e0, e1, e2, e3⟩ := cl4 hEv;have HON := hide hon;clear hon hIv hIv0 hEv hc hIx hfx hfv;go_wp2_with fail;generalize wx.alloc _ = wv at *;go_region_held3 (fun W' => W'.cell? ⟨wx.heap.size, 0, none⟩ = some (.int .i64 c.kind) /\ W'.cell? ⟨wx.heap.size, 1, none⟩ = some (.string c.name) /\ W'.cell? ⟨wx.heap.size, 2, none⟩ = some (.string c.dest) /\ W'.cell? ⟨wx.heap.size, 3, none⟩ = some (.string c.data) /\ W'.cell? ⟨g, 0, none⟩ = some (.map (some bk))) (first | exact ⟨e0, e1, e2, e3, c0⟩ | exact ⟨t0, t1, t2, t3, t4⟩ | go_keep)
    (first | (go_at_call 55; (with_reducible refine Calls.mono HON.out ?_); rintro o w2 ⟨rfl, hI2, hf2⟩; obtain ⟨k1, t4, k4⟩ := K2.out w2 hf2; have t0 := cell_of_block k4 0 _ rfl; have t1 := cell_of_block k4 1 _ rfl; have t2 := cell_of_block k4 2 _ rfl; have t3 := cell_of_block k4 3 _ rfl))
   obtain ⟨HI2, HK1⟩ := hd2 hI2 k1;clear hI2 k1 k4 hf2 t0 t1 t2 t3 t4 e0 e1 e2 e3 c0 y0 y1 y2 y3;go_wp2_with fail;go_roundw
   case rel => exact ⟨k + 1, by omega, by go_num, by rw [HNX.out]; exact HI2.out, HK1.out⟩
   case measure => simp [intOf]; omega
  ·have hkk : k = n := by omega
   subst hkk;have HFI := hide (KF.out wx hIx hfx);clear hIx hfx;go_wp2_with fail;go_end0;exact ⟨rfl, HFI.out⟩
def Dk.synced4 (D : Dk) : Dk := { D.step with kept := D.keep4 D.chg.length, chg := [] }
theorem sync4 (w : World) (B : Nat -> Prop) (g : Nat) (D : Dk) (h : Disk w B g D) (hs : 0 <= D.steps /\ D.steps <= 1000000) (hl : -9223372036854775808 <= D.left /\ D.left <= 9223372036854775807) (hch : D.chg.length <= 100000) (hk : ∀ c ∈ D.chg, c.kinds) (hsz : ∀ k c, k < D.chg.length -> D.chg[k]? = some c -> c.data.size <= 1000000 /\ ((M.get (D.keep4 k) c.name).getD ⟨#[]⟩).size <= 1000000) :
  Calls Tryz.prog 52 #[.pointer (some ⟨g, 0, none⟩)] w fun o w' => ((D.fails /\ o = .returned (.iface 54 (.int .i64 10)) /\ Disk w' B g D.fell) \/ (¬ D.fails /\ o = .returned .nilIface /\ Disk w' B g D.synced4)) /\ Fr w w' B := by
 have hst := step_any w B g D h hs hl;have hBg : B g := by obtain ⟨_, _, _, _, _, _, _, _, h6, _⟩ := h; exact h6
 have K : Hid (∀ w1, Disk w1 B g D.step -> Calls Tryz.prog 28 #[.pointer (some ⟨g, 0, none⟩), .int .i64 D.chg.length] w1 fun o w' => o = .returned (.tuple #[]) /\ Disk w' B g { D.step with kept := D.keep4 D.chg.length } /\ Fr w1 w' B) :=
  fun w1 h1 => keep4_any w1 B g D.step D.chg.length h1 (Nat.le_refl _) hch hk hsz
 have HST := hide hst;clear hst h hsz hk hs hl;go_enter Tryz.func52, Tryz.ntmps52;go_wp2_with fail;refine HST.out.mono ?_;rintro o w1 ⟨hst1, hf1⟩;rcases hst1 with ⟨hfa, rfl, hD1⟩ | ⟨hnf, rfl, hD1⟩
 ·have HFA := hide hfa;obtain ⟨HD1, HF1⟩ := hd2 hD1 hf1;clear hfa hD1 hf1;go_wp2_with fail;go_ret;exact ⟨.inl ⟨HFA.out, rfl, HD1.out⟩, HF1.out.weak (fun c _ e => by rw [e]; exact hBg)⟩
 ·have HK := hide (K.out w1 hD1);obtain ⟨bk, bf, cv, h1, h2, h3, h4, h5, h6, h7, h8, h9⟩ := hD1;obtain ⟨av, cp, rfl⟩ := owns_shape h4;have c2 := cell_of_block h1 2 _ rfl;obtain ⟨HNF, HF1⟩ := hd2 hnf hf1;clear hnf hf1 h1 h2 h3 h4 h5 h6 h7 h8 h9 K;have e1 : D.step.chg.length = D.chg.length := rfl;rw [e1] at c2;go_wp2_with fail;refine HK.out.mono ?_;rintro o w2 ⟨rfl, hD2, hf2⟩;have HC := hide hD2.cut;obtain ⟨bk, bf, cv, h1, h2, h3, h4, h5, h6, h7, h8, h9⟩ := hD2;have c3 := cell_of_block h1 2 _ rfl;have f3 := free_of_block h1 2;have HF2 := hide hf2;clear hf2 h1 h2 h3 h4 h5 h6 h7 h8 h9 c2;go_wp2_with fail;go_ret;refine ⟨.inr ⟨HNF.out, rfl, HC.out⟩, ?_⟩;exact ((HF1.out.weak (ex1 := B) (fun c _ e => by rw [e]; exact hBg)).trans HF2.out (fun _ _ e => e)).set ⟨g, 2, none⟩ _ (fun _ => hBg)
end Go.Proofs.YtcekcfjabhlheaaGreatDoor.Dx
namespace Go.Proofs.YtcekcfjabhlheaaGreatDoor.Dx
open Go.RowKit
attribute [local go_sem ↓] Go.wp_at_zero Go.wp_at_succ
theorem disk_of {w : World} {B : Nat -> Prop} {g : Nat} {D : Dk} (h : Disk w B g D) : B g := by
 obtain ⟨_, _, _, _, _, _, _, _, h6, _⟩ := h; exact h6
theorem Doing.ends {w w' : World} {B : Nat -> Prop} {g : Nat} {D D' : Dk} {o : Ending} (hd : Doing w w' B g D D' o) : ∃ u, o = .returned u /\ (u = .nilIface \/ u = .iface 54 (.int .i64 10)) := by
 rcases hd.1 with ⟨_, e, _⟩ | ⟨_, e, _⟩
 ·exact ⟨_, e, .inr rfl⟩
 ·exact ⟨_, e, .inl rfl⟩
def Dk.makes (D : Dk) (n d : ByteArray) : Nat := if D.fit n d.size ≠ 0 then D.fit n d.size else if (M.get D.files n).isSome = true then 6 else 0
def Dk.gone (D : Dk) (n : ByteArray) : Nat := if (M.get D.files n).isSome = true then 0 else 7
def Dk.may4 (D : Dk) (n t : ByteArray) : Nat := if N.may n = false \/ N.may t = false then 3 else D.gone n
def Dk.moved (D : Dk) (n t : ByteArray) : Dk := if (n.toList == t.toList) = true then D.step else D.did4 ⟨2, n, t, ⟨#[]⟩⟩
theorem move4 (w : World) (B : Nat -> Prop) (g : Nat) (D : Dk) (n t : ByteArray) (h : Disk w B g D) (hB : ∀ x, B x -> x < w.heap.size) (hn : n.size <= maxLen) (ht : t.size <= maxLen) (hs : 0 <= D.steps /\ D.steps <= 1000000) (hl : -9223372036854775808 <= D.left /\ D.left <= 9223372036854775807) (hlen : ((M.get D.files n).getD ⟨#[]⟩).size <= 1000000) (hch : D.chg.length <= 100000) :
  Calls Tryz.prog 50 #[.pointer (some ⟨g, 0, none⟩), .string n, .string t] w fun o w' => Changed w w' B g D (D.moved n t) (D.may4 n t) o := by
 have K : Hid (∀ w1, Fr w w1 (fun _ => False) -> Calls Tryz.prog 77 #[.pointer (some ⟨g, 0, none⟩), .agg #[.int .i64 2, .string n, .string t, .string ⟨#[]⟩]] w1 fun o w' => Doing w w' B g D (D.did4 ⟨2, n, t, ⟨#[]⟩⟩) o) := by
  intro w1 hf;exact (do4 w1 B g D ⟨2, n, t, ⟨#[]⟩⟩ (h.fr hf (fun _ _ h => h)) (fun x hx => Nat.lt_of_lt_of_le (hB x hx) hf.size) hs hl (.inr (.inr (.inl rfl))) ⟨Nat.zero_le _, hlen⟩ hch).mono (fun o w' hh => hh.up hf)
 have KS : Hid (∀ w1, Fr w w1 (fun _ => False) -> Calls Tryz.prog 79 #[.pointer (some ⟨g, 0, none⟩)] w1 fun o w' => Doing w w' B g D D.step o) := by
  intro w1 hf;have hBg : B g := disk_of h;refine (step_any w1 B g D (h.fr hf (fun _ _ h => h)) hs hl).mono (fun o w' hh => ?_);refine ⟨?_, (hf.weak (fun _ _ e => e.elim)).trans hh.2 (fun c _ e => by rw [e]; exact hBg)⟩;rcases hh.1 with ⟨a, b, c⟩ | ⟨a, b, c⟩
  ·exact .inl ⟨a, b, c⟩
  ·exact .inr ⟨a, b, B, c, fun x hx => .inl hx⟩
 have HN1 := hide (name_any n w hn);have HN2 := hide (name_any t w ht);have HH := hide (has_any w B g D n h);clear h hB hs hl hlen hch;go_enter Tryz.func50, Tryz.ntmps50;go_wp2_with fail;refine HN1.out.mono ?_;rintro o w1 ⟨rfl, hw⟩;rw [hw];clear hw w1;cases h1 : N.may n with
 | false =>
  have HM : Hid (D.may4 n t = 3) := by show _ = _; unfold Dk.may4; rw [if_pos (.inl h1)]
  clear h1;go_wp2_with fail;go_ret;exact .inl ⟨by rw [HM.out]; decide, by rw [HM.out]; rfl, Fr.refl _ _⟩
 | true =>
  go_wp2_with fail;refine HN2.out.mono ?_;rintro o w1 ⟨rfl, hw⟩;rw [hw];clear hw w1;cases h2 : N.may t with
  | false =>
   have HM : Hid (D.may4 n t = 3) := by show _ = _; unfold Dk.may4; rw [if_pos (.inr h2)]
   clear h1 h2;go_wp2_with fail;go_ret;exact .inl ⟨by rw [HM.out]; decide, by rw [HM.out]; rfl, Fr.refl _ _⟩
  | true =>
   have HG : Hid (D.may4 n t = D.gone n) := by show _ = _; unfold Dk.may4; rw [if_neg (by rw [h1, h2]; simp)]
   clear h1 h2;go_wp2_with fail;refine HH.out.mono ?_;rintro o w2 ⟨rfl, hf2⟩;cases hi : (M.get D.files n).isSome with
   | false =>
    have HF2 := hide hf2;have HM : Hid (D.gone n = 7) := by show _ = _; unfold Dk.gone; rw [if_neg (by rw [hi]; decide)]
    clear hf2 hi;go_wp2_with fail;go_ret;exact .inl ⟨by rw [HG.out, HM.out]; decide, by rw [HG.out, HM.out]; rfl, HF2.out⟩
   | true =>
    have HM : Hid (D.gone n = 0) := by show _ = _; unfold Dk.gone; rw [if_pos hi]
    cases he : (n.toList == t.toList) with
    | true =>
     have HMV : Hid (D.moved n t = D.step) := by show _ = _; unfold Dk.moved; rw [if_pos he]
     have HD := hide (KS.out w2 hf2);clear hf2 hi K KS;go_wp2_with fail;refine HD.out.mono ?_;rintro o w3 hd;obtain ⟨u, rfl, hu⟩ := hd.ends;have HD3 := hide hd;clear hd;rcases hu with rfl | rfl
     all_goals
      go_wp2_with fail;go_ret;rw [HMV.out];exact .inr ⟨by rw [HG.out, HM.out], HD3.out⟩
    | false =>
     have HMV : Hid (D.moved n t = D.did4 ⟨2, n, t, ⟨#[]⟩⟩) := by show _ = _; unfold Dk.moved; rw [if_neg (by rw [he]; decide)]
     have HD := hide (K.out w2 hf2);clear hf2 hi K KS;go_wp2_with fail;refine HD.out.mono ?_;rintro o w3 hd;obtain ⟨u, rfl, hu⟩ := hd.ends;have HD3 := hide hd;clear hd;rcases hu with rfl | rfl
     all_goals
      go_wp2_with fail;go_ret;rw [HMV.out];exact .inr ⟨by rw [HG.out, HM.out], HD3.out⟩
end Go.Proofs.YtcekcfjabhlheaaGreatDoor.Dx
namespace Go.Proofs.YtcekcfjabhlheaaGreatDoor.Dx
open Go.RowKit
open Go.ChangeMaps (setBlock)
attribute [local go_sem ↓] Go.wp_at_zero Go.wp_at_succ
namespace M
end M
end Go.Proofs.YtcekcfjabhlheaaGreatDoor.Dx
namespace Go.Proofs.YtcekcfjabhlheaaGreatDoor.Dx
open Go.RowKit
attribute [local go_sem ↓] Go.wp_at_zero Go.wp_at_succ
end Go.Proofs.YtcekcfjabhlheaaGreatDoor.Dx
