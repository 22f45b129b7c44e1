/- TopState: UY1 UY2. -/
import Derived.Test.YtcekcfjabhlheaaGreatDoorUX
import Derived.RangeFuncNested
import Derived.RangeFuncCalls
import Derived.Shelf.SlIter.Collect
import Derived.OwnWalkIn
import Derived.TacticsInMore
import Derived.RegionIn
import Derived.LoopNIn
import Derived.LoopIn
import Derived.Shelf.RegionOpen
set_option maxRecDepth 100000
set_option maxHeartbeats 4000000
namespace Go.Proofs.YtcekcfjabhlheaaGreatDoor.Vx
open Go.RowKit Go.Shelf
attribute [local go_sem] Oper.semAt_some
def rlAssign : Code := (Code.region 3 #[{ dst := some 5, op := Op.assign (Operand.tmp 9), type := 9, pos := "parse.go:35", after := #[], guard := none }] false)
def rlBody : Code := (Code.block 1 ((Code.region 4 #[{ dst := some 10, op := Op.move (Operand.tmp 5), type := 9, pos := "parse.go:36", after := #[], guard := none }, { dst := some 11, op := Op.call { callee := Callee.value (Operand.func 75), args := #[Operand.tmp 10, Operand.const (Value.string { data := #[10] })], argTypes := #[9, 9] }, type := 9, pos := "parse.go:36", after := #[{ on := 0, ground := Ground.data }], guard := none }, { dst := some 12, op := Op.call { callee := Callee.value (Operand.func 74), args := #[Operand.tmp 4, Operand.tmp 11], argTypes := #[117, 9] }, type := 30, pos := "parse.go:36", after := #[{ on := 1, ground := Ground.data }, { on := 1, ground := Ground.chain }], guard := none }, { dst := some 6, op := Op.assign (Operand.tmp 12), type := 30, pos := "parse.go:36", after := #[{ on := 2, ground := Ground.data }, { on := 2, ground := Ground.chain }, { on := 0, ground := Ground.phase }, { on := 1, ground := Ground.phase }, { on := 2, ground := Ground.phase }], guard := none }] false).seq ((Code.region 5 #[{ dst := some 13, op := Op.move (Operand.tmp 6), type := 30, pos := "parse.go:36", after := #[], guard := none }, { dst := some 14, op := Op.binOp BinOp.neq 30 (Operand.tmp 13) (Operand.const Value.nilIface) 30, type := 4, pos := "parse.go:36", after := #[{ on := 0, ground := Ground.data }], guard := none }] false).seq (Code.cond (Operand.tmp 14) ((Code.region 6 #[{ dst := some 15, op := Op.build 26 #[], type := 26, pos := "parse.go:37", after := #[], guard := none }, { dst := some 16, op := Op.move (Operand.tmp 6), type := 30, pos := "parse.go:37", after := #[{ on := 2, ground := Ground.gcOnly Departure.lateStores }], guard := none }, { dst := none, op := Op.store 26 (Operand.tmp 2) (Operand.tmp 15), type := 0, pos := "parse.go:37", after := #[{ on := 0, ground := Ground.data }, { on := 0, ground := Ground.phase }, { on := 1, ground := Ground.textOnly Departure.lateStores }], guard := none }, { dst := none, op := Op.store 30 (Operand.tmp 3) (Operand.tmp 16), type := 0, pos := "parse.go:37", after := #[{ on := 1, ground := Ground.data }, { on := 2, ground := Ground.chain }, { on := 0, ground := Ground.phase }, { on := 1, ground := Ground.phase }, { on := 2, ground := Ground.phase }], guard := none }] false).seq Code.ret) Code.skip))))
def rlRec (fn : FuncId) (tx : ByteArray) (g : Nat) (st : LoopState) (pend : Option Code) : Loop :=
 { state := st, pending := pend, fn, tmps := #[.string tx, undef, .pointer (some ⟨g, 0, none⟩), .pointer (some ⟨g + 1, 0, none⟩), .pointer (some ⟨g + 2, 0, none⟩), undef, undef, .string tx, .func (.func 88) #[] #[.pointer (some ⟨g + 3, 0, none⟩)], undef, undef, undef, undef, undef, undef, undef, undef, undef], params := #[9], assign := rlAssign, body := rlBody, defers := g + 4 }
structure RlAt (w0 : World) (fn : FuncId) (tx : ByteArray) (rest : List UInt8) (s : St) (W : World) : Prop where
 res : W.heap[w0.heap.size]? = some (.cells #[.int .i64 0, .slice none 0 0, .slice none 0 0, .slice none 0 0] 26 (0, 0))
 err : W.heap[w0.heap.size + 1]? = some (.cells #[.nilIface] 30 (0, 0))
 box : W.heap[w0.heap.size + 3]? = some (.cells #[.string (V.str rest)] 9 (0, 0))
 K : W.heap[w0.heap.size + 4]? = some (.deferred (some []))
 L : W.heap[w0.heap.size + 5]? = some (.loop (rlRec fn tx w0.heap.size .ready none))
 rd : S.RdS (w0.heap.size + 6) (w0.heap.size + 2) W s
 below : Below w0.heap.size w0 W
theorem S.Rd.side {base B : Nat} {D ex : Nat -> Prop} {w w' : World} {s : St} {hv iv ov : Value} {LH : List (Hd × List Value)} {LI : List (It × List Value)} {LO : List ((ByteArray × Val) × List Value)} (h : S.Rd base B D w s hv iv ov LH LI LO) (hF : Fr w w' ex) (hex : ∀ c, ex c -> c < base /\ c ≠ B) : S.Rd base B D w' s hv iv ov LH LI LO := by
 have hd : ∀ c, D c -> c < w.heap.size /\ ¬ ex c := fun c hc => ⟨(h.dd c hc).2, fun e => by have := (hex c e).1; have := (h.dd c hc).1; omega⟩
 refine ⟨(hF.block B (by have := h.bB; have := h.bw; omega) (fun e => (hex B e).2 rfl)).trans h.blk, h.bB, by have := h.bw; have := hF.size; omega, ?_, ?_, ?_, h.mH, h.mI, h.mO, fun c hc => ⟨(h.dd c hc).1, by have := (h.dd c hc).2; have := hF.size; omega⟩, h.hi, h.ho, h.io⟩
 ·exact h.hH.keep hF hd (fun c hc e => by have := (h.hH.own.lt c hc).1; have := (hex c e).1; omega) (fun _ x => x) h.hH.apart
 ·exact h.hI.keep hF hd (fun c hc e => by have := (h.hI.own.lt c hc).1; have := (hex c e).1; omega) (fun _ x => x) h.hI.apart
 ·exact h.hO.keep hF hd (fun c hc e => by have := (h.hO.own.lt c hc).1; have := (hex c e).1; omega) (fun _ x => x) h.hO.apart
theorem S.RdS.side {base B : Nat} {ex : Nat -> Prop} {w w' : World} {s : St} (h : S.RdS base B w s) (hF : Fr w w' ex) (hex : ∀ c, ex c -> c < base /\ c ≠ B) : S.RdS base B w' s := by
 obtain ⟨D, hv, iv, ov, LH, LI, LO, h⟩ := h
 exact ⟨D, hv, iv, ov, LH, LI, LO, h.side hF hex⟩
theorem fr_putObj (w : World) (l : Nat) (o : Obj) : Fr w (w.putObj l o) (fun c => c = l) := ⟨rfl, rfl, rfl, by simp, fun _ _ hk => World.putObj_heap_other (fun e => hk e)⟩
theorem trim_line (a : List UInt8) (hl : a.length <= 1000000) (w : World) : Calls Tryz.prog 75 #[.string (V.str (a ++ [10])), .string ⟨#[10]⟩] w fun e w' => e = .returned (.string (V.str a)) /\ w' = w := by
 refine (sh_strings_TrimSuffix (V.str (a ++ [10])) ⟨#[10]⟩ w (by rw [S.size_str]; simp; omega)).mono ?_
 rintro e w' ⟨rfl, hw⟩
 refine ⟨?_, hw⟩
 have e1 : (V.str (a ++ [10])).data.toList = a ++ [10] := V.bl_str _
 rw [e1]
 have e2 : Lib.trimSuffix (a ++ [10]) (⟨#[10]⟩ : ByteArray).data.toList = a := by
  show Lib.trimSuffix (a ++ [10]) [10] = a
  simp [Lib.trimSuffix, Lib.hasSuffix]
 rw [e2]
 rfl
theorem rlYield (m : Nat) (w0 : World) (fn : FuncId) (tx : ByteArray) (rest : List UInt8) (s : St) (x : Ln) (W : World) (h : RlAt w0 fn tx rest s W) (hfit : S.Ln.Fit x) (hlen : (S.Ln.bare 6 x).length <= 4000) (h1 : s.held.length <= 1000) (h2 : s.its.length <= 1000) (h3 : s.outs.length <= 1000) :
  YieldAt Fence.wide m Tryz.prog (w0.heap.size + 5) #[.string (V.str (S.Ln.bare 6 x ++ [10]))] W fun e W' => e = .returned (.bool true) /\ RlAt w0 fn tx rest (S.Ln.put s x) W' := by
 refine ⟨fn, #[.string tx, undef, .pointer (some ⟨w0.heap.size, 0, none⟩), .pointer (some ⟨w0.heap.size + 1, 0, none⟩), .pointer (some ⟨w0.heap.size + 2, 0, none⟩), undef, undef, .string tx, .func (.func 88) #[] #[.pointer (some ⟨w0.heap.size + 3, 0, none⟩)], .string (V.str (S.Ln.bare 6 x ++ [10])), undef, undef, undef, undef, undef, undef, undef, undef], rlAssign, rlBody, by simpa [rlRec] using run_yield (P := Tryz.prog) (args := #[.string (V.str (S.Ln.bare 6 x ++ [10]))]) h.L rfl, roundIn_of_wpIn trivial ?_⟩
 have hl : w0.heap.size + 5 < W.heap.size := (blt h.L)
 have hbr := run_beginRound (P := Tryz.prog) h.L rfl
 obtain ⟨W2, hW2⟩ : ∃ W2, W.putObj (w0.heap.size + 5) (.loop { rlRec fn tx w0.heap.size .ready none with state := .busy }) = W2 := ⟨_, rfl⟩
 rw [hW2] at hbr
 have hF2 : Fr W W2 (fun c => c = w0.heap.size + 5) := by rw [<- hW2]; exact fr_putObj _ _ _
 have hL2 : W2.heap[w0.heap.size + 5]? = some (.loop { rlRec fn tx w0.heap.size .ready none with state := .busy }) := by rw [<- hW2]; exact World.putObj_heap_same hl
 have hR2 := h.rd.side hF2 (fun c e => by omega)
 have HT := hide (trim_line (S.Ln.bare 6 x) (by omega) W2)
 have HRL := hide (readLine_any x hR2 hfit hlen h1 h2 h3)
 obtain ⟨HF2, HL2, HH⟩ := hd3 hF2 hL2 h
 generalize V.str (S.Ln.bare 6 x ++ [10]) = tl at *
 generalize V.str (S.Ln.bare 6 x) = tb at *
 generalize S.Ln.put s x = s2 at *
 clear hW2 hF2 hL2 hR2 h hl hfit hlen h1 h2 h3
 unfold rlAssign
 gi_wp2
 unfold rlBody
 gi_wp2
 refine ⟨trivial, fun h => (by cases h), (CallsIn.inRound (w0.heap.size + 5) (callsIn_wide.2 HT.out)).mono ?_⟩
 rintro e w' ⟨rfl, hw⟩
 rw [hw]
 clear hw
 gi_wp2
 refine ⟨trivial, fun h => (by cases h), (CallsIn.inRound (w0.heap.size + 5) (callsIn_wide.2 HRL.out)).mono ?_⟩
 rintro e W3 ⟨rfl, hR3, hF3⟩
 obtain ⟨HR3, HF3⟩ := hd2 hR3 hF3
 clear hR3 hF3 HT HRL hbr
 gi_wp2
 have h := HH.out
 have hF2 := HF2.out
 have hF3 := HF3.out
 have hlt : w0.heap.size + 5 < W.heap.size := (blt h.L)
 have hs2 := hF2.size
 have hs3 := hF3.size
 have hL3 : W3.heap[w0.heap.size + 5]? = some (.loop { rlRec fn tx w0.heap.size .ready none with state := .busy }) := (hF3.block _ (by omega) (by omega)).trans HL2.out
 have hF4 := fr_putObj W3 (w0.heap.size + 5) (.loop (rlRec fn tx w0.heap.size .ready none))
 have keep : ∀ j, j < w0.heap.size + 5 -> j ≠ w0.heap.size + 2 -> (W3.putObj (w0.heap.size + 5) (.loop (rlRec fn tx w0.heap.size .ready none))).heap[j]? = W.heap[j]? := fun j h1 h2 => by
  rw [hF4.block j (by omega) (by omega), hF3.block j (by omega) (by omega), hF2.block j (by omega) (by omega)]
 refine ⟨_, _, run_endRound none hL3, rfl, ?_⟩
 have hl4 : w0.heap.size + 5 < W3.heap.size := (blt hL3)
 refine ⟨(keep _ (by omega) (by omega)).trans h.res, (keep _ (by omega) (by omega)).trans h.err, (keep _ (by omega) (by omega)).trans h.box, (keep _ (by omega) (by omega)).trans h.K, World.putObj_heap_same hl4, HR3.out.side hF4 (fun c e => by omega), ?_⟩
 have hb2 := hF2.below (B := w0.heap.size) h.below.size (fun c e => by omega)
 have hb3 := hF3.below (B := w0.heap.size) (by have := h.below.size; omega) (fun c e => by omega)
 have hb4 := hF4.below (B := w0.heap.size) (by have := h.below.size; omega) (fun c e => by omega)
 exact ((h.below.trans hb2).trans hb3).trans hb4
theorem S.ext_head1 (a b : List UInt8) (c : UInt8) : (V.str (a ++ c :: b)).extract 0 (a.length + 1) = V.str (a ++ [c]) := by
 have : V.bl ((V.str (a ++ c :: b)).extract 0 (a.length + 1)) = V.bl (V.str (a ++ [c])) := by
  unfold V.bl
  rw [Lib.extract_data]
  show ((a ++ c :: b).drop 0).take (a.length + 1 - 0) = a ++ [c]
  rw [show a ++ c :: b = (a ++ [c]) ++ b by simp, List.drop_zero, Nat.sub_zero]
  exact List.take_left' (by simp)
 rw [<- V.str_bl ((V.str (a ++ c :: b)).extract 0 (a.length + 1)), this, V.str_bl]
theorem S.fold_few : ∀ (l : List Ln) (s : St), (l.foldl S.Ln.put s).held.length <= s.held.length + l.length /\ (l.foldl S.Ln.put s).its.length <= s.its.length + l.length /\ (l.foldl S.Ln.put s).outs.length <= s.outs.length + l.length
 | [], s => by simp
 | x :: l, s => by
  have h := S.fold_few l (S.Ln.put s x)
  have k : (S.Ln.put s x).held.length <= s.held.length + 1 /\ (S.Ln.put s x).its.length <= s.its.length + 1 /\ (S.Ln.put s x).outs.length <= s.outs.length + 1 := by
   rcases x with n | x | x | x <;> simp [S.Ln.put]
  simp only [List.foldl_cons, List.length_cons]
  omega
theorem RlAt.rest {w0 : World} {fn : FuncId} {tx : ByteArray} {r : List UInt8} {s : St} {W : World} (h : RlAt w0 fn tx r s W) (r2 : List UInt8) (b : ByteArray) (hb : b = V.str r2) : RlAt w0 fn tx r2 s (W.setCell ⟨w0.heap.size + 3, 0, none⟩ (.string b)) := by
 subst hb
 have hF : Fr W (W.setCell ⟨w0.heap.size + 3, 0, none⟩ (.string (V.str r2))) (fun c => c = w0.heap.size + 3) := Fr.set1 _ _ _ _
 have hl : w0.heap.size + 5 < W.heap.size := (blt h.L)
 have keep : ∀ j, j < w0.heap.size + 6 -> j ≠ w0.heap.size + 3 -> (W.setCell ⟨w0.heap.size + 3, 0, none⟩ (.string (V.str r2))).heap[j]? = W.heap[j]? := fun j h1 h2 => hF.block j (by omega) (by omega)
 exact ⟨(keep _ (by omega) (by omega)).trans h.res, (keep _ (by omega) (by omega)).trans h.err, heap_setCell_box_a _ h.box, (keep _ (by omega) (by omega)).trans h.K, (keep _ (by omega) (by omega)).trans h.L, h.rd.side hF (fun c e => by omega), h.below.trans (hF.below h.below.size (fun c e => by omega))⟩
theorem RlAt.drew {w0 : World} {fn : FuncId} {tx : ByteArray} {r : List UInt8} {s : St} {W : World} (h : RlAt w0 fn tx r s W) (n : Nat) : RlAt w0 fn tx r s (W.drewN n) := by
 have hb : Below W.heap.size W (W.drewN n) := below_drewN (Below.refl _ _) n
 have hF : Fr W (W.drewN n) (fun _ => False) := ⟨hb.os, hb.tape, hb.output, hb.size, fun c hc _ => hb.block c hc⟩
 have hl : w0.heap.size + 5 < W.heap.size := (blt h.L)
 have keep : ∀ j, j < w0.heap.size + 6 -> (W.drewN n).heap[j]? = W.heap[j]? := fun j h1 => hF.block j (by omega) (fun e => e)
 exact ⟨(keep _ (by omega)).trans h.res, (keep _ (by omega)).trans h.err, (keep _ (by omega)).trans h.box, (keep _ (by omega)).trans h.K, (keep _ (by omega)).trans h.L, h.rd.side hF (fun c e => e.elim), h.below.trans (hF.below h.below.size (fun c e => e.elim))⟩
def boxLen (g : Nat) (w : World) : Nat := match w.cell? ⟨g, 0, none⟩ with
 | some (.string s) => s.size
 | _ => 0
theorem lines_in (n : Nat) (w0 : World) (fn : FuncId) (tx : ByteArray) (xs : List Ln) (hfit : ∀ x ∈ xs, S.Ln.Fit x) (hlen : (xs.flatMap (fun x => S.Ln.bare 6 x ++ [10])).length <= 4000) (W : World) (h : RlAt w0 fn tx (xs.flatMap (fun x => S.Ln.bare 6 x ++ [10])) ⟨0, [], [], []⟩ W) (hfew : xs.length <= 1000) :
  CallsIn Fence.wide n Tryz.prog 88 #[.func (.yield (w0.heap.size + 5)) #[] #[], .pointer (some ⟨w0.heap.size + 3, 0, none⟩)] W fun e W' => (∃ v, e = .returned v) /\ RlAt w0 fn tx [] (xs.foldl S.Ln.put ⟨0, [], [], []⟩) W' := by
 refine callsIn_of_wp Tryz.func88 rfl trivial ?_ rfl
 simp only [Tryz.ntmps88, List.size_toArray, List.length_cons, List.length_nil, Nat.reduceAdd, Nat.reduceSub, Array.replicate_succ, Array.replicate_zero, List.push_toArray, List.append_toArray, List.nil_append, List.cons_append]
 obtain ⟨HF, HL, HW, H0⟩ := hd4 hfit hlen hfew h
 clear hfit hlen hfew h
 gi_wp2
 gi_loopw [] (fun wr => ∃ ys zs, xs = ys ++ zs /\ RlAt w0 fn tx (zs.flatMap (fun x => S.Ln.bare 6 x ++ [10])) (ys.foldl S.Ln.put ⟨0, [], [], []⟩) wr) (fun wr => boxLen (w0.heap.size + 3) wr)
 case atStart => exact ⟨[], xs, rfl, H0.out⟩
 case round =>
  obtain ⟨ys, zs, hx, hR⟩ := hrel
  obtain ⟨HX, HR⟩ := hd2 hx hR
  have hbx := hR.box
  have b0 : wr.cell? ⟨w0.heap.size + 3, 0, none⟩ = some (.string (V.str (zs.flatMap (fun x => S.Ln.bare 6 x ++ [10])))) := cell_of_block hbx 0 _ rfl
  have f0 := free_of_block hbx 0
  clear hx hR H0
  cases zs with
  | nil =>
   have e0 : V.str (([] : List Ln).flatMap (fun x => S.Ln.bare 6 x ++ [10])) = ⟨#[]⟩ := rfl
   rw [e0] at b0
   clear hbx
   gi_wp2
   go_end0
   have hx := HX.out
   rw [List.append_nil] at hx
   subst hx
   exact ⟨⟨_, rfl⟩, HR.out⟩
  | cons x zs =>
   have hle : ((x :: zs).flatMap (fun x => S.Ln.bare 6 x ++ [10])).length <= 4000 := by
    have := HL.out
    rw [HX.out, List.flatMap_append, List.length_append] at this
    omega
   have hxm : S.Ln.Fit x := HF.out x (by rw [HX.out]; simp)
   have ecat : (x :: zs).flatMap (fun x => S.Ln.bare 6 x ++ [10]) = S.Ln.bare 6 x ++ 10 :: zs.flatMap (fun x => S.Ln.bare 6 x ++ [10]) := by simp
   have hoff := S.bare_off hxm
   have hlen1 : (S.Ln.bare 6 x).length + 1 <= 4000 := by
    rw [ecat, List.length_append, List.length_cons] at hle
    omega
   have hfw := S.fold_few ys ⟨0, [], [], []⟩
   simp only [List.length_nil, Nat.zero_add] at hfw
   have hyl : ys.length <= 1000 := by
    have := HW.out
    rw [HX.out, List.length_append] at this
    omega
   have HY := hide (fun (W2 : World) (h2 : RlAt w0 fn tx (zs.flatMap (fun x => S.Ln.bare 6 x ++ [10])) (ys.foldl S.Ln.put ⟨0, [], [], []⟩) W2) => rlYield (n - 1) w0 fn tx (zs.flatMap (fun x => S.Ln.bare 6 x ++ [10])) (ys.foldl S.Ln.put ⟨0, [], [], []⟩) x W2 h2 hxm (by omega) (by omega) (by omega) (by omega))
   have HIB := hide (fun w => sh_strings_IndexByte (V.str ((x :: zs).flatMap (fun x => S.Ln.bare 6 x ++ [10]))) 10 w)
   rw [show (V.str ((x :: zs).flatMap (fun x => S.Ln.bare 6 x ++ [10]))).data.toList = S.Ln.bare 6 x ++ 10 :: zs.flatMap (fun x => S.Ln.bare 6 x ++ [10]) from (V.bl_str _).trans ecat, show (10 : Int).toNat.toUInt8 = 10 from rfl, S.index_at _ _ _ hoff] at HIB
   have e1 := S.ext_head1 (S.Ln.bare 6 x) (zs.flatMap (fun x => S.Ln.bare 6 x ++ [10])) 10
   have hsz := S.size_str (S.Ln.bare 6 x ++ 10 :: zs.flatMap (fun x => S.Ln.bare 6 x ++ [10]))
   have e2 := S.ext_tail (S.Ln.bare 6 x) (zs.flatMap (fun x => S.Ln.bare 6 x ++ [10])) 10 _ hsz
   have hsl : (V.str (S.Ln.bare 6 x ++ 10 :: zs.flatMap (fun x => S.Ln.bare 6 x ++ [10]))).size <= 4000 := by rw [hsz, <- ecat]; exact hle
   have hs1 : (S.Ln.bare 6 x).length + 1 <= (V.str (S.Ln.bare 6 x ++ 10 :: zs.flatMap (fun x => S.Ln.bare 6 x ++ [10]))).size := by rw [hsz]; simp
   have HBL : Hid (boxLen (w0.heap.size + 3) wr = (V.str (S.Ln.bare 6 x ++ 10 :: zs.flatMap (fun x => S.Ln.bare 6 x ++ [10]))).size) := by
    show boxLen _ _ = _
    unfold boxLen
    rw [b0, ecat]
   rw [ecat] at HIB HR b0
   have HREST := hide (fun (b : ByteArray) (hb : b = V.str (zs.flatMap (fun x => S.Ln.bare 6 x ++ [10]))) => HR.out.rest _ b hb)
   have HE2 := hide e2
   generalize V.str (S.Ln.bare 6 x ++ 10 :: zs.flatMap (fun x => S.Ln.bare 6 x ++ [10])) = tt at *
   generalize hla : (S.Ln.bare 6 x).length = la at *
   generalize V.str (S.Ln.bare 6 x ++ [10]) = tl at *
   have HTR := hide (Eq.refl (V.str (zs.flatMap (fun x => S.Ln.bare 6 x ++ [10]))))
   generalize hqq : V.str (zs.flatMap (fun x => S.Ln.bare 6 x ++ [10])) = tr at e2 HE2 HREST
   have HQQ := hide hqq
   clear hqq HTR
   have c1 : (0 : Int) <= ↑la := by omega
   have c3 : (0 : Int) <= ↑la + 1 := by omega
   have c4 : (↑la + 1 : Int) <= ↑tt.size := by omega
   have c5 : (0 : Int) < ↑tt.size := by omega
   clear hle hxm ecat hoff hfw hyl hsz hbx hla
   gi_wp2
   refine ⟨trivial, fun h => (by cases h), (callsIn_wide.2 (HIB.out wr)).mono ?_⟩
   rintro e w' ⟨rfl, hw⟩
   rw [hw]
   clear hw HIB
   gi_wp2
   have hmx : Tryz.prog.follows .mixedOrders = true := by kernel_rfl
   have hw1 : wrap64 ((la : Int) + 1) = la + 1 := by
    unfold wrap64
    omega
   have hw2 : IntKind.i64.wrap ((la : Int) + 1) = la + 1 := by rw [IntKind.wrap_i64]; omega
   gi_region_with_o (fail)
   all_goals
    have hR2 : RlAt w0 fn tx (zs.flatMap (fun x => S.Ln.bare 6 x ++ [10])) (ys.foldl S.Ln.put ⟨0, [], [], []⟩) (wr.setCell ⟨w0.heap.size + 3, 0, none⟩ (.string tr)).drew := (HREST.out _ rfl).drew 1
    obtain ⟨fn2, tmps, assign, body, hy, hRd⟩ := HY.out _ hR2
    have HS : Hid (tr.size < tt.size) := by
     show _ < _
     rw [<- HE2.out, ByteArray.size_extract]
     omega
    clear hR2 HREST HY HR HE2 e2 b0 f0 c1 c3 c4 c5 hw1 hw2 hs1 hsl hlen1 e1
    gi_wp2
    refine ⟨fun h => (by cases h), hRd.mono ?_⟩
    rintro e W3 ⟨rfl, hJ3⟩
    have HJ3 := hide hJ3
    clear hJ3 hRd hy
    gi_wp2
    go_roundw
    case rel =>
     refine ⟨ys ++ [x], zs, by rw [HX.out]; simp, ?_⟩
     rw [List.foldl_append]
     exact HJ3.out
    case measure =>
     rw [HBL.out]
     have hb3 : W3.cell? ⟨w0.heap.size + 3, 0, none⟩ = some (.string (V.str (zs.flatMap (fun x => S.Ln.bare 6 x ++ [10])))) := cell_of_block HJ3.out.box 0 _ rfl
     unfold boxLen
     rw [hb3, HQQ.out]
     exact HS.out
end Go.Proofs.YtcekcfjabhlheaaGreatDoor.Vx
namespace Go.Proofs.YtcekcfjabhlheaaGreatDoor.Vx
open Go.RowKit Go.Shelf
attribute [local go_sem] Oper.semAt_some
namespace P
def BS : Base St := fun w s cs => S.Mem 6 w s cs
def StR (w w' : World) (s : St) (cs : List Value) : Prop := (∃ a1 n1 q1 a2 n2 q2 a3 n3 q3, cs = [.int .i64 s.serial, .slice a1 n1 q1, .slice a2 n2 q2, .slice a3 n3 q3]) /\ KM BS (New w w') w' s cs
end P
theorem S.Rd.state {base B : Nat} {D : Nat -> Prop} {w : World} {s : St} {hv iv ov : Value} {LH : List (Hd × List Value)} {LI : List (It × List Value)} {LO : List ((ByteArray × Val) × List Value)} (h : S.Rd base B D w s hv iv ov LH LI LO) (h64 : S.in64 s.serial) : P.KM P.BS (fun c => base <= c /\ c < w.heap.size) w s [.int .i64 s.serial, hv, iv, ov] := by
 intro w2 hw
 have sub : ∀ (v : Value), (∀ c, v.ownBlock = some c -> base <= c /\ c < w.heap.size) -> ∀ c, (D c \/ v.ownBlock = some c) -> w2.heap[c]? = w.heap[c]? := fun v hv c hc => hw c (hc.elim (h.dd c) (hv c))
 have kH := h.hH.row w2 (sub hv h.hH.own.lt)
 have kI := h.hI.row w2 (sub iv h.hI.own.lt)
 have kO := h.hO.row w2 (sub ov h.hO.own.lt)
 rw [h.mH] at kH
 rw [h.mI] at kI
 rw [h.mO] at kO
 refine ⟨hv, iv, ov, rfl, kH, kI, ?_, h64⟩
 obtain ⟨a, cap, e, k⟩ := kO
 refine ⟨a, cap, e, k.imp id (fun ⟨b, off, e2, k2⟩ => ⟨b, off, e2, fun i hi => ?_⟩)⟩
 obtain ⟨cs, h1, h2, x, hx, c', h3, h4⟩ := k2 i hi
 exact ⟨cs, h1, h2, x, c', hx, h3, h4⟩
theorem lines73_any (t : ByteArray) (w : World) : Calls Tryz.prog 73 #[.string t] w fun e w' => e = .returned (.func (.func 88) #[] #[.pointer (some ⟨w.heap.size, 0, none⟩)]) /\ w' = w.alloc (.cells #[.string t] 9) := by
 go_enter Tryz.func73, Tryz.ntmps73
 go_wp2_with fail
 exact bodyPost_ret (v := .func (.func 88) #[] #[.pointer (some ⟨w.heap.size, 0, none⟩)]) (by simp [results, Tryz.results73, go_sem]) rfl ⟨rfl, rfl⟩
theorem readLines_any (s : St) (w : World) (hfit : ∀ x ∈ S.items s, S.Ln.Fit x) (hlen : (S.lines 6 s).length <= 4000) (hfew : (S.items s).length <= 1000) (h64 : S.in64 s.serial) :
  Calls Tryz.prog 44 #[.string (V.str (S.lines 6 s))] w fun e w' => (∃ cs, e = .returned (.tuple #[.agg cs.toArray, .nilIface]) /\ P.StR w w' s cs) /\ Below w.heap.size w w' := by
 refine (callsIn_wide (n := 4)).1 ?_
 refine callsIn_of_wp_marks Tryz.func44 rfl trivial ?_ rfl
 simp only [Tryz.ntmps44, List.size_toArray, List.length_cons, List.length_nil, Nat.reduceAdd, Nat.reduceSub, Array.replicate_succ, Array.replicate_zero, List.push_toArray, List.append_toArray, List.nil_append, List.cons_append]
 have HLI := hide (fun n fn tx W h => lines_in n w fn tx (S.items s) hfit (by rw [<- S.lines_items]; exact hlen) W h hfew)
 rw [<- S.lines_items, S.fold_items] at HLI
 have HRS : Hid (∀ W, RlAt w 0 ⟨#[]⟩ [] s W -> True) := fun _ _ => trivial
 generalize htx : V.str (S.lines 6 s) = tx at *
 obtain ⟨HTX, H64⟩ := hd2 htx h64
 clear hfit hlen hfew htx h64 HRS
 gi_wp2
 refine ⟨trivial, (callsIn_wide.2 (lines73_any tx _)).mono ?_⟩
 rintro e w1 ⟨rfl, hw1⟩
 rw [hw1]
 clear hw1
 gi_wp2
 refine wpIn_rangeFunc ?_
 intro fn _
 have eb : ∀ args w, (callFunc 88 args).run Tryz.prog w = .ok (.enter 88 args) w := enters_of Tryz.func88 (by kernel_rfl) rfl
 obtain ⟨x, hx⟩ : ∃ x, x = (((w.alloc (.cells #[.int .i64 0, .slice none 0 0, .slice none 0 0, .slice none 0 0] 26)).alloc (.cells #[.nilIface] 30)).alloc (.cells #[.int .i64 0, .slice none 0 0, .slice none 0 0, .slice none 0 0] 26)).alloc (.cells #[.string tx] 9) := ⟨_, rfl⟩
 have xz : x.heap.size = w.heap.size + 4 := by rw [hx]; simp
 have xw : Below w.heap.size w x := by rw [hx]; exact ((((Below.refl _ w).alloc (Nat.le_refl _) _).alloc (by simp) _).alloc (by simp only [World.size_alloc]; omega) _).alloc (by simp only [World.size_alloc]; omega) _
 have x0 : x.heap[w.heap.size]? = some (.cells #[.int .i64 0, .slice none 0 0, .slice none 0 0, .slice none 0 0] 26 (0, 0)) := by
  rw [hx, heap_alloc_old _ _ (by simp; omega), heap_alloc_old _ _ (by simp; omega), heap_alloc_old _ _ (by simp)]
  exact heap_alloc_new _ _
 have x1 : x.heap[w.heap.size + 1]? = some (.cells #[.nilIface] 30 (0, 0)) := by
  rw [hx, heap_alloc_old _ _ (by simp only [World.size_alloc]; omega), heap_alloc_old _ _ (by simp only [World.size_alloc]; omega)]
  have := heap_alloc_new (w.alloc (.cells #[.int .i64 0, .slice none 0 0, .slice none 0 0, .slice none 0 0] 26)) (.cells #[.nilIface] 30)
  rwa [World.size_alloc] at this
 have x2 : x.heap[w.heap.size + 2]? = some (.cells #[.int .i64 0, .slice none 0 0, .slice none 0 0, .slice none 0 0] 26 (0, 0)) := by
  rw [hx, heap_alloc_old _ _ (by simp)]
  have := heap_alloc_new ((w.alloc (.cells #[.int .i64 0, .slice none 0 0, .slice none 0 0, .slice none 0 0] 26)).alloc (.cells #[.nilIface] 30)) (.cells #[.int .i64 0, .slice none 0 0, .slice none 0 0, .slice none 0 0] 26)
  rwa [World.size_alloc, World.size_alloc] at this
 have x3 : x.heap[w.heap.size + 3]? = some (.cells #[.string tx] 9 (0, 0)) := by
  rw [hx]
  have := heap_alloc_new (((w.alloc (.cells #[.int .i64 0, .slice none 0 0, .slice none 0 0, .slice none 0 0] 26)).alloc (.cells #[.nilIface] 30)).alloc (.cells #[.int .i64 0, .slice none 0 0, .slice none 0 0, .slice none 0 0] 26)) (.cells #[.string tx] 9)
  rwa [World.size_alloc, World.size_alloc, World.size_alloc] at this
 rw [<- hx]
 clear hx
 obtain ⟨y, hy⟩ : ∃ y, y = (x.alloc (.deferred (some []))).alloc (.loop (rlRec fn tx w.heap.size .ready none)) := ⟨_, rfl⟩
 have yx : Fr x y (fun _ => False) := by rw [hy]; exact ((Fr.refl x _).alloc _).alloc _
 have yz : y.heap.size = w.heap.size + 6 := by rw [hy]; simp; omega
 have yd : y.heap[w.heap.size + 4]? = some (.deferred (some [])) := by
  rw [hy, <- xz]
  exact (heap_alloc_old _ _ (by simp)).trans (heap_alloc_new x _)
 have yl : y.heap[w.heap.size + 5]? = some (.loop (rlRec fn tx w.heap.size .ready none)) := by
  rw [hy]
  have := heap_alloc_new (x.alloc (.deferred (some []))) (.loop (rlRec fn tx w.heap.size .ready none))
  rwa [World.size_alloc, xz] at this
 have old : ∀ j, j < w.heap.size + 4 -> y.heap[j]? = x.heap[j]? := fun j hj => yx.block j (by omega) (fun e => e)
 have hAt : RlAt w fn tx (S.lines 6 s) ⟨0, [], [], []⟩ y :=
  ⟨(old _ (by omega)).trans x0, (old _ (by omega)).trans x1, (old _ (by omega)).trans (by rw [HTX.out]; exact x3), yd, yl, ⟨_, _, _, _, _, _, _, S.Rd.start ((old _ (by omega)).trans x2) (by omega) (by omega)⟩, xw.trans (yx.below xw.size (fun c e => e.elim))⟩
 have hV := HLI.out 3 fn tx y hAt
 refine ⟨w.heap.size + 5, [{ target := .collected (w.heap.size + 4), args := #[] }], y, { target := .fn (.func 88) #[.pointer (some ⟨w.heap.size + 3, 0, none⟩)], args := #[.func (.yield (w.heap.size + 5)) #[] #[]] }, y, 88, #[.func (.yield (w.heap.size + 5)) #[] #[], .pointer (some ⟨w.heap.size + 3, 0, none⟩)], y, ?_, ?_, ?_, ?_, fun _ => by decide, ?_⟩
 ·have e := run_enterLoop_outer (P := Tryz.prog) (w := x) fn #[.string tx, undef, .pointer (some ⟨w.heap.size, 0, none⟩), .pointer (some ⟨w.heap.size + 1, 0, none⟩), .pointer (some ⟨w.heap.size + 2, 0, none⟩), undef, undef, .string tx, .func (.func 88) #[] #[.pointer (some ⟨w.heap.size + 3, 0, none⟩)], undef, undef, undef, undef, undef, undef, undef, undef, undef] #[9] rlAssign rlBody
  rw [xz] at e
  rw [hy]
  exact e
 ·simp [resolve, go_sem]
 ·intro f' hf'; trivial
 ·simp [invoke, go_sem, eb]
 ·clear hy yd yl yx yz old hAt x0 x1 x2 x3 eb HLI
  refine hV.mono ?_
  rintro e W2 ⟨⟨v0, rfl⟩, h2⟩
  have hend := run_endLoop (P := Tryz.prog) h2.L (by simp [rlRec])
  obtain ⟨W3, hW3⟩ : ∃ W3, W2.putObj (w.heap.size + 5) (.loop { rlRec fn tx w.heap.size .ready none with state := .exhausted }) = W3 := ⟨_, rfl⟩
  rw [hW3] at hend
  have hF3 : Fr W2 W3 (fun c => c = w.heap.size + 5) := by rw [<- hW3]; exact fr_putObj _ _ _
  have hl5 : w.heap.size + 5 < W2.heap.size := (blt h2.L)
  have keep : ∀ j, j < w.heap.size + 5 -> W3.heap[j]? = W2.heap[j]? := fun j hj => hF3.block j (by omega) (by omega)
  have r3 := (keep _ (by omega)).trans h2.res
  have e3 := (keep _ (by omega)).trans h2.err
  have K3 := (keep _ (by omega)).trans h2.K
  obtain ⟨D, hv, iv, ov, LH, LI, LO, hR⟩ := h2.rd.side hF3 (fun c e => by omega)
  have hst := hR.state H64.out
  obtain ⟨a1, q1, rfl⟩ := own_shape hR.hH.own
  obtain ⟨a2, q2, rfl⟩ := own_shape hR.hI.own
  obtain ⟨a3, q3, rfl⟩ := own_shape hR.hO.own
  have hb3 : Below w.heap.size w W3 := h2.below.trans (hF3.below h2.below.size (fun c e => by omega))
  obtain ⟨HST, HB3, HR3, HE3, HK3⟩ := hd5 hst hb3 r3 e3 K3
  have hs3 : w.heap.size + 5 < W3.heap.size := by have := hF3.size; omega
  have HS3 := hide hs3
  obtain ⟨s0, s1, s2, s3⟩ := cl4 hR.blk
  obtain ⟨r0, r1, r2, r4⟩ := cl4 r3
  obtain ⟨f0, f1, f2, f3⟩ := fl4 r3
  have e0 := cell_of_block e3 0 _ rfl
  have g0 := free_of_block e3 0
  clear hW3 hF3 keep hR hst hb3 r3 e3 K3 h2 hl5 hV xz xw hs3
  refine ⟨none, W3, hend, ?_⟩
  clear hend
  gi_wp2
  have hB0 := block_set (i := 0) HR3.out (.int .i64 s.serial)
  have hB1 := block_set (i := 1) hB0 (.slice a1 LH.length q1)
  have hB2 := block_set (i := 2) hB1 (.slice a2 LI.length q2)
  have hB3 : ((((W3.setCell ⟨w.heap.size, 0, none⟩ (.int .i64 s.serial)).setCell ⟨w.heap.size, 1, none⟩ (.slice a1 LH.length q1)).setCell ⟨w.heap.size, 2, none⟩ (.slice a2 LI.length q2)).setCell ⟨w.heap.size, 3, none⟩ (.slice a3 LO.length q3)).heap[w.heap.size]? = some (.cells #[.int .i64 s.serial, .slice a1 LH.length q1, .slice a2 LI.length q2, .slice a3 LO.length q3] 26 (0, 0)) := block_set (i := 3) hB2 (.slice a3 LO.length q3)
  have hF4 : Fr W3 ((((W3.setCell ⟨w.heap.size, 0, none⟩ (.int .i64 s.serial)).setCell ⟨w.heap.size, 1, none⟩ (.slice a1 LH.length q1)).setCell ⟨w.heap.size, 2, none⟩ (.slice a2 LI.length q2)).setCell ⟨w.heap.size, 3, none⟩ (.slice a3 LO.length q3)) (fun c => c = w.heap.size) := ((((Fr.refl W3 (fun c => c = w.heap.size)).set ⟨w.heap.size, 0, none⟩ _ (fun _ => rfl)).set ⟨w.heap.size, 1, none⟩ _ (fun _ => rfl)).set ⟨w.heap.size, 2, none⟩ _ (fun _ => rfl)).set ⟨w.heap.size, 3, none⟩ _ (fun _ => rfl)
  generalize ((((W3.setCell _ _).setCell _ _).setCell _ _).setCell _ _) = W4 at *
  have hs3 := HS3.out
  have hs4 := hF4.size
  have hE4 := (hF4.block (w.heap.size + 1) (by omega) (by omega)).trans HE3.out
  have hE5 := block_set (i := 0) hE4 .nilIface
  have hF5 : Fr W4 (W4.setCell ⟨w.heap.size + 1, 0, none⟩ .nilIface) (fun c => c = w.heap.size + 1) := Fr.set1 _ _ _ _
  have hB5 := (hF5.block w.heap.size (by omega) (by omega)).trans hB3
  have hK5 := (hF5.block (w.heap.size + 4) (by omega) (by omega)).trans ((hF4.block (w.heap.size + 4) (by omega) (by omega)).trans HK3.out)
  generalize W4.setCell _ _ = W5 at *
  have hs5 := hF5.size
  have hF6 := fr_putObj W5 (w.heap.size + 4) (.deferred none)
  have hB6 := (hF6.block w.heap.size (by omega) (by omega)).trans hB5
  have hE6 := (hF6.block (w.heap.size + 1) (by omega) (by omega)).trans hE5
  obtain ⟨t0, t1, t2, t3⟩ := cl4 hB6
  have t4 := cell_of_block hE6 0 _ rfl
  refine ⟨by simp, .inl ⟨_, _, rfl, run_takeDeferred hK5, ?_⟩⟩
  refine ⟨.tuple #[.agg #[.int .i64 s.serial, .slice a1 LH.length q1, .slice a2 LI.length q2, .slice a3 LO.length q3], .nilIface], by simp [results, Tryz.results44, go_sem, t0, t1, t2, t3, t4], ⟨[.int .i64 s.serial, .slice a1 LH.length q1, .slice a2 LI.length q2, .slice a3 LO.length q3], rfl, ⟨_, _, _, _, _, _, _, _, _, rfl⟩, ?_⟩, ?_⟩
  ·have hs6 := hF6.size
   refine HST.out.to (fun c hc => ?_) (fun c hc => ⟨by omega, by omega⟩)
   rw [hF6.block c (by omega) (by omega), hF5.block c (by omega) (by omega), hF4.block c (by omega) (by omega)]
  ·have hw3 := HB3.out.size
   exact ((HB3.out.trans (hF4.below hw3 (fun c e => by omega))).trans (hF5.below (by omega) (fun c e => by omega))).trans (hF6.below (by omega) (fun c e => by omega))
end Go.Proofs.YtcekcfjabhlheaaGreatDoor.Vx
