/- For TopPrint: printStack. -/
import Derived.Test.YtbdbpfcblppnbaaGreatDoorT1
namespace Go.Proofs.YtbdbpfcblppnbaaGreatDoor.Vx
open Go.RowKit
set_option maxRecDepth 100000 in
set_option maxHeartbeats 3200000 in
theorem partsText_any (m : Nat) (w : World) (lv : Value) (l : List (ByteArray × Ex)) (hl : X.Named m w lv l) (hg : ∀ x ∈ l, P.Gd 6 x.2) (hlen : (P.partsText 6 l).length ≤ 1000000000) (hbk : ∀ x ∈ l, x.1.size ≤ 2000000 ∧ X.bulk m x.2 ≤ 2000000) (hll : l.length ≤ 2000000)
  (htab : Lib.TabIs Tryz.prog w "internal/strconv.uint64pow10" .u64 Lib.pow10Tab) :
  Calls Tryz.prog 38 #[lv] w fun e w' => e = .returned (.string (V.str (P.partsText 6 l))) ∧ Below w.heap.size w w' := by
 obtain ⟨i0, hi, hz0, hz1, hz2⟩ := info_parts info9v
 obtain ⟨al, cl, rfl⟩ := V.Row.shape hl
 have HPL : Hid (∀ x ∈ l, (P.textE 6 x.2).length ≤ 1000000000) := fun x hx => by
  have := P.join_mem [44] (l.map (P.partText 6)) (P.partText 6 x) (List.mem_map.2 ⟨x, hx, rfl⟩)
  unfold P.partsText at hlen
  have h2 : (P.textE 6 x.2).length ≤ (P.partText 6 x).length := by
   unfold P.partText
   simp only [List.length_append]
   omega
  omega
 have HL : Hid (X.Named m w (.slice al l.length cl) l) := hl
 have HG : Hid _ := hg
 have HBK : Hid _ := hbk
 have HTAB : Hid _ := htab
 have HLEN := hide hlen
 clear hl hg hbk htab hlen
 go_enter Tryz.func38, Tryz.ntmps38
 go_wp2_with fail
 go_loopw [3, 5, 8] (fun vt _ vi wr => ∃ (k : Nat) (ao : Option Addr) (cap : Nat), k ≤ l.length ∧ vi = .int .i64 k ∧ vt = .slice ao k cap ∧ wr.ownsRow w.heap.size 9 1 (.slice ao k cap) k (V.strsV ((l.take k).map (P.partText 6))) ∧ Below w.heap.size w wr)
  (fun _ _ vi _ => l.length - (intOf vi).toNat)
 case atStart => exact ⟨0, none, 0, Nat.zero_le _, rfl, rfl, World.ownsRow_nil _ _ _ _, Below.refl _ _⟩
 case round =>
  obtain ⟨k, ao, cap, hk, rfl, rfl, hown, hB⟩ := hrel
  by_cases hlt : k < l.length
  ·obtain ⟨b, off, cap2, x, xal, xcl, xaf, xcf, xaa, xca, xan, xcn, e1, hx, hm, y0, y1, y2, y3, y4, y5, y6, y7, y8, y9, y10⟩ := X.elemE (HL.out.kept hB) k hlt
   simp only [Value.slice.injEq] at e1
   obtain ⟨rfl, _, rfl⟩ := e1
   have hxm := List.mem_of_getElem? hx
   obtain ⟨hxs, hxb⟩ := HBK.out x hxm
   have hxl := HPL.out x hxm
   have HM : Hid _ := hm
   have HX : Hid _ := hx
   have HXG := hide (HG.out x hxm)
   clear hm hx hxm
   go_wp2_with fail
   have hb2 : Below wr.heap.size wr (wr.alloc (.cells #[.string x.1, .int .i64 x.2.kind, .int .i64 x.2.v.kind, .int .i64 x.2.v.n, .string x.2.v.s, .slice xal x.2.v.l.length xcl, .slice xaf x.2.v.f.length xcf, .string x.2.s, .string x.2.t, .slice xaa x.2.a.length xca, .slice xan x.2.n.length xcn] 59)) := (Below.refl _ _).alloc (Nat.le_refl _) _
   have hblk : (wr.alloc (.cells #[.string x.1, .int .i64 x.2.kind, .int .i64 x.2.v.kind, .int .i64 x.2.v.n, .string x.2.v.s, .slice xal x.2.v.l.length xcl, .slice xaf x.2.v.f.length xcf, .string x.2.s, .string x.2.t, .slice xaa x.2.a.length xca, .slice xan x.2.n.length xcn] 59)).heap[wr.heap.size]? = some (.cells #[.string x.1, .int .i64 x.2.kind, .int .i64 x.2.v.kind, .int .i64 x.2.v.n, .string x.2.v.s, .slice xal x.2.v.l.length xcl, .slice xaf x.2.v.f.length xcf, .string x.2.s, .string x.2.t, .slice xaa x.2.a.length xca, .slice xan x.2.n.length xcn] 59 (0, 0)) := heap_alloc_new _ _
   generalize (wr.alloc (.cells #[.string x.1, .int .i64 x.2.kind, .int .i64 x.2.v.kind, .int .i64 x.2.v.n, .string x.2.v.s, .slice xal x.2.v.l.length xcl, .slice xaf x.2.v.f.length xcf, .string x.2.s, .string x.2.t, .slice xaa x.2.a.length xca, .slice xan x.2.n.length xcn] 59)) = W1 at *
   have hB1 := hB.trans (hb2.mono hB.size)
   have hC : Calls Tryz.prog 39 #[.agg #[.int .i64 x.2.kind, .int .i64 x.2.v.kind, .int .i64 x.2.v.n, .string x.2.v.s, .slice xal x.2.v.l.length xcl, .slice xaf x.2.v.f.length xcf, .string x.2.s, .string x.2.t, .slice xaa x.2.a.length xca, .slice xan x.2.n.length xcn]] W1.drew fun e w3 =>
     (∃ t, e = .returned (.string t) ∧ Hid (t = V.str (P.textE 6 x.2)) ∧ t.size ≤ 1000000000) ∧ (w3.cell? ⟨wr.heap.size, 0, none⟩ = some (.string x.1) ∧ w3.cell? ⟨wr.heap.size, 1, none⟩ = some (.int .i64 x.2.kind) ∧ w3.cell? ⟨wr.heap.size, 2, none⟩ = some (.int .i64 x.2.v.kind) ∧ w3.cell? ⟨wr.heap.size, 3, none⟩ = some (.int .i64 x.2.v.n) ∧ w3.cell? ⟨wr.heap.size, 4, none⟩ = some (.string x.2.v.s) ∧ w3.cell? ⟨wr.heap.size, 5, none⟩ = some (.slice xal x.2.v.l.length xcl) ∧ w3.cell? ⟨wr.heap.size, 6, none⟩ = some (.slice xaf x.2.v.f.length xcf) ∧ w3.cell? ⟨wr.heap.size, 7, none⟩ = some (.string x.2.s) ∧ w3.cell? ⟨wr.heap.size, 8, none⟩ = some (.string x.2.t) ∧ w3.cell? ⟨wr.heap.size, 9, none⟩ = some (.slice xaa x.2.a.length xca) ∧ w3.cell? ⟨wr.heap.size, 10, none⟩ = some (.slice xan x.2.n.length xcn)) ∧ Hid (w3.ownsRow w.heap.size 9 1 (.slice ao k cap) k (V.strsV ((l.take k).map (P.partText 6)))) ∧ Hid (Below w.heap.size w w3) := by
    have hb3 : Below W1.heap.size W1 W1.drew := below_drewN (Below.refl _ _) 1
    refine (textOf_all 6 m W1.drew x.2 _ _ _ _ _ _ _ _ _ _ (X.Mem.kept m (X.Mem.kept m HM.out hb2) hb3) HXG.out hxb hxl (tab_below HTAB.out (hB1.trans (hb3.mono hB1.size)))).mono ?_
    rintro e w3 ⟨rfl, hb4⟩
    have hb5 : Below W1.heap.size W1 w3 := hb3.trans (hb4.mono hb3.size)
    have hblk3 := (hb5.block wr.heap.size (blt hblk)).trans hblk
    exact ⟨⟨_, rfl, rfl, by rw [str_size]; exact hxl⟩, ⟨cell_of_block hblk3 0 _ rfl, cell_of_block hblk3 1 _ rfl, cell_of_block hblk3 2 _ rfl, cell_of_block hblk3 3 _ rfl, cell_of_block hblk3 4 _ rfl, cell_of_block hblk3 5 _ rfl, cell_of_block hblk3 6 _ rfl, cell_of_block hblk3 7 _ rfl, cell_of_block hblk3 8 _ rfl, cell_of_block hblk3 9 _ rfl, cell_of_block hblk3 10 _ rfl⟩, owns_below (owns_below hown hb2) hb5, hB1.trans (hb5.mono hB1.size)⟩
   have HC : Hid _ := hC
   obtain ⟨z0, z1, z2, z3, z4, z5, z6, z7, z8, z9, z10⟩ := cl11 hblk
   have q1 : ¬ 9223372036854775807 < 1 + x.1.size := by omega
   have q2 : ¬ 9223372036854775807 < 1 + x.1.size + 2 := by omega
   have hs1 : ((⟨#[32]⟩ : ByteArray) ++ x.1).size = 1 + x.1.size := by rw [ByteArray.size_append]; rfl
   have hs2 : ((⟨#[32]⟩ : ByteArray) ++ x.1 ++ (⟨#[58, 32]⟩ : ByteArray)).size = 1 + x.1.size + 2 := by rw [ByteArray.size_append, hs1]; rfl
   have KG : Hid (∀ (w3 : World) (o : Obj) (w4 : World), (w3.cell? ⟨wr.heap.size, 0, none⟩ = some (.string x.1) ∧ w3.cell? ⟨wr.heap.size, 1, none⟩ = some (.int .i64 x.2.kind) ∧ w3.cell? ⟨wr.heap.size, 2, none⟩ = some (.int .i64 x.2.v.kind) ∧ w3.cell? ⟨wr.heap.size, 3, none⟩ = some (.int .i64 x.2.v.n) ∧ w3.cell? ⟨wr.heap.size, 4, none⟩ = some (.string x.2.v.s) ∧ w3.cell? ⟨wr.heap.size, 5, none⟩ = some (.slice xal x.2.v.l.length xcl) ∧ w3.cell? ⟨wr.heap.size, 6, none⟩ = some (.slice xaf x.2.v.f.length xcf) ∧ w3.cell? ⟨wr.heap.size, 7, none⟩ = some (.string x.2.s) ∧ w3.cell? ⟨wr.heap.size, 8, none⟩ = some (.string x.2.t) ∧ w3.cell? ⟨wr.heap.size, 9, none⟩ = some (.slice xaa x.2.a.length xca) ∧ w3.cell? ⟨wr.heap.size, 10, none⟩ = some (.slice xan x.2.n.length xcn)) → (w3.alloc o).grownBy w4 (Value.slice ao k cap).ownBlock → w4.cell? ⟨wr.heap.size, 0, none⟩ = some (.string x.1) ∧ w4.cell? ⟨wr.heap.size, 1, none⟩ = some (.int .i64 x.2.kind) ∧ w4.cell? ⟨wr.heap.size, 2, none⟩ = some (.int .i64 x.2.v.kind) ∧ w4.cell? ⟨wr.heap.size, 3, none⟩ = some (.int .i64 x.2.v.n) ∧ w4.cell? ⟨wr.heap.size, 4, none⟩ = some (.string x.2.v.s) ∧ w4.cell? ⟨wr.heap.size, 5, none⟩ = some (.slice xal x.2.v.l.length xcl) ∧ w4.cell? ⟨wr.heap.size, 6, none⟩ = some (.slice xaf x.2.v.f.length xcf) ∧ w4.cell? ⟨wr.heap.size, 7, none⟩ = some (.string x.2.s) ∧ w4.cell? ⟨wr.heap.size, 8, none⟩ = some (.string x.2.t) ∧ w4.cell? ⟨wr.heap.size, 9, none⟩ = some (.slice xaa x.2.a.length xca) ∧ w4.cell? ⟨wr.heap.size, 10, none⟩ = some (.slice xan x.2.n.length xcn)) := by
    have hne : ∀ (w3 : World) (o : Obj) (w4 : World) (j : Nat) (u : Value), (w3.alloc o).grownBy w4 (Value.slice ao k cap).ownBlock → w3.cell? ⟨wr.heap.size, j, none⟩ = some u → w4.cell? ⟨wr.heap.size, j, none⟩ = some u := by
     intro w3 o w4 j u hg hc
     have hlt3 := World.block_lt_of_cell? w3 _ hc
     have hbk := hg.block wr.heap.size (by simp at hlt3 ⊢; omega) (fun e => by have := (hown.lt _ e.symm).2; omega)
     rw [heap_alloc_old w3 o hlt3] at hbk
     unfold World.cell? at hc ⊢
     simp only at hc ⊢
     rw [hbk]; exact hc
    intro w3 o w4 ⟨t0, t1, t2, t3, t4, t5, t6, t7, t8, t9, t10⟩ hg
    exact ⟨hne _ _ _ _ _ hg t0, hne _ _ _ _ _ hg t1, hne _ _ _ _ _ hg t2, hne _ _ _ _ _ hg t3, hne _ _ _ _ _ hg t4, hne _ _ _ _ _ hg t5, hne _ _ _ _ _ hg t6, hne _ _ _ _ _ hg t7, hne _ _ _ _ _ hg t8, hne _ _ _ _ _ hg t9, hne _ _ _ _ _ hg t10⟩
   clear hC hb2 hB1 hB hown hblk y0 y1 y2 y3 y4 y5 y6 y7 y8 y9 y10 hxl HXG
   go_region_held3 (fun W' => W'.cell? ⟨wr.heap.size, 0, none⟩ = some (.string x.1) ∧ W'.cell? ⟨wr.heap.size, 1, none⟩ = some (.int .i64 x.2.kind) ∧ W'.cell? ⟨wr.heap.size, 2, none⟩ = some (.int .i64 x.2.v.kind) ∧ W'.cell? ⟨wr.heap.size, 3, none⟩ = some (.int .i64 x.2.v.n) ∧ W'.cell? ⟨wr.heap.size, 4, none⟩ = some (.string x.2.v.s) ∧ W'.cell? ⟨wr.heap.size, 5, none⟩ = some (.slice xal x.2.v.l.length xcl) ∧ W'.cell? ⟨wr.heap.size, 6, none⟩ = some (.slice xaf x.2.v.f.length xcf) ∧ W'.cell? ⟨wr.heap.size, 7, none⟩ = some (.string x.2.s) ∧ W'.cell? ⟨wr.heap.size, 8, none⟩ = some (.string x.2.t) ∧ W'.cell? ⟨wr.heap.size, 9, none⟩ = some (.slice xaa x.2.a.length xca) ∧ W'.cell? ⟨wr.heap.size, 10, none⟩ = some (.slice xan x.2.n.length xcn)) (go_keep)
    (first
     | (go_at_call 39; refine Calls.mono HC.out ?_; rintro e w3 ⟨⟨t, rfl, ht, htz⟩, ⟨t0, t1, t2, t3, t4, t5, t6, t7, t8, t9, t10⟩, HO3, HB3⟩; have hs3 := HB3.out.size; have hg2 : ¬ 9223372036854775807 < 1 + x.1.size + 2 + t.size := (by omega))
     | (refine step_append_lies _ ?_ (.tmp 12) (.tmp 21) 55 ?_ w.heap.size 9 i0 (.string ⟨#[]⟩) 1 16 Tryz.underlying55 hi hz0 hz1 hz2 rfl Nat.one_pos (.slice ao k cap) k (V.strsV ((l.take k).map (P.partText 6))) ?_ ?_ ⟨w3.heap.size, 0, none⟩ 1 1 [.string (⟨#[32]⟩ ++ x.1 ++ ⟨#[58, 32]⟩ ++ t)] ?_ rfl ?_ ?_ Nat.one_pos ?_ ?_ ?_ _ rfl ?_; rfl; rfl; rfl; exact (HO3.out.alloc _); rfl; exact news_alloc w3 #[.string (⟨#[32]⟩ ++ x.1 ++ ⟨#[58, 32]⟩ ++ t)] 9 _ rfl; simp [Value.oneCell']; (unfold maxLen; omega); omega; (simp; omega); intro g cap' w4 hown4 hgrow hat hlt4; obtain ⟨r0, r1, r2, r3, r4, r5, r6, r7, r8, r9, r10⟩ := KG.out _ _ _ ⟨t0, t1, t2, t3, t4, t5, t6, t7, t8, t9, t10⟩ hgrow))
   all_goals
    go_wp2_with fail
    go_roundw
    case rel =>
     refine ⟨k + 1, some ⟨g, 0, none⟩, cap', by omega, by go_num, rfl, ?_, (HB3.out.alloc hs3 _).grown hgrow (by simp; omega) (fun k hk => (HO3.out.lt k hk).1)⟩
     have e2 : V.strsV ((l.take (k + 1)).map (P.partText 6)) = V.strsV ((l.take k).map (P.partText 6)) ++ [.string (⟨#[32]⟩ ++ x.1 ++ ⟨#[58, 32]⟩ ++ t)] := by
      have e3 : (⟨#[32]⟩ : ByteArray) ++ x.1 ++ (⟨#[58, 32]⟩ : ByteArray) ++ t = V.str (P.partText 6 x) := by
       unfold P.partText
       rw [ht.out, ← V.str_append, ← V.str_append, ← V.str_append, V.str_bl, ByteArray.append_assoc, ByteArray.append_assoc]
       rfl
      rw [List.take_add_one, HX.out, e3]; simp [V.strsV]
     rw [e2]; exact hown4
    case measure => simp [intOf]; omega
  ·have hkk : k = l.length := by omega
   subst hkk
   rw [List.take_length] at hown
   have hj := join_own wr _ ao cap (l.map (P.partText 6)) ⟨#[44]⟩ (by rw [List.length_map]; exact hown) (by have := HLEN.out; unfold P.partsText at this; show (Lib.join _ [44]).length ≤ _; omega) (by rw [List.length_map]; omega)
   rw [List.length_map] at hj
   have HJ := hide hj
   have HB := hide hB
   clear hj hown hB
   go_wp2_with fail
   refine HJ.out.mono ?_
   rintro e w2 ⟨rfl, hb2⟩
   have HB2 := hide (HB.out.trans (hb2.mono HB.out.size))
   clear hb2 HJ
   go_wp2_with fail
   go_ret
   exact ⟨rfl, HB2.out⟩
/-- All blocks but b and those of bytes are as they were. -/
def KeepB (b : Nat) (w w' : World) : Prop := ∀ (G : Nat) (cs : Array Value) (T : TypeId) (fr : Nat × Nat), G ≠ b → T ≠ 5 → w.heap[G]? = some (.cells cs T fr) → w'.heap[G]? = some (.cells cs T fr)
theorem KeepB.refl (b : Nat) (w : World) : KeepB b w w := fun _ _ _ _ _ _ h => h
theorem KeepB.trans {b : Nat} {w w1 w2 : World} (h : KeepB b w w1) (k : KeepB b w1 w2) : KeepB b w w2 := fun G cs T fr hG hT hh => k G cs T fr hG hT (h G cs T fr hG hT hh)
theorem isb_kept {T e : TypeId} {B b : Nat} {bs : List Value} {w w' : World} (h : Lib.IsBuilder T e B b bs w) (hb : Below w.heap.size w w') : Lib.IsBuilder T e B b bs w' := by
 rcases h with ⟨h1, v, h2, h3, h4⟩ | ⟨h1, v, h2, h3, h4⟩
 ·exact .inl ⟨h1, v, (hb.block b (blt h2)).trans h2, owns_below h3 hb, h4⟩
 ·exact .inr ⟨h1, v, (hb.block b (blt h2)).trans h2, owns_below h3 hb, h4⟩
theorem copyCheck2 (B b : Nat) (bs : List Value) (w : World) (h : Lib.IsBuilder 66 5 B b bs w) :
  Calls Tryz.prog 53 #[.pointer (some ⟨b, 0, none⟩)] w fun e w' => e = .returned (.tuple #[]) ∧ Lib.BuilderAt 66 5 B b (.pointer (some ⟨b, 0, none⟩)) bs w' ∧ Below B w w' ∧ KeepB b w w' := by
 rcases h with h | h
 ·refine (check_fresh b w h.cell0 h.shape h.frozen0).mono ?_
  rintro e w' ⟨rfl, rfl⟩
  exact ⟨rfl, h.used _, (Below.refl B w).setCell (p := ⟨b, 0, none⟩) h.1 _, fun G _ _ _ hG _ hh => by rw [Below.heap_setCell w ⟨b, 0, none⟩ _ G (fun e => hG e)]; exact hh⟩
 ·refine (check_used b w h.cell0).mono ?_
  rintro e w' ⟨rfl, rfl⟩
  exact ⟨rfl, h, Below.refl B _, KeepB.refl _ _⟩
set_option maxRecDepth 100000 in
set_option maxHeartbeats 400000 in
theorem writeString2 (B b : Nat) (bs : List Value) (s : ByteArray) (w : World) (h : Lib.IsBuilder 66 5 B b bs w) (hlen : bs.length + s.size ≤ 1000000000) (hBw : B ≤ w.heap.size) :
  Calls Tryz.prog 36 #[.pointer (some ⟨b, 0, none⟩), .string s] w fun e w' => e = .returned (.tuple #[.int .i64 s.size, .nilIface]) ∧ Lib.BuilderAt 66 5 B b (.pointer (some ⟨b, 0, none⟩)) (bs ++ Lib.strCells s) w' ∧ Below B w w' ∧ KeepB b w w' := by
 obtain ⟨i0, hi, hz0, hz1, hz2⟩ := info_parts info5
 go_enter Tryz.func36, Tryz.ntmps36
 go_wp2_with fail
 refine (copyCheck2 B b bs _ h).mono ?_
 rintro e w1 ⟨rfl, ⟨hB, v, hbk, hown, hne⟩, hb1, hk1⟩
 have c0 := cell_of_block hbk 0 (.pointer (some ⟨b, 0, none⟩)) rfl
 have c1 := cell_of_block hbk 1 v rfl
 have hlt : b < w1.heap.size := (blt hbk)
 have hs1 := hb1.size
 have HBK : Hid _ := hbk
 clear hbk
 go_wp2_with (at_builtin; go_must (refine Lib.wpList_append_own_string _ rfl _ _ 64 9 rfl B 5 i0 Tryz.underlying64 Tryz.underlying9 hi hz0 hz1 hz2 _ _ _ rfl hown s rfl (by unfold maxLen; omega) (by omega) (by omega) ?_); intro v' w2 hown2 hgrow hat; obtain ⟨ao, cap, rfl⟩ := own_shape hown2; have hb2 := (hgrow.block b hlt (fun e => hne e.symm)).trans HBK.out; have d1 := cell_of_block hb2 1 v rfl; have f1 := free_of_block hb2 1)
 go_ret2
 refine ⟨rfl, ?_, ?_, ?_⟩
 ·exact Lib.BuilderAt.put (T := 66) (e := 5) hB hb2 (bs' := bs ++ Lib.strCells s) (by simpa [Lib.strCells_length] using hown2) (by decide)
 ·exact (hb1.grown hgrow (by omega) (fun k hk => (hown.lt k hk).1)).setCell (p := ⟨b, 1, none⟩) hB _
 ·refine hk1.trans (fun G _ _ _ hG hT hh => ?_)
  rw [Below.heap_setCell w2 ⟨b, 1, none⟩ _ G (fun e => hG e), hgrow.block G (blt hh) (fun e => Lib.ownBlock_ne hown hh hT e.symm)]
  exact hh
theorem writeS (B b : Nat) (l : List UInt8) (s : ByteArray) (w : World) (h : Lib.IsBuilder 66 5 B b (Lib.byteCells l) w) (hlen : l.length + s.size ≤ 1000000000) (hBw : B ≤ w.heap.size) :
  Calls Tryz.prog 36 #[.pointer (some ⟨b, 0, none⟩), .string s] w fun e w' => e = .returned (.tuple #[.int .i64 s.size, .nilIface]) ∧ Lib.IsBuilder 66 5 B b (Lib.byteCells (l ++ V.bl s)) w' ∧ Below B w w' ∧ KeepB b w w' := by
 refine (writeString2 B b _ s w h (by rw [Lib.byteCells_length]; exact hlen) hBw).mono ?_
 rintro e w' ⟨rfl, h1, hb, hk⟩
 rw [byteCells_str] at h1
 exact ⟨rfl, .inr h1, hb, hk⟩
end Go.Proofs.YtbdbpfcblppnbaaGreatDoor.Vx
namespace Go.Proofs.YtbdbpfcblppnbaaGreatDoor.Vx
open Go.RowKit
namespace P
theorem flat_take {α : Type} (f : α → List UInt8) : ∀ (l : List α) (k : Nat) (x : α), l[k]? = some x → (l.take (k + 1)).flatMap f = (l.take k).flatMap f ++ f x := fun l k x h => by
 rw [List.take_add_one, h]
 simp
theorem flat_take_len {α : Type} (f : α → List UInt8) (l : List α) (k : Nat) (x : α) (h : l[k]? = some x) : ((l.take k).flatMap f).length + (f x).length ≤ (l.flatMap f).length := by
 have h1 := congrArg List.length (flat_take f l k x h)
 rw [List.length_append] at h1
 have h2 : (l.flatMap f).length = ((l.take (k + 1)).flatMap f).length + ((l.drop (k + 1)).flatMap f).length := by
  rw [← List.length_append, ← List.flatMap_append, List.take_append_drop]
 omega
theorem in_str (x : ByteArray × Val) : V.bl ((⟨#[105, 110, 112, 117, 116, 32]⟩ : ByteArray) ++ x.1 ++ (⟨#[32, 61, 32]⟩ : ByteArray) ++ V.str (textV x.2) ++ (⟨#[10]⟩ : ByteArray)) = inText x := by
 unfold inText
 simp only [V.bl_append, V.bl_str, List.append_assoc]
 rfl
theorem res_str (r : Rs) : V.bl ((⟨#[114, 101, 115, 111, 117, 114, 99, 101, 32]⟩ : ByteArray) ++ r.kind ++ (⟨#[32]⟩ : ByteArray) ++ r.name ++ (⟨#[32, 123]⟩ : ByteArray) ++ V.str (partsText 6 r.parts) ++ (⟨#[32, 125, 10]⟩ : ByteArray)) = resText 6 r := by
 unfold resText
 simp only [V.bl_append, V.bl_str, List.append_assoc]
 rfl
theorem out_str (x : ByteArray × Ex) : V.bl ((⟨#[111, 117, 116, 112, 117, 116, 32]⟩ : ByteArray) ++ x.1 ++ (⟨#[32, 61, 32]⟩ : ByteArray) ++ V.str (textE 6 x.2) ++ (⟨#[10]⟩ : ByteArray)) = outText 6 x := by
 unfold outText
 simp only [V.bl_append, V.bl_str, List.append_assoc]
 rfl
theorem head_str (s : ByteArray) : V.bl ((⟨#[115, 116, 97, 99, 107, 32]⟩ : ByteArray) ++ s ++ (⟨#[10]⟩ : ByteArray)) = kStack ++ ([32] ++ (V.bl s ++ [10])) := by
 simp only [V.bl_append, List.append_assoc]
 rfl
end P
theorem isb_lt {B b : Nat} {bs : List Value} {w : World} (h : Lib.IsBuilder 66 5 B b bs w) : b < w.heap.size := by
 rcases h with h | h
 ·exact h.lt
 ·exact h.lt
theorem writeS2 (B b G : Nat) (T : TypeId) (l : List UInt8) (s : ByteArray) (cs : Array Value) (w : World) (h : Lib.IsBuilder 66 5 B b (Lib.byteCells l) w) (hlen : l.length + s.size ≤ 1000000000) (hBw : B ≤ w.heap.size) (hG : w.heap[G]? = some (.cells cs T (0, 0))) (hGb : G ≠ b) (hT : T ≠ 5) :
  Calls Tryz.prog 36 #[.pointer (some ⟨b, 0, none⟩), .string s] w fun e w' => e = .returned (.tuple #[.int .i64 s.size, .nilIface]) ∧ Lib.IsBuilder 66 5 B b (Lib.byteCells (l ++ V.bl s)) w' ∧ Below B w w' ∧ KeepB b w w' ∧ w'.heap[G]? = some (.cells cs T (0, 0)) := by
 refine (writeS B b l s w h hlen hBw).mono ?_
 rintro e w' ⟨h1, h2, h3, h4⟩
 exact ⟨h1, h2, h3, h4, h4 G cs T (0, 0) hGb hT hG⟩
set_option maxRecDepth 100000 in
set_option maxHeartbeats 3200000 in
theorem printStack_any (ok : Ex → Bool) (m : Nat) (W0 : World) (b : Nat) (acc : List UInt8) (w : World) (s : Sk) (ai : Option Addr) (ci : Nat) (ar : Option Addr) (cr : Nat) (ao : Option Addr) (co : Nat) (hI : X.Vals (m + 1) W0 (.slice ai s.ins.length ci) s.ins) (hR : X.Ress (m + 1) W0 (.slice ar s.res.length cr) s.res) (hO : X.Named (m + 1) W0 (.slice ao s.outs.length co) s.outs)
  (hs : P.Sv ok s) (hbk : X.bulkS (m + 1) s ≤ 2000000) (hlen : acc.length + (P.skText 6 s).length ≤ 1000000000) (htab : Lib.TabIs Tryz.prog W0 "internal/strconv.uint64pow10" .u64 Lib.pow10Tab) (hb : Below W0.heap.size W0 w) (hbd : Lib.IsBuilder 66 5 W0.heap.size b (Lib.byteCells acc) w) :
  Calls Tryz.prog 16 #[.pointer (some ⟨b, 0, none⟩), .agg #[.string s.name, .slice ai s.ins.length ci, .slice ar s.res.length cr, .slice ao s.outs.length co]] w fun r w' => r = .returned (.tuple #[]) ∧ Lib.IsBuilder 66 5 W0.heap.size b (Lib.byteCells (acc ++ P.skText 6 s)) w' ∧ Below W0.heap.size W0 w' := by
 have HI := hide hI
 have HR := hide hR
 have HO := hide hO
 have HSV := hide hs
 have HTAB := hide htab
 have HBI : Hid (X.sumI (m + 1) s.ins ≤ 2000000) := by
  show _ ≤ _
  unfold X.bulkS at hbk
  omega
 have HBR : Hid (X.sumR (m + 1) s.res ≤ 2000000) := by
  show _ ≤ _
  unfold X.bulkS at hbk
  omega
 have HBO : Hid (X.sumP (m + 1) s.outs ≤ 2000000) := by
  show _ ≤ _
  unfold X.bulkS at hbk
  omega
 have hns : s.name.size ≤ 2000000 := by
  unfold X.bulkS at hbk
  omega
 have HLEN : Hid ((acc ++ ((P.kStack ++ ([32] ++ (V.bl s.name ++ [10]))) ++ (s.ins.flatMap P.inText ++ (s.res.flatMap (P.resText 6) ++ s.outs.flatMap (P.outText 6))))).length ≤ 1000000000) := by
  show _ ≤ _
  rw [List.length_append]
  exact hlen
 have hb2 : Below w.heap.size w (w.alloc (.cells #[.string s.name, .slice ai s.ins.length ci, .slice ar s.res.length cr, .slice ao s.outs.length co] 41)) := (Below.refl _ _).alloc (Nat.le_refl _) _
 have hbx : (w.alloc (.cells #[.string s.name, .slice ai s.ins.length ci, .slice ar s.res.length cr, .slice ao s.outs.length co] 41)).heap[w.heap.size]? = some (.cells #[.string s.name, .slice ai s.ins.length ci, .slice ar s.res.length cr, .slice ao s.outs.length co] 41 (0, 0)) := heap_alloc_new _ _
 have HIB0 := hide (isb_kept hbd hb2)
 have HBB0 := hide (hb.trans (hb2.mono hb.size))
 have HBX0 := hide hbx
 have HGb : Hid (w.heap.size ≠ b) := by
  show _ ≠ _
  have := isb_lt hbd
  omega
 have x0 := cell_of_block hbx 0 _ rfl
 have hsz0 : (w.alloc (.cells #[.string s.name, .slice ai s.ins.length ci, .slice ar s.res.length cr, .slice ao s.outs.length co] 41)).heap.size = w.heap.size + 1 := by simp
 have HW := hide (writeS2 W0.heap.size b w.heap.size 41 acc ((⟨#[115, 116, 97, 99, 107, 32]⟩ : ByteArray) ++ s.name ++ (⟨#[10]⟩ : ByteArray)) _ (w.alloc (.cells #[.string s.name, .slice ai s.ins.length ci, .slice ar s.res.length cr, .slice ao s.outs.length co] 41)) HIB0.out (by
  have h1 := HLEN.out
  have h2 := congrArg List.length (P.head_str s.name)
  rw [V.length_bl] at h2
  simp only [List.length_append] at h1 h2
  omega) HBB0.out.size HBX0.out HGb.out (by decide))
 have q1 : ¬ 9223372036854775807 < 6 + s.name.size := by omega
 have q2 : ¬ 9223372036854775807 < 6 + s.name.size + 1 := by omega
 clear hI hR hO hs htab hbk hlen hb hbd hb2 hbx hsz0
 go_enter Tryz.func16, Tryz.ntmps16
 go_wp2_with fail
 generalize (w.alloc (.cells #[.string s.name, .slice ai s.ins.length ci, .slice ar s.res.length cr, .slice ao s.outs.length co] 41)) = wa at *
 refine HW.out.mono ?_
 rintro r wb ⟨rfl, hib, hbl, _, hbx⟩
 have HIB : Hid (Lib.IsBuilder 66 5 W0.heap.size b (Lib.byteCells (acc ++ (P.kStack ++ ([32] ++ (V.bl s.name ++ [10]))))) wb) := by
  rw [← P.head_str]
  exact hib
 have HBB := hide (HBB0.out.trans hbl)
 have HBX := hide hbx
 clear x0
 obtain ⟨x0, x1, x2, x3⟩ := cl4 hbx
 clear hib hbl hbx HW HIB0 HBB0 HBX0 q1 q2
 go_wp2_with fail
 go_loopw [19, 5] (fun vi _ wr => ∃ k : Nat, k ≤ s.ins.length ∧ vi = .int .i64 k ∧ Lib.IsBuilder 66 5 W0.heap.size b (Lib.byteCells ((acc ++ (P.kStack ++ ([32] ++ (V.bl s.name ++ [10])))) ++ (s.ins.take k).flatMap P.inText)) wr ∧ Below W0.heap.size W0 wr ∧ wr.heap[w.heap.size]? = some (.cells #[.string s.name, .slice ai s.ins.length ci, .slice ar s.res.length cr, .slice ao s.outs.length co] 41 (0, 0)))
  (fun vi _ _ => s.ins.length - (intOf vi).toNat)
 case atStart => exact ⟨0, Nat.zero_le _, rfl, by simpa using HIB.out, HBB.out, HBX.out⟩
 case round =>
  clear HIB HBB HBX
  obtain ⟨k, hk, rfl, hib, hB, hbx⟩ := hrel
  by_cases hlt : k < s.ins.length
  ·obtain ⟨b2, off2, cap2, x, al, cl, af, cf, e1, hx, hm, y0, y1, y2, y3, y4, y5⟩ := X.elemI (HI.out.kept hB) k hlt
   simp only [Value.slice.injEq] at e1
   obtain ⟨rfl, _, rfl⟩ := e1
   have hpl := (HSV.out.ins x (List.mem_of_getElem? hx)).2.1
   obtain ⟨hxs, hxb⟩ := X.sumI_mem (List.mem_of_getElem? hx) HBI.out
   have htl : (P.textV x.2).length ≤ 1000000000 := by have := P.textV_len hpl; omega
   have hfl := P.flat_take_len P.inText s.ins k x hx
   have hal : ((acc ++ (P.kStack ++ ([32] ++ (V.bl s.name ++ [10])))) ++ (s.ins.take k).flatMap P.inText).length + (P.inText x).length ≤ 1000000000 := by
    have h1 := HLEN.out
    simp only [List.length_append] at h1 ⊢
    omega
   have HX := hide hx
   have HLT : Hid (k < s.ins.length) := hlt
   have hb2 : Below wr.heap.size wr (wr.alloc (.cells #[.string x.1, .int .i64 x.2.kind, .int .i64 x.2.n, .string x.2.s, .slice al x.2.l.length cl, .slice af x.2.f.length cf] 49)) := (Below.refl _ _).alloc (Nat.le_refl _) _
   have hblk : (wr.alloc (.cells #[.string x.1, .int .i64 x.2.kind, .int .i64 x.2.n, .string x.2.s, .slice al x.2.l.length cl, .slice af x.2.f.length cf] 49)).heap[wr.heap.size]? = some (.cells #[.string x.1, .int .i64 x.2.kind, .int .i64 x.2.n, .string x.2.s, .slice al x.2.l.length cl, .slice af x.2.f.length cf] 49 (0, 0)) := heap_alloc_new _ _
   have hib1 := isb_kept hib hb2
   have hB1 := hB.trans (hb2.mono hB.size)
   have hbx1 := hb2.block w.heap.size (blt hbx)
   have hbxl : w.heap.size < (wr.alloc (.cells #[.string x.1, .int .i64 x.2.kind, .int .i64 x.2.n, .string x.2.s, .slice al x.2.l.length cl, .slice af x.2.f.length cf] 49)).heap.size := by
    have := (blt hbx)
    simp
    omega
   have hGb : wr.heap.size ≠ b := by
    have := isb_lt hib
    omega
   have hC : ∀ W1 : World, W1 = (wr.alloc (.cells #[.string x.1, .int .i64 x.2.kind, .int .i64 x.2.n, .string x.2.s, .slice al x.2.l.length cl, .slice af x.2.f.length cf] 49)) → Calls Tryz.prog 37 #[.agg #[.int .i64 x.2.kind, .int .i64 x.2.n, .string x.2.s, .slice al x.2.l.length cl, .slice af x.2.f.length cf]] W1.drew fun e w3 =>
     (∃ t, e = .returned (.string t) ∧ Hid (t = V.str (P.textV x.2)) ∧ t.size ≤ 1000000000) ∧ (w3.cell? ⟨wr.heap.size, 0, none⟩ = some (.string x.1) ∧ w3.cell? ⟨wr.heap.size, 1, none⟩ = some (.int .i64 x.2.kind) ∧ w3.cell? ⟨wr.heap.size, 2, none⟩ = some (.int .i64 x.2.n) ∧ w3.cell? ⟨wr.heap.size, 3, none⟩ = some (.string x.2.s) ∧ w3.cell? ⟨wr.heap.size, 4, none⟩ = some (.slice al x.2.l.length cl) ∧ w3.cell? ⟨wr.heap.size, 5, none⟩ = some (.slice af x.2.f.length cf)) ∧ Hid (w3.heap[wr.heap.size]? = some (.cells #[.string x.1, .int .i64 x.2.kind, .int .i64 x.2.n, .string x.2.s, .slice al x.2.l.length cl, .slice af x.2.f.length cf] 49 (0, 0))) ∧ Hid (Lib.IsBuilder 66 5 W0.heap.size b (Lib.byteCells ((acc ++ (P.kStack ++ ([32] ++ (V.bl s.name ++ [10])))) ++ (s.ins.take k).flatMap P.inText)) w3) ∧ Hid (Below W0.heap.size W0 w3) ∧ Hid (w3.heap[w.heap.size]? = wr.heap[w.heap.size]?) := by
    rintro W1 rfl
    generalize (wr.alloc (.cells #[.string x.1, .int .i64 x.2.kind, .int .i64 x.2.n, .string x.2.s, .slice al x.2.l.length cl, .slice af x.2.f.length cf] 49)) = W1 at *
    have hb3 : Below W1.heap.size W1 W1.drew := below_drewN (Below.refl _ _) 1
    refine (valueText_any m W1.drew x.2 _ _ _ _ _ (V.Mem.kept _ (V.Mem.kept _ hm hb2) hb3) hpl hxb (tab_below HTAB.out (hB1.trans (hb3.mono hB1.size)))).mono ?_
    rintro e w3 ⟨rfl, hb4⟩
    have hb5 : Below W1.heap.size W1 w3 := hb3.trans (hb4.mono hb3.size)
    have hblk3 := (hb5.block wr.heap.size (blt hblk)).trans hblk
    exact ⟨⟨_, rfl, rfl, by rw [str_size]; exact htl⟩, ⟨cell_of_block hblk3 0 _ rfl, cell_of_block hblk3 1 _ rfl, cell_of_block hblk3 2 _ rfl, cell_of_block hblk3 3 _ rfl, cell_of_block hblk3 4 _ rfl, cell_of_block hblk3 5 _ rfl⟩, hblk3, isb_kept hib1 hb5, hB1.trans (hb5.mono hB1.size), (hb5.block _ hbxl).trans hbx1⟩
   have HC := hide (hC _ rfl)
   have HAL := hide hal
   have HGB := hide hGb
   have HGN : Hid (w.heap.size ≠ b) := HGb.out
   obtain ⟨z0, z1, z2, z3, z4, z5⟩ := cl6 hblk
   have q2 : ¬ 9223372036854775807 < 6 + x.1.size := by omega
   have hs2 : ((⟨#[105, 110, 112, 117, 116, 32]⟩ : ByteArray) ++ x.1).size = 6 + x.1.size := by rw [ByteArray.size_append]; rfl
   have q3 : ¬ 9223372036854775807 < 6 + x.1.size + 3 := by omega
   have hs3 : ((⟨#[105, 110, 112, 117, 116, 32]⟩ : ByteArray) ++ x.1 ++ (⟨#[32, 61, 32]⟩ : ByteArray)).size = 6 + x.1.size + 3 := by rw [ByteArray.size_append, hs2]; rfl
   have HBXr := hide hbx
   clear hC hb2 hblk hib1 hB1 hbx1 hbxl hal hfl htl hpl hm hib hB hbx hGb hx
   go_wp2_with fail
   go_region_held3 (fun W' => W'.cell? ⟨wr.heap.size, 0, none⟩ = some (.string x.1) ∧ W'.cell? ⟨wr.heap.size, 1, none⟩ = some (.int .i64 x.2.kind) ∧ W'.cell? ⟨wr.heap.size, 2, none⟩ = some (.int .i64 x.2.n) ∧ W'.cell? ⟨wr.heap.size, 3, none⟩ = some (.string x.2.s) ∧ W'.cell? ⟨wr.heap.size, 4, none⟩ = some (.slice al x.2.l.length cl) ∧ W'.cell? ⟨wr.heap.size, 5, none⟩ = some (.slice af x.2.f.length cf)) (go_keep)
    (first
     | (go_at_call 37; refine Calls.mono HC.out ?_; rintro e w3 ⟨⟨t, rfl, ht, htz⟩, ⟨t0, t1, t2, t3, t4, t5⟩, HK3, HI3, HB3, HX3⟩; have hs_3 := HB3.out.size; have q4 : ¬ 9223372036854775807 < 6 + x.1.size + 3 + t.size := (by omega); have hs4 : ((⟨#[105, 110, 112, 117, 116, 32]⟩ : ByteArray) ++ x.1 ++ (⟨#[32, 61, 32]⟩ : ByteArray) ++ t).size = 6 + x.1.size + 3 + t.size := (by rw [ByteArray.size_append, hs3]); have q5 : ¬ 9223372036854775807 < 6 + x.1.size + 3 + t.size + 1 := (by omega); have hs5 : ((⟨#[105, 110, 112, 117, 116, 32]⟩ : ByteArray) ++ x.1 ++ (⟨#[32, 61, 32]⟩ : ByteArray) ++ t ++ (⟨#[10]⟩ : ByteArray)).size = 6 + x.1.size + 3 + t.size + 1 := (by rw [ByteArray.size_append, hs4]; rfl))
     | (go_at_call 36; refine Calls.mono (writeS2 W0.heap.size b wr.heap.size 49 _ _ _ w3 HI3.out (by have h1 := HAL.out; have h2 := congrArg List.length (P.in_str x); rw [V.length_bl, ← ht.out] at h2; omega) hs_3 HK3.out HGB.out (by decide)) ?_; rintro e w4 ⟨rfl, hib4, hbl4, hkb4, hk4⟩; have r0 := cell_of_block hk4 0 _ rfl; have r1 := cell_of_block hk4 1 _ rfl; have r2 := cell_of_block hk4 2 _ rfl; have r3 := cell_of_block hk4 3 _ rfl; have r4 := cell_of_block hk4 4 _ rfl; have r5 := cell_of_block hk4 5 _ rfl))
   all_goals
    have HI4 : Hid (Lib.IsBuilder 66 5 W0.heap.size b (Lib.byteCells ((acc ++ (P.kStack ++ ([32] ++ (V.bl s.name ++ [10])))) ++ (s.ins.take (k + 1)).flatMap P.inText)) w4) := by
     show Lib.IsBuilder _ _ _ _ _ _
     rw [P.flat_take P.inText s.ins k x HX.out, ← List.append_assoc, ← P.in_str x, ← ht.out]
     exact hib4
    have HB4 := hide (HB3.out.trans hbl4)
    have HX4 := hide (hkb4 _ _ _ _ HGN.out (by decide) (HX3.out.trans HBXr.out))
    clear hib4 hbl4 hkb4 hk4
    have hl8 : k < 8 := Nat.lt_of_lt_of_le HLT.out HSV.out.nIns
    go_wp2_with fail
    go_roundw
    case rel => exact ⟨k + 1, HLT.out, by go_num, HI4.out, HB4.out, HX4.out⟩
    case measure =>
     have h1 := HLT.out
     simp [intOf]
     omega
  ·have hkk : k = s.ins.length := by omega
   subst hkk
   rw [List.take_length] at hib
   have HIB := hide hib
   have HBB := hide hB
   have HBX := hide hbx
   obtain ⟨x0, x1, x2, x3⟩ := cl4 hbx
   clear hib hB hbx hk
   go_wp2_with fail
   go_loopw [38, 7] (fun vi _ wr => ∃ k : Nat, k ≤ s.res.length ∧ vi = .int .i64 k ∧ Lib.IsBuilder 66 5 W0.heap.size b (Lib.byteCells (((acc ++ (P.kStack ++ ([32] ++ (V.bl s.name ++ [10])))) ++ s.ins.flatMap P.inText) ++ (s.res.take k).flatMap (P.resText 6))) wr ∧ Below W0.heap.size W0 wr ∧ wr.heap[w.heap.size]? = some (.cells #[.string s.name, .slice ai s.ins.length ci, .slice ar s.res.length cr, .slice ao s.outs.length co] 41 (0, 0)))
    (fun vi _ _ => s.res.length - (intOf vi).toNat)
   case atStart => exact ⟨0, Nat.zero_le _, rfl, by simpa using HIB.out, HBB.out, HBX.out⟩
   case round =>
    clear HIB HBB HBX
    obtain ⟨k, hk, rfl, hib, hB, hbx⟩ := hrel
    by_cases hlt : k < s.res.length
    ·obtain ⟨b2, off2, cap2, x, ap, cp, e1, hx, hm, y0, y1, y2⟩ := X.elemR (HR.out.kept hB) k hlt
     simp only [Value.slice.injEq] at e1
     obtain ⟨rfl, _, rfl⟩ := e1
     have hpl := HSV.out.res x (List.mem_of_getElem? hx)
     obtain ⟨hxs, hxs2, hxb⟩ := X.sumR_mem (List.mem_of_getElem? hx) HBR.out
     have hfl := P.flat_take_len (P.resText 6) s.res k x hx
     have hal : (((acc ++ (P.kStack ++ ([32] ++ (V.bl s.name ++ [10])))) ++ s.ins.flatMap P.inText) ++ (s.res.take k).flatMap (P.resText 6)).length + ((P.resText 6) x).length ≤ 1000000000 := by
      have h1 := HLEN.out
      simp only [List.length_append] at h1 ⊢
      omega
     have htl : (P.partsText 6 x.parts).length ≤ 1000000000 := by
      have h1 : (P.partsText 6 x.parts).length ≤ (P.resText 6 x).length := by
       unfold P.resText
       simp only [List.length_append]
       omega
      omega
     have HX := hide hx
     have HLT : Hid (k < s.res.length) := hlt
     have hb2 : Below wr.heap.size wr (wr.alloc (.cells #[.string x.kind, .string x.name, .slice ap x.parts.length cp] 53)) := (Below.refl _ _).alloc (Nat.le_refl _) _
     have hblk : (wr.alloc (.cells #[.string x.kind, .string x.name, .slice ap x.parts.length cp] 53)).heap[wr.heap.size]? = some (.cells #[.string x.kind, .string x.name, .slice ap x.parts.length cp] 53 (0, 0)) := heap_alloc_new _ _
     have hib1 := isb_kept hib hb2
     have hB1 := hB.trans (hb2.mono hB.size)
     have hbx1 := hb2.block w.heap.size (blt hbx)
     have hbxl : w.heap.size < (wr.alloc (.cells #[.string x.kind, .string x.name, .slice ap x.parts.length cp] 53)).heap.size := by
      have := (blt hbx)
      simp
      omega
     have hGb : wr.heap.size ≠ b := by
      have := isb_lt hib
      omega
     have hC : ∀ W1 : World, W1 = (wr.alloc (.cells #[.string x.kind, .string x.name, .slice ap x.parts.length cp] 53)) → Calls Tryz.prog 38 #[.slice ap x.parts.length cp] W1.drew fun e w3 =>
       (∃ t, e = .returned (.string t) ∧ Hid (t = V.str (P.partsText 6 x.parts)) ∧ t.size ≤ 1000000000) ∧ (w3.cell? ⟨wr.heap.size, 0, none⟩ = some (.string x.kind) ∧ w3.cell? ⟨wr.heap.size, 1, none⟩ = some (.string x.name) ∧ w3.cell? ⟨wr.heap.size, 2, none⟩ = some (.slice ap x.parts.length cp)) ∧ Hid (w3.heap[wr.heap.size]? = some (.cells #[.string x.kind, .string x.name, .slice ap x.parts.length cp] 53 (0, 0))) ∧ Hid (Lib.IsBuilder 66 5 W0.heap.size b (Lib.byteCells (((acc ++ (P.kStack ++ ([32] ++ (V.bl s.name ++ [10])))) ++ s.ins.flatMap P.inText) ++ (s.res.take k).flatMap (P.resText 6))) w3) ∧ Hid (Below W0.heap.size W0 w3) ∧ Hid (w3.heap[w.heap.size]? = wr.heap[w.heap.size]?) := by
      rintro W1 rfl
      generalize (wr.alloc (.cells #[.string x.kind, .string x.name, .slice ap x.parts.length cp] 53)) = W1 at *
      have hb3 : Below W1.heap.size W1 W1.drew := below_drewN (Below.refl _ _) 1
      refine (partsText_any (m + 1) W1.drew _ x.parts ((hm.kept hb2).kept hb3) (fun p hp => (hpl.2.2.2.2 p hp).1) htl (fun p hp => X.sumP_mem hp hxb) (by have := hpl.2.2.1; omega) (tab_below HTAB.out (hB1.trans (hb3.mono hB1.size)))).mono ?_
      rintro e w3 ⟨rfl, hb4⟩
      have hb5 : Below W1.heap.size W1 w3 := hb3.trans (hb4.mono hb3.size)
      have hblk3 := (hb5.block wr.heap.size (blt hblk)).trans hblk
      exact ⟨⟨_, rfl, rfl, by rw [str_size]; exact htl⟩, ⟨cell_of_block hblk3 0 _ rfl, cell_of_block hblk3 1 _ rfl, cell_of_block hblk3 2 _ rfl⟩, hblk3, isb_kept hib1 hb5, hB1.trans (hb5.mono hB1.size), (hb5.block _ hbxl).trans hbx1⟩
     have HC := hide (hC _ rfl)
     have HAL := hide hal
     have HGB := hide hGb
     have HGN : Hid (w.heap.size ≠ b) := HGb.out
     obtain ⟨z0, z1, z2⟩ := cl3 hblk
     have q2 : ¬ 9223372036854775807 < 9 + x.kind.size := by omega
     have hs2 : ((⟨#[114, 101, 115, 111, 117, 114, 99, 101, 32]⟩ : ByteArray) ++ x.kind).size = 9 + x.kind.size := by rw [ByteArray.size_append]; rfl
     have q3 : ¬ 9223372036854775807 < 9 + x.kind.size + 1 := by omega
     have hs3 : ((⟨#[114, 101, 115, 111, 117, 114, 99, 101, 32]⟩ : ByteArray) ++ x.kind ++ (⟨#[32]⟩ : ByteArray)).size = 9 + x.kind.size + 1 := by rw [ByteArray.size_append, hs2]; rfl
     have q4 : ¬ 9223372036854775807 < 9 + x.kind.size + 1 + x.name.size := by omega
     have hs4 : ((⟨#[114, 101, 115, 111, 117, 114, 99, 101, 32]⟩ : ByteArray) ++ x.kind ++ (⟨#[32]⟩ : ByteArray) ++ x.name).size = 9 + x.kind.size + 1 + x.name.size := by rw [ByteArray.size_append, hs3]
     have q5 : ¬ 9223372036854775807 < 9 + x.kind.size + 1 + x.name.size + 2 := by omega
     have hs5 : ((⟨#[114, 101, 115, 111, 117, 114, 99, 101, 32]⟩ : ByteArray) ++ x.kind ++ (⟨#[32]⟩ : ByteArray) ++ x.name ++ (⟨#[32, 123]⟩ : ByteArray)).size = 9 + x.kind.size + 1 + x.name.size + 2 := by rw [ByteArray.size_append, hs4]; rfl
     have HBXr := hide hbx
     clear hC hb2 hblk hib1 hB1 hbx1 hbxl hal hfl htl hpl hm hib hB hbx hGb hx
     go_wp2_with fail
     go_region_held3 (fun W' => W'.cell? ⟨wr.heap.size, 0, none⟩ = some (.string x.kind) ∧ W'.cell? ⟨wr.heap.size, 1, none⟩ = some (.string x.name) ∧ W'.cell? ⟨wr.heap.size, 2, none⟩ = some (.slice ap x.parts.length cp)) (go_keep)
      (first
       | (go_at_call 38; refine Calls.mono HC.out ?_; rintro e w3 ⟨⟨t, rfl, ht, htz⟩, ⟨t0, t1, t2⟩, HK3, HI3, HB3, HX3⟩; have hs_3 := HB3.out.size; have q6 : ¬ 9223372036854775807 < 9 + x.kind.size + 1 + x.name.size + 2 + t.size := (by omega); have hs6 : ((⟨#[114, 101, 115, 111, 117, 114, 99, 101, 32]⟩ : ByteArray) ++ x.kind ++ (⟨#[32]⟩ : ByteArray) ++ x.name ++ (⟨#[32, 123]⟩ : ByteArray) ++ t).size = 9 + x.kind.size + 1 + x.name.size + 2 + t.size := (by rw [ByteArray.size_append, hs5]); have q7 : ¬ 9223372036854775807 < 9 + x.kind.size + 1 + x.name.size + 2 + t.size + 3 := (by omega); have hs7 : ((⟨#[114, 101, 115, 111, 117, 114, 99, 101, 32]⟩ : ByteArray) ++ x.kind ++ (⟨#[32]⟩ : ByteArray) ++ x.name ++ (⟨#[32, 123]⟩ : ByteArray) ++ t ++ (⟨#[32, 125, 10]⟩ : ByteArray)).size = 9 + x.kind.size + 1 + x.name.size + 2 + t.size + 3 := (by rw [ByteArray.size_append, hs6]; rfl))
       | (go_at_call 36; refine Calls.mono (writeS2 W0.heap.size b wr.heap.size 53 _ _ _ w3 HI3.out (by have h1 := HAL.out; have h2 := congrArg List.length (P.res_str x); rw [V.length_bl, ← ht.out] at h2; omega) hs_3 HK3.out HGB.out (by decide)) ?_; rintro e w4 ⟨rfl, hib4, hbl4, hkb4, hk4⟩; have r0 := cell_of_block hk4 0 _ rfl; have r1 := cell_of_block hk4 1 _ rfl; have r2 := cell_of_block hk4 2 _ rfl))
     all_goals
      have HI4 : Hid (Lib.IsBuilder 66 5 W0.heap.size b (Lib.byteCells (((acc ++ (P.kStack ++ ([32] ++ (V.bl s.name ++ [10])))) ++ s.ins.flatMap P.inText) ++ (s.res.take (k + 1)).flatMap (P.resText 6))) w4) := by
       show Lib.IsBuilder _ _ _ _ _ _
       rw [P.flat_take (P.resText 6) s.res k x HX.out, ← List.append_assoc, ← P.res_str x, ← ht.out]
       exact hib4
      have HB4 := hide (HB3.out.trans hbl4)
      have HX4 := hide (hkb4 _ _ _ _ HGN.out (by decide) (HX3.out.trans HBXr.out))
      clear hib4 hbl4 hkb4 hk4
      have hl8 : k < 8 := Nat.lt_of_lt_of_le HLT.out HSV.out.nRes
      go_wp2_with fail
      go_roundw
      case rel => exact ⟨k + 1, HLT.out, by go_num, HI4.out, HB4.out, HX4.out⟩
      case measure =>
       have h1 := HLT.out
       simp [intOf]
       omega
    ·have hkk : k = s.res.length := by omega
     subst hkk
     rw [List.take_length] at hib
     have HIB := hide hib
     have HBB := hide hB
     have HBX := hide hbx
     obtain ⟨x0, x1, x2, x3⟩ := cl4 hbx
     clear hib hB hbx hk
     go_wp2_with fail
     go_loopw [61, 9] (fun vi _ wr => ∃ k : Nat, k ≤ s.outs.length ∧ vi = .int .i64 k ∧ Lib.IsBuilder 66 5 W0.heap.size b (Lib.byteCells ((((acc ++ (P.kStack ++ ([32] ++ (V.bl s.name ++ [10])))) ++ s.ins.flatMap P.inText) ++ s.res.flatMap (P.resText 6)) ++ (s.outs.take k).flatMap (P.outText 6))) wr ∧ Below W0.heap.size W0 wr ∧ wr.heap[w.heap.size]? = some (.cells #[.string s.name, .slice ai s.ins.length ci, .slice ar s.res.length cr, .slice ao s.outs.length co] 41 (0, 0)))
      (fun vi _ _ => s.outs.length - (intOf vi).toNat)
     case atStart => exact ⟨0, Nat.zero_le _, rfl, by simpa using HIB.out, HBB.out, HBX.out⟩
     case round =>
      clear HIB HBB HBX
      obtain ⟨k, hk, rfl, hib, hB, hbx⟩ := hrel
      by_cases hlt : k < s.outs.length
      ·obtain ⟨b2, off2, cap2, x, al, cl, af, cf, aa, ca, an, cn, e1, hx, hm, y0, y1, y2, y3, y4, y5, y6, y7, y8, y9, y10⟩ := X.elemE (HO.out.kept hB) k hlt
       simp only [Value.slice.injEq] at e1
       obtain ⟨rfl, _, rfl⟩ := e1
       have hpl := (HSV.out.outs x (List.mem_of_getElem? hx)).2.1
       obtain ⟨hxs, hxb⟩ := X.sumP_mem (List.mem_of_getElem? hx) HBO.out
       have hfl := P.flat_take_len (P.outText 6) s.outs k x hx
       have hal : ((((acc ++ (P.kStack ++ ([32] ++ (V.bl s.name ++ [10])))) ++ s.ins.flatMap P.inText) ++ s.res.flatMap (P.resText 6)) ++ (s.outs.take k).flatMap (P.outText 6)).length + ((P.outText 6) x).length ≤ 1000000000 := by
        have h1 := HLEN.out
        simp only [List.length_append] at h1 ⊢
        omega
       have htl : (P.textE 6 x.2).length ≤ 1000000000 := by
        have h1 : (P.textE 6 x.2).length ≤ (P.outText 6 x).length := by
         unfold P.outText
         simp only [List.length_append]
         omega
        omega
       have HX := hide hx
       have HLT : Hid (k < s.outs.length) := hlt
       have hb2 : Below wr.heap.size wr (wr.alloc (.cells #[.string x.1, .int .i64 x.2.kind, .int .i64 x.2.v.kind, .int .i64 x.2.v.n, .string x.2.v.s, .slice al x.2.v.l.length cl, .slice af x.2.v.f.length cf, .string x.2.s, .string x.2.t, .slice aa x.2.a.length ca, .slice an x.2.n.length cn] 61)) := (Below.refl _ _).alloc (Nat.le_refl _) _
       have hblk : (wr.alloc (.cells #[.string x.1, .int .i64 x.2.kind, .int .i64 x.2.v.kind, .int .i64 x.2.v.n, .string x.2.v.s, .slice al x.2.v.l.length cl, .slice af x.2.v.f.length cf, .string x.2.s, .string x.2.t, .slice aa x.2.a.length ca, .slice an x.2.n.length cn] 61)).heap[wr.heap.size]? = some (.cells #[.string x.1, .int .i64 x.2.kind, .int .i64 x.2.v.kind, .int .i64 x.2.v.n, .string x.2.v.s, .slice al x.2.v.l.length cl, .slice af x.2.v.f.length cf, .string x.2.s, .string x.2.t, .slice aa x.2.a.length ca, .slice an x.2.n.length cn] 61 (0, 0)) := heap_alloc_new _ _
       have hib1 := isb_kept hib hb2
       have hB1 := hB.trans (hb2.mono hB.size)
       have hbx1 := hb2.block w.heap.size (blt hbx)
       have hbxl : w.heap.size < (wr.alloc (.cells #[.string x.1, .int .i64 x.2.kind, .int .i64 x.2.v.kind, .int .i64 x.2.v.n, .string x.2.v.s, .slice al x.2.v.l.length cl, .slice af x.2.v.f.length cf, .string x.2.s, .string x.2.t, .slice aa x.2.a.length ca, .slice an x.2.n.length cn] 61)).heap.size := by
        have := (blt hbx)
        simp
        omega
       have hGb : wr.heap.size ≠ b := by
        have := isb_lt hib
        omega
       have hC : ∀ W1 : World, W1 = (wr.alloc (.cells #[.string x.1, .int .i64 x.2.kind, .int .i64 x.2.v.kind, .int .i64 x.2.v.n, .string x.2.v.s, .slice al x.2.v.l.length cl, .slice af x.2.v.f.length cf, .string x.2.s, .string x.2.t, .slice aa x.2.a.length ca, .slice an x.2.n.length cn] 61)) → Calls Tryz.prog 39 #[.agg #[.int .i64 x.2.kind, .int .i64 x.2.v.kind, .int .i64 x.2.v.n, .string x.2.v.s, .slice al x.2.v.l.length cl, .slice af x.2.v.f.length cf, .string x.2.s, .string x.2.t, .slice aa x.2.a.length ca, .slice an x.2.n.length cn]] W1.drew fun e w3 =>
         (∃ t, e = .returned (.string t) ∧ Hid (t = V.str (P.textE 6 x.2)) ∧ t.size ≤ 1000000000) ∧ (w3.cell? ⟨wr.heap.size, 0, none⟩ = some (.string x.1) ∧ w3.cell? ⟨wr.heap.size, 1, none⟩ = some (.int .i64 x.2.kind) ∧ w3.cell? ⟨wr.heap.size, 2, none⟩ = some (.int .i64 x.2.v.kind) ∧ w3.cell? ⟨wr.heap.size, 3, none⟩ = some (.int .i64 x.2.v.n) ∧ w3.cell? ⟨wr.heap.size, 4, none⟩ = some (.string x.2.v.s) ∧ w3.cell? ⟨wr.heap.size, 5, none⟩ = some (.slice al x.2.v.l.length cl) ∧ w3.cell? ⟨wr.heap.size, 6, none⟩ = some (.slice af x.2.v.f.length cf) ∧ w3.cell? ⟨wr.heap.size, 7, none⟩ = some (.string x.2.s) ∧ w3.cell? ⟨wr.heap.size, 8, none⟩ = some (.string x.2.t) ∧ w3.cell? ⟨wr.heap.size, 9, none⟩ = some (.slice aa x.2.a.length ca) ∧ w3.cell? ⟨wr.heap.size, 10, none⟩ = some (.slice an x.2.n.length cn)) ∧ Hid (w3.heap[wr.heap.size]? = some (.cells #[.string x.1, .int .i64 x.2.kind, .int .i64 x.2.v.kind, .int .i64 x.2.v.n, .string x.2.v.s, .slice al x.2.v.l.length cl, .slice af x.2.v.f.length cf, .string x.2.s, .string x.2.t, .slice aa x.2.a.length ca, .slice an x.2.n.length cn] 61 (0, 0))) ∧ Hid (Lib.IsBuilder 66 5 W0.heap.size b (Lib.byteCells ((((acc ++ (P.kStack ++ ([32] ++ (V.bl s.name ++ [10])))) ++ s.ins.flatMap P.inText) ++ s.res.flatMap (P.resText 6)) ++ (s.outs.take k).flatMap (P.outText 6))) w3) ∧ Hid (Below W0.heap.size W0 w3) ∧ Hid (w3.heap[w.heap.size]? = wr.heap[w.heap.size]?) := by
        rintro W1 rfl
        generalize (wr.alloc (.cells #[.string x.1, .int .i64 x.2.kind, .int .i64 x.2.v.kind, .int .i64 x.2.v.n, .string x.2.v.s, .slice al x.2.v.l.length cl, .slice af x.2.v.f.length cf, .string x.2.s, .string x.2.t, .slice aa x.2.a.length ca, .slice an x.2.n.length cn] 61)) = W1 at *
        have hb3 : Below W1.heap.size W1 W1.drew := below_drewN (Below.refl _ _) 1
        refine (textOf_all 6 (m + 1) W1.drew x.2 _ _ _ _ _ _ _ _ _ _ (X.Mem.kept _ (X.Mem.kept _ hm hb2) hb3) hpl hxb htl (tab_below HTAB.out (hB1.trans (hb3.mono hB1.size)))).mono ?_
        rintro e w3 ⟨rfl, hb4⟩
        have hb5 : Below W1.heap.size W1 w3 := hb3.trans (hb4.mono hb3.size)
        have hblk3 := (hb5.block wr.heap.size (blt hblk)).trans hblk
        exact ⟨⟨_, rfl, rfl, by rw [str_size]; exact htl⟩, ⟨cell_of_block hblk3 0 _ rfl, cell_of_block hblk3 1 _ rfl, cell_of_block hblk3 2 _ rfl, cell_of_block hblk3 3 _ rfl, cell_of_block hblk3 4 _ rfl, cell_of_block hblk3 5 _ rfl, cell_of_block hblk3 6 _ rfl, cell_of_block hblk3 7 _ rfl, cell_of_block hblk3 8 _ rfl, cell_of_block hblk3 9 _ rfl, cell_of_block hblk3 10 _ rfl⟩, hblk3, isb_kept hib1 hb5, hB1.trans (hb5.mono hB1.size), (hb5.block _ hbxl).trans hbx1⟩
       have HC := hide (hC _ rfl)
       have HAL := hide hal
       have HGB := hide hGb
       have HGN : Hid (w.heap.size ≠ b) := HGb.out
       obtain ⟨z0, z1, z2, z3, z4, z5, z6, z7, z8, z9, z10⟩ := cl11 hblk
       have q2 : ¬ 9223372036854775807 < 7 + x.1.size := by omega
       have hs2 : ((⟨#[111, 117, 116, 112, 117, 116, 32]⟩ : ByteArray) ++ x.1).size = 7 + x.1.size := by rw [ByteArray.size_append]; rfl
       have q3 : ¬ 9223372036854775807 < 7 + x.1.size + 3 := by omega
       have hs3 : ((⟨#[111, 117, 116, 112, 117, 116, 32]⟩ : ByteArray) ++ x.1 ++ (⟨#[32, 61, 32]⟩ : ByteArray)).size = 7 + x.1.size + 3 := by rw [ByteArray.size_append, hs2]; rfl
       have HBXr := hide hbx
       clear hC hb2 hblk hib1 hB1 hbx1 hbxl hal hfl htl hpl hm hib hB hbx hGb hx
       go_wp2_with fail
       go_region_held3 (fun W' => W'.cell? ⟨wr.heap.size, 0, none⟩ = some (.string x.1) ∧ W'.cell? ⟨wr.heap.size, 1, none⟩ = some (.int .i64 x.2.kind) ∧ W'.cell? ⟨wr.heap.size, 2, none⟩ = some (.int .i64 x.2.v.kind) ∧ W'.cell? ⟨wr.heap.size, 3, none⟩ = some (.int .i64 x.2.v.n) ∧ W'.cell? ⟨wr.heap.size, 4, none⟩ = some (.string x.2.v.s) ∧ W'.cell? ⟨wr.heap.size, 5, none⟩ = some (.slice al x.2.v.l.length cl) ∧ W'.cell? ⟨wr.heap.size, 6, none⟩ = some (.slice af x.2.v.f.length cf) ∧ W'.cell? ⟨wr.heap.size, 7, none⟩ = some (.string x.2.s) ∧ W'.cell? ⟨wr.heap.size, 8, none⟩ = some (.string x.2.t) ∧ W'.cell? ⟨wr.heap.size, 9, none⟩ = some (.slice aa x.2.a.length ca) ∧ W'.cell? ⟨wr.heap.size, 10, none⟩ = some (.slice an x.2.n.length cn)) (go_keep)
        (first
         | (go_at_call 39; refine Calls.mono HC.out ?_; rintro e w3 ⟨⟨t, rfl, ht, htz⟩, ⟨t0, t1, t2, t3, t4, t5, t6, t7, t8, t9, t10⟩, HK3, HI3, HB3, HX3⟩; have hs_3 := HB3.out.size; have q4 : ¬ 9223372036854775807 < 7 + x.1.size + 3 + t.size := (by omega); have hs4 : ((⟨#[111, 117, 116, 112, 117, 116, 32]⟩ : ByteArray) ++ x.1 ++ (⟨#[32, 61, 32]⟩ : ByteArray) ++ t).size = 7 + x.1.size + 3 + t.size := (by rw [ByteArray.size_append, hs3]); have q5 : ¬ 9223372036854775807 < 7 + x.1.size + 3 + t.size + 1 := (by omega); have hs5 : ((⟨#[111, 117, 116, 112, 117, 116, 32]⟩ : ByteArray) ++ x.1 ++ (⟨#[32, 61, 32]⟩ : ByteArray) ++ t ++ (⟨#[10]⟩ : ByteArray)).size = 7 + x.1.size + 3 + t.size + 1 := (by rw [ByteArray.size_append, hs4]; rfl))
         | (go_at_call 36; refine Calls.mono (writeS2 W0.heap.size b wr.heap.size 61 _ _ _ w3 HI3.out (by have h1 := HAL.out; have h2 := congrArg List.length (P.out_str x); rw [V.length_bl, ← ht.out] at h2; omega) hs_3 HK3.out HGB.out (by decide)) ?_; rintro e w4 ⟨rfl, hib4, hbl4, hkb4, hk4⟩; have r0 := cell_of_block hk4 0 _ rfl; have r1 := cell_of_block hk4 1 _ rfl; have r2 := cell_of_block hk4 2 _ rfl; have r3 := cell_of_block hk4 3 _ rfl; have r4 := cell_of_block hk4 4 _ rfl; have r5 := cell_of_block hk4 5 _ rfl; have r6 := cell_of_block hk4 6 _ rfl; have r7 := cell_of_block hk4 7 _ rfl; have r8 := cell_of_block hk4 8 _ rfl; have r9 := cell_of_block hk4 9 _ rfl; have r10 := cell_of_block hk4 10 _ rfl))
       all_goals
        have HI4 : Hid (Lib.IsBuilder 66 5 W0.heap.size b (Lib.byteCells ((((acc ++ (P.kStack ++ ([32] ++ (V.bl s.name ++ [10])))) ++ s.ins.flatMap P.inText) ++ s.res.flatMap (P.resText 6)) ++ (s.outs.take (k + 1)).flatMap (P.outText 6))) w4) := by
         show Lib.IsBuilder _ _ _ _ _ _
         rw [P.flat_take (P.outText 6) s.outs k x HX.out, ← List.append_assoc, ← P.out_str x, ← ht.out]
         exact hib4
        have HB4 := hide (HB3.out.trans hbl4)
        have HX4 := hide (hkb4 _ _ _ _ HGN.out (by decide) (HX3.out.trans HBXr.out))
        clear hib4 hbl4 hkb4 hk4
        have hl8 : k < 8 := Nat.lt_of_lt_of_le HLT.out HSV.out.nOuts
        go_wp2_with fail
        go_roundw
        case rel => exact ⟨k + 1, HLT.out, by go_num, HI4.out, HB4.out, HX4.out⟩
        case measure =>
         have h1 := HLT.out
         simp [intOf]
         omega
      ·have hkk : k = s.outs.length := by omega
       subst hkk
       rw [List.take_length] at hib
       have HIB := hide hib
       have HBB := hide hB
       have HBX := hide hbx
       obtain ⟨x0, x1, x2, x3⟩ := cl4 hbx
       clear hib hB hbx hk
       go_wp2_with fail
       go_end0
       refine ⟨rfl, ?_, HBB.out⟩
       have e : ((((acc ++ (P.kStack ++ ([32] ++ (V.bl s.name ++ [10])))) ++ s.ins.flatMap P.inText) ++ s.res.flatMap (P.resText 6)) ++ s.outs.flatMap (P.outText 6)) = acc ++ P.skText 6 s := by
        unfold P.skText
        simp only [List.append_assoc]
       rw [← e]
       exact HIB.out
end Go.Proofs.YtbdbpfcblppnbaaGreatDoor.Vx
