/- WalogSays' own walk. -/
import Derived.Test.YtmlbcdofogffkabEK
import Derived.Test.YtmlbcdofogffkabEH
import Derived.Test.YtmlbcdofogffkabEE
import Derived.Deep.CutBlock
import Derived.Deep.RegionLaw
import Derived.Deep.Upon
namespace Go.Proofs.Ytmlbcdofogffkab
open Go.RowKit
attribute [local go_sem ↓] Go.wp_at_zero Go.wp_at_succ
theorem N.all_size (d : ByteArray) : N.size (N.all d) ≤ d.size := by
  have h := congrArg ByteArray.size (N.all_cut d)
  rw [ByteArray.size_extract, N.frames_size] at h
  omega
theorem size_take : ∀ (L : List ByteArray) (k : Nat), N.size (L.take k) ≤ N.size L
  | [], k => by simp
  | a :: t, 0 => Nat.zero_le _
  | a :: t, k + 1 => by
    have := size_take t k
    show 6 + a.size + N.size (t.take k) ≤ 6 + a.size + N.size t
    omega
theorem A.Mem.shape {m : Nat} {w : World} {c0 c1 c2 c3 c4 : Value} (h : A.Mem m w [c0, c1, c2, c3, c4]) : ∃ (k n : Int) (s : ByteArray) (al : Option Addr) (nl cl : Nat) (af : Option Addr) (nf cf : Nat), c0 = .int .i64 k ∧ c1 = .int .i64 n ∧ c2 = .string s ∧ c3 = .slice al nl cl ∧ c4 = .slice af nf cf := by
  cases m with
  | zero => exact h.elim
  | succ m =>
    obtain ⟨k, n, s, lv, fv, nl, nf, h1, _, _, _, h5, h6⟩ := h
    simp only [List.cons.injEq, and_true] at h1
    obtain ⟨rfl, rfl, rfl, rfl, rfl⟩ := h1
    obtain ⟨al, cl, rfl⟩ := h5.shape
    obtain ⟨af, cf, rfl⟩ := h6.shape
    exact ⟨k, n, s, al, nl, cl, af, nf, cf, rfl, rfl, rfl, rfl, rfl⟩
theorem append_none (va : Option Addr) (vc : Nat) (W : World) : (Builtin.append_ #[27, 27] 27 #[.slice none 0 0, .slice va 0 vc]).run Try.prog W = .ok (.slice none 0 0) W := by
  obtain ⟨i0, hi0, hz0, hz1, hz2⟩ := info_parts info9
  cases va with
  | none => exact run_append_nothing W 27 27 27 9 i0 u27 hi0 none 0 0 (Nat.le_refl _) _ (Src.ofNil W u27 vc)
  | some a => exact run_append_nothing W 27 27 27 9 i0 u27 hi0 none 0 0 (Nat.le_refl _) _ (Src.ofSlice W u27 a 0 vc [] (by simp) (fun j u h => by simp at h) (fun u h => by cases h))
theorem step_append_nothing {w : World} {ops : Array Oper} {o : Oper} {a : Act} {K : Act → World → Prop} {Q : Exit → Act → World → Prop} {E : Prop} (hgd : o.guard = none) (s x : Operand) (va : Option Addr) (vc : Nat)
    (ho : o.op = .call { callee := .builtin .append, args := #[s, x], argTypes := #[27, 27] }) (hty : o.type = 27) (hs : a.eval s = .slice none 0 0) (hx : a.eval x = .slice va 0 vc) (h : K (a.put o.dst (.slice none 0 0)) w) :
    if Region.wanted o (yielded ops a.tmps) = true then Oper.wp Try.prog o a w K Q else E := by
  have hw : Region.wanted o (yielded ops a.tmps) = true := by simp [Region.wanted, hgd]
  rw [if_pos hw]
  unfold Oper.wp execOp
  simp only [ho, hty, resolve, invoke, builtin, Sem.run_bind, Sem.run_pure, Result.andThen_ok, List.map_toArray, List.map_cons, List.map_nil, hs, hx, append_none va vc w]
  exact h
theorem lp_row {w wx : World} {g q : Nat} {va : Option Addr} {n vc : Nat} {L G : List ByteArray} {b : Int} (h : Lp w wx g q (.slice va n vc) L G b) (hG : G ≠ []) : ∃ gr, va = some ⟨gr, 0, none⟩ ∧ ∀ W, Below wx.heap.size wx W → ∀ k u, (strs G)[k]? = some u → W.cell? ((⟨gr, 0, none⟩ : Addr).add k) = some u := by
  obtain ⟨B, B2, D, _, _, _, _, _, _, h7, _⟩ := h
  have how := h7.1
  rcases id how.2 with ⟨_, h0⟩ | ⟨gr, cap, cur, h1, _⟩
  · exact absurd (List.eq_nil_of_length_eq_zero h0) hG
  · have e : va = some ⟨gr, 0, none⟩ := by simp at h1; exact h1.1
    subst e
    exact ⟨gr, rfl, fun W hb k u hu => kept_cell hb (how.cells (g := gr) rfl k u hu)⟩
theorem Lp.taken {w wx : World} {g q : Nat} {vw : Value} {L G : List ByteArray} {b : Int} (h : Lp w wx g q vw L G b) {k : Nat} {x : ByteArray} (hx : L[k]? = some x) : x.size ≤ 400 ∧ (N.frames (L.take k)).size ≤ 4000 ∧ N.frames (L.take (k + 1)) = N.frames (L.take k) ++ N.frame x := by
  obtain ⟨B, B2, D, _, _, _, _, _, _, _, _, h9, h10⟩ := h
  have e : L.take (k + 1) = L.take k ++ [x] := by rw [List.take_add_one, hx]; rfl
  have e2 : N.size (L.take k) ≤ N.size L := size_take L k
  exact ⟨h9 x (List.mem_of_getElem? hx), by rw [N.frames_size]; omega, by rw [e, N.frames_append]⟩
theorem Lp.small {w wx : World} {g q : Nat} {vw : Value} {L G : List ByteArray} {b : Int} (h : Lp w wx g q vw L G b) : N.size L ≤ 4000 := by
  obtain ⟨B, B2, D, _, _, _, _, _, _, _, _, _, h10⟩ := h
  exact h10
theorem Lp.adds_at {w wx wy : World} {g q : Nat} {vw : Value} {L G : List ByteArray} {b : Int} (h : Lp w wx g q vw L G b) (hxy : Fr wx wy (fun _ => False)) (hlt : wx.heap.size < wy.heap.size) (s : ByteArray) (hs : s.size ≤ 400) (hz : N.size L + s.size + 6 ≤ 4000) (hb : b ≤ 9000) :
    Calls Try.prog 52 #[.pointer (some ⟨q, 0, none⟩), .string s] wy fun o w2 => o = .returned .nilIface ∧ Lp w w2 g q vw (L ++ [s]) G (b + 2) ∧ w2.heap[wx.heap.size]? = wy.heap[wx.heap.size]? := by
  have hlen := h.len
  obtain ⟨B, B2, D, h1, h2, h3, h4, h5, h6, h7, h8, h9, h10⟩ := h
  have hne : ¬ (B wx.heap.size ∨ B2 wx.heap.size) := fun e => by
    rcases e with e | e
    · have := (h4 _ e).2; omega
    · have := (h5 _ e).2; omega
  have hsz := hxy.size
  replace h1 := h1.fr hxy (fun _ _ e => e)
  replace h2 := h2.fr hxy (fun _ _ e => e)
  replace h4 : ∀ x, B x → w.heap.size ≤ x ∧ x < wy.heap.size := fun x hx => ⟨(h4 x hx).1, by have := (h4 x hx).2; omega⟩
  replace h5 : ∀ x, B2 x → w.heap.size ≤ x ∧ x < wy.heap.size := fun x hx => ⟨(h5 x hx).1, by have := (h5 x hx).2; omega⟩
  replace h7 : Beside w.heap.size wy (fun x => B x ∨ B2 x) vw G := h7.fr hxy (fun c e => e.elim) (fun c e => .inl e)
  replace h8 : Fr w wy (fun _ => False) := h8.trans hxy (fun _ _ e => e)
  have hc : (⟨1, nj, ⟨#[]⟩, N.head s ++ s⟩ : Ch).byte (N.frames L) = N.frames (L ++ [s]) := by rw [N.frames_append]; rfl
  have hcs : (N.head s ++ s).size = 6 + s.size := by rw [ByteArray.size_append, N.head_size]
  have hfs : (N.frames L).size = N.size L := N.frames_size L
  have hfs2 : (N.frames (L ++ [s])).size = N.size L + (6 + s.size) := by rw [N.frames_size, N.size_append]
  have hm : D.more nj (N.head s ++ s) = 0 := by
    unfold Dk.more
    rw [hcs, if_neg (by omega)]
    refine fitN may_nj ?_ (by rw [h3.files]; simp)
    rw [h3.files, get_oneN, Option.getD_some, hfs]; omega
  refine (add_any wy B B2 q g nj s L D h1 h2 (fun x hx => (h4 x hx).2) (fun x hx => (h5 x hx).2) h6 (h3.fits (by omega) (by omega)) (by decide) hs ⟨by omega, by omega⟩ (h3.did_fits _ rfl (.inr rfl) hb (by omega) (by show (N.head s ++ s).size ≤ _; omega) (by rw [hc]; omega))).mono ?_
  rintro o w2 ⟨ha, hf⟩
  rcases ha with ⟨k, _⟩ | ⟨_, ⟨k, _⟩ | ⟨_, k, _⟩ | ⟨_, _, rfl, hB⟩⟩
  · exact absurd hm k
  · exact absurd k h3.not_fails
  · exact absurd k (h3.did_not _)
  · refine ⟨rfl, Lp.cut h4 h5 h7 h8 hB hf ?_ ?_ ?_, hf.block _ hlt hne⟩
    · rw [← hc]; exact h3.wrote _ rfl
    · intro r hr
      rcases List.mem_append.1 hr with hr | hr
      · exact h9 r hr
      · have : r = s := by simpa using hr
        rw [this]; exact hs
    · rw [N.size_append]; omega
theorem below_fr {w w' : World} (h : Fr w w' (fun _ => False)) : Below w.heap.size w w' := h.below (Nat.le_refl _) (fun _ e => e.elim)
set_option maxRecDepth 100000 in
set_option maxHeartbeats 4000000 in
theorem walogSays_any (m : Nat) (d : ByteArray) (v : Value) (L0 : List Ac) (w : World) (hl : A.Acts m w v L0) :
    Calls Try.prog 5 #[.string d, v] w fun o w' => o = .returned (.bool true) ∧ Below w.heap.size w w' := by
  obtain ⟨al, cl, rfl⟩ := hl.shape
  have HL := hide hl
  have HNT := hide (notes_any w)
  clear hl
  have HU27 := hide u27
  have HI9 := hide info9
  go_enter Try.func5, Try.ntmps5
  go_wp2_with fail
  refine HNT.out.mono ?_
  rintro o w1 ⟨rfl, hf1⟩
  by_cases h4 : 4000 < d.size
  · have h4i : (4000 : Int) < d.size := by omega
    have HB := hide (below_fr hf1)
    clear hf1
    go_wp2_with fail
    go_ret
    exact ⟨rfl, HB.out⟩
  · have h4i : decide ((4000 : Int) < d.size) = false := decide_eq_false (by omega)
    have h4n : ¬ (4000 : Int) < d.size := by omega
    have hL1 := HL.out.kept (below_fr hf1)
    have HLA := hide (lightActs_any 60 12000 m w1 _ L0 hL1)
    have HF1 := hide hf1
    clear hf1 hL1
    go_wp2_with fail
    refine HLA.out.mono ?_
    rintro o w2 ⟨⟨b, rfl, hb⟩, hB2⟩
    have hf2 := HF1.out.trans (fr_below hB2) (fun _ _ e => e)
    cases b with
    | false =>
      have HB := hide (below_fr hf2)
      clear hB2 hf2 hb
      go_wp2_with fail
      go_ret
      exact ⟨rfl, HB.out⟩
    | true =>
      have h60 : L0.length ≤ 60 := by have := hb rfl; omega
      have HF2 := hide hf2
      have HNEW := hide (new_any w2)
      clear hB2 hf2 hb HF1
      go_wp2_with fail
      refine HNEW.out.mono ?_
      rintro o w3 ⟨g, rfl, hD3, hf3⟩
      have HWR := hide (new_writes (X := d) hD3 hf3 (by omega))
      clear hD3 hf3
      go_wp2_with fail
      refine HWR.out.mono ?_
      rintro o w4 ⟨rfl, hW⟩
      have HNO := hide (open_no w4 g)
      have HOP := hide (hW.opens (N.all_size d))
      clear hW
      go_wp2_with fail
      refine HNO.out.mono ?_
      rintro o w5 ⟨rfl, hw⟩
      rw [hw]
      clear hw
      have HSE := hide (same_err 3 3 w4 (by decide))
      go_wp2_with fail
      refine HSE.out.mono ?_
      rintro o w5 ⟨rfl, hw⟩
      rw [hw]
      clear hw
      go_wp2_with fail
      refine HOP.out.mono ?_
      rintro o w6 ⟨q, rfl, hlp⟩
      have HUN := hide (refUnframed_any d w6 (by omega))
      have HLP := hide hlp
      clear hlp
      go_wp2_with fail
      refine HUN.out.mono ?_
      rintro o w7 ⟨vw, rfl, how, hf7, hsz⟩
      have hlp7 := HLP.out.turn hf7 how
      obtain ⟨wa, wc, rfl⟩ := owns_shape how
      have HLP7 := hide hlp7
      clear hlp7 how hf7 hsz HLP
      go_wp2_with fail
      go_loopw [9, 10, 11, 12] (fun vq vw vs vi wx => ∃ (q i : Nat) (L : List ByteArray), vq = .pointer (some ⟨q, 0, none⟩) ∧ vs = .int .i64 (N.size L) ∧ vi = .int .i64 i ∧ i ≤ L0.length ∧ Lp w2 wx g q vw L L (3 + 2 * i)) (fun _ _ _ vi _ => L0.length + 1 - (intOf vi).toNat)
      case atStart => exact ⟨q, 0, N.all d, rfl, rfl, rfl, Nat.zero_le _, HLP7.out⟩
      case round =>
        clear HLP7 HUN HOP HNO HSE HWR HNEW HLA HNT
        obtain ⟨q2, i, L, rfl, rfl, rfl, hi, hlp⟩ := hrel
        obtain ⟨va, vc, rfl, _⟩ := id hlp.strs
        have hii : (i : Int) ≤ L0.length := by omega
        have hbb : (3 : Int) + 2 * i ≤ 9000 := by omega
        have HBB := hide hbb
        obtain ⟨bb, hbbe⟩ : ∃ bb : Int, bb = 3 + 2 * i := ⟨_, rfl⟩
        rw [← hbbe] at hlp HBB
        have HBE := hide hbbe
        have hll := hlp.len
        have HRD := hide hlp.reads
        clear hbb hbbe hlp
        go_wp2_with fail
        refine HRD.out.mono ?_
        rintro o wa ⟨rfl, hlpa⟩
        have HLPA := hide hlpa
        clear hlpa
        go_wp2_with fail
        go_loopw [15, 16] (fun vall vk wy => ∃ k : Nat, k ≤ L.length ∧ vk = .int .i64 k ∧ vall = .string (N.frames (L.take k)) ∧ Lp w2 wy g q2 (.slice va L.length vc) L L bb) (fun _ vk _ => L.length - (intOf vk).toNat)
        case atStart => exact ⟨0, Nat.zero_le _, rfl, rfl, HLPA.out⟩
        case round =>
          clear HLPA HRD
          obtain ⟨k, hk, rfl, rfl, hlpk⟩ := hrel
          by_cases hkl : k < L.length
          · obtain ⟨x, hx⟩ : ∃ x, L[k]? = some x := ⟨_, List.getElem?_eq_getElem hkl⟩
            obtain ⟨b0, off0, rfl, hc0⟩ := hlpk.strs.at hx
            obtain ⟨hxs, hY, hT⟩ := hlpk.taken hx
            have HFRM := hide (hlpk.frames x hxs)
            have HT := hide hT
            have hfx := N.frame_size x
            generalize N.frames (L.take k) = Y at *
            clear hlpk hT hx
            go_wp2_with fail
            refine HFRM.out.mono ?_
            rintro o wb ⟨rfl, hlpb⟩
            have HLPB := hide hlpb
            clear hlpb hc0
            go_wp2_with fail
            go_roundw
            case rel => exact ⟨k + 1, by omega, by go_num, by rw [HT.out], HLPB.out⟩
            case measure => simp [intOf]; omega
          · have hke : L.take k = L := List.take_of_length_le (by omega)
            rw [hke]
            have HLPK := hide hlpk
            obtain ⟨F, hF⟩ : ∃ F, F = N.frames L := ⟨_, rfl⟩
            have hFs : N.size L = F.size := by rw [hF, N.frames_size]
            have hsz := hlpk.size
            rw [hFs] at hsz
            rw [hFs, ← hF]
            have HSZ := hide hsz
            have HRC := hide hlpk.records
            have HFS := hide hFs
            have hF4 : F.size ≤ 4000 := by rw [← hFs]; exact hlpk.small
            clear hke hlpk hF hFs hsz
            go_wp2_with fail
            refine HSZ.out.mono ?_
            rintro o wb ⟨rfl, hw⟩
            rw [hw]
            clear hw
            go_wp2_with fail
            refine HRC.out.mono ?_
            rintro o wb ⟨u, rfl, hu, hlpb⟩
            have HSM := hide (hlpb.same hu)
            obtain ⟨ua, uc, rfl, _⟩ := hu
            clear hlpb HRC HSZ HLPK
            go_wp2_with fail
            refine HSM.out.mono ?_
            rintro o wc ⟨rfl, hlpc⟩
            have HLPC := hide hlpc
            have hfc := hlpc.fr
            clear hlpc HSM
            by_cases hil : i = L0.length
            · subst hil
              have HBW := hide (below_fr (HF2.out.trans hfc (fun _ _ e => e)))
              clear hfc
              go_wp2_with fail
              go_ret
              exact ⟨rfl, HBW.out⟩
            · have hil2 : i < L0.length := by omega
              have hile : ((i : Int) == (L0.length : Int)) = false := by simp; omega
              obtain ⟨b1, off1, cap1, x, c5, c6, c7, c8, c9, an, cn, e1, hx, g1, g2, g3, g4, g5, g6, y0, y1, y2, y3, y4, y5, y6, y7, y8, y9, y10⟩ := (HL.out.kept (below_fr (HF2.out.trans hfc (fun _ _ e => e)))).at i hil2
              simp only [Value.slice.injEq] at e1
              obtain ⟨rfl, _, rfl⟩ := e1
              unfold maxLen at g1 g2
              obtain ⟨k5, k6, s7, a8, n8, p8, a9, n9, p9, rfl, rfl, rfl, rfl, rfl⟩ := g4.shape
              clear g4 g5 g6 g3 hx hil
              have hup : bb + 2 = 3 + 2 * ((i + 1 : Nat) : Int) := by rw [HBE.out]; omega
              have HUP := hide hup
              have hFi : (F.size : Int) ≤ 4000 := by omega
              have hAl : Fr wc (wc.alloc (.cells #[.string x.kind, .string x.s, .string x.t, .int .i64 x.a, .int .i64 x.b, .int .i64 k5, .int .i64 k6, .string s7, .slice a8 n8 p8, .slice a9 n9 p9, .slice an x.nn cn] 58)) (fun _ => False) := (Fr.refl _ _).alloc _
              have HK := hide (HLPC.out.kept hAl)
              cases hadd : (x.kind.toList == [97, 100, 100]) with
              | true =>
                by_cases hno : 400 < x.s.size ∨ 4000 < F.size + x.s.size + 6
                · have HRF := hide (HK.out.refuses x.s (by rw [HFS.out]; exact hno) HBB.out)
                  have hno2 : 400 < (x.s.size : Int) ∨ (x.s.size : Int) ≤ 400 ∧ 4000 < (F.size : Int) + x.s.size + 6 := by omega
                  clear hno hup hAl HK
                  rcases hno2 with hno2 | ⟨hno2, hno3⟩
                  all_goals
                    go_wp2_with fail
                    refine HRF.out.mono ?_
                    rintro o wd ⟨rfl, hlpd⟩
                    have HLPD := hide (hlpd.up (b2 := 3 + 2 * ((i + 1 : Nat) : Int)) (by rw [← HUP.out]; omega))
                    have HSE := hide (same_err 2 2 wd (by decide))
                    clear hlpd HRF
                    go_wp2_with fail
                    refine HSE.out.mono ?_
                    rintro o we ⟨rfl, hw⟩
                    rw [hw]
                    clear hw
                    go_wp2_with fail
                    go_roundw
                    case rel => exact ⟨q2, i + 1, L, rfl, by rw [HFS.out], by go_num, by omega, HLPD.out⟩
                    case measure => simp [intOf]; omega
                · have hs4 : x.s.size ≤ 400 := by omega
                  have hz4 : F.size + x.s.size + 6 ≤ 4000 := by omega
                  have hs4i : (x.s.size : Int) ≤ 400 := by omega
                  have hz4i : (F.size : Int) + x.s.size + 6 ≤ 4000 := by omega
                  have HAD := hide (HLPC.out.adds_at hAl (by simp) x.s hs4 (by rw [HFS.out]; exact hz4) HBB.out)
                  clear hno hup hAl HK
                  go_wp2_with fail
                  refine HAD.out.mono ?_
                  rintro o wd ⟨rfl, hlpd, hblk⟩
                  have cS := cell_of_block (hblk.trans (heap_alloc_new _ _)) 1 _ rfl
                  rw [HUP.out] at hlpd
                  have HLPD := hide hlpd
                  have HSN := hide (same_nil 0 wd)
                  clear hlpd hblk HAD
                  go_wp2_with fail
                  refine HSN.out.mono ?_
                  rintro o we ⟨rfl, hw⟩
                  rw [hw]
                  clear hw HSN
                  go_wp2_with fail
                  have hu27 := HU27.out
                  obtain ⟨i0, hi0, hz0, hz1, hz2⟩ := info_parts HI9.out
                  have hnew : Hid (∀ (wC : World) (gC capC : Nat), Fr wd wC (fun _ => False) → wC.ownsRow wd.heap.size 9 1 (.slice (some ⟨gC, 0, none⟩) (L.length + 1) capC) (L.length + 1) (strs L ++ [.string x.s]) → Lp w2 wC g q2 (.slice (some ⟨gC, 0, none⟩) (L.length + 1) capC) (L ++ [x.s]) (L ++ [x.s]) (3 + 2 * ((i + 1 : Nat) : Int))) := by
                    intro wC gC capC hf ho
                    refine HLPD.out.turn hf ?_
                    have e2 : (L ++ [x.s]).length = L.length + 1 := by simp
                    have e3 : strs (L ++ [x.s]) = strs L ++ [.string x.s] := by unfold strs; rw [List.map_append]; rfl
                    rw [e2, e3]; exact ho
                  have hszn : N.size (L ++ [x.s]) = F.size + (6 + x.s.size) := by rw [N.size_append, HFS.out]
                  have HZN := hide hszn
                  clear hszn
                  by_cases hLe : L = []
                  · subst hLe
                    simp only [List.length_nil]
                    go_region_law
                      (first
                        | (refine step_append_nothing ?_ (.const (.slice none 0 0)) (.tmp 164) va vc ?_ ?_ ?_ ?_ ?_; rfl; rfl; rfl; rfl; rfl)
                        | (refine step_append_lies _ ?_ (.tmp 165) (.tmp 168) 27 ?_ wd.heap.size 9 i0 (.string ⟨#[]⟩) 1 16 hu27 hi0 hz0 hz1 hz2 rfl Nat.one_pos (.slice none 0 0) 0 [] ?_ ?_ ⟨wd.heap.size, 0, none⟩ 1 1 [.string x.s] ?_ rfl ?_ ?_ Nat.one_pos ?_ ?_ ?_ _ rfl ?_; rfl; rfl; rfl; exact World.ownsRow_nil ..; rfl; (first | exact news_alloc wd #[.string x.s] 9 _ rfl | exact news_alloc_drew wd #[.string x.s] 9 _ rfl); simp [Value.oneCell']; (unfold maxLen; omega); omega; (simp); intro gC capC wC hownC hgrowC hatC hltC; (have hfC : Fr wd wC (fun _ => False) := grew0 (by first | exact (Fr.refl wd _).alloc _ | exact ((Fr.refl wd _).alloc _).drew | exact (((Fr.refl wd _).drew).alloc _) | exact (((Fr.refl wd _).drew).alloc _).drew) hgrowC)))
                    all_goals
                      have HOK := hide (hnew.out wC gC capC hfC (by simpa [strs] using hownC))
                      have cT := kept_cell (below_fr hfC) cS
                      clear hownC hfC hgrowC hatC hltC cS
                      go_wp2_with fail
                      go_roundw
                      case rel => exact ⟨q2, i + 1, [] ++ [x.s], rfl, by rw [HZN.out]; congr 1; omega, by go_num, by omega, HOK.out⟩
                      case measure => simp [intOf]; omega
                  · obtain ⟨gr, rfl, hnw⟩ := lp_row HLPD.out hLe
                    have hlpos : 0 < L.length := List.length_pos_iff.2 hLe
                    have HNW := hide hnw
                    have hsl : (strs L).length = L.length * 1 := by rw [strs, List.length_map]; omega
                    have cS2 : wd.drew.cell? ⟨wc.heap.size, 1, none⟩ = some (.string x.s) := cS
                    clear hnw hLe
                    go_region_law
                      (first
                        | (refine step_append_lies _ ?_ (.const (.slice none 0 0)) (.tmp 164) 27 ?_ wd.heap.size 9 i0 (.string ⟨#[]⟩) 1 16 hu27 hi0 hz0 hz1 hz2 rfl Nat.one_pos (.slice none 0 0) 0 [] ?_ ?_ ⟨gr, 0, none⟩ L.length vc (strs L) ?_ hsl ?_ ?_ hlpos ?_ ?_ ?_ _ rfl ?_; rfl; rfl; rfl; exact World.ownsRow_nil ..; rfl; exact HNW.out _ (Below.refl _ _).drew; exact strs_one _; (unfold maxLen; omega); omega; (first | exact Nat.le_refl _ | (simp)); intro gA capA wA hownA hgrowA hatA hltA; have hfA : Fr wd wA (fun _ => False) := grew0 (Fr.refl wd _).drew hgrowA; have cA := kept_cell (below_fr hfA) cS; have hownB : wA.ownsRow wd.heap.size 9 1 (.slice (some ⟨gA, 0, none⟩) L.length capA) L.length (strs L) := (by simpa using hownA); have hgA := own_ge hownB)
                        | (refine step_append_lies _ ?_ (.const (.slice none 0 0)) (.tmp 164) 27 ?_ wd.heap.size 9 i0 (.string ⟨#[]⟩) 1 16 hu27 hi0 hz0 hz1 hz2 rfl Nat.one_pos (.slice none 0 0) 0 [] ?_ ?_ ⟨gr, 0, none⟩ L.length vc (strs L) ?_ hsl ?_ ?_ hlpos ?_ ?_ ?_ _ rfl ?_; rfl; rfl; rfl; exact World.ownsRow_nil ..; rfl; exact HNW.out _ ((Below.refl _ _).alloc (Nat.le_refl _) _).drew; exact strs_one _; (unfold maxLen; omega); omega; (first | exact Nat.le_refl _ | (simp)); intro gA capA wA hownA hgrowA hatA hltA; have hfA : Fr wd wA (fun _ => False) := grew0 ((Fr.refl wd _).alloc _).drew hgrowA; have cA := kept_cell (below_fr hfA) cS; have hownB : wA.ownsRow wd.heap.size 9 1 (.slice (some ⟨gA, 0, none⟩) L.length capA) L.length (strs L) := (by simpa using hownA); have hgA := own_ge hownB; have hnB := news_kept (w := wd) (s := x.s) rfl hgrowA)
                        | (refine step_append_lies _ ?_ (.tmp 165) (.tmp 168) 27 ?_ wd.heap.size 9 i0 (.string ⟨#[]⟩) 1 16 hu27 hi0 hz0 hz1 hz2 rfl Nat.one_pos (.slice (some ⟨gA, 0, none⟩) L.length capA) L.length (strs L) ?_ ?_ ⟨wA.heap.size, 0, none⟩ 1 1 [.string x.s] ?_ rfl ?_ ?_ Nat.one_pos ?_ ?_ ?_ _ rfl ?_; rfl; rfl; rfl; exact hownB.alloc _; rfl; exact news_alloc wA #[.string x.s] 9 _ rfl; simp [Value.oneCell']; (unfold maxLen; omega); omega; (have := hfA.size; simp; omega); intro gC capC wC hownC hgrowC hatC hltC; have hfC : Fr wd wC (fun _ => False) := grew (hfA.alloc _) hgA hgrowC)
                        | (refine step_append_lies _ ?_ (.tmp 165) (.tmp 168) 27 ?_ wd.heap.size 9 i0 (.string ⟨#[]⟩) 1 16 hu27 hi0 hz0 hz1 hz2 rfl Nat.one_pos (.slice (some ⟨gA, 0, none⟩) L.length capA) L.length (strs L) ?_ ?_ ⟨wd.heap.size, 0, none⟩ 1 1 [.string x.s] ?_ rfl ?_ ?_ Nat.one_pos ?_ ?_ ?_ _ rfl ?_; rfl; rfl; rfl; exact hownB; rfl; exact hnB; simp [Value.oneCell']; (unfold maxLen; omega); omega; (have := hfA.size; simp; omega); intro gC capC wC hownC hgrowC hatC hltC; have hfC : Fr wd wC (fun _ => False) := grew hfA hgA hgrowC))
                    all_goals
                      have HOK := hide (hnew.out wC gC capC hfC hownC)
                      have cT := kept_cell (below_fr hfC) cS
                      clear hownC hfC hgrowC hatC hltC hownA hownB hgrowA hatA hfA cS cA cS2
                      go_wp2_with fail
                      go_roundw
                      case rel => exact ⟨q2, i + 1, L ++ [x.s], rfl, by rw [HZN.out]; congr 1; omega, by go_num, by omega, HOK.out⟩
                      case measure => simp [intOf]; omega
              | false =>
                cases hclr : (x.kind.toList == [99, 108, 101, 97, 114]) with
                | true =>
                  have HCL := hide (HK.out.clears HBB.out)
                  clear hup hAl HK
                  go_wp2_with fail
                  refine HCL.out.mono ?_
                  rintro o wd ⟨rfl, hlpd⟩
                  rw [HUP.out] at hlpd
                  have HLPD := hide hlpd.letgo
                  clear hlpd HCL
                  go_wp2_with fail
                  go_roundw
                  case rel => exact ⟨q2, i + 1, [], rfl, rfl, by go_num, by omega, HLPD.out⟩
                  case measure => simp [intOf]; omega
                | false =>
                  have HOPN := hide (HK.out.opens HBB.out)
                  clear hup hAl HK
                  go_wp2_with fail
                  refine HOPN.out.mono ?_
                  rintro o wd ⟨q3, rfl, hlpd⟩
                  rw [HUP.out] at hlpd
                  have HLPD := hide hlpd
                  clear hlpd HOPN
                  go_wp2_with fail
                  go_roundw
                  case rel => exact ⟨q3, i + 1, L, rfl, by rw [HFS.out], by go_num, by omega, HLPD.out⟩
                  case measure => simp [intOf]; omega
end Go.Proofs.Ytmlbcdofogffkab
