/- TopLog's own walk. -/
import Derived.Test.YtmlbcdofogffkabDX
import Derived.Deep.CutBlock
namespace Go.Proofs.Ytmlbcdofogffkab
open Go.RowKit
attribute [local go_sem ↓] Go.wp_at_zero Go.wp_at_succ
theorem Strs.cell {w : World} {b off n cap : Nat} {l : List ByteArray} (h : Strs w (.slice (some ⟨b, off, none⟩) n cap) l) {i : Nat} {x : ByteArray} (hx : l[i]? = some x) : w.cell? ⟨b, off + i, none⟩ = some (.string x) := by
  obtain ⟨b2, o2, e, h2⟩ := h.at hx
  have e1 : b = b2 ∧ off = o2 := by simpa using e
  obtain ⟨rfl, rfl⟩ := e1
  exact h2
theorem own_ge {w : World} {base n m z b c : Nat} {t : TypeId} {xs : List Value} (h : w.ownsRow base t z (.slice (some ⟨b, 0, none⟩) n c) m xs) : base ≤ b := by
  rcases h.2 with ⟨h1, _⟩ | ⟨g, cap, cur, h1, h2, _⟩
  · cases h1
  · simp at h1; omega
/-- A new row has grown. -/
theorem grew {w wA wC : World} {n c gA : Nat} (hf : Fr w wA (fun _ => False)) (hg : w.heap.size ≤ gA) (hgrow : wA.grownBy wC (Value.slice (some ⟨gA, 0, none⟩) n c).ownBlock) : Fr w wC (fun _ => False) :=
  hf.grown hgrow (fun x e hx => by simp [Value.ownBlock] at e; omega)
theorem grew0 {w w1 wA : World} (hf : Fr w w1 (fun _ => False)) (hgrow : w1.grownBy wA (Value.slice none 0 0).ownBlock) : Fr w wA (fun _ => False) :=
  hf.grown hgrow (fun x e hx => by simp [Value.ownBlock] at e)
theorem news_kept {w w1 wA : World} {s : ByteArray} (h1 : w1 = (w.alloc (.cells #[.string s] 9)).drew) (hgrow : w1.grownBy wA (Value.slice none 0 0).ownBlock) : ∀ k u, [Value.string s][k]? = some u → wA.cell? ((⟨w.heap.size, 0, none⟩ : Addr).add k) = some u := by
  subst h1
  intro k u hu
  have h2 := news_alloc_drew w #[.string s] 9 _ rfl k u hu
  exact kept_cell ((grew0 (Fr.refl _ _) hgrow).below (Nat.le_refl _) (fun _ e => e.elim)) h2
theorem upto_len {l : List ByteArray} {j : Nat} (h : j < l.length) : (one :: l.take j).length = j + 1 := by rw [List.length_cons, List.length_take]; omega
set_option maxRecDepth 100000 in
set_option maxHeartbeats 4000000 in
theorem topLog_any (l : List ByteArray) (v : Value) (fuse keep torn : Int) (w : World) (hl : Strs w v l) (hfu : -9223372036854775808 ≤ fuse ∧ fuse ≤ 9223372036854775807) (hkp : -9223372036854775808 ≤ keep ∧ keep ≤ 9223372036854775807) (htn : -9223372036854775808 ≤ torn ∧ torn ≤ 9223372036854775807) :
    Calls Try.prog 7 #[v, .int .i64 fuse, .int .i64 keep, .int .i64 torn] w fun o w' => o = .returned (.bool true) ∧ Below w.heap.size w w' := by
  obtain ⟨al, cl, rfl, _⟩ := id hl
  have hnew := new_any w
  have HNEW := hide hnew
  have HL := hide hl
  clear hnew hl
  go_enter Try.func7, Try.ntmps7
  go_wp2_with fail
  refine HNEW.out.mono ?_
  rintro o w1 ⟨g, rfl, hD1, hf1⟩
  have hop := open_any w1 _ g nl Dk.new hD1.shrink (fun x hx => hx.2) new_fits (by decide) may_nl rfl (fun h => absurd h new_opened.2.1)
  rw [new_opened.1, new_opened.2.2] at hop
  have HOP := hide hop
  have HF1 := hide hf1
  clear hop hf1 hD1
  go_wp2_with fail
  refine HOP.out.mono ?_
  rintro o w2 ⟨⟨q, rfl, B', B2', hD2, hL2, hB2, hBl2, hdis2⟩, hf2⟩
  have had := add_any w2 B' B2' q g nl one [] Dk.new hD2 hL2 (fun x hx => (hB2 x hx).2) (fun x hx => (hBl2 x hx).2) hdis2 new_fits (by decide) (by decide) (by decide) (new_did_fits one (by decide))
  have hf12 : Fr w w2 (fun _ => False) := HF1.out.trans hf2 (fun x hx e => by omega)
  have hBw : ∀ x, (B' x ∨ B2' x) → w.heap.size ≤ x := by
    intro x hx
    have h1 := HF1.out.size
    rcases hx with hx | hx
    · rcases (hB2 x hx).1 with h | h
      · exact h.1
      · omega
    · rcases (hBl2 x hx).1 with h | h
      · exact h.elim
      · omega
  have HAD := hide had
  have HF12 := hide hf12
  have HBW := hide hBw
  clear had hf12 hBw hD2 hL2 hB2 hBl2 hdis2 hf2
  go_wp2_with fail
  refine HAD.out.mono ?_
  rintro o w3 ⟨hadd, hf3⟩
  have hmain : o = .returned .nilIface ∧ Both w2 w3 B' B2' q g nl (Dk.new.wrote (addCh one)) [one] := by
    rcases hadd with ⟨h0, _⟩ | ⟨_, ⟨h0, _⟩ | ⟨_, h0, _⟩ | ⟨_, _, h1, h2⟩⟩
    · exact absurd (new_more one (by decide)) h0
    · exact absurd h0 new_not
    · exact absurd h0 (new_did_not one)
    · exact ⟨h1, h2⟩
  obtain ⟨rfl, B3, B4, hD3, hL3, hB3, hB4, hdis3⟩ := hmain
  have hst3 := new_wrote one
  have hfw3 : Fr w w3 (fun _ => False) := HF12.out.trans hf3 (fun x hx e => by have := HBW.out x e; omega)
  have hl3 : Strs w3 (.slice al l.length cl) l := HL.out.kept (hfw3.below (Nat.le_refl _) (fun _ e => e.elim)) (Nat.le_refl _)
  have hBx : (∀ x, B3 x → w.heap.size ≤ x ∧ x < w3.heap.size) ∧ ∀ x, B4 x → w.heap.size ≤ x ∧ x < w3.heap.size := by
    have h2 := HF12.out.size
    refine ⟨fun x hx => ⟨?_, (hB3 x hx).2⟩, fun x hx => ⟨?_, (hB4 x hx).2⟩⟩
    · rcases (hB3 x hx).1 with h | h
      · exact HBW.out x (.inl h)
      · omega
    · rcases (hB4 x hx).1 with h | h
      · exact HBW.out x (.inr h)
      · omega
  have HFW := hide hfw3
  have HL3 := hide hl3
  have HBX := hide hBx
  have HD3 := hide hD3
  have HLG := hide hL3
  have HDIS := hide hdis3
  have HST := hide hst3
  clear hfw3 hl3 hBx hD3 hL3 hdis3 hst3 hB3 hB4 hf3 hadd HF12 HBW HF1
  by_cases hlong : 12 < l.length
  · go_wp2_with fail
    go_ret
    exact ⟨rfl, HFW.out.below (Nat.le_refl _) (fun _ e => e.elim)⟩
  · go_wp2_with fail
    go_loopw [12] (fun vi wx => ∃ i : Nat, i ≤ l.length ∧ vi = .int .i64 i ∧ wx = w3 ∧ ∀ r ∈ l.take i, r.size ≤ 300) (fun vi _ => l.length - (intOf vi).toNat)
    case atStart => exact ⟨0, Nat.zero_le _, rfl, rfl, fun r hr => by simp at hr⟩
    case round =>
      obtain ⟨i, hi, rfl, rfl, hall⟩ := hrel
      by_cases hlt : i < l.length
      · obtain ⟨x, hx⟩ : ∃ x, l[i]? = some x := ⟨_, List.getElem?_eq_getElem hlt⟩
        obtain ⟨b1, o1, rfl, c1⟩ := HL3.out.at hx
        have HALL := hide hall
        have HX := hide hx
        clear hall hx
        by_cases hbig : 300 < x.size
        · go_wp2_with fail
          go_ret
          exact ⟨rfl, HFW.out.below (Nat.le_refl _) (fun _ e => e.elim)⟩
        · go_wp2_with fail
          go_roundw
          case rel =>
            refine ⟨i + 1, by omega, by go_num, by trivial, fun r hr => ?_⟩
            have e : l.take (i + 1) = l.take i ++ [x] := by rw [List.take_add_one, HX.out]; rfl
            rw [e] at hr
            rcases List.mem_append.1 hr with hr | hr
            · exact HALL.out r hr
            · have : r = x := by simpa using hr
              subst this; omega
          case measure => simp [intOf]; omega
      · have HALL : Hid (∀ r ∈ l, r.size ≤ 300) := by
          have e : l.take i = l := List.take_of_length_le (by omega)
          rw [e] at hall; exact hall
        clear hall
        go_upto_region 14 with fail
        have HARM := hide (fun n => arm_any wr B3 g (Dk.new.wrote (addCh one)) n HD3.out)
        go_cut [] from 54 to 58 (fun wx => ∃ a : Int, (-1 ≤ a ∧ a ≤ 100) ∧ Disk wx B3 g ((Dk.new.wrote (addCh one)).armed a) ∧ Fr wr wx (fun c => c = g))
        case first =>
          go_wp2_with fail
          all_goals
            refine (HARM.out _).mono ?_
            rintro o w4 ⟨rfl, hD4, hf4⟩
            have HD4 := hide hD4
            have HF4 := hide hf4
            clear hD4 hf4
            go_wp2_with fail
            go_meet
            exact ⟨_, by omega, HD4.out, HF4.out⟩
        case rest =>
          obtain ⟨a, ha, hDc, hfc⟩ := hcut
          have HSTART := hide (adding_start l HFW.out HBX.out hDc hfc HLG.out HDIS.out HST.out ha)
          clear hDc hfc HARM HD3 HLG HDIS HST
          go_upto_block 2 with fail
          go_cut [13, 14, 15, 16] from 61 to 96 (fun vw vl _ _ wx => Falls w wx g keep torn vw vl)
          case first =>
            go_wp2_with fail
            go_loopw [13, 14, 15, 16] (fun vw vl vi _ wx => ∃ i : Nat, i ≤ l.length ∧ vi = .int .i64 i ∧ Adding w wx q g l vw vl i) (fun _ _ vi _ _ => l.length - (intOf vi).toNat)
            case atStart => exact ⟨0, Nat.zero_le _, rfl, HSTART.out⟩
            case round =>
              obtain ⟨j, hj, rfl, hA⟩ := hrel
              by_cases hjl : j < l.length
              · obtain ⟨x, hx⟩ : ∃ x, l[j]? = some x := ⟨_, List.getElem?_eq_getElem hjl⟩
                have hxs : x.size ≤ 300 := HALL.out x (List.mem_of_getElem? hx)
                have hfr : Fr w wr (fun _ => False) := by obtain ⟨_, _, _, _, _, _, _, _, _, _, _, h⟩ := hA; exact h
                have hlr : Strs wr (.slice al l.length cl) l := HL.out.kept (hfr.below (Nat.le_refl _) (fun _ e => e.elim)) (Nat.le_refl _)
                obtain ⟨b1, o1, rfl, c1⟩ := hlr.at hx
                have HSTEP := hide (hA.step HALL.out (i := j) (by omega) hxs)
                have HX := hide hx
                clear hA hx hfr hlr
                go_wp2_with fail
                refine HSTEP.out.mono ?_
                rintro o w5 (⟨rfl, hm⟩ | ⟨rfl, hm⟩)
                · have hM := id hm
                  obtain ⟨_, _, _, _, _, _, _, _, _, hw5, hf5⟩ := hm
                  have how := hw5.1
                  rw [upto_len hjl] at how
                  obtain ⟨aw, cw, rfl⟩ := owns_shape how
                  have c5 := (HL.out.kept (hf5.below (Nat.le_refl _) (fun _ e => e.elim)) (Nat.le_refl _)).cell HX.out
                  have hsz5 := hf5.size
                  have HM := hide hM
                  have HOW := hide how
                  clear hw5 how hM hf5 HSTEP c1
                  obtain ⟨i0, hi0, hz0, hz1, hz2⟩ := info_parts info9
                  go_wp2_with (at_builtin; go_must (refine wpList_append_lies _ rfl (.tmp 75) (.tmp 80) 27 rfl w.heap.size 9 i0 (.string ⟨#[]⟩) 1 16 u27 hi0 hz0 hz1 hz2 rfl (by decide) (.slice aw (j + 1) cw) (j + 1) (strs (one :: l.take j)) rfl (HOW.out.alloc _) ⟨w5.heap.size, 0, none⟩ 1 1 [.string x] rfl rfl (news_alloc _ #[.string x] _ _ rfl) (by simp [Value.oneCell']) (by decide) (by unfold maxLen; omega) (by omega) (by simp; omega) _ rfl ?_); intro gA capA wA hownA hgrow hat hltA)
                  have hnx := HM.out.next HX.out hownA (upto_len hjl).symm hgrow (by rcases hat with h | h; exact .inl h; right; simp at h; omega) hltA
                  have HNX := hide hnx
                  clear hnx hownA hgrow hat
                  go_wp2_with fail
                  go_roundw
                  case rel => exact ⟨j + 1, by omega, by go_num, HNX.out⟩
                  case measure => simp [intOf]; omega
                · have hM := id hm
                  obtain ⟨_, _, _, _, _, _, hw5, hf5⟩ := hm
                  have how := hw5.1
                  rw [upto_len hjl] at how
                  obtain ⟨gr, cw, rfl⟩ : ∃ gr c, u13 = .slice (some ⟨gr, 0, none⟩) (j + 1) c := by
                    rcases how.2 with ⟨_, h0⟩ | ⟨gr, cap, cur, h1, _⟩
                    · omega
                    · exact ⟨gr, cap, h1⟩
                  have c5 := (HL.out.kept (hf5.below (Nat.le_refl _) (fun _ e => e.elim)) (Nat.le_refl _)).cell HX.out
                  have hsz5 := hf5.size
                  have HM := hide hM
                  have HNW : Hid (∀ W, Below w5.heap.size w5 W → ∀ k u, (strs (one :: l.take j))[k]? = some u → W.cell? ((⟨gr, 0, none⟩ : Addr).add k) = some u) := fun W hb k u hu => kept_cell hb (how.cells (g := gr) rfl k u hu)
                  have hsl : (strs (one :: l.take j)).length = (j + 1) * 1 := by rw [strs, List.length_map, upto_len hjl]; omega
                  have HN := hide (number_err 10 w5)
                  clear hw5 how hM hf5 HSTEP c1
                  obtain ⟨i0, hi0, hz0, hz1, hz2⟩ := info_parts info9
                  go_wp2_with fail
                  refine HN.out.mono ?_
                  rintro o w5b ⟨rfl, rfl⟩
                  go_wp2_with fail
                  go_region_law
                    (first
                      | (refine step_append_lies _ ?_ (.const (.slice none 0 0)) (.tmp 89) 27 ?_ w5b.heap.size 9 i0 (.string ⟨#[]⟩) 1 16 u27 hi0 hz0 hz1 hz2 rfl Nat.one_pos (.slice none 0 0) 0 [] ?_ ?_ ⟨gr, 0, none⟩ (j + 1) cw (strs (one :: l.take j)) ?_ hsl ?_ ?_ (Nat.succ_pos _) ?_ ?_ ?_ _ rfl ?_; rfl; rfl; rfl; exact World.ownsRow_nil ..; rfl; exact HNW.out _ (Below.refl _ _).drew; exact strs_one _; (unfold maxLen; omega); omega; (first | exact Nat.le_refl _ | (simp)); intro gA capA wA hownA hgrowA hatA hltA; have hfA : Fr w5b wA (fun _ => False) := grew0 (Fr.refl w5b _).drew hgrowA; have cA := kept_cell (hfA.below (Nat.le_refl _) (fun _ e => e.elim)) c5; have hownB : wA.ownsRow w5b.heap.size 9 1 (.slice (some ⟨gA, 0, none⟩) (j + 1) capA) (j + 1) (strs (one :: l.take j)) := (by simpa using hownA); have hgA := own_ge hownB)
                      | (refine step_append_lies _ ?_ (.const (.slice none 0 0)) (.tmp 89) 27 ?_ w5b.heap.size 9 i0 (.string ⟨#[]⟩) 1 16 u27 hi0 hz0 hz1 hz2 rfl Nat.one_pos (.slice none 0 0) 0 [] ?_ ?_ ⟨gr, 0, none⟩ (j + 1) cw (strs (one :: l.take j)) ?_ hsl ?_ ?_ (Nat.succ_pos _) ?_ ?_ ?_ _ rfl ?_; rfl; rfl; rfl; exact World.ownsRow_nil ..; rfl; exact HNW.out _ ((Below.refl _ _).alloc (Nat.le_refl _) _).drew; exact strs_one _; (unfold maxLen; omega); omega; (first | exact Nat.le_refl _ | (simp)); intro gA capA wA hownA hgrowA hatA hltA; have hfA : Fr w5b wA (fun _ => False) := grew0 ((Fr.refl w5b _).alloc _).drew hgrowA; have cA := kept_cell (hfA.below (Nat.le_refl _) (fun _ e => e.elim)) c5; have hownB : wA.ownsRow w5b.heap.size 9 1 (.slice (some ⟨gA, 0, none⟩) (j + 1) capA) (j + 1) (strs (one :: l.take j)) := (by simpa using hownA); have hgA := own_ge hownB; have hnB := news_kept (w := w5b) (s := x) rfl hgrowA)
                      | (refine step_append_lies _ ?_ (.tmp 90) (.tmp 95) 27 ?_ w5b.heap.size 9 i0 (.string ⟨#[]⟩) 1 16 u27 hi0 hz0 hz1 hz2 rfl Nat.one_pos (.slice (some ⟨gA, 0, none⟩) (j + 1) capA) (j + 1) (strs (one :: l.take j)) ?_ ?_ ⟨wA.heap.size, 0, none⟩ 1 1 [.string x] ?_ rfl ?_ ?_ Nat.one_pos ?_ ?_ ?_ _ rfl ?_; rfl; rfl; rfl; exact hownB.alloc _; rfl; exact news_alloc wA #[.string x] 9 _ rfl; simp [Value.oneCell']; (unfold maxLen; omega); omega; (have := hfA.size; simp; omega); intro gC capC wC hownC hgrowC hatC hltC; have hfC : Fr w5b wC (fun _ => False) := grew (hfA.alloc _) hgA hgrowC)
                      | (refine step_append_lies _ ?_ (.tmp 90) (.tmp 95) 27 ?_ w5b.heap.size 9 i0 (.string ⟨#[]⟩) 1 16 u27 hi0 hz0 hz1 hz2 rfl Nat.one_pos (.slice (some ⟨gA, 0, none⟩) (j + 1) capA) (j + 1) (strs (one :: l.take j)) ?_ ?_ ⟨w5b.heap.size, 0, none⟩ 1 1 [.string x] ?_ rfl ?_ ?_ Nat.one_pos ?_ ?_ ?_ _ rfl ?_; rfl; rfl; rfl; exact hownB; rfl; exact hnB; simp [Value.oneCell']; (unfold maxLen; omega); omega; (have := hfA.size; simp; omega); intro gC capC wC hownC hgrowC hatC hltC; have hfC : Fr w5b wC (fun _ => False) := grew hfA hgA hgrowC))
                  all_goals
                    have hownD : wC.ownsRow w5b.heap.size 9 1 (.slice (some ⟨gC, 0, none⟩) (j + 1 + 1) capC) (one :: l.take j ++ [x]).length (strs (one :: l.take j ++ [x])) := by
                      have e2 : (one :: l.take j ++ [x]).length = j + 1 + 1 := by rw [List.length_append, upto_len hjl]; rfl
                      have e3 : strs (one :: l.take j ++ [x]) = strs (one :: l.take j) ++ [.string x] := by unfold strs; rw [List.map_append]; rfl
                      rw [e2, e3]; exact hownC
                    have HFIN := hide (HM.out.last HALL.out (by omega) hxs hfC hownD keep torn)
                    clear hownD hownC hfC hgrowC hatC hownA hownB hgrowA hatA hfA
                    go_wp2_with fail
                    go_meet
                    exact HFIN.out
              · have HA := hide (hA.falls HALL.out (by omega) keep torn)
                clear hA
                go_wp2_with fail
                go_meet
                exact HA.out
          case rest =>
            have HRS := hide (hcut.restart hkp htn)
            clear hcut HSTART
            go_wp2_with fail
            refine HRS.out.mono ?_
            rintro o w6 ⟨rfl, h6⟩
            have HOP6 := hide h6.opens
            clear h6
            go_wp2_with fail
            refine HOP6.out.mono ?_
            rintro o w7 ⟨q7, G, rfl, h7⟩
            have HRC := hide h7.records
            clear h7
            go_wp2_with fail
            refine HRC.out.mono ?_
            rintro o w8 ⟨u, rfl, h8⟩
            have HOP8 := hide h8.opens
            clear h8
            go_wp2_with fail
            refine HOP8.out.mono ?_
            rintro o w9 ⟨q9, rfl, h9⟩
            obtain ⟨L, P, hLP, hs2, hs1⟩ := h9.same
            have HS1 := hide hs1
            have HS2 := hide hs2
            clear hs1 hs2 h9
            go_wp2_with fail
            refine HS1.out.mono ?_
            rintro o w10 ⟨⟨b1, rfl, hb1⟩, h10, hbel⟩
            cases b1 with
            | true =>
              have HRC2 := hide h10.records
              clear h10
              go_wp2_with fail
              refine HRC2.out.mono ?_
              rintro o w11 ⟨u2, rfl, h11⟩
              have HSM := hide h11.same
              clear h11
              go_wp2_with fail
              refine HSM.out.mono ?_
              rintro o w12 ⟨rfl, h12⟩
              have H12 := hide h12
              clear h12
              go_wp2_with fail
              go_ret
              exact ⟨rfl, H12.out⟩
            | false =>
              have hGP : G = P := hLP.resolve_left (fun e => by have := hb1 e; cases this)
              have HS2' := hide (HS2.out w10 h10 hbel)
              clear h10 hbel
              go_wp2_with fail
              refine HS2'.out.mono ?_
              rintro o w10b ⟨⟨b2, rfl, hb2⟩, h10⟩
              obtain rfl : b2 = true := hb2 hGP
              have HRC2 := hide h10.records
              clear h10
              go_wp2_with fail
              refine HRC2.out.mono ?_
              rintro o w11 ⟨u2, rfl, h11⟩
              have HSM := hide h11.same
              clear h11
              go_wp2_with fail
              refine HSM.out.mono ?_
              rintro o w12 ⟨rfl, h12⟩
              have H12 := hide h12
              clear h12
              go_wp2_with fail
              go_ret
              exact ⟨rfl, H12.out⟩
end Go.Proofs.Ytmlbcdofogffkab
