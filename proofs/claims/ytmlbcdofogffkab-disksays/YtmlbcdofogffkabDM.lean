/- A log in memory; walog.take, read. -/
import Derived.Test.YtmlbcdofogffkabDL
namespace Go.Proofs.Ytmlbcdofogffkab
open Go.RowKit
attribute [local go_sem ↓] Go.wp_at_zero Go.wp_at_succ
theorem info9 : (Try.prog.info? 9).map (fun i => (i.zero, i.size, i.bytes)) = some (some (.string ⟨#[]⟩), 1, 16) := by kernel_rfl
theorem u27 : Try.prog.underlying 27 = some (.slice 9) := by kernel_rfl
namespace N
/-- How many bytes the frames of these records take. -/
def size : List ByteArray → Nat
  | [] => 0
  | r :: R => 6 + r.size + size R
theorem size_append : ∀ (R : List ByteArray) (s : ByteArray), size (R ++ [s]) = size R + (6 + s.size)
  | [], s => by simp [size]
  | r :: R, s => by rw [List.cons_append, size, size_append R s, size]; omega
end N
def strs (R : List ByteArray) : List Value := R.map Value.string
/-- Block q is a log of these records; its blocks are in B. -/
def Logs (w : World) (B : Nat → Prop) (q g : Nat) (n : ByteArray) (R : List ByteArray) : Prop :=
  ∃ rv, w.heap[q]? = some (.cells #[.pointer (some ⟨g, 0, none⟩), .string n, rv, .int .i64 (N.size R)] 162 (0, 0)) ∧ w.ownsRow 0 9 1 rv R.length (strs R) ∧ B q ∧ ∀ c, rv.ownBlock = some c → B c
theorem Logs.fr {w w' : World} {B ex : Nat → Prop} {q g : Nat} {n : ByteArray} {R : List ByteArray} (h : Logs w B q g n R) (hf : Fr w w' ex) (hne : ∀ c, B c → ¬ ex c) : Logs w' B q g n R := by
  obtain ⟨rv, h1, h2, h3, h4⟩ := h
  exact ⟨rv, (hf.block q (Array.getElem?_eq_some_iff.1 h1).1 (hne q h3)).trans h1, owns_fr h2 hf (fun c hc => hne c (h4 c hc)), h3, h4⟩
set_option maxRecDepth 100000 in
set_option maxHeartbeats 1000000 in
theorem take_any (w : World) (B : Nat → Prop) (q g : Nat) (n : ByteArray) (R : List ByteArray) (s : ByteArray) (h : Logs w B q g n R) (hR : R.length ≤ 100000) (hz : N.size R ≤ 1000000 ∧ s.size ≤ 1000000) :
    Calls Try.prog 99 #[.pointer (some ⟨q, 0, none⟩), .string s] w fun o w' => o = .returned (.tuple #[]) ∧ (∃ B', Logs w' B' q g n (R ++ [s]) ∧ ∀ x, B' x → B x ∨ w.heap.size ≤ x) ∧ Fr w w' B := by
  obtain ⟨rv, h1, h2, h3, h4⟩ := h
  obtain ⟨av, cp, rfl⟩ := owns_shape h2
  have c2 := cell_of_block h1 2 _ rfl
  have c3 := cell_of_block h1 3 _ rfl
  obtain ⟨i0, hi0, hz0, hz1, hz2⟩ := info_parts info9
  have KG : Hid (∀ wA, (w.alloc (.cells #[.string s] 9)).grownBy wA (Value.slice av R.length cp).ownBlock → wA.heap[q]? = some (.cells #[.pointer (some ⟨g, 0, none⟩), .string n, .slice av R.length cp, .int .i64 (N.size R)] 162 (0, 0))) := by
    intro wA hg
    have hf := grown_fr ((Fr.refl w _).alloc _) hg
    exact (hf.block q (Array.getElem?_eq_some_iff.1 h1).1 (owns_ne h2 h1 (fun cs x hh => by cases hh))).trans h1
  have KD : Hid (∀ wA, (w.alloc (.cells #[.string s] 9)).grownBy wA (Value.slice av R.length cp).ownBlock → wA.cell? ⟨q, 2, none⟩ = some (.slice av R.length cp) ∧ wA.frozen? ⟨q, 2, none⟩ = false ∧ wA.cell? ⟨q, 3, none⟩ = some (.int .i64 (N.size R)) ∧ wA.frozen? ⟨q, 3, none⟩ = false) := fun wA hg =>
    ⟨cell_of_block (KG.out wA hg) 2 _ rfl, free_of_block (KG.out wA hg) 2, cell_of_block (KG.out wA hg) 3 _ rfl, free_of_block (KG.out wA hg) 3⟩
  have HOW := hide h2
  have H3 := hide h3
  have H4 := hide h4
  have hql : q < w.heap.size := (Array.getElem?_eq_some_iff.1 h1).1
  clear h1 h2 h3 h4
  go_enter Try.func99, Try.ntmps99
  go_wp2_with (at_builtin; go_must (refine wpList_append_lies _ rfl (.tmp 8) (.tmp 10) 27 rfl 0 9 i0 (.string ⟨#[]⟩) 1 16 u27 hi0 hz0 hz1 hz2 rfl (by decide) (.slice av R.length cp) R.length (strs R) rfl (HOW.out.alloc _) ⟨w.heap.size, 0, none⟩ 1 1 [.string s] rfl rfl (news_alloc _ #[.string s] _ _ rfl) (by simp [Value.oneCell']) (by decide) (by unfold maxLen; omega) (by omega) (Nat.zero_le _) _ rfl ?_); intro gA capA wA hownA hgrow hat hltA; obtain ⟨d2, e2, d3, e3⟩ := KD.out wA hgrow)
  go_end0
  have hqA := KG.out wA hgrow
  have hfA : Fr w wA B := ((Fr.refl w B).alloc _).grown hgrow (fun c e _ => H4.out c e)
  have hB1 := block_set (i := 3) (block_set (i := 2) hqA (.slice (some ⟨gA, 0, none⟩) (R.length + 1) capA)) (.int .i64 (N.size (R ++ [s])))
  have hs2 := Fr.set2 wA q 2 3 (.slice (some ⟨gA, 0, none⟩) (R.length + 1) capA) (.int .i64 (N.size (R ++ [s])))
  have hown2 : wA.ownsRow 0 9 1 (.slice (some ⟨gA, 0, none⟩) (R.length + 1) capA) (R ++ [s]).length (strs (R ++ [s])) := by
    unfold strs
    rw [List.length_append, List.map_append]
    exact hownA
  have hown3 := owns_fr hown2 hs2 (fun c hc e => owns_ne hown2 hqA (fun cs x hh => by cases hh) (by rw [← e]; exact hc))
  have hin : ∀ x, (B x ∨ x = gA) → B x ∨ w.heap.size ≤ x := by
    intro x hx
    rcases hx with hx | rfl
    · exact .inl hx
    · rcases hat with h | h
      · exact .inl (H4.out _ h)
      · right
        simp at h
        omega
  have hlog : Logs ((wA.setCell ⟨q, 2, none⟩ (.slice (some ⟨gA, 0, none⟩) (R.length + 1) capA)).setCell ⟨q, 3, none⟩ (.int .i64 (N.size (R ++ [s])))) (fun x => B x ∨ x = gA) q g n (R ++ [s]) :=
    ⟨_, hB1, hown3, .inl H3.out, fun c hc => .inr (by cases hc; rfl)⟩
  have hfin := hfA.trans hs2 (fun c _ e => by rw [e]; exact H3.out)
  have hsz : (N.size R : Int) + (6 + s.size) = N.size (R ++ [s]) := by rw [N.size_append]; omega
  rw [hsz]
  exact ⟨rfl, ⟨_, hlog, hin⟩, hfin⟩
namespace N
theorem first_size {d s : ByteArray} (h : first d = some s) : 6 + s.size ≤ d.size ∧ s.size ≤ 400 := by
  unfold first at h
  split at h
  · cases h
  · rename_i hn
    split at h
    · have e : d.extract 6 (6 + count d) = s := by simpa using h
      rw [← e]
      have h2 : (d.extract 6 (6 + count d)).size = min (6 + count d) d.size - 6 := by simp
      rw [h2]
      omega
    · cases h
/-- The records from a place on. -/
def parse : Nat → ByteArray → Nat → List ByteArray
  | 0, _, _ => []
  | k + 1, d, o => match first (d.extract o d.size) with | some s => s :: parse k d (o + (6 + s.size)) | none => []
/-- The records of a file. -/
def all (d : ByteArray) : List ByteArray := parse (d.size + 1) d 0
end N
/-- Where a log stands, by its own cell. -/
def standsAt (w : World) (q : Nat) : Nat := match w.heap[q]? with | some (.cells cs _ _) => (intOf (cs.getD 3 undef)).toNat | _ => 0
theorem standsAt_eq {w : World} {B : Nat → Prop} {q g : Nat} {n : ByteArray} {R : List ByteArray} (h : Logs w B q g n R) : standsAt w q = N.size R := by
  obtain ⟨rv, h1, _⟩ := h
  unfold standsAt
  rw [h1]
  simp [intOf]
set_option maxRecDepth 100000 in
set_option maxHeartbeats 1000000 in
theorem logRead_any (w : World) (B : Nat → Prop) (q g : Nat) (n d : ByteArray) (h : Logs w B q g n []) (hd : d.size ≤ 10000) :
    Calls Try.prog 94 #[.pointer (some ⟨q, 0, none⟩), .string d] w fun o w' => o = .returned (.tuple #[]) ∧ (∃ B', Logs w' B' q g n (N.all d) ∧ ∀ x, B' x → B x ∨ w.heap.size ≤ x) ∧ Fr w w' B ∧ N.size (N.all d) ≤ d.size := by
  have HL := hide h
  have hql : q < w.heap.size := by obtain ⟨rv, h1, _⟩ := h; exact (Array.getElem?_eq_some_iff.1 h1).1
  clear h
  go_enter Try.func94, Try.ntmps94
  go_wp2_with fail
  go_loopw [4, 5] (fun _ _ wx => ∃ (R : List ByteArray) (Bx : Nat → Prop) (k : Nat), Logs wx Bx q g n R ∧ (∀ x, Bx x → B x ∨ w.heap.size ≤ x) ∧ Fr w wx B ∧ N.size R ≤ d.size ∧ N.all d = R ++ N.parse k d (N.size R) ∧ d.size - N.size R < k ∧ R.length ≤ N.size R) (fun _ _ wx => d.size - standsAt wx q)
  case atStart => exact ⟨[], B, d.size + 1, HL.out, fun x hx => .inl hx, Fr.refl _ _, Nat.zero_le _, rfl, Nat.lt_succ_self _, Nat.le_refl _⟩
  case round =>
    obtain ⟨wx, hwx⟩ : ∃ z, z = wr := ⟨_, rfl⟩
    subst hwx
    obtain ⟨R, Bx, k, hLx, hBx, hfx, hsz, hall, hk, hRl⟩ := hrel
    obtain ⟨k2, rfl⟩ : ∃ k2, k = k2 + 1 := ⟨k - 1, by omega⟩
    have hst := standsAt_eq hLx
    have hfi := first_any (d.extract (N.size R) d.size) wx (by simp; omega)
    have c3 : wx.cell? ⟨q, 3, none⟩ = some (.int .i64 (N.size R)) := by obtain ⟨rv, h1, _⟩ := hLx; exact cell_of_block h1 3 _ rfl
    rw [N.parse] at hall
    have HFI := hide hfi
    have HLX := hide hLx
    have HBX := hide hBx
    have HFX := hide hfx
    clear hfi hLx hBx hfx
    cases hf : N.first (d.extract (N.size R) d.size) with
    | none =>
      rw [hf] at HFI hall
      simp only [List.append_nil] at hall
      have HA := hide hall
      clear hall hf
      go_wp2_with fail
      refine HFI.out.mono ?_
      rintro o w2 ⟨rfl, hf2⟩
      have HF2 := hide hf2
      clear hf2 c3
      simp only [Option.getD_none, Option.isSome_none]
      go_wp2_with fail
      refine bodyPost_ret (results_none rfl _ _ _) rfl ?_
      rw [HA.out]
      exact ⟨rfl, ⟨_, HLX.out.fr HF2.out (fun _ _ h => h), HBX.out⟩, HFX.out.trans HF2.out (fun _ _ h => h.elim), hsz⟩
    | some s =>
      rw [hf] at HFI hall
      obtain ⟨hs1, hs2⟩ := N.first_size hf
      have hs3 : N.size R + (6 + s.size) ≤ d.size := by
        have : (d.extract (N.size R) d.size).size = d.size - N.size R := by simp
        omega
      have K : Hid (∀ w2, Fr wx w2 (fun _ => False) → Calls Try.prog 99 #[.pointer (some ⟨q, 0, none⟩), .string s] w2 fun o w' => o = .returned (.tuple #[]) ∧ (∃ B', Logs w' B' q g n (R ++ [s]) ∧ ∀ x, B' x → Bx x ∨ w2.heap.size ≤ x) ∧ Fr w2 w' Bx) := fun w2 hf2 => take_any w2 Bx q g n R s (HLX.out.fr hf2 (fun _ _ h => h)) (by omega) ⟨by omega, by omega⟩
      have HA := hide hall
      have HST := hide hst
      clear hall hf hst
      go_wp2_with fail
      refine HFI.out.mono ?_
      rintro o w2 ⟨rfl, hf2⟩
      have HF2 := hide hf2
      have HK := hide (K.out w2 hf2)
      clear hf2 c3 K
      simp only [Option.getD_some, Option.isSome_some]
      go_wp2_with fail
      refine HK.out.mono ?_
      rintro o w3 ⟨rfl, ⟨B3, hL3, hB3⟩, hf3⟩
      have hf13 : Fr w w3 B := by
        refine (HFX.out.trans HF2.out (fun _ _ h => h.elim)).trans hf3 (fun c hc e => ?_)
        rcases HBX.out c e with h | h
        · exact h
        · omega
      have hB13 : ∀ x, B3 x → B x ∨ w.heap.size ≤ x := by
        intro x hx
        rcases hB3 x hx with h | h
        · exact HBX.out x h
        · exact .inr (Nat.le_trans (Nat.le_trans HFX.out.size HF2.out.size) h)
      have hst3 := standsAt_eq hL3
      have HL3 := hide hL3
      have HF13 := hide hf13
      have HB13 := hide hB13
      have HST3 := hide hst3
      clear hL3 hf13 hB13 hf3 hB3 hst3
      go_wp2_with fail
      go_roundw
      case rel =>
        refine ⟨R ++ [s], B3, k2, HL3.out, HB13.out, HF13.out, by rw [N.size_append]; omega, ?_, by rw [N.size_append]; omega, by rw [N.size_append]; simp; omega⟩
        rw [HA.out, N.size_append, List.append_assoc]; rfl
      case measure =>
        rw [HST3.out, HST.out, N.size_append]
        omega
end Go.Proofs.Ytmlbcdofogffkab
