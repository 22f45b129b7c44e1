/- disk: copied (at most one file), onFirst. -/
import Derived.Test.YtmlbcdofogffkabDH
import Derived.Maps.RangeRun
namespace Go.Proofs.Ytmlbcdofogffkab
open Go.RowKit
open Go.ChangeMaps (setBlock)
attribute [local go_sem ↓] Go.wp_at_zero Go.wp_at_succ
theorem make_run (n : Int) (w : World) : (Instr.makeMap 139 (some (.int .i64 n))).run Try.prog w = .ok (.map (some w.heap.size)) (w.alloc (.map #[] 0)) := by kernel_rfl
theorem range_run {w : World} {b : Nat} {es : Array MapEntry} {c : Nat} (h : w.heap[b]? = some (.map es c)) : (Instr.range 139 (.map (some b))).run Try.prog w = .ok (.pointer (some ⟨w.heap.size, 0, none⟩)) (w.alloc (.mapIter (some b) c #[] c)) := by
  simp [Instr.range, run_underlying M.u112, MapKept.run_getObj_map h, Result.andThen]
/-- How many rounds there are to come, at most. -/
def M.leftN (w : World) (r : Nat) : Nat := match w.heap[r]? with | some (.mapIter _ _ sn _) => 1 - sn.size | _ => 0
theorem M.leftN_at {w : World} {r : Nat} {m : Option Nat} {a b : Nat} {sn : Array Nat} (h : w.heap[r]? = some (.mapIter m a sn b)) : M.leftN w r = 1 - sn.size := by unfold M.leftN; rw [h]
theorem heap_set_at {w : World} {r : Nat} {o o2 : Obj} (h : w.heap[r]? = some o) : (setBlock w r o2).heap[r]? = some o2 := by
  have := (Array.getElem?_eq_some_iff.1 h).1
  simp [setBlock, this]
theorem fr_set (w : World) (r : Nat) (o : Obj) : Fr w (setBlock w r o) (fun c => c = r) := ⟨rfl, rfl, rfl, by simp [setBlock], fun c _ he => by
  have he2 : r ≠ c := fun e => he e.symm
  simp [setBlock, he2]⟩
set_option maxRecDepth 100000 in
set_option maxHeartbeats 1000000 in
theorem copied_one (w : World) (b : Nat) (F : List (ByteArray × ByteArray)) (h : M.Is w b F) (hF : F.length ≤ 1) :
    Calls Try.prog 89 #[.map (some b)] w fun o w' => ∃ b2, o = .returned (.map (some b2)) ∧ w.heap.size ≤ b2 ∧ M.Is w' b2 F ∧ Fr w w' (fun _ => False) := by
  have hln := len_run h
  obtain ⟨es, c, hb, hes, hS⟩ := id h
  have hmk := fun n w => make_run n w
  have hb1 : (w.alloc (.map #[] 0)).heap[b]? = some (.map es c) := by rw [(World.grownBy_alloc w (.map #[] 0) none).block b h.lt (by simp)]; exact hb
  have hrg := range_run hb1
  have hs1 : (w.alloc (.map #[] 0)).heap.size = w.heap.size + 1 := by simp
  rw [hs1] at hrg
  have hfr0 : Fr w ((w.alloc (.map #[] 0)).alloc (.mapIter (some b) c #[] c)) (fun _ => False) := ((Fr.refl _ _).alloc _).alloc _
  have hr0 : ((w.alloc (.map #[] 0)).alloc (.mapIter (some b) c #[] c)).heap[w.heap.size + 1]? = some (.mapIter (some b) c #[] c) := by
    have h0 := heap_alloc_new (w.alloc (.map #[] 0)) (.mapIter (some b) c #[] c)
    rw [hs1] at h0; exact h0
  have hI0 : M.Is ((w.alloc (.map #[] 0)).alloc (.mapIter (some b) c #[] c)) w.heap.size [] := (M.Is.made w).kept (World.grownBy_alloc _ _ none) (by simp)
  have HFR0 := hide hfr0
  have HR0 := hide hr0
  have HI0 := hide hI0
  have hbl := h.lt
  have KB : Hid (∀ wx, Fr w wx (fun _ => False) → wx.heap[b]? = some (.map es c)) := fun wx hf => (hf.block b hbl (fun h => h)).trans hb
  clear hfr0 hr0 hI0 h hb hb1
  have hcase : (F = [] ∧ es = #[]) ∨ ∃ x e, F = [x] ∧ es = #[e] ∧ e.key = .string x.1 ∧ e.val = M.val x.2 := by
    match F, hF with
    | [], _ =>
      left
      have : es.toList = [] := by simpa using hes
      exact ⟨rfl, by simpa using this⟩
    | [x], _ =>
      right
      obtain ⟨e, he⟩ : ∃ e, es.toList = [e] := by
        match hh : es.toList, hes with
        | [e], _ => exact ⟨e, rfl⟩
        | [], hes => simp at hes
        | _ :: _ :: _, hes => simp at hes
      rw [he] at hes
      simp [M.ent] at hes
      exact ⟨x, e, rfl, by apply Array.toList_inj.1; rw [he], hes.1, hes.2⟩
  clear hes
  rcases hcase with ⟨rfl, rfl⟩ | ⟨x, e, rfl, rfl, hk, hv⟩
  · go_enter Try.func89, Try.ntmps89
    go_wp2_with fail
    generalize (w.alloc (.map #[] 0)).alloc (.mapIter (some b) c #[] c) = w0 at *
    go_loopw [4, 5] (fun _ _ wx => wx = w0) (fun _ _ _ => 0)
    case atStart => rfl
    case round =>
      subst hrel
      have hnx : (Instr.next (.pointer (some ⟨w.heap.size + 1, 0, none⟩)) false 0).run Try.prog wr = .ok (.tuple #[.bool false]) wr := by
        rcases run_next_at (P := Try.prog) wr 0 (w.heap.size + 1) b c c #[] #[] c HR0.out (KB.out _ HFR0.out) (fun x hx => by cases hx) (Nat.le_refl _) with ⟨_, h1⟩ | ⟨e, he, _⟩
        · exact h1
        · simp [leftOf] at he
      go_wp2_with fail
      go_ret
      exact ⟨_, rfl, Nat.le_refl _, HI0.out, HFR0.out⟩
  · go_enter Try.func89, Try.ntmps89
    go_wp2_with fail
    generalize (w.alloc (.map #[] 0)).alloc (.mapIter (some b) c #[] c) = w0 at *
    go_loopw [4, 5] (fun _ _ wx => ∃ sn : Array Nat, ((sn = #[] ∧ M.Is wx w.heap.size []) ∨ (sn = #[e.born] ∧ M.Is wx w.heap.size [x])) ∧ wx.heap[w.heap.size + 1]? = some (.mapIter (some b) c sn c) ∧ Fr w wx (fun _ => False)) (fun _ _ wx => M.leftN wx (w.heap.size + 1))
    case atStart => exact ⟨#[], .inl ⟨rfl, HI0.out⟩, HR0.out, HFR0.out⟩
    case round =>
      obtain ⟨wx, hwx⟩ : ∃ z, z = wr := ⟨_, rfl⟩
      subst hwx
      obtain ⟨sn, hsn, hrx, hfx⟩ := hrel
      rcases hsn with ⟨rfl, hIx⟩ | ⟨rfl, hIx⟩
      · obtain ⟨w2, hrun, hr2, hf2, hI2⟩ : ∃ w2, (Instr.next (.pointer (some ⟨w.heap.size + 1, 0, none⟩)) false 0).run Try.prog wx = .ok (.tuple #[.bool true, .string x.1, .agg #[.string x.2]]) w2 ∧ w2.heap[w.heap.size + 1]? = some (.mapIter (some b) c #[e.born] c) ∧ Fr w w2 (fun _ => False) ∧ M.Is w2 w.heap.size [] := by
          rcases run_next_at (P := Try.prog) wx 0 (w.heap.size + 1) b c c #[] #[e] c hrx (KB.out _ hfx) (fun y hy => hS.1 y hy) (Nat.le_refl _) with ⟨h0, _⟩ | ⟨y, hy, w1, hw1, hrun⟩
          · simp [leftOf] at h0
          · have hye : y = e := by simpa [leftOf] using hy
            subst hye
            have hr1 : w1.heap[w.heap.size + 1]? = some (.mapIter (some b) c #[] c) := by rcases hw1 with rfl | rfl <;> exact hrx
            have hf1 : Fr w w1 (fun _ => False) := by
              rcases hw1 with rfl | rfl
              · exact hfx
              · exact hfx.drew
            have hI1 : M.Is w1 w.heap.size [] := by rcases hw1 with rfl | rfl <;> exact hIx
            refine ⟨_, ?_, heap_set_at hr1, hf1.trans (fr_set w1 _ _) (fun c hc e => by omega), is_fr hI1 (fr_set w1 _ _) (by show ¬ w.heap.size = w.heap.size + 1; omega)⟩
            rw [hk, hv] at hrun
            exact hrun
        have hen := run_entry_at (P := Try.prog) w2 (w.heap.size + 1) b c #[] #[e] c e hr2 (KB.out _ hf2) (by simp) hS.2
        rw [hk, hv] at hen
        simp only [M.val] at hen
        have HI2 : Hid (∀ ob, M.Is (w2.alloc ob) w.heap.size []) := fun ob => hI2.kept (World.grownBy_alloc _ _ none) (by simp)
        have HR2 := hide hr2
        have HF2 := hide hf2
        clear hr2 hf2 hI2 hIx hfx
        have HRX := hide hrx
        clear hrx
        go_wp2_with (at_mapUpdate; go_must (refine M.wpList_update rfl (.tmp 16) (.tmp 17) (.tmp 18) rfl (b := w.heap.size) (F := []) x.1 x.2 rfl rfl rfl (HI2.out _) ?_); intro w3 hI3 hg3)
        have hr3 : w3.heap[w.heap.size + 1]? = some (.mapIter (some b) c #[e.born] c) := by
          have h1 : (w2.alloc (.cells #[.string x.2] 153)).heap[w.heap.size + 1]? = some (.mapIter (some b) c #[e.born] c) := ((World.grownBy_alloc w2 _ none).block _ (Array.getElem?_eq_some_iff.1 HR2.out).1 (by simp)).trans HR2.out
          rw [hg3.block _ (Array.getElem?_eq_some_iff.1 h1).1 (by simp)]; exact h1
        have hf3 : Fr w w3 (fun _ => False) := (HF2.out.alloc _).grown hg3 (fun c e hc => by have := Option.some.inj e; omega)
        go_wp2_with fail
        go_roundw
        case rel => exact ⟨_, _, _, _, _, _, _, _, _, _, ⟨#[e.born], .inr ⟨rfl, hI3⟩, hr3, hf3⟩, rfl⟩
        case measure => rw [M.leftN_at hr3, M.leftN_at HRX.out]; simp
      · have hnx : (Instr.next (.pointer (some ⟨w.heap.size + 1, 0, none⟩)) false 0).run Try.prog wx = .ok (.tuple #[.bool false]) wx := by
          rcases run_next_at (P := Try.prog) wx 0 (w.heap.size + 1) b c c #[e.born] #[e] c hrx (KB.out _ hfx) (fun y hy => hS.1 y hy) (Nat.le_refl _) with ⟨_, h1⟩ | ⟨y, hy, _⟩
          · exact h1
          · simp [leftOf] at hy
        have HIX := hide hIx
        have HFX := hide hfx
        clear hIx hfx hrx
        go_wp2_with fail
        go_ret
        exact ⟨_, rfl, Nat.le_refl _, HIX.out, HFX.out⟩
/-- A change with the first bytes of its data alone: without any it is not done. -/
def Ch.first (c : Ch) (n : Int) (F : List (ByteArray × ByteArray)) : List (ByteArray × ByteArray) := if min n c.data.size < 1 then F else ({ c with data := c.data.extract 0 (min n c.data.size).toNat } : Ch).on F
set_option maxRecDepth 100000 in
set_option maxHeartbeats 1000000 in
theorem onFirst_any (w : World) (b : Nat) (c : Ch) (n : Int) (F : List (ByteArray × ByteArray)) (h : M.Is w b F) (hk : c.kind = 0 ∨ c.kind = 1) (hlen : c.data.size ≤ 1000000 ∧ ((M.get F c.name).getD ⟨#[]⟩).size ≤ 1000000) (hn : -9223372036854775808 ≤ n ∧ n ≤ 9223372036854775807) :
    Calls Try.prog 88 #[.agg #[.int .i64 c.kind, .string c.name, .string c.dest, .string c.data], .int .i64 n, .map (some b)] w fun o w' => o = .returned (.tuple #[]) ∧ M.Is w' b (c.first n F) ∧ Fr w w' (fun x => x = b) := by
  have hI : ∀ ob, M.Is (w.alloc ob) b F := fun ob => h.kept (World.grownBy_alloc _ _ none) (by simp)
  have hbl := h.lt
  by_cases h1 : min n c.data.size < 1
  · have HF : Hid (c.first n F = F) := by show _ = _; unfold Ch.first; rw [if_pos h1]
    have HI := hide hI
    clear hI h
    go_enter Try.func88, Try.ntmps88
    go_wp2_with fail
    all_goals
      refine bodyPost_ret (results_none rfl _ _ _) rfl ?_
      exact ⟨rfl, by rw [HF.out]; exact HI.out _, (Fr.refl _ _).alloc _⟩
  · have hmin : min n (c.data.size : Int) = n ∧ n ≤ c.data.size ∨ min n (c.data.size : Int) = c.data.size ∧ (c.data.size : Int) < n := by omega
    have HF : Hid (c.first n F = ({ c with data := c.data.extract 0 (min n c.data.size).toNat } : Ch).on F) := by show _ = _; unfold Ch.first; rw [if_neg h1]
    have hon : ∀ d : ByteArray, d.size ≤ 1000000 → Calls Try.prog 120 #[.agg #[.int .i64 c.kind, .string c.name, .string c.dest, .string d], .map (some b)] (w.alloc (.cells #[.int .i64 c.kind, .string c.name, .string c.dest, .string d] 145)) fun o w' => o = .returned (.tuple #[]) ∧ M.Is w' b (({ c with data := d } : Ch).on F) ∧ Fr (w.alloc (.cells #[.int .i64 c.kind, .string c.name, .string c.dest, .string d] 145)) w' (fun x => x = b) :=
      fun d hd => on_any _ b { c with data := d } F (hI _) hk ⟨hd, hlen.2⟩
    have hsz : ∀ m : Nat, (c.data.extract 0 m).size ≤ 1000000 := fun m => by have := hlen.1; simp; omega
    have HON := hide hon
    have HSZ := hide hsz
    clear hon hsz hI h
    rcases hmin with ⟨hm, hle⟩ | ⟨hm, hlt⟩
    · rw [hm] at h1 HF
      obtain ⟨m, rfl⟩ : ∃ m : Nat, n = (m : Int) := ⟨n.toNat, by omega⟩
      clear hm
      go_enter Try.func88, Try.ntmps88
      go_wp2_with fail
      refine (HON.out _ (HSZ.out m)).mono ?_
      rintro o w2 ⟨rfl, hI2, hf2⟩
      have HI2 := hide hI2
      have HF2 := hide hf2
      clear hI2 hf2
      go_wp2_with fail
      go_end0
      exact ⟨rfl, by rw [HF.out]; exact HI2.out, ((Fr.refl w _).alloc _).trans HF2.out (fun _ _ e => e)⟩
    · rw [hm] at h1 HF
      clear hm
      go_enter Try.func88, Try.ntmps88
      go_wp2_with fail
      refine (HON.out c.data hlen.1).mono ?_
      rintro o w2 ⟨rfl, hI2, hf2⟩
      have HI2 := hide hI2
      have HF2 := hide hf2
      clear hI2 hf2
      go_wp2_with fail
      go_end0
      exact ⟨rfl, by rw [HF.out, Int.toNat_natCast, ByteArray.extract_zero_size]; exact HI2.out, ((Fr.refl w _).alloc _).trans HF2.out (fun _ _ e => e)⟩
end Go.Proofs.Ytmlbcdofogffkab
