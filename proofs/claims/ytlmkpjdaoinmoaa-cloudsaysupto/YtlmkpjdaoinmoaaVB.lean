/- The document's own answer: how many parts a value has, and how deep it is. -/
import Derived.Test.YtlmkpjdaoinmoaaVA
namespace Go.Proofs.Ytlmkpjdaoinmoaa
open Go.RowKit
theorem free_of_block {w : World} {g : Nat} {cs : Array Value} {e : TypeId} (h : w.heap[g]? = some (.cells cs e (0, 0))) (j : Nat) : w.frozen? ⟨g, j, none⟩ = false := by simp [World.frozen?, h]
theorem cell_of_block {w : World} {g : Nat} {cs : Array Value} {e : TypeId} (h : w.heap[g]? = some (.cells cs e (0, 0))) (j : Nat) (u : Value) (hu : cs[j]? = some u) : w.cell? ⟨g, j, none⟩ = some u := by rw [cell_of_row w g j cs e (0, 0) h]; exact hu
namespace V
/-- One element of a list of values, cell by cell. -/
theorem elemL {w : World} {v : Value} {n m : Nat} {l : List Val} (h : Row w v n 5 (fun i c => ∃ x, l[i]? = some x ∧ Mem m w x c)) (i : Nat) (hi : i < n) :
    ∃ b off cap x c0 c1 c2 c3 c4, v = .slice (some ⟨b, off, none⟩) n cap ∧ l[i]? = some x ∧ Mem m w x [c0, c1, c2, c3, c4] ∧
      w.cell? ⟨b, off + i * 5, none⟩ = some c0 ∧ w.cell? ⟨b, off + i * 5 + 1, none⟩ = some c1 ∧ w.cell? ⟨b, off + i * 5 + 2, none⟩ = some c2 ∧ w.cell? ⟨b, off + i * 5 + 3, none⟩ = some c3 ∧ w.cell? ⟨b, off + i * 5 + 4, none⟩ = some c4 := by
  obtain ⟨ao, cap, rfl, h | ⟨b, off, rfl, h⟩⟩ := h
  · omega
  · obtain ⟨cs, h1, h2, x, hx, hm⟩ := h i hi
    match cs, h1 with
    | [c0, c1, c2, c3, c4], _ => exact ⟨b, off, cap, x, c0, c1, c2, c3, c4, rfl, hx, hm, h2 0 (by omega), h2 1 (by omega), h2 2 (by omega), h2 3 (by omega), h2 4 (by omega)⟩
/-- One field of a record, cell by cell. -/
theorem elemF {w : World} {v : Value} {n m : Nat} {l : List (ByteArray × Val)} (h : Row w v n 6 (fun i c => ∃ x c', l[i]? = some x ∧ c = .string x.1 :: c' ∧ Mem m w x.2 c')) (i : Nat) (hi : i < n) :
    ∃ b off cap x c0 c1 c2 c3 c4, v = .slice (some ⟨b, off, none⟩) n cap ∧ l[i]? = some x ∧ Mem m w x.2 [c0, c1, c2, c3, c4] ∧ w.cell? ⟨b, off + i * 6, none⟩ = some (.string x.1) ∧
      w.cell? ⟨b, off + i * 6 + 1, none⟩ = some c0 ∧ w.cell? ⟨b, off + i * 6 + 2, none⟩ = some c1 ∧ w.cell? ⟨b, off + i * 6 + 3, none⟩ = some c2 ∧ w.cell? ⟨b, off + i * 6 + 4, none⟩ = some c3 ∧ w.cell? ⟨b, off + i * 6 + 5, none⟩ = some c4 := by
  obtain ⟨ao, cap, rfl, h | ⟨b, off, rfl, h⟩⟩ := h
  · omega
  · obtain ⟨cs, h1, h2, x, c', hx, rfl, hm⟩ := h i hi
    match c', h1 with
    | [c0, c1, c2, c3, c4], _ => exact ⟨b, off, cap, x, c0, c1, c2, c3, c4, rfl, hx, hm, h2 0 (by omega), h2 1 (by omega), h2 2 (by omega), h2 3 (by omega), h2 4 (by omega), h2 5 (by omega)⟩
theorem Row.shape {w : World} {v : Value} {n sz : Nat} {P : Nat → List Value → Prop} (h : Row w v n sz P) : ∃ ao cap, v = .slice ao n cap := by
  obtain ⟨ao, cap, h, _⟩ := h; exact ⟨ao, cap, h⟩
end V
theorem max_if (a b : Nat) : (if a < b then (b : Int) else (a : Int)) = ((max a b : Nat) : Int) := by split <;> omega
set_option maxRecDepth 100000 in
set_option maxHeartbeats 1600000 in
theorem parts_any (m : Nat) : ∀ (w : World) (v : Val) (c0 c1 c2 c3 c4 : Value), V.Mem m w v [c0, c1, c2, c3, c4] → V.bulk m v ≤ 2000000 →
    Calls Try.prog 68 #[.agg #[c0, c1, c2, c3, c4]] w fun e w' => e = .returned (.tuple #[.int .i64 (V.parts m v), .int .i64 (V.deep m v)]) ∧ Below w.heap.size w w' := by
  induction m with
  | zero => intro w v c0 c1 c2 c3 c4 h; exact h.elim
  | succ m ih =>
    intro w v c0 c1 c2 c3 c4 ⟨lv, fv, hcs, hl, hf⟩ hbk
    simp only [List.cons.injEq, and_true] at hcs
    obtain ⟨rfl, rfl, rfl, rfl, rfl⟩ := hcs
    have IH : Hid _ := ih
    clear ih
    obtain ⟨al, cl, rfl⟩ := hl.shape
    obtain ⟨af, cf, rfl⟩ := hf.shape
    rw [V.bulk] at hbk
    have hbL : Below w.heap.size w (w.alloc (.cells #[.int .i64 v.kind, .int .i64 v.n, .string v.s, .slice al v.l.length cl, .slice af v.f.length cf] 40)) := (Below.refl _ _).alloc (Nat.le_refl _) _
    go_enter Try.func68, Try.ntmps68
    go_wp2_with fail
    go_loopw [4, 5, 6, 7, 8] (fun vn vd vi _ _ wr => ∃ k : Nat, k ≤ v.l.length ∧ vi = .int .i64 k ∧ vn = .int .i64 (1 + V.sumL (V.parts m) (v.l.take k) : Nat) ∧ vd = .int .i64 ((v.l.take k).foldl (fun d x => max d (V.deep m x)) 0 : Nat) ∧
        wr.heap[w.heap.size]? = some (.cells #[.int .i64 v.kind, .int .i64 v.n, .string v.s, .slice al v.l.length cl, .slice af v.f.length cf] 40 (0, 0)) ∧ Below w.heap.size w wr)
      (fun _ _ vi _ _ _ => v.l.length - (intOf vi).toNat)
    case atStart => exact ⟨0, Nat.zero_le _, rfl, rfl, rfl, heap_alloc_new _ _, hbL⟩
    case round =>
      obtain ⟨k, hk, rfl, rfl, rfl, hblk, hB⟩ := hrel
      have b3 := cell_of_block hblk 3 _ rfl
      have b4 := cell_of_block hblk 4 _ rfl
      by_cases hlt : k < v.l.length
      · obtain ⟨b, off, cap, x, d0, d1, d2, d3, d4, e1, hx, hm, y0, y1, y2, y3, y4⟩ := V.elemL (hl.kept hB (fun _ _ ⟨x, hx, hm⟩ => ⟨x, hx, V.Mem.kept m hm hB⟩)) k hlt
        simp only [Value.slice.injEq] at e1
        obtain ⟨rfl, _, rfl⟩ := e1
        have s1 := V.sumL_le (V.bulk m) v.l k x hx
        have s2 := V.sumL_mono (V.parts m) (V.bulk m) (v.l.take k) (V.parts_le m)
        have s3 := V.parts_le m x
        have s4 := V.deep_le m x
        have hsn := V.sumL_take (V.parts m) v.l k x hx
        have hdn := V.foldl_take (V.deep m) v.l 0 k x hx
        have HSN : Hid _ := hsn
        have HDN : Hid _ := hdn
        have hlt2 : w.heap.size < wr.heap.size := (Array.getElem?_eq_some_iff.1 hblk).1
        have hdd : (v.l.take k).foldl (fun d x => max d (V.deep m x)) 0 ≤ 2000000 := V.foldl_max_le _ _ _ _ (by omega) (fun z hz => by have := V.deep_le m z; have := V.sumL_mem (V.bulk m) v.l z (List.mem_of_mem_take hz); omega)
        clear hsn hdn
        have hI := IH.out wr x d0 d1 d2 d3 d4 hm (by omega)
        have HI : Hid _ := hI
        clear hI hm hx
        go_wp2_with fail
        refine Calls.mono HI.out ?_
        rintro e w3 ⟨rfl, hb3⟩
        have hblk3 := (hb3.block w.heap.size hlt2).trans hblk
        have hB3 := hB.trans (hb3.mono hB.size)
        clear hb3 hB hblk y0 y1 y2 y3 y4 b3 b4
        generalize V.parts m x = px at *
        generalize V.deep m x = dx at *
        generalize V.sumL (V.parts m) (v.l.take k) = sx at *
        generalize (v.l.take k).foldl (fun d x => max d (V.deep m x)) 0 = ex at *
        go_wp2_with fail
        go_roundw
        case rel => exact ⟨k + 1, by omega, by go_num, by rw [HSN.out]; go_num, by rw [HDN.out]; exact congrArg (Value.int .i64) (max_if ex dx), hblk3, hB3⟩
        case measure => simp [intOf]; omega
      · have hkk : k = v.l.length := by omega
        subst hkk
        rw [List.take_length]
        have q1 := V.sumL_mono (V.parts m) (V.bulk m) v.l (V.parts_le m)
        have q2 : v.l.foldl (fun d x => max d (V.deep m x)) 0 ≤ V.sumL (V.bulk m) v.l := V.foldl_max_le _ _ _ _ (by omega) (fun z hz => by have := V.deep_le m z; have := V.sumL_mem (V.bulk m) v.l z hz; omega)
        have HP : Hid (V.parts (m + 1) v = 1 + V.sumL (V.parts m) v.l + V.sumF (fun x => V.parts m x.2) v.f) := by show _ = _; rw [V.parts]
        have HD : Hid (V.deep (m + 1) v = v.f.foldl (fun d x => max d (V.deep m x.2)) (v.l.foldl (fun d x => max d (V.deep m x)) 0) + 1) := by show _ = _; rw [V.deep]
        generalize V.sumL (V.parts m) v.l = sl at *
        generalize v.l.foldl (fun d x => max d (V.deep m x)) 0 = el at *
        go_wp2_with fail
        go_loopw [4, 5, 9, 10, 11] (fun vn vd vi _ _ wx => ∃ k : Nat, k ≤ v.f.length ∧ vi = .int .i64 k ∧ vn = .int .i64 (1 + sl + V.sumF (fun x => V.parts m x.2) (v.f.take k) : Nat) ∧ vd = .int .i64 ((v.f.take k).foldl (fun d x => max d (V.deep m x.2)) el : Nat) ∧
            wx.heap[w.heap.size]? = some (.cells #[.int .i64 v.kind, .int .i64 v.n, .string v.s, .slice al v.l.length cl, .slice af v.f.length cf] 40 (0, 0)) ∧ Below w.heap.size w wx)
          (fun _ _ vi _ _ _ => v.f.length - (intOf vi).toNat)
        case atStart => exact ⟨0, Nat.zero_le _, rfl, rfl, rfl, hblk, hB⟩
        case round =>
          obtain ⟨k, hk, rfl, rfl, rfl, hblk, hB⟩ := hrel
          have b4 := cell_of_block hblk 4 _ rfl
          by_cases hlt : k < v.f.length
          · obtain ⟨b, off, cap, x, d0, d1, d2, d3, d4, e1, hx, hm, yn, y0, y1, y2, y3, y4⟩ := V.elemF (hf.kept hB (fun _ _ ⟨x, c', hx, hc, hm⟩ => ⟨x, c', hx, hc, V.Mem.kept m hm hB⟩)) k hlt
            simp only [Value.slice.injEq] at e1
            obtain ⟨rfl, _, rfl⟩ := e1
            have s1 := V.sumF_le (fun x => x.1.size + V.bulk m x.2) v.f k x hx
            have s2 := V.sumF_mono (fun x => V.parts m x.2) (fun x => x.1.size + V.bulk m x.2) (v.f.take k) (fun z => by have := V.parts_le m z.2; omega)
            have s3 := V.parts_le m x.2
            have s4 := V.deep_le m x.2
            have hsn := V.sumF_take (fun x => V.parts m x.2) v.f k x hx
            have hdn := V.foldl_take (fun x : ByteArray × Val => V.deep m x.2) v.f el k x hx
            have HSN : Hid _ := hsn
            have HDN : Hid _ := hdn
            have hlt2 : w.heap.size < wr.heap.size := (Array.getElem?_eq_some_iff.1 hblk).1
            have hdd : (v.f.take k).foldl (fun d x => max d (V.deep m x.2)) el ≤ 2000000 := V.foldl_max_le (fun x : ByteArray × Val => V.deep m x.2) _ _ _ (by omega) (fun z hz => by have := V.deep_le m z.2; have := V.sumF_mem (fun x => x.1.size + V.bulk m x.2) v.f z (List.mem_of_mem_take hz); omega)
            clear hsn hdn
            have hI := IH.out wr x.2 d0 d1 d2 d3 d4 hm (by omega)
            have HI : Hid _ := hI
            clear hI hm hx
            go_wp2_with fail
            refine Calls.mono HI.out ?_
            rintro e w3 ⟨rfl, hb3⟩
            have hblk3 := (hb3.block w.heap.size hlt2).trans hblk
            have hB3 := hB.trans (hb3.mono hB.size)
            clear hb3 hB hblk yn y0 y1 y2 y3 y4 b4
            generalize V.parts m x.2 = px at *
            generalize V.deep m x.2 = dx at *
            generalize V.sumF (fun x => V.parts m x.2) (v.f.take k) = sx at *
            generalize (v.f.take k).foldl (fun d x => max d (V.deep m x.2)) el = ex at *
            go_wp2_with fail
            go_roundw
            case rel => exact ⟨k + 1, by omega, by go_num, by rw [HSN.out]; go_num, by rw [HDN.out]; exact congrArg (Value.int .i64) (max_if ex dx), hblk3, hB3⟩
            case measure => simp [intOf]; omega
          · have hkf : k = v.f.length := by omega
            subst hkf
            rw [List.take_length]
            have q3 := V.sumF_mono (fun x => V.parts m x.2) (fun x => x.1.size + V.bulk m x.2) v.f (fun z => by have := V.parts_le m z.2; omega)
            have q4 : v.f.foldl (fun d x => max d (V.deep m x.2)) el ≤ 2000000 := V.foldl_max_le (fun x : ByteArray × Val => V.deep m x.2) _ _ _ (by omega) (fun z hz => by have := V.deep_le m z.2; have := V.sumF_mem (fun x => x.1.size + V.bulk m x.2) v.f z hz; omega)
            generalize V.sumF (fun x => V.parts m x.2) v.f = sf at *
            generalize v.f.foldl (fun d x => max d (V.deep m x.2)) el = ef at *
            go_wp2_with fail
            go_ret2
            exact ⟨by rw [HP.out, HD.out]; go_num, hB⟩
end Go.Proofs.Ytlmkpjdaoinmoaa
