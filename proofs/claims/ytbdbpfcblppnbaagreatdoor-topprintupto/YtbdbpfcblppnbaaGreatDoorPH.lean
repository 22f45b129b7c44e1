/- For TopPrint: what is read may be printed. -/
import Derived.Test.YtbdbpfcblppnbaaGreatDoorPF
import Derived.Test.YtbdbpfcblppnbaaGreatDoorS1
namespace Go.Proofs.YtbdbpfcblppnbaaGreatDoor.Vx
open Go.RowKit
namespace P
theorem each_mem {α : Type} {w : List UInt8} {most : Nat} {one : List T → Option (α × List T)} : ∀ (n c : Nat) (ts : List T) (l : List α) (r : List T), each w most one n c ts = some (l, r) → c ≤ most → c + l.length ≤ most ∧ ∀ x ∈ l, ∃ t t', one t = some (x, t')
 | 0, _, _, _, _, h, _ => by cases h
 | n + 1, c, ts, l, r, h, hc => by
  rw [each] at h
  cases hf : found 1 w ts with
  | none =>
   rw [hf] at h
   cases h
   exact ⟨by simpa using hc, fun x hx => absurd hx (by simp)⟩
  | some t1 =>
   rw [hf] at h
   simp only at h
   by_cases hcm : c = most
   ·rw [if_pos hcm] at h
    cases h
   ·rw [if_neg hcm] at h
    cases ho : one t1 with
    | none => rw [ho] at h; cases h
    | some p =>
     obtain ⟨x, t2⟩ := p
     rw [ho] at h
     simp only at h
     cases he : each w most one n (c + 1) t2 with
     | none => rw [he] at h; cases h
     | some q =>
      rw [he] at h
      cases h
      obtain ⟨h1, h2⟩ := each_mem n (c + 1) t2 q.1 q.2 he (by omega)
      refine ⟨by simp only [List.length_cons]; omega, fun y hy => ?_⟩
      rcases List.mem_cons.1 hy with rfl | hy
      ·exact ⟨t1, t2, ho⟩
      ·exact h2 y hy
theorem name_mem {ts r : List T} {s : ByteArray} (h : name ts = some (s, r)) : V.name (V.bl s) = true := by
 cases ts with
 | nil => cases h
 | cons t ts =>
  rw [name] at h
  split at h
  ·rename_i hn
   cases h
   rw [V.bl_str]
   exact hn
  ·cases h
theorem fieldRow_mem {most : Nat} {one : List T → Option (Ex × List T)} : ∀ (n : Nat) (last : Option ByteArray) (c : Nat) (ts : List T) (l : List (ByteArray × Ex)) (r : List T), fieldRow most one n last c ts = some (l, r) → c ≤ most → c + l.length ≤ most ∧ Rises last (l.map (·.1)) ∧ ∀ x ∈ l, ∃ t t', one t = some (x.2, t')
 | 0, _, _, _, _, _, h, _ => by cases h
 | n + 1, last, c, ts, l, r, h, hc => by
  rw [fieldRow] at h
  cases hn : name ts with
  | none => rw [hn] at h; cases h
  | some p =>
   obtain ⟨s, t1⟩ := p
   rw [hn] at h
   simp only at h
   by_cases hcm : c = most
   ·rw [if_pos hcm] at h
    cases h
   ·rw [if_neg hcm] at h
    by_cases hab : above last s = false
    ·rw [if_pos hab] at h
     cases h
    ·rw [if_neg hab] at h
     have hab2 : above last s = true := by simpa using hab
     cases hf : found 4 [58] t1 with
     | none => rw [hf] at h; cases h
     | some t2 =>
      rw [hf] at h
      simp only at h
      cases ho : one t2 with
      | none => rw [ho] at h; cases h
      | some q =>
       obtain ⟨x, t3⟩ := q
       rw [ho] at h
       simp only at h
       cases hk : found 4 [44] t3 with
       | some t4 =>
        rw [hk] at h
        simp only at h
        cases hr : fieldRow most one n (some s) (c + 1) t4 with
        | none => rw [hr] at h; cases h
        | some q =>
         rw [hr] at h
         cases h
         obtain ⟨h1, h2, h3⟩ := fieldRow_mem n (some s) (c + 1) t4 q.1 q.2 hr (by omega)
         refine ⟨by simp only [List.length_cons]; omega, ⟨name_mem hn, hab2, h2⟩, fun y hy => ?_⟩
         rcases List.mem_cons.1 hy with rfl | hy
         ·exact ⟨t2, t3, ho⟩
         ·exact h3 y hy
       | none =>
        rw [hk] at h
        simp only at h
        cases hz : found 4 [125] t3 with
        | none => rw [hz] at h; cases h
        | some t4 =>
         rw [hz] at h
         cases h
         refine ⟨by simp only [List.length_cons, List.length_nil]; omega, ⟨name_mem hn, hab2, trivial⟩, fun y hy => ?_⟩
         rw [List.mem_singleton] at hy
         subst hy
         exact ⟨t2, t3, ho⟩
theorem fields_mem {most : Nat} {one : List T → Option (Ex × List T)} {ts r : List T} {l : List (ByteArray × Ex)} (h : fields most one ts = some (l, r)) : l.length ≤ most ∧ Rises none (l.map (·.1)) ∧ ∀ x ∈ l, ∃ t t', one t = some (x.2, t') := by
 unfold fields at h
 cases hf : found 4 [125] ts with
 | some t1 =>
  rw [hf] at h
  cases h
  exact ⟨Nat.zero_le _, trivial, fun x hx => absurd hx (by simp)⟩
 | none =>
  rw [hf] at h
  simp only at h
  obtain ⟨h1, h2, h3⟩ := fieldRow_mem _ _ _ _ _ _ h (Nat.zero_le _)
  exact ⟨by omega, h2, h3⟩
theorem whole_mem {sm : Val → Val → Bool} {ts r : List T} {e : Ex} (h : whole (okE sm) ts = some (e, r)) : X.fault sm 6 e = 0 := by
 unfold whole at h
 cases hx : ex 6 ts with
 | none => rw [hx] at h; cases h
 | some p =>
  rw [hx] at h
  simp only at h
  split at h
  ·rename_i ho
   cases h
   exact of_decide_eq_true ho
  ·cases h
theorem nameEq_mem {ts r : List T} {s : ByteArray} (h : nameEq ts = some (s, r)) : V.name (V.bl s) = true := by
 unfold nameEq at h
 cases hn : name ts with
 | none => rw [hn] at h; cases h
 | some p =>
  rw [hn] at h
  simp only at h
  cases hf : found 4 [61] p.2 with
  | none => rw [hf] at h; cases h
  | some t =>
   rw [hf] at h
   cases h
   exact name_mem hn
theorem fault_lit {sm : Val → Val → Bool} {m : Nat} {e : Ex} (h : X.fault sm (m + 1) e = 0) (hk : e.kind = 1) : Plain e.v := by
 unfold X.fault at h
 split at h
 ·cases h
 ·split at h
  ·rename_i hs
   rw [X.shaped] at hs
   simp only [Bool.and_eq_true] at hs
   have hf := hs.1.2
   unfold X.fits at hf
   simp only [decide_eq_true_eq] at hf
   rcases hf with ⟨_, hp, _⟩ | ⟨h1, _⟩ | ⟨h1, _⟩ | ⟨h1, _⟩ | ⟨h1, _⟩ | h1 | ⟨h1, _⟩ | ⟨h1, _⟩
   ·exact (plain_iff m e.v).1 hp
   all_goals omega
  ·cases h
theorem input_mem {sm : Val → Val → Bool} {ts r : List T} {x : ByteArray × Val} (h : input (okE sm) ts = some (x, r)) : V.name (V.bl x.1) = true ∧ Plain x.2 := by
 unfold input at h
 cases hn : nameEq ts with
 | none => rw [hn] at h; cases h
 | some p =>
  rw [hn] at h
  simp only at h
  cases hw : whole (okE sm) p.2 with
  | none => rw [hw] at h; cases h
  | some q =>
   rw [hw] at h
   simp only at h
   split at h
   ·rename_i hk
    cases h
    exact ⟨nameEq_mem hn, fault_lit (whole_mem hw) hk⟩
   ·cases h
theorem output_mem {sm : Val → Val → Bool} {ts r : List T} {x : ByteArray × Ex} (h : output (okE sm) ts = some (x, r)) : V.name (V.bl x.1) = true ∧ X.fault sm 6 x.2 = 0 := by
 unfold output at h
 cases hn : nameEq ts with
 | none => rw [hn] at h; cases h
 | some p =>
  rw [hn] at h
  simp only at h
  cases hw : whole (okE sm) p.2 with
  | none => rw [hw] at h; cases h
  | some q =>
   rw [hw] at h
   cases h
   exact ⟨nameEq_mem hn, whole_mem hw⟩
theorem resource_mem {sm : Val → Val → Bool} {ts r : List T} {x : Rs} (h : resource (okE sm) ts = some (x, r)) : V.name (V.bl x.kind) = true ∧ V.name (V.bl x.name) = true ∧ x.parts.length ≤ 6 ∧ Rises none (x.parts.map (·.1)) ∧ ∀ p ∈ x.parts, X.fault sm 6 p.2 = 0 := by
 unfold resource at h
 cases hn : name ts with
 | none => rw [hn] at h; cases h
 | some p =>
  rw [hn] at h
  simp only at h
  cases hn2 : name p.2 with
  | none => rw [hn2] at h; cases h
  | some p2 =>
   rw [hn2] at h
   simp only at h
   cases hf : found 4 [123] p2.2 with
   | none => rw [hf] at h; cases h
   | some t3 =>
    rw [hf] at h
    simp only at h
    cases hq : fields 6 (whole (okE sm)) t3 with
    | none => rw [hq] at h; cases h
    | some q =>
     rw [hq] at h
     cases h
     obtain ⟨h1, h2, h3⟩ := fields_mem hq
     exact ⟨name_mem hn, name_mem hn2, h1, h2, fun p hp => by obtain ⟨t, t', e⟩ := h3 p hp; exact whole_mem e⟩
/-- What is read is no deeper than six. -/
def SDp (s : Sk) : Prop := (∀ r ∈ s.res, ∀ p ∈ r.parts, Dp 6 p.2) ∧ ∀ x ∈ s.outs, Dp 6 x.2
theorem parts_ok {sm : Val → Val → Bool} {m : Nat} (l : List (ByteArray × Ex)) (hf : ∀ p ∈ l, X.fault sm m p.2 = 0) : ∀ (n k : Nat) (last : Option ByteArray), l.length = k + n → Rises last ((l.drop k).map (·.1)) → (∀ j y, k = j + 1 → l[j]? = some y → last = some y.1) → ∀ i, k ≤ i → i < l.length → X.partFault sm m l i = 0
 | 0, k, _, hn, _, _, i, hi, hl => by omega
 | n + 1, k, last, hn, hr, hlast, i, hi, hl => by
  have hk : k < l.length := by omega
  rw [List.drop_eq_getElem_cons hk, List.map_cons] at hr
  obtain ⟨h1, h2, h3⟩ := hr
  have hg : l[k]? = some l[k] := List.getElem?_eq_getElem hk
  by_cases e : i = k
  ·subst e
   unfold X.partFault
   rw [hg]
   have hfn : X.faultN sm m l[i].1 l[i].2 = 0 := by
    unfold X.faultN
    rw [if_pos h1]
    exact hf _ (List.getElem_mem hk)
   cases i with
   | zero => exact (if_neg (fun h => h.1 rfl)).trans hfn
   | succ j =>
    have hj : l[j]? = some l[j] := List.getElem?_eq_getElem (by omega)
    have hl2 := hlast j l[j] rfl hj
    rw [hl2] at h2
    refine (if_neg (fun h => ?_)).trans hfn
    have h4 := h.2
    rw [Nat.add_sub_cancel, hj] at h4
    have h5 : Op.bytesLess (V.bl l[j].1) (V.bl l[j + 1].1) = true := h2
    have h6 : Op.bytesLess (V.bl l[j].1) (V.bl l[j + 1].1) = false := h4
    rw [h5] at h6
    cases h6
  ·exact parts_ok l hf n (k + 1) (some l[k].1) (by omega) h3 (fun j y hj hy => by
    have : j = k := by omega
    subst this
    rw [hg] at hy
    cases hy
    rfl) i (by omega) hl
theorem firstErr_of {l : List Nat} (h : ∀ x ∈ l, x = 0) : X.firstErr l = 0 := by
 refine X.firstErr_none (fun j hj => ?_)
 rw [List.getElem?_eq_getElem hj, h _ (List.getElem_mem hj)]
theorem stack_mem {sm : Val → Val → Bool} {ts r : List T} {s : Sk} (h : stack (okE sm) ts = some (s, r)) (hd : SDp s) : X.skFault sm 7 s = 0 := by
 unfold stack at h
 cases hn : name ts with
 | none => rw [hn] at h; cases h
 | some p =>
  obtain ⟨nm, t0⟩ := p
  rw [hn] at h
  simp only at h
  cases hi : each kInput 8 (input (okE sm)) (t0.length + 1) 0 t0 with
  | none => rw [hi] at h; cases h
  | some pi =>
   obtain ⟨li, t1⟩ := pi
   rw [hi] at h
   simp only at h
   cases hr : each kResource 8 (resource (okE sm)) (t1.length + 1) 0 t1 with
   | none => rw [hr] at h; cases h
   | some pr =>
    obtain ⟨lr, t2⟩ := pr
    rw [hr] at h
    simp only at h
    cases ho : each kOutput 8 (output (okE sm)) (t2.length + 1) 0 t2 with
    | none => rw [ho] at h; cases h
    | some po =>
     rw [ho] at h
     cases h
     obtain ⟨i1, i2⟩ := each_mem _ _ _ _ _ hi (Nat.zero_le _)
     obtain ⟨r1, r2⟩ := each_mem _ _ _ _ _ hr (Nat.zero_le _)
     obtain ⟨o1, o2⟩ := each_mem _ _ _ _ _ ho (Nat.zero_le _)
     have hI : X.firstErr (li.map (X.inFault 7)) = 0 := firstErr_of (fun x hx => by
      obtain ⟨y, hy, rfl⟩ := List.mem_map.1 hx
      obtain ⟨t, t', e⟩ := i2 y hy
      obtain ⟨h1, h2⟩ := input_mem e
      unfold X.inFault
      rw [h1, (plain_iff 6 y.2).2 h2]
      rfl)
     have hR : X.firstErr (lr.map (X.resFault sm 7)) = 0 := firstErr_of (fun x hx => by
      obtain ⟨y, hy, rfl⟩ := List.mem_map.1 hx
      obtain ⟨t, t', e⟩ := r2 y hy
      obtain ⟨h1, h2, h3, h4, h5⟩ := resource_mem e
      unfold X.resFault
      rw [h1, h2, if_neg (by simp), if_neg (by omega)]
      refine firstErr_of (fun x hx => ?_)
      obtain ⟨k, hk, rfl⟩ := List.mem_map.1 hx
      exact parts_ok y.parts (fun p hp => by rw [fault_dp sm (hd.1 y hy p hp) (show 6 ≤ 7 by decide)]; exact h5 p hp) y.parts.length 0 none (by omega) (by rw [List.drop_zero]; exact h4) (fun j _ hj _ => by omega) k (Nat.zero_le _) (List.mem_range.1 hk))
     have hO : X.firstErr (po.1.map (fun x => X.faultN sm 7 x.1 x.2)) = 0 := firstErr_of (fun x hx => by
      obtain ⟨y, hy, rfl⟩ := List.mem_map.1 hx
      obtain ⟨t, t', e⟩ := o2 y hy
      obtain ⟨h1, h2⟩ := output_mem e
      unfold X.faultN
      rw [if_pos h1, fault_dp sm (hd.2 y hy) (show 6 ≤ 7 by decide)]
      exact h2)
     unfold X.skFault
     rw [name_mem hn, if_neg (by simp), if_neg (by show ¬ (8 < li.length ∨ 8 < lr.length ∨ 8 < po.1.length); omega), if_neg (by rw [hI]; simp), if_neg (by rw [hR]; simp)]
     exact hO
theorem readS_mem {sm : Val → Val → Bool} {s : List UInt8} {l : List Sk} (h : readS (okE sm) s = some l) (hd : ∀ x ∈ l, SDp x) : l.length ≤ 8 ∧ ∀ x ∈ l, X.skFault sm 7 x = 0 := by
 unfold readS at h
 cases hl : Lx.lexAll s with
 | error e => rw [hl] at h; cases h
 | ok r =>
  rw [hl] at h
  simp only at h
  unfold read at h
  split at h
  ·rename_i l2 he
   cases h
   obtain ⟨h1, h2⟩ := each_mem _ _ _ _ _ he (Nat.zero_le _)
   refine ⟨by omega, fun x hx => ?_⟩
   obtain ⟨t, t', e⟩ := h2 x hx
   exact stack_mem e (hd x hx)
  ·cases h
theorem row_get {α : Type} {w : World} {v : Value} {sz : Nat} {l : List α} {Q : α → List Value → Prop} (h : V.Row w v l.length sz (fun i c => ∃ x, l[i]? = some x ∧ Q x c)) : ∀ x ∈ l, ∃ c, Q x c := by
 intro x hx
 obtain ⟨i, hi, rfl⟩ := List.getElem_of_mem hx
 obtain ⟨_, _, _, h | ⟨b, off, _, h⟩⟩ := h
 ·omega
 ·obtain ⟨c, _, _, y, hy, hq⟩ := h i hi
  rw [List.getElem?_eq_getElem hi] at hy
  cases hy
  exact ⟨c, hq⟩
theorem named_get {m : Nat} {w : World} {v : Value} {l : List (ByteArray × Ex)} (h : X.Named m w v l) : ∀ x ∈ l, ∃ c, X.Mem m w x.2 c := by
 intro x hx
 have h2 : V.Row w v l.length 11 (fun i c => ∃ x, l[i]? = some x ∧ ∃ c', c = .string x.1 :: c' ∧ X.Mem m w x.2 c') := V.Row.imp h (fun _ _ ⟨x, c', hx, hc, hm⟩ => ⟨x, hx, c', hc, hm⟩)
 obtain ⟨c, c', _, hm⟩ := row_get (Q := fun x c => ∃ c', c = .string x.1 :: c' ∧ X.Mem m w x.2 c') h2 x hx
 exact ⟨c', hm⟩
theorem ress_get {m : Nat} {w : World} {v : Value} {l : List Rs} (h : X.Ress m w v l) : ∀ x ∈ l, ∃ pv, X.Named m w pv x.parts := by
 intro x hx
 have h2 : V.Row w v l.length 3 (fun i c => ∃ x, l[i]? = some x ∧ ∃ pv, c = [.string x.kind, .string x.name, pv] ∧ X.Named m w pv x.parts) := V.Row.imp h (fun _ _ ⟨x, pv, hx, hc, hm⟩ => ⟨x, hx, pv, hc, hm⟩)
 obtain ⟨c, pv, _, hm⟩ := row_get (Q := fun x c => ∃ pv, c = [.string x.kind, .string x.name, pv] ∧ X.Named m w pv x.parts) h2 x hx
 exact ⟨pv, hm⟩
theorem vals_get {m : Nat} {w : World} {v : Value} {l : List (ByteArray × Val)} (h : X.Vals m w v l) : ∀ x ∈ l, ∃ c, V.Mem m w x.2 c := by
 intro x hx
 have h2 : V.Row w v l.length 6 (fun i c => ∃ x, l[i]? = some x ∧ ∃ c', c = .string x.1 :: c' ∧ V.Mem m w x.2 c') := V.Row.imp h (fun _ _ ⟨x, c', hx, hc, hm⟩ => ⟨x, hx, c', hc, hm⟩)
 obtain ⟨c, c', _, hm⟩ := row_get (Q := fun x c => ∃ c', c = .string x.1 :: c' ∧ V.Mem m w x.2 c') h2 x hx
 exact ⟨c', hm⟩
theorem sdp_of {w : World} {v : Value} {l : List Sk} (h : X.Stks 6 w v l) : ∀ x ∈ l, SDp x := by
 intro x hx
 obtain ⟨c, iv, rv, ov, _, _, hr, ho⟩ := row_get (Q := fun x c => X.SMem 6 w x c) h x hx
 refine ⟨fun r hrm p hp => ?_, fun y hy => ?_⟩
 ·obtain ⟨pv, hn⟩ := ress_get hr r hrm
  obtain ⟨c, hm⟩ := named_get hn p hp
  exact Dp.of_mem hm
 ·obtain ⟨c, hm⟩ := named_get ho y hy
  exact Dp.of_mem hm
theorem sum_congr {α : Type} {f g : α → Nat} : ∀ {l : List α}, (∀ x ∈ l, f x = g x) → (l.map f).sum = (l.map g).sum
 | [], _ => rfl
 | a :: l, h => by
  simp only [List.map_cons, List.sum_cons]
  rw [h a (by simp), sum_congr (fun x hx => h x (by simp [hx]))]
theorem xbulk_same : ∀ (m : Nat) {w : World} {e : Ex} {cs : List Value}, X.Mem m w e cs → X.bulk (m + 1) e = X.bulk m e
 | 0, _, _, _, h => h.elim
 | m + 1, w, e, cs, ⟨_, _, _, _, _, av, _, _, hv, ha, _⟩ => by
  have h1 := V.bulk_up (m + 1) hv
  have h2 : X.sumA (X.bulk (m + 1)) e.a = X.sumA (X.bulk m) e.a := by
   unfold X.sumA
   refine sum_congr (fun x hx => ?_)
   obtain ⟨c, hm⟩ := row_get (Q := fun x c => X.Mem m w x c) ha x hx
   exact xbulk_same m hm
  rw [X.bulk, X.bulk, h1, h2]
theorem sbulk_same {m : Nat} {w : World} {s : Sk} {cs : List Value} (h : X.SMem m w s cs) : X.bulkS (m + 1) s = X.bulkS m s := by
 obtain ⟨iv, rv, ov, _, hi, hr, ho⟩ := h
 have h1 : X.sumI (m + 1) s.ins = X.sumI m s.ins := sum_congr (fun x hx => by
  obtain ⟨c, hm⟩ := vals_get hi x hx
  rw [V.bulk_up m hm])
 have hp : ∀ {pv : Value} {l : List (ByteArray × Ex)}, X.Named m w pv l → X.sumP (m + 1) l = X.sumP m l := fun hn => sum_congr (fun x hx => by
  obtain ⟨c, hm⟩ := named_get hn x hx
  rw [xbulk_same m hm])
 have h2 : X.sumR (m + 1) s.res = X.sumR m s.res := sum_congr (fun x hx => by
  obtain ⟨pv, hn⟩ := ress_get hr x hx
  rw [hp hn])
 unfold X.bulkS
 rw [h1, h2, hp ho]
theorem stks_bulk {m : Nat} {w : World} {v : Value} {l : List Sk} (h : X.Stks m w v l) : X.sumS (m + 1) l = X.sumS m l := sum_congr (fun x hx => by
 obtain ⟨c, hm⟩ := row_get (Q := fun x c => X.SMem m w x c) h x hx
 exact sbulk_same hm)
theorem first_read (sm : Val → Val → Bool) : ∃ x, readS (okE sm) [115, 116, 97, 99, 107, 32, 97] = some [x] := ⟨_, rfl⟩
end P
end Go.Proofs.YtbdbpfcblppnbaaGreatDoor.Vx
