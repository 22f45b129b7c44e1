/- For LocksSays: maps of texts (the reference's locks). -/
import Derived.Test.YtckbfjoffbnjeaaDoorLM
import Derived.Maps.RangeRun
namespace Go.Proofs.YtckbfjoffbnjeaaDoor
open Go.RowKit
open Go.ChangeMaps Go.MapKept
namespace J
def val (d : ByteArray) : Value := .string d
def ent (x : ByteArray × ByteArray) : Value × Value := (.string x.1, val x.2)
/-- Block b is a map of these texts. -/
def Is (w : World) (b : Nat) (F : List (ByteArray × ByteArray)) : Prop := ∃ es c, w.heap[b]? = some (.map es c) ∧ es.toList.map (fun e => (e.key, e.val)) = F.map ent ∧ M.Stamps es c
theorem u112 : Tryd.prog.underlying 27 = some (.map 9 9) := by kernel_rfl
theorem u9 : Tryd.prog.underlying 9 = some .string := by kernel_rfl
theorem z127 (w : World) : (zeroValue 9).run Tryd.prog w = .ok (val ⟨#[]⟩) w := by kernel_rfl
theorem find_str (n : ByteArray) : ∀ (es : List MapEntry) (F : List (ByteArray × ByteArray)) (i : Nat), es.map (fun e => (e.key, e.val)) = F.map ent → Instr.findNow .string (.string n) es i = some ((M.at_ n F i).map (fun p => (p.1, val p.2)))
  | [], F, i, h => by
    have : F = [] := by cases F with | nil => rfl | cons a t => simp at h
    subst this; rfl
  | e :: es, F, i, h => by
    cases F with
    | nil => simp at h
    | cons x F =>
      simp only [List.map_cons, List.cons.injEq] at h
      obtain ⟨h1, h2⟩ := h
      have hk : e.key = .string x.1 := congrArg Prod.fst h1
      have hv : e.val = val x.2 := congrArg Prod.snd h1
      rw [Instr.findNow, hk, Instr.sameNow, M.at_]
      cases hb : n == x.1 with
      | true => simp [hv]
      | false => simp [find_str n es F (i + 1) h2]
theorem find_run (n : ByteArray) (es : Array MapEntry) (F : List (ByteArray × ByteArray)) (w : World) (h : es.toList.map (fun e => (e.key, e.val)) = F.map ent) : (Instr.findKey 9 (.string n) es.toList).run Tryd.prog w = .ok ((M.at_ n F 0).map (fun p => (p.1, val p.2))) w := by
  unfold Instr.findKey
  simp [go_sem, find_str n es.toList F 0 h]
theorem look {w : World} {b : Nat} {F : List (ByteArray × ByteArray)} (h : Is w b F) (n : ByteArray) (ok : Bool) :
    (Instr.lookup 27 (.map (some b)) (.string n) ok).run Tryd.prog w = .ok (match M.at_ n F 0 with | some p => if ok then .tuple #[val p.2, .bool true] else val p.2 | none => if ok then .tuple #[val ⟨#[]⟩, .bool false] else val ⟨#[]⟩) w := by
  obtain ⟨es, c, hb, hF, hS⟩ := h
  have hf := find_run n es F w hF
  simp only [Instr.lookup, Sem.run_bind, run_underlying u112, MapKept.run_getObj_map hb, M.key_run, hf, Result.andThen_ok, Sem.run_pure]
  cases M.at_ n F 0 with
  | none => simp [go_sem]; rfl
  | some p => simp [go_sem]
theorem update {w : World} {b : Nat} {F : List (ByteArray × ByteArray)} (h : Is w b F) (n d : ByteArray) :
    ∃ w', (Instr.mapUpdate 27 (.map (some b)) (.string n) (val d)).run Tryd.prog w = .ok () w' ∧ Is w' b (M.put F n d) ∧ w.grownBy w' (some b) := by
  obtain ⟨es, c, hb, hF, hS⟩ := h
  have hf := find_run n es F w hF
  cases ha : M.at_ n F 0 with
  | none =>
    rw [ha] at hf
    refine ⟨ChangeMaps.setBlock w b (.map (es.push ⟨.string n, val d, c⟩) (c + 1)), ?_, ⟨_, _, heap_setBlock_same hb _, ?_, hS.push _ _⟩, ⟨rfl, rfl, rfl, by simp [ChangeMaps.setBlock], fun i _ hi => heap_setBlock_other hb _ (fun e => hi (by rw [e]))⟩⟩
    · simp [Instr.mapUpdate, run_underlying u112, MapKept.run_getObj_map hb, M.key_run, hf, MapKept.run_setObj_map _ hb, Result.andThen, ChangeMaps.setBlock]
    · unfold M.put
      rw [ha]
      simp [hF, ent]
  | some p =>
    rw [ha] at hf
    obtain ⟨j, x, h1, h2, h3, h4⟩ := M.at_spec n F 0 p ha
    have hj : p.1 = j := by omega
    have hje : j < es.size := by
      have h5 := congrArg List.length hF
      simp at h5
      rw [h5]; exact (List.getElem?_eq_some_iff.1 h2).1
    have hk : es[j].key = .string n := by
      have h5 : (es.toList.map (fun e => (e.key, e.val)))[j]? = (F.map ent)[j]? := by rw [hF]
      rw [List.getElem?_map, List.getElem?_map, h2] at h5
      simp [hje, ent] at h5
      rw [h5.1, h3]
    refine ⟨setBlock w b (.map (es.modify j fun e => { e with key := .string n, val := val d }) c), ?_, ⟨_, _, heap_setBlock_same hb _, ?_, hS.turn j _ _⟩, ⟨rfl, rfl, rfl, by simp [setBlock], fun i _ hi => heap_setBlock_other hb _ (fun e => hi (by rw [e]))⟩⟩
    · have hsb : Instr.sameBits 10000 (.string n) (.string n) = true := by simp [Instr.sameBits, (bytes_beq n n).2 rfl]
      simp [Instr.mapUpdate, run_underlying u112, MapKept.run_getObj_map hb, M.key_run, hf, MapKept.run_setObj_map _ hb, Result.andThen, setBlock, Instr.keyThatStays, hj, hje, hk, hsb]
    · unfold M.put
      rw [ha]
      simp only
      rw [hj, Array.toList_modify]
      apply List.ext_getElem?
      intro i
      have h5 : (es.toList.map (fun e => (e.key, e.val)))[i]? = (F.map ent)[i]? := by rw [hF]
      rw [List.getElem?_map, List.getElem?_map] at h5 ⊢
      rw [List.getElem?_modify, List.getElem?_set]
      by_cases hij : j = i
      · subst hij
        have hF2 : j < F.length := (List.getElem?_eq_some_iff.1 h2).1
        simp [hje, hF2, ent]
      · simp only [if_neg hij]
        cases he : es.toList[i]? with
        | none => rw [he] at h5; simpa using h5
        | some e => rw [he] at h5; simpa using h5
theorem delete {w : World} {b : Nat} {F : List (ByteArray × ByteArray)} (h : Is w b F) (n : ByteArray) (ty : TypeId) :
    ∃ w', (Builtin.delete_ #[27, 9] ty #[.map (some b), .string n]).run Tryd.prog w = .ok (.tuple #[]) w' ∧ Is w' b (M.del F n) ∧ w.grownBy w' (some b) := by
  obtain ⟨es, c, hb, hF, hS⟩ := h
  have hf := find_run n es F w hF
  cases ha : M.at_ n F 0 with
  | none =>
    rw [ha] at hf
    refine ⟨ChangeMaps.setBlock w b (.map es c), ?_, ⟨_, _, heap_setBlock_same hb _, ?_, hS⟩, ⟨rfl, rfl, rfl, by simp [ChangeMaps.setBlock], fun i _ hi => heap_setBlock_other hb _ (fun e => hi (by rw [e]))⟩⟩
    · simp [Builtin.delete_, run_underlying u112, MapKept.run_getObj_map hb, M.key_run, hf, MapKept.run_setObj_map _ hb, Result.andThen, ChangeMaps.setBlock]
    · unfold M.del
      rw [ha]
      exact hF
  | some p =>
    rw [ha] at hf
    obtain ⟨j, x, h1, h2, h3, h4⟩ := M.at_spec n F 0 p ha
    have hj : p.1 = j := by omega
    have hje : j < es.size := by
      have h5 := congrArg List.length hF
      simp at h5
      rw [h5]; exact (List.getElem?_eq_some_iff.1 h2).1
    refine ⟨setBlock w b (.map (es.eraseIdxIfInBounds j) c), ?_, ⟨_, _, heap_setBlock_same hb _, ?_, hS.drop j hje⟩, ⟨rfl, rfl, rfl, by simp [setBlock], fun i _ hi => heap_setBlock_other hb _ (fun e => hi (by rw [e]))⟩⟩
    · simp [Builtin.delete_, run_underlying u112, MapKept.run_getObj_map hb, M.key_run, hf, MapKept.run_setObj_map _ hb, Result.andThen, setBlock, hj]
    · unfold M.del
      rw [ha]
      simp only
      rw [hj]
      have e : (es.eraseIdxIfInBounds j).toList = es.toList.eraseIdx j := by
        unfold Array.eraseIdxIfInBounds
        rw [dif_pos hje]; simp
      rw [e]
      have e2 : ∀ {α β : Type} (g : α → β) (l : List α) (j : Nat), (l.eraseIdx j).map g = (l.map g).eraseIdx j := by
        intro α β g l
        induction l with
        | nil => intro j; rfl
        | cons a t ih =>
          intro j
          cases j with
          | zero => rfl
          | succ j => simp [ih]
      rw [e2, e2, hF]
theorem Is.at {w w' : World} {b : Nat} {F : List (ByteArray × ByteArray)} (h : Is w b F) (hb : w'.heap[b]? = w.heap[b]?) : Is w' b F := by
  obtain ⟨es, c, h1, hF⟩ := h
  exact ⟨es, c, hb.trans h1, hF⟩
theorem Is.lt {w : World} {b : Nat} {F : List (ByteArray × ByteArray)} (h : Is w b F) : b < w.heap.size := by
  obtain ⟨es, c, hb, _⟩ := h
  exact (Array.getElem?_eq_some_iff.1 hb).1
theorem Is.made (w : World) : Is (w.alloc (.map #[] 0)) w.heap.size [] := ⟨#[], 0, heap_alloc_new _ _, rfl, (fun e he => by cases he), List.nodup_nil⟩
theorem len_run {w : World} {b : Nat} {F : List (ByteArray × ByteArray)} (h : Is w b F) : (Builtin.len_ #[27] 3 #[.map (some b)]).run Tryd.prog w = .ok (.int .i64 F.length) w := by
  obtain ⟨es, c, hb, hF, _⟩ := h
  have hl : es.size = F.length := by
    have h5 := congrArg List.length hF
    simpa using h5
  simp [Builtin.len_, run_underlying u112, MapKept.run_getObj_map hb, Result.andThen, goInt, hl]
def dec (p : Value × Value) : ByteArray × ByteArray := (match p.1 with | .string s => s | _ => ⟨#[]⟩, match p.2 with | .string s => s | _ => ⟨#[]⟩)
theorem dec_ent (x : ByteArray × ByteArray) : dec (ent x) = x := rfl
theorem ent_inj {x y : ByteArray × ByteArray} (h : ent x = ent y) : x = y := by rw [← dec_ent x, ← dec_ent y, h]
structure Rng (es : Array MapEntry) (E : List MapEntry) (F2 : List (ByteArray × ByteArray)) (sn : Array Nat) : Prop where
  sub : ∀ e ∈ E, e ∈ es.toList
  seen : sn.toList = E.map (·.born)
  nd : (E.map (·.born)).Nodup
  f2 : E.map M.kv = F2.map ent
  le : E.length + (leftOf es sn).size ≤ es.size
theorem Rng.start (es : Array MapEntry) : Rng es [] [] #[] := ⟨fun _ h => absurd h (by simp), rfl, List.nodup_nil, rfl, by unfold leftOf; rw [List.length_nil, Nat.zero_add]; exact Array.size_filter_le⟩
theorem get_ent {es : Array MapEntry} {F : List (ByteArray × ByteArray)} (hF : es.toList.map M.kv = F.map ent) {i : Nat} {e : MapEntry} (h : es.toList[i]? = some e) : ∃ x, F[i]? = some x ∧ e.key = .string x.1 ∧ e.val = val x.2 := by
  have h5 : (es.toList.map M.kv)[i]? = (F.map ent)[i]? := by rw [hF]
  rw [List.getElem?_map, List.getElem?_map, h] at h5
  cases hx : F[i]? with
  | none => rw [hx] at h5; simp at h5
  | some x =>
    rw [hx] at h5
    simp [M.kv, ent] at h5
    exact ⟨x, rfl, h5.1, h5.2⟩
theorem Rng.next {es : Array MapEntry} {F F2 : List (ByteArray × ByteArray)} {E : List MapEntry} {sn : Array Nat} (h : Rng es E F2 sn) (hF : es.toList.map M.kv = F.map ent) (hk : (F.map (·.1)).Nodup) {e : MapEntry} (he : e ∈ (leftOf es sn).toList) :
    ∃ x : ByteArray × ByteArray, e.key = .string x.1 ∧ e.val = val x.2 ∧ x ∈ F ∧ Rng es (E ++ [e]) (F2 ++ [x]) (sn.push e.born) ∧ x.1 ∉ F2.map (·.1) := by
  obtain ⟨hes, hns⟩ := M.left_mem.1 he
  obtain ⟨i, hi⟩ := List.getElem?_of_mem hes
  obtain ⟨x, hx, k1, k2⟩ := get_ent hF hi
  refine ⟨x, k1, k2, List.mem_of_getElem? hx, ⟨?_, ?_, ?_, ?_, ?_⟩, ?_⟩
  · intro y hy
    rcases List.mem_append.1 hy with hy | hy
    · exact h.sub y hy
    · have : y = e := by simpa using hy
      rw [this]; exact hes
  · simp [h.seen]
  · rw [List.map_append, List.nodup_append]
    refine ⟨h.nd, by simp, fun a ha b hb hab => ?_⟩
    have hb2 : b = e.born := by simpa using hb
    rw [h.seen] at hns
    apply hns
    rw [← hb2, ← hab]
    exact ha
  · rw [List.map_append, List.map_append, h.f2]
    simp [M.kv, ent, k1, k2]
  · have h1 := M.left_less he
    have h2 := h.le
    simp
    omega
  · intro hin
    obtain ⟨y, hy, hyx⟩ := List.mem_map.1 hin
    have hent : ent y ∈ E.map M.kv := by rw [h.f2]; exact List.mem_map.2 ⟨y, hy, rfl⟩
    obtain ⟨e2, he2, hkv⟩ := List.mem_map.1 hent
    obtain ⟨j, hj⟩ := List.getElem?_of_mem (h.sub e2 he2)
    obtain ⟨z, hz, z1, z2⟩ := get_ent hF hj
    have hzy : z = y := ent_inj (by rw [← hkv]; simp [M.kv, ent, z1, z2])
    have hij : i = j := M.nodup_at hk (x := x.1) (by rw [List.getElem?_map, hx]; rfl) (by rw [List.getElem?_map, hz, hzy]; simp [hyx])
    rw [hij, hj] at hi
    have hee : e2 = e := by simpa using hi
    apply hns
    rw [h.seen, ← hee]
    exact List.mem_map.2 ⟨e2, he2, rfl⟩
theorem Rng.perm {es : Array MapEntry} {F F2 : List (ByteArray × ByteArray)} {E : List MapEntry} {sn : Array Nat} (h : Rng es E F2 sn) (hF : es.toList.map M.kv = F.map ent) (hS : (es.toList.map (·.born)).Nodup) (h0 : (leftOf es sn).size = 0) : F2.Perm F := by
  have nd1 : E.Nodup := List.Pairwise.of_map (fun x : MapEntry => x.born) (fun a b hab e => hab (by rw [e])) h.nd
  have nd2 : es.toList.Nodup := List.Pairwise.of_map (fun x : MapEntry => x.born) (fun a b hab e => hab (by rw [e])) hS
  have hall : ∀ e ∈ es.toList, e ∈ E := by
    intro e he
    have hin : e.born ∈ sn.toList := by
      by_cases hc : e.born ∈ sn.toList
      · exact hc
      · have := M.left_mem.2 ⟨he, hc⟩
        rw [Array.eq_empty_of_size_eq_zero h0] at this
        cases this
    rw [h.seen] at hin
    obtain ⟨e2, he2, hb⟩ := List.mem_map.1 hin
    obtain ⟨i, hi⟩ := List.getElem?_of_mem he
    obtain ⟨j, hj⟩ := List.getElem?_of_mem (h.sub e2 he2)
    have hij : i = j := M.nodup_at hS (x := e.born) (by rw [List.getElem?_map, hi]; rfl) (by rw [List.getElem?_map, hj, ← hb]; rfl)
    rw [hij, hj] at hi
    have : e2 = e := by simpa using hi
    rw [← this]; exact he2
  have hp : E.Perm es.toList := (List.perm_ext_iff_of_nodup nd1 nd2).2 (fun a => ⟨h.sub a, hall a⟩)
  have hp2 := (hp.map M.kv)
  rw [h.f2, hF] at hp2
  have hp3 := hp2.map dec
  rw [List.map_map, List.map_map] at hp3
  have e : (dec ∘ ent) = id := by funext x; exact dec_ent x
  rw [e, List.map_id, List.map_id] at hp3
  exact hp3
end J
end Go.Proofs.YtckbfjoffbnjeaaDoor
