/- Ranging over the files of a map, in whatever order; copied. -/
import Derived.Test.YtckbfjoffbnjeaaDoorFC
namespace Go.Proofs.YtckbfjoffbnjeaaDoor
open Go.RowKit
open Go.ChangeMaps (setBlock)
attribute [local go_sem ↓] Go.wp_at_zero Go.wp_at_succ
namespace M
def kv (e : MapEntry) : Value × Value := (e.key, e.val)
def dec (p : Value × Value) : ByteArray × ByteArray := (match p.1 with | .string s => s | _ => ⟨#[]⟩, match p.2 with | .agg a => (match a.toList with | [.string s] => s | _ => ⟨#[]⟩) | _ => ⟨#[]⟩)
theorem dec_ent (x : ByteArray × ByteArray) : dec (ent x) = x := rfl
theorem ent_inj {x y : ByteArray × ByteArray} (h : ent x = ent y) : x = y := by rw [← dec_ent x, ← dec_ent y, h]
/-- What has come out of a map so far: these entries, once each. -/
structure Rng (es : Array MapEntry) (E : List MapEntry) (F2 : List (ByteArray × ByteArray)) (sn : Array Nat) : Prop where
  sub : ∀ e ∈ E, e ∈ es.toList
  seen : sn.toList = E.map (·.born)
  nd : (E.map (·.born)).Nodup
  f2 : E.map kv = F2.map ent
  le : E.length + (leftOf es sn).size ≤ es.size
theorem Rng.start (es : Array MapEntry) : Rng es [] [] #[] := ⟨fun _ h => absurd h (by simp), rfl, List.nodup_nil, rfl, by unfold leftOf; rw [List.length_nil, Nat.zero_add]; exact Array.size_filter_le⟩
theorem left_mem {es : Array MapEntry} {sn : Array Nat} {e : MapEntry} : e ∈ (leftOf es sn).toList ↔ e ∈ es.toList ∧ e.born ∉ sn.toList := by
  unfold leftOf
  simp
theorem get_ent {es : Array MapEntry} {F : List (ByteArray × ByteArray)} (hF : es.toList.map kv = F.map ent) {i : Nat} {e : MapEntry} (h : es.toList[i]? = some e) : ∃ x, F[i]? = some x ∧ e.key = .string x.1 ∧ e.val = val x.2 := by
  have h5 : (es.toList.map kv)[i]? = (F.map ent)[i]? := by rw [hF]
  rw [List.getElem?_map, List.getElem?_map, h] at h5
  cases hx : F[i]? with
  | none => rw [hx] at h5; simp at h5
  | some x =>
    rw [hx] at h5
    simp [kv, ent] at h5
    exact ⟨x, rfl, h5.1, h5.2⟩
theorem nodup_at {α : Type} {l : List α} (h : l.Nodup) {i j : Nat} {x : α} (hi : l[i]? = some x) (hj : l[j]? = some x) : i = j :=
  (List.getElem?_inj (List.getElem?_eq_some_iff.1 hi).1 h).1 (hi.trans hj.symm)
theorem left_less {es : Array MapEntry} {sn : Array Nat} {e : MapEntry} (he : e ∈ (leftOf es sn).toList) : (leftOf es (sn.push e.born)).size < (leftOf es sn).size := by
  have e1 : (leftOf es (sn.push e.born)).toList = (leftOf es sn).toList.filter (fun x => !(x.born == e.born)) := by
    unfold leftOf
    simp only [Array.toList_filter, List.filter_filter]
    congr 1
    funext x
    simp [Bool.or_comm]
    rfl
  have e2 : (leftOf es (sn.push e.born)).toList.length < (leftOf es sn).toList.length := by
    rw [e1]
    exact List.length_filter_lt_length_iff_exists.2 ⟨e, he, by simp⟩
  simpa using e2
theorem Rng.next {es : Array MapEntry} {F F2 : List (ByteArray × ByteArray)} {E : List MapEntry} {sn : Array Nat} (h : Rng es E F2 sn) (hF : es.toList.map kv = F.map ent) (hk : (F.map (·.1)).Nodup) {e : MapEntry} (he : e ∈ (leftOf es sn).toList) :
    ∃ x : ByteArray × ByteArray, e.key = .string x.1 ∧ e.val = val x.2 ∧ x ∈ F ∧ Rng es (E ++ [e]) (F2 ++ [x]) (sn.push e.born) ∧ x.1 ∉ F2.map (·.1) := by
  obtain ⟨hes, hns⟩ := left_mem.1 he
  obtain ⟨i, hi⟩ := List.getElem?_of_mem hes
  obtain ⟨x, hx, k1, k2⟩ := get_ent hF hi
  refine ⟨x, k1, k2, List.mem_of_getElem? hx, ⟨?_, ?_, ?_, ?_, ?_⟩, ?_⟩
  · intro y hy
    rcases List.mem_append.1 hy with hy | hy
    · exact h.sub y hy
    · have : y = e := by simpa using hy
      rw [this]; exact hes
  · simp [h.seen]
  · rw [List.map_append, List.nodup_append]
    refine ⟨h.nd, by simp, fun a ha b hb hab => ?_⟩
    have hb2 : b = e.born := by simpa using hb
    rw [h.seen] at hns
    apply hns
    rw [← hb2, ← hab]
    exact ha
  · rw [List.map_append, List.map_append, h.f2]
    simp [kv, ent, k1, k2]
  · have h1 := left_less he
    have h2 := h.le
    simp
    omega
  · intro hin
    obtain ⟨y, hy, hyx⟩ := List.mem_map.1 hin
    have hent : ent y ∈ E.map kv := by rw [h.f2]; exact List.mem_map.2 ⟨y, hy, rfl⟩
    obtain ⟨e2, he2, hkv⟩ := List.mem_map.1 hent
    obtain ⟨j, hj⟩ := List.getElem?_of_mem (h.sub e2 he2)
    obtain ⟨z, hz, z1, z2⟩ := get_ent hF hj
    have hzy : z = y := ent_inj (by rw [← hkv]; simp [kv, ent, z1, z2])
    have hij : i = j := nodup_at hk (x := x.1) (by rw [List.getElem?_map, hx]; rfl) (by rw [List.getElem?_map, hz, hzy]; simp [hyx])
    rw [hij, hj] at hi
    have hee : e2 = e := by simpa using hi
    apply hns
    rw [h.seen, ← hee]
    exact List.mem_map.2 ⟨e2, he2, rfl⟩
theorem Rng.perm {es : Array MapEntry} {F F2 : List (ByteArray × ByteArray)} {E : List MapEntry} {sn : Array Nat} (h : Rng es E F2 sn) (hF : es.toList.map kv = F.map ent) (hS : (es.toList.map (·.born)).Nodup) (h0 : (leftOf es sn).size = 0) : F2.Perm F := by
  have nd1 : E.Nodup := List.Pairwise.of_map (fun x : MapEntry => x.born) (fun a b hab e => hab (by rw [e])) h.nd
  have nd2 : es.toList.Nodup := List.Pairwise.of_map (fun x : MapEntry => x.born) (fun a b hab e => hab (by rw [e])) hS
  have hall : ∀ e ∈ es.toList, e ∈ E := by
    intro e he
    have hin : e.born ∈ sn.toList := by
      by_cases hc : e.born ∈ sn.toList
      · exact hc
      · have := left_mem.2 ⟨he, hc⟩
        rw [Array.eq_empty_of_size_eq_zero h0] at this
        cases this
    rw [h.seen] at hin
    obtain ⟨e2, he2, hb⟩ := List.mem_map.1 hin
    obtain ⟨i, hi⟩ := List.getElem?_of_mem he
    obtain ⟨j, hj⟩ := List.getElem?_of_mem (h.sub e2 he2)
    have hij : i = j := nodup_at hS (x := e.born) (by rw [List.getElem?_map, hi]; rfl) (by rw [List.getElem?_map, hj, ← hb]; rfl)
    rw [hij, hj] at hi
    have : e2 = e := by simpa using hi
    rw [← this]; exact he2
  have hp : E.Perm es.toList := (List.perm_ext_iff_of_nodup nd1 nd2).2 (fun a => ⟨h.sub a, hall a⟩)
  have hp2 := (hp.map kv)
  rw [h.f2, hF] at hp2
  have hp3 := hp2.map dec
  rw [List.map_map, List.map_map] at hp3
  have e : (dec ∘ ent) = id := by funext x; exact dec_ent x
  rw [e, List.map_id, List.map_id] at hp3
  exact hp3
/-- How many are to come. -/
def leftC (w : World) (r b : Nat) : Nat := match w.heap[r]?, w.heap[b]? with | some (.mapIter _ _ sn _), some (.map es _) => (leftOf es sn).size | _, _ => 0
theorem leftC_at {w : World} {r b c0 c1 c : Nat} {m : Option Nat} {sn : Array Nat} {es : Array MapEntry} (h : w.heap[r]? = some (.mapIter m c0 sn c1)) (h2 : w.heap[b]? = some (.map es c)) : leftC w r b = (leftOf es sn).size := by unfold leftC; rw [h, h2]
theorem at_absent {n : ByteArray} : ∀ {F : List (ByteArray × ByteArray)} {i : Nat}, n ∉ F.map (·.1) → at_ n F i = none
  | [], _, _ => rfl
  | x :: F, i, h => by
    rw [at_]
    rw [List.map_cons, List.mem_cons, not_or] at h
    rw [if_neg (fun e => h.1 ((MapKept.bytes_beq _ _).1 e)), at_absent h.2]
theorem put_absent {n d : ByteArray} {F : List (ByteArray × ByteArray)} (h : n ∉ F.map (·.1)) : put F n d = F ++ [(n, d)] := by unfold put; rw [at_absent h]
end M

end Go.Proofs.YtckbfjoffbnjeaaDoor
