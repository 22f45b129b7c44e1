/- Frames, and what is read of them. -/
import Derived.Test.YtmlbcdofogffkabDS
namespace Go.Proofs.Ytmlbcdofogffkab
open Go.RowKit
namespace N
theorem bext {a b : ByteArray} (h : a.data.toList = b.data.toList) : a = b := ByteArray.ext (Array.toList_inj.1 h)
theorem bl_append (a b : ByteArray) : (a ++ b).data.toList = a.data.toList ++ b.data.toList := by simp
theorem bl_extract (a : ByteArray) (i j : Nat) : (a.extract i j).data.toList = (a.data.toList.take j).drop i := by simp [List.drop_take]
theorem bl_size (a : ByteArray) : a.size = a.data.toList.length := by simp
theorem ex_right (a b : ByteArray) : (a ++ b).extract a.size (a ++ b).size = b := by
  apply bext
  rw [bl_extract, bl_append, ByteArray.size_append, bl_size a, bl_size b, ← List.length_append, List.take_length, List.drop_left]
theorem ex_left (a b : ByteArray) : (a ++ b).extract 0 a.size = a := by
  apply bext
  rw [bl_extract, bl_append, bl_size a, List.take_left, List.drop_zero]
theorem ex_mid (a b c : ByteArray) : (a ++ b ++ c).extract a.size (a.size + b.size) = b := by
  apply bext
  rw [bl_extract, bl_append, bl_append, bl_size a, bl_size b, ← List.length_append, List.take_left, List.drop_left]
theorem ex_pre (a : ByteArray) (i m : Nat) (h : i ≤ m) : (a.extract 0 m).extract 0 i = a.extract 0 i := by
  apply bext
  rw [bl_extract, bl_extract, bl_extract, List.drop_zero, List.drop_zero, List.drop_zero, List.take_take, Nat.min_eq_left h]
/-- A record, framed. -/
def frame (s : ByteArray) : ByteArray := head s ++ s
def frames : List ByteArray → ByteArray
  | [] => ⟨#[]⟩
  | r :: R => frame r ++ frames R
theorem frame_size (s : ByteArray) : (frame s).size = 6 + s.size := by unfold frame; rw [ByteArray.size_append, head_size]
theorem frames_size : ∀ R : List ByteArray, (frames R).size = size R
  | [] => rfl
  | r :: R => by rw [frames, size, ByteArray.size_append, frame_size, frames_size R]
theorem empty_append (a : ByteArray) : (⟨#[]⟩ : ByteArray) ++ a = a := by apply bext; rw [bl_append]; rfl
theorem append_empty (a : ByteArray) : a ++ (⟨#[]⟩ : ByteArray) = a := by apply bext; rw [bl_append]; simp
theorem frames_append : ∀ (R : List ByteArray) (s : ByteArray), frames (R ++ [s]) = frames R ++ frame s
  | [], s => by
    show frame s ++ ⟨#[]⟩ = ⟨#[]⟩ ++ frame s
    rw [append_empty, empty_append]
  | r :: R, s => by rw [List.cons_append, frames, frames_append R s, frames, ByteArray.append_assoc]
theorem getD_bl (a : ByteArray) (i : Nat) : a.data.getD i 0 = (a.data.toList[i]?).getD 0 := by simp
/-- The first two bytes tell how many. -/
theorem count_of {d s : ByteArray} (hs : s.size ≤ 400) (h : d.extract 0 2 = (frame s).extract 0 2) : count d = s.size := by
  have h1 := congrArg (fun a : ByteArray => a.data.toList) h
  simp only [bl_extract, List.drop_zero] at h1
  have hl : ∀ i, i < 2 → d.data.toList[i]? = (frame s).data.toList[i]? := by
    intro i hi
    have h2 : (d.data.toList.take 2)[i]? = ((frame s).data.toList.take 2)[i]? := by rw [h1]
    rw [List.getElem?_take_of_lt hi, List.getElem?_take_of_lt hi] at h2
    exact h2
  have hf : (frame s).data.toList = [lowB s.size 1, lowB s.size 256] ++ ([lowB (sum (bl s) % 4294967296) 1, lowB (sum (bl s) % 4294967296) 256, lowB (sum (bl s) % 4294967296) 65536, lowB (sum (bl s) % 4294967296) 16777216] ++ s.data.toList) := by
    unfold frame head
    rw [bl_append, bl_append, List.append_assoc]; rfl
  unfold count
  rw [getD_bl, getD_bl, hl 0 (by omega), hl 1 (by omega), hf]
  have a0 := lowB_int s.size 1
  have a1 := lowB_int s.size 256
  simp only [List.cons_append, List.getElem?_cons_zero, List.getElem?_cons_succ, Option.getD_some]
  omega
theorem first_frame (s x : ByteArray) (hs : s.size ≤ 400) : first (frame s ++ x) = some s := by
  have hsz : (frame s ++ x).size = 6 + s.size + x.size := by rw [ByteArray.size_append, frame_size]
  have hc : count (frame s ++ x) = s.size := count_of hs (by
    have h1 : ((frame s ++ x).extract 0 (frame s).size).extract 0 2 = (frame s ++ x).extract 0 2 := ex_pre _ 2 _ (by rw [frame_size]; omega)
    rw [← h1, ex_left])
  unfold first
  rw [hc, if_neg (by omega)]
  have e1 : (frame s ++ x).extract 0 6 = head s := by
    have h1 := ex_left (head s) (s ++ x)
    rw [head_size] at h1
    unfold frame
    rw [ByteArray.append_assoc]; exact h1
  have e2 : (frame s ++ x).extract 6 (6 + s.size) = s := by
    have h1 := ex_mid (head s) s x
    rw [head_size] at h1
    exact h1
  rw [e1, e2, if_pos ((MapKept.bytes_beq _ _).2 rfl)]
theorem first_torn (s : ByteArray) (m : Nat) (hs : s.size ≤ 400) (hm : m < 6 + s.size) : first ((frame s).extract 0 m) = none := by
  have hsz : ((frame s).extract 0 m).size = m := by
    have := frame_size s
    simp
    omega
  unfold first
  by_cases h6 : m < 6
  · rw [if_pos (.inl (by omega))]
  · have hc : count ((frame s).extract 0 m) = s.size := count_of hs (ex_pre _ 2 _ (by omega))
    rw [hc, if_pos (.inr (.inr (by omega)))]
theorem first_empty : first ⟨#[]⟩ = none := by unfold first; rw [if_pos (.inl (by decide))]
theorem parse_frames (T : ByteArray) (hT : first T = none) : ∀ (L : List ByteArray) (P : ByteArray) (k : Nat), (∀ r ∈ L, r.size ≤ 400) → L.length < k → parse k (P ++ (frames L ++ T)) P.size = L
  | [], P, k, _, hk => by
    obtain ⟨k2, rfl⟩ : ∃ k2, k = k2 + 1 := ⟨k - 1, by simp at hk; omega⟩
    show parse (k2 + 1) (P ++ (⟨#[]⟩ ++ T)) P.size = []
    rw [empty_append, parse, ex_right, hT]
  | r :: R, P, k, hr, hk => by
    obtain ⟨k2, rfl⟩ : ∃ k2, k = k2 + 1 := ⟨k - 1, by simp at hk; omega⟩
    rw [frames, parse, ex_right, ByteArray.append_assoc, first_frame r _ (hr r (by simp))]
    simp only
    have ih := parse_frames T hT R (P ++ frame r) k2 (fun x hx => hr x (by simp [hx])) (by simp at hk; omega)
    rw [ByteArray.size_append, frame_size, ByteArray.append_assoc] at ih
    rw [ih]
theorem size_ge : ∀ L : List ByteArray, L.length ≤ size L
  | [] => Nat.le_refl _
  | r :: R => by rw [size, List.length_cons]; have := size_ge R; omega
/-- What is read of frames, with something torn behind them. -/
theorem all_frames (L : List ByteArray) (T : ByteArray) (hL : ∀ r ∈ L, r.size ≤ 400) (hT : first T = none) : all (frames L ++ T) = L := by
  have h := parse_frames T hT L ⟨#[]⟩ ((frames L ++ T).size + 1) hL (by rw [ByteArray.size_append, frames_size]; have := size_ge L; omega)
  rw [empty_append] at h
  exact h
theorem all_whole (L : List ByteArray) (hL : ∀ r ∈ L, r.size ≤ 400) : all (frames L) = L := by
  have h := all_frames L ⟨#[]⟩ hL first_empty
  rw [append_empty] at h; exact h
end N
end Go.Proofs.Ytmlbcdofogffkab
