/- StateSays: RE RF RZ RG. -/
import Derived.Test.YtcekcfjabhlheaaGreatDoorRD
import Derived.Test.YtcekcfjabhlheaaGreatDoorVD
import Derived.OrdersHeld
import Derived.RegionTactic
import Derived.Deep.RegionLaw
set_option maxRecDepth 100000
set_option maxHeartbeats 3200000
namespace Go.Proofs.YtcekcfjabhlheaaGreatDoor.Vx
open Go.RowKit
def X.MemD (D : Nat -> Prop) (m : Nat) (w : World) (e : Ex) (cs : List Value) : Prop := ∀ w2 : World, (∀ c, D c -> w2.heap[c]? = w.heap[c]?) -> X.Mem m w2 e cs
theorem X.MemD.to {D D2 : Nat -> Prop} {m : Nat} {w w2 : World} {e : Ex} {cs : List Value} (h : X.MemD D m w e cs) (hw : ∀ c, D c -> w2.heap[c]? = w.heap[c]?) (hD : ∀ c, D c -> D2 c) : X.MemD D2 m w2 e cs := fun w3 h3 => h w3 (fun c hc => (h3 c (hD c hc)).trans (hw c hc))
theorem X.MemD.mem {D : Nat -> Prop} {m : Nat} {w : World} {e : Ex} {cs : List Value} (h : X.MemD D m w e cs) : X.Mem m w e cs := h w (fun _ _ => rfl)
namespace P
def xc (k : Int) (v : Val) (s t : ByteArray) (a : Option Addr) (n c : Nat) (a' : Option Addr) (n' c' : Nat) : List Value :=
 [.int .i64 k, .int .i64 v.kind, .int .i64 v.n, .string v.s, .slice none 0 0, .slice none 0 0, .string s, .string t, .slice a n c, .slice a' n' c']
def New (w w' : World) : Nat -> Prop := fun c => w.heap.size <= c /\ c < w'.heap.size
def ExOut (p : Option (Ex × List T)) (d R : Nat) (w w' : World) (ts : List K) (r : Ending) : Prop :=
 (∃ e n k v s t a i c a' i' c', p = some (e, fc (ts.drop (n + 1))) /\ r = .returned (.tuple #[.agg (xc k v s t a i c a' i' c').toArray, .nilIface]) /\ X.MemD (New w w') d w' e (xc k v s t a i c a' i' c') /\
   X.bulk d e + 60 * (ts.drop (n + 1)).length <= 60 * ts.length /\ Rdr R w' (ts.drop (n + 1))) \/
  (p = none /\ (∃ k v s t a i c a' i' c' f, r = .returned (.tuple #[.agg (xc k v s t a i c a' i' c').toArray, .iface 54 (.int .i64 f)])) /\ ∃ ts', Rdr R w' ts')
theorem set10 {w : World} {g : Nat} {t : TypeId} {z0 z1 z2 z3 z4 z5 z6 z7 z8 z9 : Value} (h : w.heap[g]? = some (.cells #[z0, z1, z2, z3, z4, z5, z6, z7, z8, z9] t (0, 0))) (y0 y1 y2 y3 y4 y5 y6 y7 y8 y9 : Value) :
  ((((((((((w.setCell ⟨g, 0, none⟩ y0).setCell ⟨g, 1, none⟩ y1).setCell ⟨g, 2, none⟩ y2).setCell ⟨g, 3, none⟩ y3).setCell ⟨g, 4, none⟩ y4).setCell ⟨g, 5, none⟩ y5).setCell ⟨g, 6, none⟩ y6).setCell ⟨g, 7, none⟩ y7).setCell ⟨g, 8, none⟩ y8).setCell ⟨g, 9, none⟩ y9).heap[g]? = some (.cells #[y0, y1, y2, y3, y4, y5, y6, y7, y8, y9] t (0, 0)) := by
 have h0 : (w.setCell ⟨g, 0, none⟩ y0).heap[g]? = some (.cells #[y0, z1, z2, z3, z4, z5, z6, z7, z8, z9] t (0, 0)) := block_set (i := 0) h y0;have h1 : ((w.setCell ⟨g, 0, none⟩ y0).setCell ⟨g, 1, none⟩ y1).heap[g]? = some (.cells #[y0, y1, z2, z3, z4, z5, z6, z7, z8, z9] t (0, 0)) := block_set (i := 1) h0 y1;have h2 : (((w.setCell ⟨g, 0, none⟩ y0).setCell ⟨g, 1, none⟩ y1).setCell ⟨g, 2, none⟩ y2).heap[g]? = some (.cells #[y0, y1, y2, z3, z4, z5, z6, z7, z8, z9] t (0, 0)) := block_set (i := 2) h1 y2;have h3 : ((((w.setCell ⟨g, 0, none⟩ y0).setCell ⟨g, 1, none⟩ y1).setCell ⟨g, 2, none⟩ y2).setCell ⟨g, 3, none⟩ y3).heap[g]? = some (.cells #[y0, y1, y2, y3, z4, z5, z6, z7, z8, z9] t (0, 0)) := block_set (i := 3) h2 y3;have h4 : (((((w.setCell ⟨g, 0, none⟩ y0).setCell ⟨g, 1, none⟩ y1).setCell ⟨g, 2, none⟩ y2).setCell ⟨g, 3, none⟩ y3).setCell ⟨g, 4, none⟩ y4).heap[g]? = some (.cells #[y0, y1, y2, y3, y4, z5, z6, z7, z8, z9] t (0, 0)) := block_set (i := 4) h3 y4;have h5 : ((((((w.setCell ⟨g, 0, none⟩ y0).setCell ⟨g, 1, none⟩ y1).setCell ⟨g, 2, none⟩ y2).setCell ⟨g, 3, none⟩ y3).setCell ⟨g, 4, none⟩ y4).setCell ⟨g, 5, none⟩ y5).heap[g]? = some (.cells #[y0, y1, y2, y3, y4, y5, z6, z7, z8, z9] t (0, 0)) := block_set (i := 5) h4 y5;have h6 : (((((((w.setCell ⟨g, 0, none⟩ y0).setCell ⟨g, 1, none⟩ y1).setCell ⟨g, 2, none⟩ y2).setCell ⟨g, 3, none⟩ y3).setCell ⟨g, 4, none⟩ y4).setCell ⟨g, 5, none⟩ y5).setCell ⟨g, 6, none⟩ y6).heap[g]? = some (.cells #[y0, y1, y2, y3, y4, y5, y6, z7, z8, z9] t (0, 0)) := block_set (i := 6) h5 y6;have h7 : ((((((((w.setCell ⟨g, 0, none⟩ y0).setCell ⟨g, 1, none⟩ y1).setCell ⟨g, 2, none⟩ y2).setCell ⟨g, 3, none⟩ y3).setCell ⟨g, 4, none⟩ y4).setCell ⟨g, 5, none⟩ y5).setCell ⟨g, 6, none⟩ y6).setCell ⟨g, 7, none⟩ y7).heap[g]? = some (.cells #[y0, y1, y2, y3, y4, y5, y6, y7, z8, z9] t (0, 0)) := block_set (i := 7) h6 y7;have h8 : (((((((((w.setCell ⟨g, 0, none⟩ y0).setCell ⟨g, 1, none⟩ y1).setCell ⟨g, 2, none⟩ y2).setCell ⟨g, 3, none⟩ y3).setCell ⟨g, 4, none⟩ y4).setCell ⟨g, 5, none⟩ y5).setCell ⟨g, 6, none⟩ y6).setCell ⟨g, 7, none⟩ y7).setCell ⟨g, 8, none⟩ y8).heap[g]? = some (.cells #[y0, y1, y2, y3, y4, y5, y6, y7, y8, z9] t (0, 0)) := block_set (i := 8) h7 y8;exact block_set (i := 9) h8 y9
theorem fr10 (w : World) (g : Nat) (y0 y1 y2 y3 y4 y5 y6 y7 y8 y9 : Value) : Fr w ((((((((((w.setCell ⟨g, 0, none⟩ y0).setCell ⟨g, 1, none⟩ y1).setCell ⟨g, 2, none⟩ y2).setCell ⟨g, 3, none⟩ y3).setCell ⟨g, 4, none⟩ y4).setCell ⟨g, 5, none⟩ y5).setCell ⟨g, 6, none⟩ y6).setCell ⟨g, 7, none⟩ y7).setCell ⟨g, 8, none⟩ y8).setCell ⟨g, 9, none⟩ y9) (fun c => c = g) :=
 ((((((((((Fr.refl w (fun c => c = g)).set ⟨g, 0, none⟩ y0 (fun _ => rfl)).set ⟨g, 1, none⟩ y1 (fun _ => rfl)).set ⟨g, 2, none⟩ y2 (fun _ => rfl)).set ⟨g, 3, none⟩ y3 (fun _ => rfl)).set ⟨g, 4, none⟩ y4 (fun _ => rfl)).set ⟨g, 5, none⟩ y5 (fun _ => rfl)).set ⟨g, 6, none⟩ y6 (fun _ => rfl)).set ⟨g, 7, none⟩ y7 (fun _ => rfl)).set ⟨g, 8, none⟩ y8 (fun _ => rfl)).set ⟨g, 9, none⟩ y9 (fun _ => rfl)
theorem vmem (m : Nat) (w : World) (k n : Int) (s : ByteArray) : V.Mem (m + 1) w ⟨k, n, s, [], []⟩ [.int .i64 k, .int .i64 n, .string s, .slice none 0 0, .slice none 0 0] := ⟨_, _, rfl, V.Row.zero _ _ _, V.Row.zero _ _ _⟩
theorem xleaf (D : Nat -> Prop) (m : Nat) (w : World) (k vk vn : Int) (vs s t : ByteArray) : X.MemD D (m + 1) w ⟨k, ⟨vk, vn, vs, [], []⟩, s, t, [], []⟩ (xc k ⟨vk, vn, vs, [], []⟩ s t none 0 0 none 0 0) :=
 fun w2 _ => ⟨_, _, _, _, _, _, _, rfl, vmem m w2 vk vn vs, X.RowA.zero _ _, V.Row.zero _ _ _⟩
theorem lit_form {ts : List T} {v : Val} {r : List T} (h : lit ts = some (v, r)) (hl : ∀ t ∈ ts, t.2.length <= 40) : v = ⟨v.kind, v.n, v.s, [], []⟩ /\ v.s.size <= 40 := by
 cases ts with
 | nil => cases h
 | cons t ts =>
  rw [lit] at h;split at h
  ·cases hn : number 0 (t :: ts) with
   | none => rw [hn] at h; cases h
   | some p => rw [hn] at h; cases h; exact ⟨rfl, by show (⟨#[]⟩ : ByteArray).size <= 40; decide⟩
  ·split at h
   ·cases h;refine ⟨rfl, ?_⟩;have := hl t (by simp);rw [<- V.length_bl, V.bl_str];exact this
   ·split at h
    ·cases h; exact ⟨rfl, by show (⟨#[]⟩ : ByteArray).size <= 40; decide⟩
    ·split at h
     ·cases h; exact ⟨rfl, by show (⟨#[]⟩ : ByteArray).size <= 40; decide⟩
     ·split at h
      ·cases hn : number 1 ts with
       | none => rw [hn] at h; cases h
       | some p => rw [hn] at h; cases h; exact ⟨rfl, by show (⟨#[]⟩ : ByteArray).size <= 40; decide⟩
      ·cases h; exact ⟨rfl, by show (⟨#[]⟩ : ByteArray).size <= 40; decide⟩
theorem fc_len {ts : List K} (h : ∀ t ∈ ts, Tv t) : ∀ t ∈ fc ts, t.2.length <= 40 := by
 intro t ht;obtain ⟨x, hx, rfl⟩ := List.mem_map.1 ht;exact (h x hx).1
end P
theorem literal_any (d R : Nat) (w : World) (t : P.K) (ts : List P.K) (h : P.Rdr R w (t :: ts)) :
  Calls Tryz.prog 173 #[.pointer (some ⟨R, 0, none⟩)] w fun r w' => Fr w w' (fun c => c = R) /\ P.ExOut ((P.lit (P.fc (t :: ts))).map (fun p => (⟨1, p.1, ⟨#[]⟩, ⟨#[]⟩, [], []⟩, p.2))) (d + 1) R w w' (t :: ts) r := by
 have hR := h.lt;have hb0 : Below w.heap.size w (w.alloc (.cells #[.int .i64 0, .int .i64 0, .int .i64 0, .string ⟨#[]⟩, .slice none 0 0, .slice none 0 0, .string ⟨#[]⟩, .string ⟨#[]⟩, .slice none 0 0, .slice none 0 0] 170)) := ba;have hA0 := heap_alloc_new w (.cells #[.int .i64 0, .int .i64 0, .int .i64 0, .string ⟨#[]⟩, .slice none 0 0, .slice none 0 0, .string ⟨#[]⟩, .string ⟨#[]⟩, .slice none 0 0, .slice none 0 0] 170);have HN := hide (plainValue_any R _ t ts (h.kept hb0));have HF0 : Hid (Fr w _ (fun c => c = R)) := (P.fr_below hb0).weak (fun _ _ e => e.elim);have HV := hide (P.fc_len h.2);have HA0 := hide hA0;clear h hb0 hA0;go_enter Tryz.func173, Tryz.ntmps173;go_wp2_with fail;refine HN.out.mono ?_;rintro r w1 ⟨hf1, ⟨v, n, hE, rfl, hr1⟩ | ⟨hE, ⟨v, f, rfl⟩, ts', hr1⟩⟩
 ·have hs1 := hf1.size;have hA1 := (hf1.block w.heap.size (by simp) (by omega)).trans HA0.out;have hA2 : (w1.alloc (.cells #[.int .i64 v.kind, .int .i64 v.n, .string v.s, .slice none 0 0, .slice none 0 0] 61)).heap[w.heap.size]? = some (.cells #[.int .i64 0, .int .i64 0, .int .i64 0, .string ⟨#[]⟩, .slice none 0 0, .slice none 0 0, .string ⟨#[]⟩, .string ⟨#[]⟩, .slice none 0 0, .slice none 0 0] 170 (0, 0)) := by rw [heap_alloc_old _ _ (by simp at hs1; omega)]; exact hA1
  have HF3 : Hid (Fr w (w1.alloc (.cells #[.int .i64 v.kind, .int .i64 v.n, .string v.s, .slice none 0 0, .slice none 0 0] 61)) (fun c => c = R)) := (HF0.out.trans hf1 (fun _ _ e => e)).alloc _;have HR3 : Hid (P.Rdr R (w1.alloc (.cells #[.int .i64 v.kind, .int .i64 v.n, .string v.s, .slice none 0 0, .slice none 0 0] 61)) ((t :: ts).drop (n + 1))) := hr1.kept (ba);have HE := hide hE;have HS : Hid (w.heap.size < w1.heap.size) := by show _ < _; simp at hs1; omega
  unfold P.vc;clear hf1 hr1 hA1 hs1 HN hE;obtain ⟨hv, hvs⟩ := P.lit_form HE.out HV.out;have HBK : Hid (X.bulk (d + 1) ⟨1, v, ⟨#[]⟩, ⟨#[]⟩, [], []⟩ + 60 * ((t :: ts).drop (n + 1)).length <= 60 * (t :: ts).length) := by
   show _ <= _;have e0 : (⟨#[]⟩ : ByteArray).size = 0 := rfl;have hl2 : ((t :: ts).drop (n + 1)).length <= ts.length := by simp
   rw [hv, X.bulk, V.bulk];simp only [X.sumA, X.sumN, V.sumL, V.sumF, e0, List.map_nil, List.sum_nil, List.length_nil, List.length_cons];omega
  have HM : Hid (∀ w2, X.MemD (P.New w w2) (d + 1) w2 ⟨1, v, ⟨#[]⟩, ⟨#[]⟩, [], []⟩ (P.xc 1 v ⟨#[]⟩ ⟨#[]⟩ none 0 0 none 0 0)) := fun w2 => by
   show X.MemD _ _ _ _ _;rw [hv];exact P.xleaf _ _ _ _ _ _ _ _ _
  clear hv hvs;obtain ⟨z0, z1, z2, z3, z4, z5, z6, z7, z8, z9⟩ := cl10 hA2;obtain ⟨f0, f1, f2, f3, f4, f5, f6, f7, f8, f9⟩ := fl10 hA2;have HAx := hide hA2;clear hA2;go_wp2_with fail;have hBz := P.set10 HAx.out (.int .i64 1) (.int .i64 v.kind) (.int .i64 v.n) (.string v.s) (.slice none 0 0) (.slice none 0 0) (.string ⟨#[]⟩) (.string ⟨#[]⟩) (.slice none 0 0) (.slice none 0 0);have hFz := P.fr10 (w1.alloc (.cells #[.int .i64 v.kind, .int .i64 v.n, .string v.s, .slice none 0 0, .slice none 0 0] 61)) w.heap.size (.int .i64 1) (.int .i64 v.kind) (.int .i64 v.n) (.string v.s) (.slice none 0 0) (.slice none 0 0) (.string ⟨#[]⟩) (.string ⟨#[]⟩) (.slice none 0 0) (.slice none 0 0);generalize (((((((((((w1.alloc _).setCell _ _).setCell _ _).setCell _ _).setCell _ _).setCell _ _).setCell _ _).setCell _ _).setCell _ _).setCell _ _).setCell _ _) = wz at *;obtain ⟨r0, r1, r2, r3, r4, r5, r6, r7, r8, r9⟩ := cl10 hBz;refine bodyPost_ret (v := .tuple #[.agg #[.int .i64 1, .int .i64 v.kind, .int .i64 v.n, .string v.s, .slice none 0 0, .slice none 0 0, .string ⟨#[]⟩, .string ⟨#[]⟩, .slice none 0 0, .slice none 0 0], .nilIface]) (by simp [results, Tryz.results173, go_sem, r0, r1, r2, r3, r4, r5, r6, r7, r8, r9]) rfl ⟨HF3.out.trans hFz (fun c hc e => by omega), .inl ⟨_, n, 1, v, ⟨#[]⟩, ⟨#[]⟩, none, 0, 0, none, 0, 0, by rw [HE.out]; rfl, rfl, HM.out _, HBK.out, HR3.out.fr hFz (fun c e => by omega)⟩⟩
 ·have hs1 := hf1.size;have hA1 := (hf1.block w.heap.size (by simp) (by omega)).trans HA0.out;have hA2 : (w1.alloc (.cells #[.int .i64 v.kind, .int .i64 v.n, .string v.s, .slice none 0 0, .slice none 0 0] 61)).heap[w.heap.size]? = some (.cells #[.int .i64 0, .int .i64 0, .int .i64 0, .string ⟨#[]⟩, .slice none 0 0, .slice none 0 0, .string ⟨#[]⟩, .string ⟨#[]⟩, .slice none 0 0, .slice none 0 0] 170 (0, 0)) := by rw [heap_alloc_old _ _ (by simp at hs1; omega)]; exact hA1
  have HF3 : Hid (Fr w (w1.alloc (.cells #[.int .i64 v.kind, .int .i64 v.n, .string v.s, .slice none 0 0, .slice none 0 0] 61)) (fun c => c = R)) := (HF0.out.trans hf1 (fun _ _ e => e)).alloc _;have HR3 : Hid (P.Rdr R (w1.alloc (.cells #[.int .i64 v.kind, .int .i64 v.n, .string v.s, .slice none 0 0, .slice none 0 0] 61)) ts') := hr1.kept (ba);have HE := hide hE;have HS : Hid (w.heap.size < w1.heap.size) := by show _ < _; simp at hs1; omega
  unfold P.vc;clear hf1 hr1 hA1 hs1 HN hE;obtain ⟨z0, z1, z2, z3, z4, z5, z6, z7, z8, z9⟩ := cl10 hA2;obtain ⟨f0, f1, f2, f3, f4, f5, f6, f7, f8, f9⟩ := fl10 hA2;have HAx := hide hA2;clear hA2;go_wp2_with fail;have hBz := P.set10 HAx.out (.int .i64 1) (.int .i64 v.kind) (.int .i64 v.n) (.string v.s) (.slice none 0 0) (.slice none 0 0) (.string ⟨#[]⟩) (.string ⟨#[]⟩) (.slice none 0 0) (.slice none 0 0);have hFz := P.fr10 (w1.alloc (.cells #[.int .i64 v.kind, .int .i64 v.n, .string v.s, .slice none 0 0, .slice none 0 0] 61)) w.heap.size (.int .i64 1) (.int .i64 v.kind) (.int .i64 v.n) (.string v.s) (.slice none 0 0) (.slice none 0 0) (.string ⟨#[]⟩) (.string ⟨#[]⟩) (.slice none 0 0) (.slice none 0 0);generalize (((((((((((w1.alloc _).setCell _ _).setCell _ _).setCell _ _).setCell _ _).setCell _ _).setCell _ _).setCell _ _).setCell _ _).setCell _ _).setCell _ _) = wz at *;obtain ⟨r0, r1, r2, r3, r4, r5, r6, r7, r8, r9⟩ := cl10 hBz;refine bodyPost_ret (v := .tuple #[.agg #[.int .i64 1, .int .i64 v.kind, .int .i64 v.n, .string v.s, .slice none 0 0, .slice none 0 0, .string ⟨#[]⟩, .string ⟨#[]⟩, .slice none 0 0, .slice none 0 0], .iface 54 (.int .i64 f)]) (by simp [results, Tryz.results173, go_sem, r0, r1, r2, r3, r4, r5, r6, r7, r8, r9]) rfl ⟨HF3.out.trans hFz (fun c hc e => by omega), .inr ⟨by rw [HE.out]; rfl, ⟨1, v, ⟨#[]⟩, ⟨#[]⟩, none, 0, 0, none, 0, 0, f, rfl⟩, _, HR3.out.fr hFz (fun c e => by omega)⟩⟩
theorem X.rowD {D : Nat -> Prop} {m : Nat} {w w2 : World} {g cap : Nat} {l : List (Ex × List Value)} {arr : Array Value} (hg : w.heap[g]? = some (.cells arr 170 (0, 0))) (ha : ∀ (i : Nat) (x : Ex × List Value), l[i]? = some x -> x.2.length = 10 /\ ∀ j, j < 10 -> arr[i * 10 + j]? = x.2[j]?)
  (hm : ∀ x ∈ l, X.MemD D m w x.1 x.2) (hD : D g) (hw : ∀ c, D c -> w2.heap[c]? = w.heap[c]?) : X.RowA w2 (.slice (some ⟨g, 0, none⟩) l.length cap) (l.map (·.1)).length (fun i c => ∃ x, (l.map (·.1))[i]? = some x /\ X.Mem m w2 x c) := by
 rw [List.length_map];have hg3 : w2.heap[g]? = some (.cells arr 170 (0, 0)) := (hw g hD).trans hg;refine ⟨⟨_, _, rfl, .inr ⟨g, 0, rfl, fun i hi => ?_⟩⟩, fun b off k c e _ => by
  simp only [Value.slice.injEq, Option.some.injEq, Addr.mk.injEq] at e;obtain ⟨⟨rfl, _⟩, _⟩ := e;exact ⟨arr, hg3⟩⟩
 obtain ⟨h1, h2⟩ := ha i _ (List.getElem?_eq_getElem hi);refine ⟨l[i].2, h1, fun j hj => ?_, l[i].1, by rw [List.getElem?_map, List.getElem?_eq_getElem hi]; rfl, hm _ (List.getElem_mem hi) w2 hw⟩;have hg2 : w2.heap[g]? = some (.cells arr 170 (0, 0)) := (hw g hD).trans hg;rw [Nat.zero_add, cell_of_row w2 g _ arr 170 (0, 0) hg2];exact h2 j hj
theorem P.xnode {D : Nat -> Prop} {m : Nat} {w : World} {g cap : Nat} {l : List (Ex × List Value)} {arr : Array Value} (k : Int) (s t : ByteArray) (hg : w.heap[g]? = some (.cells arr 170 (0, 0))) (ha : ∀ (i : Nat) (x : Ex × List Value), l[i]? = some x -> x.2.length = 10 /\ ∀ j, j < 10 -> arr[i * 10 + j]? = x.2[j]?)
  (hm : ∀ x ∈ l, X.MemD D m w x.1 x.2) (hD : D g) : X.MemD D (m + 1) w ⟨k, V.zero, s, t, l.map (·.1), []⟩ (P.xc k V.zero s t (some ⟨g, 0, none⟩) l.length cap none 0 0) :=
 fun w2 hw => ⟨_, _, _, _, _, _, _, rfl, P.vmem m w2 0 0 ⟨#[]⟩, X.rowD hg ha hm hD hw, V.Row.zero _ _ _⟩
namespace P
structure Inn (R Br Bd d : Nat) (w : World) : Prop where
 c1 : w.cell? ⟨Br, 0, none⟩ = some (.pointer (some ⟨R, 0, none⟩))
 c2 : w.cell? ⟨Bd, 0, none⟩ = some (.int .i64 (6 - (d : Int)))
 b1 : R < Br
 b2 : R < Bd
theorem Inn.fr {R Br Bd d : Nat} {w w' : World} (h : Inn R Br Bd d w) (hf : Fr w w' (fun c => c = R)) : Inn R Br Bd d w' := by
 have hk : ∀ {b : Nat} {u : Value}, R < b -> w.cell? ⟨b, 0, none⟩ = some u -> w'.cell? ⟨b, 0, none⟩ = some u := fun {b u} hb hu => by
  have hlt := World.block_lt_of_cell? w _ hu;have := hf.block b hlt (by omega);unfold World.cell? at hu ⊢;rw [this];exact hu
 exact ⟨hk h.b1 h.c1, hk h.b2 h.c2, h.b1, h.b2⟩
theorem Inn.kept {R Br Bd d : Nat} {w w' : World} (h : Inn R Br Bd d w) (hb : Below w.heap.size w w') : Inn R Br Bd d w' := h.fr ((fr_below hb).weak (fun _ _ e => e.elim))
def Wr : Nat -> Ex -> Prop
 | 0, _ => False
 | d + 1, e => (e.kind = 1 \/ e.kind = 8 \/ e.kind = 9) /\ ∀ x ∈ e.a, Wr d x
def Wok (d : Nat) (ts : List T) : Prop := ∃ e r, ex d ts = some (e, r) /\ Wr d e
def IH (d : Nat) : Prop := ∀ (R : Nat) (w : World) (ts : List K), Rdr R w ts -> Wok d (fc ts) -> Calls Tryz.prog 164 #[.pointer (some ⟨R, 0, none⟩), .int .i64 (7 - (d : Int))] w fun r w' => Fr w w' (fun c => c = R) /\ ExOut (ex d (fc ts)) d R w w' ts r
end P
theorem inner_any (d R Br Bd : Nat) (w : World) (ts : List P.K) (hd : d <= 6) (ih : P.IH d) (h : P.Rdr R w ts) (hi : P.Inn R Br Bd d w) (hq : P.Wok d (P.fc ts)) :
  Calls Tryz.prog 175 #[.pointer (some ⟨Br, 0, none⟩), .pointer (some ⟨Bd, 0, none⟩)] w fun r w' => Fr w w' (fun c => c = R) /\ P.ExOut (P.ex d (P.fc ts)) d R w w' ts r := by
 have hR := h.lt;have hb0 : Below w.heap.size w (w.alloc (.cells #[.int .i64 0, .int .i64 0, .int .i64 0, .string ⟨#[]⟩, .slice none 0 0, .slice none 0 0, .string ⟨#[]⟩, .string ⟨#[]⟩, .slice none 0 0, .slice none 0 0] 170)) := ba;have hA0 := heap_alloc_new w (.cells #[.int .i64 0, .int .i64 0, .int .i64 0, .string ⟨#[]⟩, .slice none 0 0, .slice none 0 0, .string ⟨#[]⟩, .string ⟨#[]⟩, .slice none 0 0, .slice none 0 0] 170);have hi0 := hi.kept hb0;have k1 := hi0.c1;have k2 := hi0.c2;have hdp : wrap64 (6 - (d : Int) + 1) = 7 - (d : Int) := by unfold wrap64; omega
 have HN := hide (ih R _ ts (h.kept hb0) hq);have HQ := hide hq;generalize hqq : (6 - (d : Int)) = dp at *;generalize hqq2 : (7 - (d : Int)) = dq at *;have HF0 : Hid (Fr w _ (fun c => c = R)) := (P.fr_below hb0).weak (fun _ _ e => e.elim);have HA0 := hide hA0;clear h hb0 hA0 hi hi0 ih hq hqq hqq2 hd;go_enter Tryz.func175, Tryz.ntmps175;go_wp2_with fail;refine HN.out.mono ?_;rintro r w1 ⟨hf1, ⟨e, n, k, v, s, t, a, i, c, a', i', c', hE, rfl, hM, hbk, hr1⟩ | ⟨hE, ⟨k, v, s, t, a, i, c, a', i', c', f, rfl⟩, ts', hr1⟩⟩
 ·have hA1 := (hf1.block w.heap.size (by simp) (by omega)).trans HA0.out;have HF3 := hide (HF0.out.trans hf1 (fun _ _ e => e));obtain ⟨HR3, HE, HM, HBK, HS1⟩ := hd5 hr1 hE hM hbk hf1.size;unfold P.xc;clear hf1 hE hr1 hM hbk HN;obtain ⟨z0, z1, z2, z3, z4, z5, z6, z7, z8, z9⟩ := cl10 hA1;obtain ⟨f0, f1, f2, f3, f4, f5, f6, f7, f8, f9⟩ := fl10 hA1;have HAx := hide hA1;clear hA1;go_wp2_with fail;have hBz := P.set10 HAx.out (.int .i64 k) (.int .i64 v.kind) (.int .i64 v.n) (.string v.s) (.slice none 0 0) (.slice none 0 0) (.string s) (.string t) (.slice a i c) (.slice a' i' c');have hFz := P.fr10 w1 w.heap.size (.int .i64 k) (.int .i64 v.kind) (.int .i64 v.n) (.string v.s) (.slice none 0 0) (.slice none 0 0) (.string s) (.string t) (.slice a i c) (.slice a' i' c');generalize ((((((((((w1.setCell _ _).setCell _ _).setCell _ _).setCell _ _).setCell _ _).setCell _ _).setCell _ _).setCell _ _).setCell _ _).setCell _ _) = wz at *;obtain ⟨r0, r1, r2, r3, r4, r5, r6, r7, r8, r9⟩ := cl10 hBz;refine bodyPost_ret (v := .tuple #[.agg #[.int .i64 k, .int .i64 v.kind, .int .i64 v.n, .string v.s, .slice none 0 0, .slice none 0 0, .string s, .string t, .slice a i c, .slice a' i' c'], .nilIface]) (by simp [results, Tryz.results175, go_sem, r0, r1, r2, r3, r4, r5, r6, r7, r8, r9]) rfl ⟨HF3.out.trans hFz (fun c hc e => by omega), .inl ⟨e, n, k, v, s, t, a, i, c, a', i', c', HE.out, rfl, HM.out.to (fun c hc => hFz.block c hc.2 (fun e => by have := hc.1; simp at this; omega)) (fun c hc => ⟨by have := hc.1; simp at this; omega, Nat.lt_of_lt_of_le hc.2 hFz.size⟩), HBK.out, HR3.out.fr hFz (fun c e => by omega)⟩⟩
 ·obtain ⟨_, _, hw1, _⟩ := HQ.out;rw [hE] at hw1;cases hw1
end Go.Proofs.YtcekcfjabhlheaaGreatDoor.Vx
namespace Go.Proofs.YtcekcfjabhlheaaGreatDoor.Vx
namespace Lt
section
variable {P : Program} {ops : Array Oper} {Q : Exit -> Act -> World -> Prop} {md : Region.Mode} {S : World -> Prop} {ls : List Nat}
def late (ls : List Nat) (listed : Array Bool) : Bool := ls.any (fun j => listed.getD j false)
def wpAnyG (P : Program) (md : Region.Mode) (ops : Array Oper) (Q : Exit -> Act -> World -> Prop) (S : World -> Prop) (ls : List Nat) : Nat -> Array Bool -> Act -> World -> Prop
 | 0, listed, a, w => Region.ready md ops listed = [] /\ Q .normal a w
 | fuel + 1, listed, a, w =>
  (Region.ready md ops listed = [] -> Q .normal a w) /\
  ∀ i ∈ Region.ready md ops listed, wpOp P ops Q i (fun a' w' => (late ls (listed.setIfInBounds i true) = false -> S w') /\ wpAnyG P md ops Q S ls fuel (listed.setIfInBounds i true) a' w') a w
theorem wpAny_of_G : ∀ (fuel : Nat) (listed : Array Bool) (a : Act) (w : World), wpAnyG P md ops Q S ls fuel listed a w -> wpAny P md ops Q fuel listed a w
 | 0, _, _, _, h => h
 | fuel + 1, _, _, _, h => ⟨h.1, fun i hi => wpOp_mono (fun a' w' h' => wpAny_of_G fuel _ a' w' h'.2) (h.2 i hi)⟩
theorem late_set {listed : Array Bool} {i : Nat} (hi : i ∉ ls) : late ls (listed.setIfInBounds i true) = late ls listed := by
 unfold late;apply Bool.eq_iff_iff.2;simp only [List.any_eq_true];constructor
 ·rintro ⟨j, hj, h⟩;have hne : i ≠ j := fun e => hi (by rw [e]; exact hj)
  rw [getD_set_ne false hne] at h;exact ⟨j, hj, h⟩
 ·rintro ⟨j, hj, h⟩;have hne : i ≠ j := fun e => hi (by rw [e]; exact hj)
  refine ⟨j, hj, ?_⟩;rw [getD_set_ne false hne]; exact h
theorem wpAnyG_first {i : Nat} {oi : Oper} {v : Value} (hi : ops[i]? = some oi) (hsel : ∀ (j : Nat) (o : Oper) cs b, ops[j]? = some o -> o.op ≠ .select cs b)
  (hQ : ∀ c a w, Q (.panic c) (a.put oi.dst v) w -> Q (.panic c) a w) (hil : i ∉ ls) {T : World -> Prop}
  (hT : (∀ w, T w) \/ ((∀ w, S w -> T w) /\ ∀ j ∈ ls, ∀ oj, ops[j]? = some oj -> ∃ e ∈ oj.after, Region.binds md e = true /\ e.on = i)) :
  ∀ (fuel : Nat) (listed : Array Bool) (a : Act) (w : World),
   (∀ j oj, ops[j]? = some oj -> j ≠ i -> listed.getD j true = false -> (∀ e ∈ oj.after, Region.binds md e = true -> e.on ≠ i) -> oi.apart ops oj = true) ->
   i ∈ Region.ready md ops listed -> YieldsIf P ops T oi v a -> ((∀ w, T w) \/ late ls listed = false) -> (late ls listed = false -> S w) ->
   wpAnyG P md ops Q S ls fuel (listed.setIfInBounds i true) (a.put oi.dst v) w -> wpAnyG P md ops Q S ls (fuel + 1) listed a w := by
 have hTw : ∀ {listed : Array Bool} {w : World}, ((∀ w, T w) \/ late ls listed = false) -> (late ls listed = false -> S w) -> T w := by
  intro listed w hn hS;rcases hT with h | ⟨h, _⟩
  ·exact h w
  ·rcases hn with h1 | h1
   ·exact h1 w
   ·exact h w (hS h1)
 intro fuel;induction fuel with
 | zero =>
  intro listed a w _ hr hy hn hS H;refine ⟨fun h => (by rw [h] at hr; cases hr), fun j hj => ?_⟩;by_cases hji : j = i
  ·subst hji; exact hy.wpOp hi (hTw hn hS) ⟨fun h => hS (by rw [late_set hil] at h; exact h), H⟩
  ·have := ready_mono hj hji;rw [H.1] at this;cases this
 | succ fuel ih =>
  intro listed a w hfree hr hy hn hS H;refine ⟨fun h => (by rw [h] at hr; cases hr), fun j hj => ?_⟩;by_cases hji : j = i
  ·subst hji; exact hy.wpOp hi (hTw hn hS) ⟨fun h => hS (by rw [late_set hil] at h; exact h), H⟩
  ·have h1 := H.2 j (ready_mono hj hji);obtain ⟨hjun, oj, hoj, hall⟩ := mem_ready.1 hj;have hnot : ∀ e ∈ oj.after, Region.binds md e = true -> e.on ≠ i := fun e he hb heq => by
    have h1 := hall e he hb;have h0 := (mem_ready.1 hr).1;rw [heq] at h1;rcases Nat.lt_or_ge i listed.size with h' | h'
    ·simp [h'] at h0 h1; rw [h0] at h1; cases h1
    ·simp [Array.getElem?_eq_none h'] at h1
   have h2 := wpOp_putIf hoj (hfree j oj hoj hji hjun hnot) (fun cs b => hsel i oi cs b hi) (fun cs b => hsel j oj cs b hoj) hQ hy h1;have hfree' : ∀ k ok, ops[k]? = some ok -> k ≠ i -> (listed.setIfInBounds j true).getD k true = false ->
     (∀ e ∈ ok.after, Region.binds md e = true -> e.on ≠ i) -> oi.apart ops ok = true := fun k ok hk hki hun hno => by
    refine hfree k ok hk hki ?_ hno;by_cases hjk : j = k
    ·subst hjk; exact hjun
    ·rw [getD_set_ne true hjk] at hun; exact hun
   have hcomm : (listed.setIfInBounds i true).setIfInBounds j true = (listed.setIfInBounds j true).setIfInBounds i true := Array.setIfInBounds_comm _ _ (Ne.symm hji);have hlt : late ls ((listed.setIfInBounds i true).setIfInBounds j true) = late ls (listed.setIfInBounds j true) := by rw [hcomm, late_set hil]
   have hn' : (∀ w, T w) \/ late ls (listed.setIfInBounds j true) = false := by
    rcases hn with h | h
    ·exact .inl h
    ·rcases hT with h3 | ⟨_, h3⟩
     ·exact .inl h3
     ·refine .inr ?_;rw [late_set (fun hm => ?_)]
      ·exact h
      ·obtain ⟨e, he, hb, heq⟩ := h3 j hm oj hoj;exact hnot e he hb heq
   refine wpOp_mono (fun a' w' h3 => ⟨fun hl => h3.2.1 (by rw [hlt]; exact hl), ih (listed.setIfInBounds j true) a' w' hfree' (ready_mono hr (Ne.symm hji)) h3.1 hn' (fun hl => h3.2.1 (by rw [hlt]; exact hl)) ?_⟩) h2;rw [<- hcomm];exact h3.2.2
def waits (md : Region.Mode) (ops : Array Oper) (ls : List Nat) (i : Nat) : Bool := ls.all (fun j => match ops[j]? with | none => true | some oj => oj.after.any (fun e => Region.binds md e && e.on == i))
theorem waits_spec {i : Nat} (h : waits md ops ls i = true) : ∀ j ∈ ls, ∀ oj, ops[j]? = some oj -> ∃ e ∈ oj.after, Region.binds md e = true /\ e.on = i := by
 intro j hj oj hoj;unfold waits at h;have h1 := List.all_eq_true.1 h j hj;rw [hoj] at h1;obtain ⟨e, he, hb⟩ := Array.any_eq_true'.1 h1;simp only [Bool.and_eq_true, beq_iff_eq] at hb;exact ⟨e, he, hb.1, hb.2⟩
theorem takeS {i : Nat} {oi : Oper} {v : Value} {fuel : Nat} {listed : Array Bool} {a : Act} {w : World} (hi : ops[i]? = some oi)
  (hs : Region.noSelect ops = true) (hf : Region.free md ops listed i = true) (hr : (Region.ready md ops listed).contains i = true) (hil : ls.contains i = false) (hw : waits md ops ls i = true) (hl : late ls listed = false)
  (hQ : ∀ c a w, Q (.panic c) (a.put oi.dst v) w -> Q (.panic c) a w) (hy : YieldsIf P ops S oi v a) (hS : S w)
  (h : wpAnyG P md ops Q S ls fuel (listed.setIfInBounds i true) (a.put oi.dst v) w) : wpAnyG P md ops Q S ls (fuel + 1) listed a w :=
 wpAnyG_first hi (Region.noSelect_spec hs) hQ (by simpa using hil) (.inr ⟨fun _ h => h, waits_spec hw⟩) fuel listed a w (Region.free_spec hi hf) (by simpa using hr) hy (.inr hl) (fun _ => hS) h
theorem takeY {i : Nat} {oi : Oper} {v : Value} {fuel : Nat} {listed : Array Bool} {a : Act} {w : World} (hi : ops[i]? = some oi)
  (hs : Region.noSelect ops = true) (hf : Region.free md ops listed i = true) (hr : (Region.ready md ops listed).contains i = true) (hil : ls.contains i = false)
  (hQ : ∀ c a w, Q (.panic c) (a.put oi.dst v) w -> Q (.panic c) a w) (hy : Yields P ops oi v a) (hS : S w)
  (h : wpAnyG P md ops Q S ls fuel (listed.setIfInBounds i true) (a.put oi.dst v) w) : wpAnyG P md ops Q S ls (fuel + 1) listed a w :=
 wpAnyG_first (T := fun _ => True) hi (Region.noSelect_spec hs) hQ (by simpa using hil) (.inl fun _ => trivial) fuel listed a w (Region.free_spec hi hf) (by simpa using hr) hy.yieldsIf (.inl fun _ => trivial) (fun _ => hS) h
theorem ready1 {fuel : Nat} {listed : Array Bool} {a : Act} {w : World} {i : Nat} {o : Oper} (hr : Region.ready md ops listed = [i]) (ho : ops[i]? = some o)
  (h : ∀ K' : Act -> World -> Prop, (∀ a w, (late ls (listed.setIfInBounds i true) = false -> S w) -> wpAnyG P md ops Q S ls fuel (listed.setIfInBounds i true) a w -> K' a w) -> if Region.wanted o (yielded ops a.tmps) = true then Oper.wp P o a w K' Q else K' (a.put o.dst undef) w) :
  wpAnyG P md ops Q S ls (fuel + 1) listed a w := by
 refine ⟨fun h0 => (by rw [hr] at h0; cases h0), fun j hj => ?_⟩;rw [hr, List.mem_singleton] at hj;subst hj;exact wpOp_step ho (fun K' hK => h K' (fun a w h1 h2 => hK a w ⟨h1, h2⟩))
theorem ready2 {fuel : Nat} {listed : Array Bool} {a : Act} {w : World} {i j : Nat} {o o2 : Oper} (hr : Region.ready md ops listed = [i, j]) (ho : ops[i]? = some o) (ho2 : ops[j]? = some o2)
  (h : ∀ K' : Act -> World -> Prop, (∀ a w, (late ls (listed.setIfInBounds i true) = false -> S w) -> wpAnyG P md ops Q S ls fuel (listed.setIfInBounds i true) a w -> K' a w) -> if Region.wanted o (yielded ops a.tmps) = true then Oper.wp P o a w K' Q else K' (a.put o.dst undef) w)
  (h2 : ∀ K' : Act -> World -> Prop, (∀ a w, (late ls (listed.setIfInBounds j true) = false -> S w) -> wpAnyG P md ops Q S ls fuel (listed.setIfInBounds j true) a w -> K' a w) -> if Region.wanted o2 (yielded ops a.tmps) = true then Oper.wp P o2 a w K' Q else K' (a.put o2.dst undef) w) :
  wpAnyG P md ops Q S ls (fuel + 1) listed a w := by
 refine ⟨fun h0 => (by rw [hr] at h0; cases h0), fun k hk => ?_⟩;rw [hr] at hk;rcases List.mem_cons.1 hk with rfl | hk
 ·exact wpOp_step ho (fun K' hK => h K' (fun a w h1 h2 => hK a w ⟨h1, h2⟩))
 ·rw [List.mem_singleton] at hk;subst hk;exact wpOp_step ho2 (fun K' hK => h2 K' (fun a w h1 h2 => hK a w ⟨h1, h2⟩))
theorem done {listed : Array Bool} {a : Act} {w : World} (hr : Region.ready md ops listed = []) (h : Q .normal a w) : ∀ fuel, wpAnyG P md ops Q S ls fuel listed a w
 | 0 => ⟨hr, h⟩
 | _ + 1 => ⟨fun _ => h, by rw [hr]; simp⟩
theorem start {id : Nat} {a : Act} {w : World} (S : World -> Prop) (ls : List Nat) (hm : P.follows .mixedOrders = true)
  (h : wpAnyG P .any ops Q S ls ops.size (Array.replicate ops.size false) a w.drew) : (Code.region id ops true).wp P Q a w :=
 wp_region_any hm (wpAny_of_G _ _ _ _ h)
end
end Lt
end Go.Proofs.YtcekcfjabhlheaaGreatDoor.Vx
namespace Go.Proofs.YtcekcfjabhlheaaGreatDoor.Vx
open Go.RowKit
theorem P.drop_next {ts : List P.K} {n : Nat} {x : P.K} {r : List P.K} (h : ts.drop n = x :: r) : ts.drop (n + 1) = r := by
 rw [<- List.drop_drop, h];rfl
theorem P.flat_at : ∀ (l : List (Ex × List Value)), (∀ x ∈ l, x.2.length = 10) -> ∀ (i : Nat) (x : Ex × List Value), l[i]? = some x -> x.2.length = 10 /\ ∀ j, j < 10 -> (l.flatMap (·.2)).toArray[i * 10 + j]? = x.2[j]?
 | [], _, _, _, h => by cases h
 | y :: l, h10, 0, x, h => by
  have e : y = x := by simpa using h
  subst e;have hy := h10 y (by simp);refine ⟨hy, fun j hj => ?_⟩;rw [List.getElem?_toArray, List.flatMap_cons, Nat.zero_mul, Nat.zero_add, List.getElem?_append_left (by omega)]
 | y :: l, h10, i + 1, x, h => by
  have hy := h10 y (by simp);obtain ⟨h1, h2⟩ := P.flat_at l (fun z hz => h10 z (by simp [hz])) i x (by simpa using h);refine ⟨h1, fun j hj => ?_⟩;have := h2 j hj;rw [List.getElem?_toArray] at this ⊢;rw [List.flatMap_cons, List.getElem?_append_right (by omega), show (i + 1) * 10 + j - y.2.length = i * 10 + j by omega];exact this
theorem P.zero_size : (⟨#[]⟩ : ByteArray).size = 0 := rfl
def P.ChOut (D : Nat -> Prop) (b : Nat) (p : Option (Ex × List P.T)) (d R : Nat) (w w' : World) (ts : List P.K) (r : Ending) : Prop :=
 (∃ e n k v s t a i c a' i' c', p = some (e, P.fc (ts.drop (n + 1))) /\ r = .returned (.tuple #[.agg (P.xc k v s t a i c a' i' c').toArray, .nilIface]) /\ X.MemD (fun c => D c \/ P.New w w' c) d w' e (P.xc k v s t a i c a' i' c') /\
   X.bulk d e + 60 * (ts.drop (n + 1)).length <= 60 * ts.length + b /\ P.Rdr R w' (ts.drop (n + 1))) \/
  (p = none /\ (∃ k v s t a i c a' i' c' f, r = .returned (.tuple #[.agg (P.xc k v s t a i c a' i' c').toArray, .iface 54 (.int .i64 f)])) /\ ∃ ts', P.Rdr R w' ts')
theorem sign_ev (R : Nat) (w : World) (ts : List P.K) (s : ByteArray) (h : P.Rdr R w ts) :
  Calls Tryz.prog 198 #[.pointer (some ⟨R, 0, none⟩), .string s] w fun r w' => Fr w w' (fun c => c = R) /\ ∃ ev, r = .returned ev /\
   ((∃ t ts', ts = t :: ts' /\ P.found 4 (V.bl s) (P.fc ts) = some (P.fc ts') /\ ev = .nilIface /\ P.Rdr R w' ts') \/ (P.found 4 (V.bl s) (P.fc ts) = none /\ ev = .iface 54 (.int .i64 5) /\ P.Rdr R w' ts)) := by
 refine (sign_any' R w ts s h).mono ?_;rintro r w' ⟨hf, ⟨t, ts', h1, h2, h3, h4⟩ | ⟨h1, h2, h3⟩⟩
 ·exact ⟨hf, _, h3, .inl ⟨t, ts', h1, h2, rfl, h4⟩⟩
 ·exact ⟨hf, _, h2, .inr ⟨h1, rfl, h3⟩⟩
end Go.Proofs.YtcekcfjabhlheaaGreatDoor.Vx
