/- TopState: FC FD. -/
import Derived.Test.YtcekcfjabhlheaaGreatDoorFB
set_option maxRecDepth 100000
set_option maxHeartbeats 1000000
namespace Go.Proofs.YtcekcfjabhlheaaGreatDoor.Dx
open Go.RowKit
attribute [local go_sem ↓] Go.wp_at_zero Go.wp_at_succ
theorem disk_of {w : World} {B : Nat -> Prop} {g : Nat} {D : Dk} (h : Disk w B g D) : B g := by
 obtain ⟨_, _, _, _, _, _, _, _, h6, _⟩ := h; exact h6
theorem Doing.ends {w w' : World} {B : Nat -> Prop} {g : Nat} {D D' : Dk} {o : Ending} (hd : Doing w w' B g D D' o) : ∃ u, o = .returned u /\ (u = .nilIface \/ u = .iface 54 (.int .i64 10)) := by
 rcases hd.1 with ⟨_, e, _⟩ | ⟨_, e, _⟩
 ·exact ⟨_, e, .inr rfl⟩
 ·exact ⟨_, e, .inl rfl⟩
def Dk.makes (D : Dk) (n d : ByteArray) : Nat := if D.fit n d.size ≠ 0 then D.fit n d.size else if (M.get D.files n).isSome = true then 6 else 0
def Dk.gone (D : Dk) (n : ByteArray) : Nat := if (M.get D.files n).isSome = true then 0 else 7
def Dk.may4 (D : Dk) (n t : ByteArray) : Nat := if N.may n = false \/ N.may t = false then 3 else D.gone n
def Dk.moved (D : Dk) (n t : ByteArray) : Dk := if (n.toList == t.toList) = true then D.step else D.did4 ⟨2, n, t, ⟨#[]⟩⟩
theorem move4 (w : World) (B : Nat -> Prop) (g : Nat) (D : Dk) (n t : ByteArray) (h : Disk w B g D) (hB : ∀ x, B x -> x < w.heap.size) (hn : n.size <= maxLen) (ht : t.size <= maxLen) (hs : 0 <= D.steps /\ D.steps <= 1000000) (hl : -9223372036854775808 <= D.left /\ D.left <= 9223372036854775807) (hlen : ((M.get D.files n).getD ⟨#[]⟩).size <= 1000000) (hch : D.chg.length <= 100000) :
  Calls Tryz.prog 50 #[.pointer (some ⟨g, 0, none⟩), .string n, .string t] w fun o w' => Changed w w' B g D (D.moved n t) (D.may4 n t) o := by
 have K : Hid (∀ w1, Fr w w1 (fun _ => False) -> Calls Tryz.prog 77 #[.pointer (some ⟨g, 0, none⟩), .agg #[.int .i64 2, .string n, .string t, .string ⟨#[]⟩]] w1 fun o w' => Doing w w' B g D (D.did4 ⟨2, n, t, ⟨#[]⟩⟩) o) := by
  intro w1 hf
  exact (do4 w1 B g D ⟨2, n, t, ⟨#[]⟩⟩ (h.fr hf (fun _ _ h => h)) (fun x hx => Nat.lt_of_lt_of_le (hB x hx) hf.size) hs hl (.inr (.inr (.inl rfl))) ⟨Nat.zero_le _, hlen⟩ hch).mono (fun o w' hh => hh.up hf)
 have KS : Hid (∀ w1, Fr w w1 (fun _ => False) -> Calls Tryz.prog 79 #[.pointer (some ⟨g, 0, none⟩)] w1 fun o w' => Doing w w' B g D D.step o) := by
  intro w1 hf
  have hBg : B g := disk_of h
  refine (step_any w1 B g D (h.fr hf (fun _ _ h => h)) hs hl).mono (fun o w' hh => ?_)
  refine ⟨?_, (hf.weak (fun _ _ e => e.elim)).trans hh.2 (fun c _ e => by rw [e]; exact hBg)⟩
  rcases hh.1 with ⟨a, b, c⟩ | ⟨a, b, c⟩
  ·exact .inl ⟨a, b, c⟩
  ·exact .inr ⟨a, b, B, c, fun x hx => .inl hx⟩
 have HN1 := hide (name_any n w hn)
 have HN2 := hide (name_any t w ht)
 have HH := hide (has_any w B g D n h)
 clear h hB hs hl hlen hch
 go_enter Tryz.func50, Tryz.ntmps50
 go_wp2_with fail
 refine HN1.out.mono ?_
 rintro o w1 ⟨rfl, hw⟩
 rw [hw]
 clear hw w1
 cases h1 : N.may n with
 | false =>
  have HM : Hid (D.may4 n t = 3) := by show _ = _; unfold Dk.may4; rw [if_pos (.inl h1)]
  clear h1
  go_wp2_with fail
  go_ret
  exact .inl ⟨by rw [HM.out]; decide, by rw [HM.out]; rfl, Fr.refl _ _⟩
 | true =>
  go_wp2_with fail
  refine HN2.out.mono ?_
  rintro o w1 ⟨rfl, hw⟩
  rw [hw]
  clear hw w1
  cases h2 : N.may t with
  | false =>
   have HM : Hid (D.may4 n t = 3) := by show _ = _; unfold Dk.may4; rw [if_pos (.inr h2)]
   clear h1 h2
   go_wp2_with fail
   go_ret
   exact .inl ⟨by rw [HM.out]; decide, by rw [HM.out]; rfl, Fr.refl _ _⟩
  | true =>
   have HG : Hid (D.may4 n t = D.gone n) := by show _ = _; unfold Dk.may4; rw [if_neg (by rw [h1, h2]; simp)]
   clear h1 h2
   go_wp2_with fail
   refine HH.out.mono ?_
   rintro o w2 ⟨rfl, hf2⟩
   cases hi : (M.get D.files n).isSome with
   | false =>
    have HF2 := hide hf2
    have HM : Hid (D.gone n = 7) := by show _ = _; unfold Dk.gone; rw [if_neg (by rw [hi]; decide)]
    clear hf2 hi
    go_wp2_with fail
    go_ret
    exact .inl ⟨by rw [HG.out, HM.out]; decide, by rw [HG.out, HM.out]; rfl, HF2.out⟩
   | true =>
    have HM : Hid (D.gone n = 0) := by show _ = _; unfold Dk.gone; rw [if_pos hi]
    cases he : (n.toList == t.toList) with
    | true =>
     have HMV : Hid (D.moved n t = D.step) := by show _ = _; unfold Dk.moved; rw [if_pos he]
     have HD := hide (KS.out w2 hf2)
     clear hf2 hi K KS
     go_wp2_with fail
     refine HD.out.mono ?_
     rintro o w3 hd
     obtain ⟨u, rfl, hu⟩ := hd.ends
     have HD3 := hide hd
     clear hd
     rcases hu with rfl | rfl
     all_goals
      go_wp2_with fail
      go_ret
      rw [HMV.out]
      exact .inr ⟨by rw [HG.out, HM.out], HD3.out⟩
    | false =>
     have HMV : Hid (D.moved n t = D.did4 ⟨2, n, t, ⟨#[]⟩⟩) := by show _ = _; unfold Dk.moved; rw [if_neg (by rw [he]; decide)]
     have HD := hide (K.out w2 hf2)
     clear hf2 hi K KS
     go_wp2_with fail
     refine HD.out.mono ?_
     rintro o w3 hd
     obtain ⟨u, rfl, hu⟩ := hd.ends
     have HD3 := hide hd
     clear hd
     rcases hu with rfl | rfl
     all_goals
      go_wp2_with fail
      go_ret
      rw [HMV.out]
      exact .inr ⟨by rw [HG.out, HM.out], HD3.out⟩
end Go.Proofs.YtcekcfjabhlheaaGreatDoor.Dx
namespace Go.Proofs.YtcekcfjabhlheaaGreatDoor.Dx
open Go.RowKit
open Go.ChangeMaps (setBlock)
attribute [local go_sem ↓] Go.wp_at_zero Go.wp_at_succ
namespace M
def kv (e : MapEntry) : Value × Value := (e.key, e.val)
def dec (p : Value × Value) : ByteArray × ByteArray := (match p.1 with | .string s => s | _ => ⟨#[]⟩, match p.2 with | .agg a => (match a.toList with | [.string s] => s | _ => ⟨#[]⟩) | _ => ⟨#[]⟩)
theorem dec_ent (x : ByteArray × ByteArray) : dec (ent x) = x := rfl
theorem ent_inj {x y : ByteArray × ByteArray} (h : ent x = ent y) : x = y := by rw [<- dec_ent x, <- dec_ent y, h]
structure Rng (es : Array MapEntry) (E : List MapEntry) (F2 : List (ByteArray × ByteArray)) (sn : Array Nat) : Prop where
 sub : ∀ e ∈ E, e ∈ es.toList
 seen : sn.toList = E.map (·.born)
 nd : (E.map (·.born)).Nodup
 f2 : E.map kv = F2.map ent
 le : E.length + (leftOf es sn).size <= es.size
theorem Rng.start (es : Array MapEntry) : Rng es [] [] #[] := ⟨fun _ h => absurd h (by simp), rfl, List.nodup_nil, rfl, by unfold leftOf; rw [List.length_nil, Nat.zero_add]; exact Array.size_filter_le⟩
theorem left_mem {es : Array MapEntry} {sn : Array Nat} {e : MapEntry} : e ∈ (leftOf es sn).toList ↔ e ∈ es.toList /\ e.born ∉ sn.toList := by
 unfold leftOf
 simp
theorem get_ent {es : Array MapEntry} {F : List (ByteArray × ByteArray)} (hF : es.toList.map kv = F.map ent) {i : Nat} {e : MapEntry} (h : es.toList[i]? = some e) : ∃ x, F[i]? = some x /\ e.key = .string x.1 /\ e.val = val x.2 := by
 have h5 : (es.toList.map kv)[i]? = (F.map ent)[i]? := by rw [hF]
 rw [List.getElem?_map, List.getElem?_map, h] at h5
 cases hx : F[i]? with
 | none => rw [hx] at h5; simp at h5
 | some x =>
  rw [hx] at h5
  simp [kv, ent] at h5
  exact ⟨x, rfl, h5.1, h5.2⟩
theorem nodup_at {α : Type} {l : List α} (h : l.Nodup) {i j : Nat} {x : α} (hi : l[i]? = some x) (hj : l[j]? = some x) : i = j :=
 (List.getElem?_inj (List.getElem?_eq_some_iff.1 hi).1 h).1 (hi.trans hj.symm)
theorem left_less {es : Array MapEntry} {sn : Array Nat} {e : MapEntry} (he : e ∈ (leftOf es sn).toList) : (leftOf es (sn.push e.born)).size < (leftOf es sn).size := by
 have e1 : (leftOf es (sn.push e.born)).toList = (leftOf es sn).toList.filter (fun x => !(x.born == e.born)) := by
  unfold leftOf
  simp only [Array.toList_filter, List.filter_filter]
  congr 1
  funext x
  simp [Bool.or_comm]
  rfl
 have e2 : (leftOf es (sn.push e.born)).toList.length < (leftOf es sn).toList.length := by
  rw [e1]
  exact List.length_filter_lt_length_iff_exists.2 ⟨e, he, by simp⟩
 simpa using e2
theorem Rng.next {es : Array MapEntry} {F F2 : List (ByteArray × ByteArray)} {E : List MapEntry} {sn : Array Nat} (h : Rng es E F2 sn) (hF : es.toList.map kv = F.map ent) (hk : (F.map (·.1)).Nodup) {e : MapEntry} (he : e ∈ (leftOf es sn).toList) :
  ∃ x : ByteArray × ByteArray, e.key = .string x.1 /\ e.val = val x.2 /\ x ∈ F /\ Rng es (E ++ [e]) (F2 ++ [x]) (sn.push e.born) /\ x.1 ∉ F2.map (·.1) := by
 obtain ⟨hes, hns⟩ := left_mem.1 he
 obtain ⟨i, hi⟩ := List.getElem?_of_mem hes
 obtain ⟨x, hx, k1, k2⟩ := get_ent hF hi
 refine ⟨x, k1, k2, List.mem_of_getElem? hx, ⟨?_, ?_, ?_, ?_, ?_⟩, ?_⟩
 ·intro y hy
  rcases List.mem_append.1 hy with hy | hy
  ·exact h.sub y hy
  ·have : y = e := by simpa using hy
   rw [this]; exact hes
 ·simp [h.seen]
 ·rw [List.map_append, List.nodup_append]
  refine ⟨h.nd, by simp, fun a ha b hb hab => ?_⟩
  have hb2 : b = e.born := by simpa using hb
  rw [h.seen] at hns
  apply hns
  rw [<- hb2, <- hab]
  exact ha
 ·rw [List.map_append, List.map_append, h.f2]
  simp [kv, ent, k1, k2]
 ·have h1 := left_less he
  have h2 := h.le
  simp
  omega
 ·intro hin
  obtain ⟨y, hy, hyx⟩ := List.mem_map.1 hin
  have hent : ent y ∈ E.map kv := by rw [h.f2]; exact List.mem_map.2 ⟨y, hy, rfl⟩
  obtain ⟨e2, he2, hkv⟩ := List.mem_map.1 hent
  obtain ⟨j, hj⟩ := List.getElem?_of_mem (h.sub e2 he2)
  obtain ⟨z, hz, z1, z2⟩ := get_ent hF hj
  have hzy : z = y := ent_inj (by rw [<- hkv]; simp [kv, ent, z1, z2])
  have hij : i = j := nodup_at hk (x := x.1) (by rw [List.getElem?_map, hx]; rfl) (by rw [List.getElem?_map, hz, hzy]; simp [hyx])
  rw [hij, hj] at hi
  have hee : e2 = e := by simpa using hi
  apply hns
  rw [h.seen, <- hee]
  exact List.mem_map.2 ⟨e2, he2, rfl⟩
theorem Rng.perm {es : Array MapEntry} {F F2 : List (ByteArray × ByteArray)} {E : List MapEntry} {sn : Array Nat} (h : Rng es E F2 sn) (hF : es.toList.map kv = F.map ent) (hS : (es.toList.map (·.born)).Nodup) (h0 : (leftOf es sn).size = 0) : F2.Perm F := by
 have nd1 : E.Nodup := List.Pairwise.of_map (fun x : MapEntry => x.born) (fun a b hab e => hab (by rw [e])) h.nd
 have nd2 : es.toList.Nodup := List.Pairwise.of_map (fun x : MapEntry => x.born) (fun a b hab e => hab (by rw [e])) hS
 have hall : ∀ e ∈ es.toList, e ∈ E := by
  intro e he
  have hin : e.born ∈ sn.toList := by
   by_cases hc : e.born ∈ sn.toList
   ·exact hc
   ·have := left_mem.2 ⟨he, hc⟩
    rw [Array.eq_empty_of_size_eq_zero h0] at this
    cases this
  rw [h.seen] at hin
  obtain ⟨e2, he2, hb⟩ := List.mem_map.1 hin
  obtain ⟨i, hi⟩ := List.getElem?_of_mem he
  obtain ⟨j, hj⟩ := List.getElem?_of_mem (h.sub e2 he2)
  have hij : i = j := nodup_at hS (x := e.born) (by rw [List.getElem?_map, hi]; rfl) (by rw [List.getElem?_map, hj, <- hb]; rfl)
  rw [hij, hj] at hi
  have : e2 = e := by simpa using hi
  rw [<- this]; exact he2
 have hp : E.Perm es.toList := (List.perm_ext_iff_of_nodup nd1 nd2).2 (fun a => ⟨h.sub a, hall a⟩)
 have hp2 := (hp.map kv)
 rw [h.f2, hF] at hp2
 have hp3 := hp2.map dec
 rw [List.map_map, List.map_map] at hp3
 have e : (dec ∘ ent) = id := by funext x; exact dec_ent x
 rw [e, List.map_id, List.map_id] at hp3
 exact hp3
def leftC (w : World) (r b : Nat) : Nat := match w.heap[r]?, w.heap[b]? with | some (.mapIter _ _ sn _), some (.map es _) => (leftOf es sn).size | _, _ => 0
theorem leftC_at {w : World} {r b c0 c1 c : Nat} {m : Option Nat} {sn : Array Nat} {es : Array MapEntry} (h : w.heap[r]? = some (.mapIter m c0 sn c1)) (h2 : w.heap[b]? = some (.map es c)) : leftC w r b = (leftOf es sn).size := by unfold leftC; rw [h, h2]
theorem at_absent {n : ByteArray} : ∀ {F : List (ByteArray × ByteArray)} {i : Nat}, n ∉ F.map (·.1) -> at_ n F i = none
 | [], _, _ => rfl
 | x :: F, i, h => by
  rw [at_]
  rw [List.map_cons, List.mem_cons, not_or] at h
  rw [if_neg (fun e => h.1 ((MapKept.bytes_beq _ _).1 e)), at_absent h.2]
theorem put_absent {n d : ByteArray} {F : List (ByteArray × ByteArray)} (h : n ∉ F.map (·.1)) : put F n d = F ++ [(n, d)] := by unfold put; rw [at_absent h]
end M
theorem copied_all (w : World) (b : Nat) (F : List (ByteArray × ByteArray)) (h : M.Is w b F) (hk : (F.map (·.1)).Nodup) :
  Calls Tryz.prog 30 #[.map (some b)] w fun o w' => ∃ b2 F2, o = .returned (.map (some b2)) /\ w.heap.size <= b2 /\ M.Is w' b2 F2 /\ F2.Perm F /\ Fr w w' (fun _ => False) := by
 have hln := len_run h
 obtain ⟨es, c, hb, hes0, hS⟩ := id h
 have hes : es.toList.map M.kv = F.map M.ent := hes0
 have hmk := fun n w => make_run n w
 have hb1 : (w.alloc (.map #[] 0)).heap[b]? = some (.map es c) := by rw [(World.grownBy_alloc w (.map #[] 0) none).block b h.lt (by simp)]; exact hb
 have hrg := range_run hb1
 have hs1 : (w.alloc (.map #[] 0)).heap.size = w.heap.size + 1 := by simp
 rw [hs1] at hrg
 have hfr0 : Fr w ((w.alloc (.map #[] 0)).alloc (.mapIter (some b) c #[] c)) (fun _ => False) := ((Fr.refl _ _).alloc _).alloc _
 have hr0 : ((w.alloc (.map #[] 0)).alloc (.mapIter (some b) c #[] c)).heap[w.heap.size + 1]? = some (.mapIter (some b) c #[] c) := by
  have h0 := heap_alloc_new (w.alloc (.map #[] 0)) (.mapIter (some b) c #[] c)
  rw [hs1] at h0; exact h0
 have hI0 : M.Is ((w.alloc (.map #[] 0)).alloc (.mapIter (some b) c #[] c)) w.heap.size [] := (M.Is.made w).kept (World.grownBy_alloc _ _ none) (by simp)
 obtain ⟨HFR0, HR0, HI0⟩ := hd3 hfr0 hr0 hI0
 have hbl := h.lt
 have KB : Hid (∀ wx, Fr w wx (fun _ => False) -> wx.heap[b]? = some (.map es c)) := fun wx hf => (hf.block b hbl (fun h => h)).trans hb
 obtain ⟨HES, HK, HS⟩ := hd3 hes hk hS
 clear hfr0 hr0 hI0 h hb hb1 hes hes0 hk hS
 go_enter Tryz.func30, Tryz.ntmps30
 go_wp2_with fail
 generalize (w.alloc _).alloc _ = w0 at *
 go_loopw [4, 5] (fun _ _ wx => ∃ (sn : Array Nat) (E : List MapEntry) (F2 : List (ByteArray × ByteArray)), M.Rng es E F2 sn /\ M.Is wx w.heap.size F2 /\ wx.heap[w.heap.size + 1]? = some (.mapIter (some b) c sn c) /\ Fr w wx (fun _ => False)) (fun _ _ wx => M.leftC wx (w.heap.size + 1) b)
 case atStart => exact ⟨#[], [], [], M.Rng.start es, HI0.out, HR0.out, HFR0.out⟩
 case round =>
  obtain ⟨wx, hwx⟩ : ∃ z, z = wr := ⟨_, rfl⟩
  subst hwx
  obtain ⟨sn, E, F2, hrn, hIx, hrx, hfx⟩ := hrel
  rcases run_next_at (P := Tryz.prog) wx 0 (w.heap.size + 1) b c c sn es c hrx (KB.out _ hfx) (fun y hy => HS.out.1 y hy) (Nat.le_refl _) with ⟨h0, hnx⟩ | ⟨e, he, w1, hw1, hrun⟩
  ·have HP := hide (hrn.perm HES.out HS.out.2 h0)
   obtain ⟨HIX, HFX⟩ := hd2 hIx hfx
   clear hIx hfx hrx hrn h0
   go_wp2_with fail
   go_ret
   exact ⟨_, _, rfl, Nat.le_refl _, HIX.out, HP.out, HFX.out⟩
  ·obtain ⟨x, hxk, hxv, hxF, hrn2, hab⟩ := hrn.next HES.out HK.out he
   have hless := M.left_less he
   have hmem := (M.left_mem.1 he).1
   obtain ⟨w2, hrun2, hr2, hf2, hI2⟩ : ∃ w2, (Instr.next (.pointer (some ⟨w.heap.size + 1, 0, none⟩)) false 0).run Tryz.prog wx = .ok (.tuple #[.bool true, .string x.1, .agg #[.string x.2]]) w2 /\ w2.heap[w.heap.size + 1]? = some (.mapIter (some b) c (sn.push e.born) c) /\ Fr w w2 (fun _ => False) /\ M.Is w2 w.heap.size F2 := by
    have hr1 : w1.heap[w.heap.size + 1]? = some (.mapIter (some b) c sn c) := by rcases hw1 with rfl | rfl <;> exact hrx
    have hf1 : Fr w w1 (fun _ => False) := by
     rcases hw1 with rfl | rfl
     ·exact hfx
     ·exact hfx.drew
    have hI1 : M.Is w1 w.heap.size F2 := by rcases hw1 with rfl | rfl <;> exact hIx
    refine ⟨_, ?_, heap_set_at hr1, hf1.trans (fr_set w1 _ _) (fun c hc e => by omega), is_fr hI1 (fr_set w1 _ _) (by show ¬ w.heap.size = w.heap.size + 1; omega)⟩
    rw [hxk, hxv] at hrun
    exact hrun
   have hen := run_entry_at (P := Tryz.prog) w2 (w.heap.size + 1) b c sn es c e hr2 (KB.out _ hf2) hmem HS.out.2
   rw [hxk, hxv] at hen
   simp only [M.val] at hen
   have HI2 : Hid (∀ ob, M.Is (w2.alloc ob) w.heap.size F2) := fun ob => hI2.kept (World.grownBy_alloc _ _ none) (by simp)
   obtain ⟨HR2, HF2⟩ := hd2 hr2 hf2
   have HBX := hide (KB.out _ hfx)
   obtain ⟨HRN2, HLS⟩ := hd2 hrn2 hless
   have HPA := hide (M.put_absent (d := x.2) hab)
   have HRX := hide hrx
   clear hr2 hf2 hI2 hIx hfx hrx hrn hrn2 hless hab hmem he hrun hxF hw1 hxk hxv
   go_wp2_with (at_mapUpdate; go_must (refine M.wpList_update rfl (.tmp 16) (.tmp 17) (.tmp 18) rfl (b := w.heap.size) (F := F2) x.1 x.2 rfl rfl rfl (HI2.out _) ?_); intro w3 hI3 hg3)
   have hr3 : w3.heap[w.heap.size + 1]? = some (.mapIter (some b) c (sn.push e.born) c) := by
    have h1 : (w2.alloc (.cells #[.string x.2] 92)).heap[w.heap.size + 1]? = some (.mapIter (some b) c (sn.push e.born) c) := ((World.grownBy_alloc w2 _ none).block _ (blt HR2.out) (by simp)).trans HR2.out
    rw [hg3.block _ (blt h1) (by simp)]; exact h1
   have hf3 : Fr w w3 (fun _ => False) := (HF2.out.alloc _).grown hg3 (fun c e hc => by have := Option.some.inj e; omega)
   rw [HPA.out] at hI3
   go_wp2_with fail
   go_roundw
   case rel => exact ⟨_, _, _, _, _, _, _, _, _, _, ⟨sn.push e.born, E ++ [e], F2 ++ [x], HRN2.out, hI3, hr3, hf3⟩, rfl⟩
   case measure => rw [M.leftC_at hr3 (KB.out _ hf3), M.leftC_at HRX.out HBX.out]; exact HLS.out
end Go.Proofs.YtcekcfjabhlheaaGreatDoor.Dx
