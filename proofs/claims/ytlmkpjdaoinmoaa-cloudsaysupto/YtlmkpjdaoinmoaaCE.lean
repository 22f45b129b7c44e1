/- For TopToken and CloudSays: Delete; what Create does. -/
import Derived.Test.YtlmkpjdaoinmoaaCD
namespace Go.Proofs.Ytlmkpjdaoinmoaa
open Go.RowKit
attribute [local go_sem ↓] Go.wp_at_zero Go.wp_at_succ
theorem cell_frx {w w' : World} {ex : Nat → Prop} {b o : Nat} {v : Value} (hf : Fr w w' ex) (hb : ¬ ex b) (h : w.cell? ⟨b, o, none⟩ = some v) : w'.cell? ⟨b, o, none⟩ = some v := cell_block h (hf.block b (World.block_lt_of_cell? _ _ h) hb)
/-- What a call answers, and what it leaves of the tokens: p: what the token did; r, e: what is answered by what is to be done. -/
def callR (p : Option (Int × Int)) (op r : Int) (e : Nat) : Int := match p with | some x => if x.1 = op then x.2 else 0 | none => if e = 0 then r else 0
def callE (p : Option (Int × Int)) (op : Int) (e : Nat) : Nat := match p with | some x => if x.1 = op then 0 else 15 | none => e
/-- The notes of tokens are deeds. -/
def Deeds (Di : List (ByteArray × Value)) : Prop := ∀ tok v, S.get Di tok = some v → ∃ p, v = dval p
set_option maxRecDepth 100000 in
set_option maxHeartbeats 1000000 in
theorem delete_any (w : World) (B : Nat → Prop) (g gc bt bd bf : Nat) (D : Dk) (q given calls : Int) (Th : List (Int × Value)) (Di : List (ByteArray × Value)) (Fa : List (Int × Value)) (tok : ByteArray) (id : Int) (p : Option (Int × Int)) (h : Cl w B g gc bt bd bf D q given calls Th Di Fa) (hB : ∀ x, B x → x < w.heap.size) (hp : S.get Di tok = p.map dval) (hv : ∀ x ∈ Th, ∃ t : Tg, x.2 = t.val)
    (hs : 0 ≤ D.steps ∧ D.steps ≤ 1000000) (hl : -9223372036854775808 ≤ D.left ∧ D.left ≤ 9223372036854775807) (hn : ¬ D.fails) (hc : 0 ≤ calls ∧ calls ≤ 1000000) (hF : T.get Fa calls = none) :
    Calls Try.prog 15 #[.pointer (some ⟨gc, 0, none⟩), .string tok, .int .i64 id] w fun o w' => o = .returned (V.errOf (callE p 3 (if (T.get Th id).isSome then 0 else 7))) ∧
      Cl w' B g gc bt bd bf D.step q given (calls + 1) (if p.isNone ∧ (T.get Th id).isSome then T.del Th id else Th) (if p.isNone ∧ (T.get Th id).isSome then S.put Di tok (dval (3, 0)) else Di) Fa ∧ Fr w w' (fun c => c = g ∨ c = gc ∨ c = bt ∨ c = bd) := by
  obtain ⟨w2, hw2⟩ : ∃ w2, w2 = (w.alloc (.cells #[.pointer (some ⟨gc, 0, none⟩)] 27)).alloc (.cells #[.int .i64 id] 3) := ⟨_, rfl⟩
  have hf2 : Fr w w2 (fun _ => False) := by rw [hw2]; exact ((Fr.refl _ _).alloc _).alloc _
  have c1 : w2.cell? ⟨w.heap.size, 0, none⟩ = some (.pointer (some ⟨gc, 0, none⟩)) := by
    rw [hw2]
    exact kept_cell (((Fr.refl (w.alloc (.cells #[.pointer (some ⟨gc, 0, none⟩)] 27)) (fun _ => False)).alloc _).below (Nat.le_refl _) (fun _ e => e.elim)) (cell_of_block (heap_alloc_new w _) 0 _ rfl)
  have c2 : w2.cell? ⟨w.heap.size + 1, 0, none⟩ = some (.int .i64 id) := by
    rw [hw2]
    have := cell_of_block (heap_alloc_new (w.alloc (.cells #[.pointer (some ⟨gc, 0, none⟩)] 27)) (.cells #[.int .i64 id] 3)) 0 _ rfl
    rwa [World.size_alloc] at this
  have h2 := h.fr hf2
  have hgB := h.disk.has_g
  have hgl : g < w.heap.size := hB g hgB
  have hcl : gc < w.heap.size := (Array.getElem?_eq_some_iff.1 h.blk).1
  cases p with
  | some p =>
    have HC := hide (callOld_any w2 B g gc bt bd bf D q given calls Th Di Fa tok 3 (.func (.func 44) #[] #[.pointer (some ⟨w.heap.size, 0, none⟩), .pointer (some ⟨w.heap.size + 1, 0, none⟩)]) p h2 hp hs hl hn hc hF)
    obtain ⟨e0, he0⟩ : ∃ e0, e0 = callE (some p) 3 (if (T.get Th id).isSome then 0 else 7) := ⟨_, rfl⟩
    obtain ⟨r0, hr0⟩ : ∃ r0, r0 = (if p.1 = 3 then p.2 else 0) := ⟨_, rfl⟩
    have he1 : (if p.1 = 3 then 0 else 15) = e0 := by rw [he0]; rfl
    rw [he1, ← hr0] at HC
    rw [← he0, if_neg (by simp), if_neg (by simp)]
    have HF2 := hide hf2
    clear h h2 hp hv hs hl hn hc hF hf2 c2 hgB he0 hr0 he1
    go_enter Try.func15, Try.ntmps15
    go_wp2_with fail
    rw [← hw2]
    clear hw2
    go_wp2_with fail
    refine HC.out.mono ?_
    rintro o w3 ⟨rfl, hcl3, hf3⟩
    have HCL := hide hcl3
    have HF3 := hide ((HF2.out.weak (ex1 := fun c => c = g ∨ c = gc) (fun _ _ e => e.elim)).trans hf3 (fun _ _ e => e))
    clear hcl3 hf3 HC
    go_wp2_with fail
    go_ret
    exact ⟨rfl, HCL.out, HF3.out.weak (fun _ _ e => e.elim .inl (fun e => .inr (.inl e)))⟩
  | none =>
    have hbc : ¬ B w.heap.size := fun e => by have := hB _ e; omega
    have hbi : ¬ B (w.heap.size + 1) := fun e => by have := hB _ e; omega
    have HC := hide (callNew44_any w2 B g gc bt bd bf w.heap.size (w.heap.size + 1) D q given calls Th Di Fa tok 3 0 (if (T.get Th id).isSome then 0 else 7) (if (T.get Th id).isSome then T.del Th id else Th) given h2 hp hs hl hn hc hF (fun W hclW hfW => (delFn_any W B g gc bt bd bf w.heap.size (w.heap.size + 1) D.step q given (calls + 1) Th Di Fa id hclW hv (cell_frx hfW (by omega) c1) (cell_frx hfW (by omega) c2)).mono (fun o w' hh => ⟨hh.1, hh.2.1, hh.2.2.weak (fun _ _ e => .inr e)⟩)))
    have HF2 := hide hf2
    cases hsm : (T.get Th id).isSome with
    | true =>
      rw [hsm] at HC
      rw [if_pos (by simp), if_pos (by simp)]
      clear h h2 hp hv hs hl hn hc hF hf2 c2 hgB hbc hbi
      go_enter Try.func15, Try.ntmps15
      go_wp2_with fail
      rw [← hw2]
      clear hw2
      go_wp2_with fail
      refine HC.out.mono ?_
      rintro o w3 ⟨rfl, hcl3, hf3⟩
      have HCL := hide hcl3
      have HF3 := hide ((HF2.out.weak (ex1 := fun c => c = g ∨ c = gc ∨ c = bt ∨ c = bd) (fun _ _ e => e.elim)).trans hf3 (fun _ _ e => e))
      clear hcl3 hf3 HC
      go_wp2_with fail
      go_ret
      exact ⟨rfl, HCL.out, HF3.out⟩
    | false =>
      rw [hsm] at HC
      rw [if_neg (by simp), if_neg (by simp)]
      clear h h2 hp hv hs hl hn hc hF hf2 c2 hgB hbc hbi
      go_enter Try.func15, Try.ntmps15
      go_wp2_with fail
      rw [← hw2]
      clear hw2
      go_wp2_with fail
      refine HC.out.mono ?_
      rintro o w3 ⟨rfl, hcl3, hf3⟩
      have HCL := hide hcl3
      have HF3 := hide ((HF2.out.weak (ex1 := fun c => c = g ∨ c = gc ∨ c = bt ∨ c = bd) (fun _ _ e => e.elim)).trans hf3 (fun _ _ e => e))
      clear hcl3 hf3 HC
      go_wp2_with fail
      go_ret
      exact ⟨rfl, HCL.out, HF3.out⟩
end Go.Proofs.Ytlmkpjdaoinmoaa
