/-
  NARROWER THAN 'FOR EVERY INPUT', by the rows' own cells (each row's printed sentence says how): CloudSays: loops · TopToken: loops.
  DERIVED. THE GIVEN ROWS OF THIS SEAT. 2 by the template 'for every input the law returns true; each argument reads behind the call as it read before'; 0 by the template 'total and deterministic' (their statements: YtlmkpjdaoinmoaaTotals.lean).
  GIVEN WITH THE SEED: the statements are not yours to turn. If you find one false, say at which input.
  Laid BY PROGRAM, IN A SANDBOX (cutbox-rows.mjs): the forced cells as the released guide's own fill.sh prints them over the translation aacbccc6faa1f3c5… (all of the seat's roots in one cut). By AI agents, Wed Nov 11 2026. No macro, syntax, notation, axiom, sorry.
-/
import Derived.Test.YtlmkpjdaoinmoaaChecked
import GoSem.Claim
import GoSem.ClaimJoined
import GoSem.ClaimMapViews
import Derived.JoinedTies
import Derived.KernelRfl
namespace Go.Proofs.Ytlmkpjdaoinmoaa
/- THE CELL 'sum', in the pinned program and in every row, IS THE sha256 OF THE DUMP (.gsa) THAT YtlmkpjdaoinmoaaProg.lean LOADS. Nothing in Lean hashes anything: it is a label: what it is worth is what the hold of that sum in a sandbox is worth. -/
noncomputable def Try.pinned : Pinned := { name := "ytlmkpjdaoinmoaa", sum := "aacbccc6faa1f3c56b3be5bfd3036b4ef619bf6d34b182bc26a2a0def7e1fcad", checked := Try.checked }
namespace Rows
def none {H : Type} : Left H := { results := [], args := [] }

/-- 'wavewrightlaw.CloudSays': WHATEVER THE INPUT: true; the input reads as it did. -/
def cloudSaysSpec : ChangeSpec := { name := "cloudSays", fn := fun _ => fun
  | [d1, d2] => { results := [.lit (.bool true)], args := [d1, d2] }
  | _ => none }
def cloudSaysRow : OpenClaim := { program := "ytlmkpjdaoinmoaa", sum := "aacbccc6faa1f3c56b3be5bfd3036b4ef619bf6d34b182bc26a2a0def7e1fcad", func := "wavewright/wavewrightlaw.CloudSays", spec := "cloudSays", unfollowed := true, recurses := true, loops := true, apart := false }
def CloudSaysSaid : Prop := cloudSaysRow.holds Try.pinned (OpenSpec.ofChange cloudSaysSpec)

/-- ITS FALSE NEIGHBOUR: 'it returns false'. Refute it at one input. -/
def cloudSaysWrong : ChangeSpec := { name := "cloudSays", fn := fun _ => fun
  | [d1, d2] => { results := [.lit (.bool false)], args := [d1, d2] }
  | _ => none }
def CloudSaysWrongFalsely : Prop := cloudSaysRow.holds Try.pinned (OpenSpec.ofChange cloudSaysWrong)

/-- 'wavewrighttop.TopToken': WHATEVER THE INPUT: true; the input reads as it did. -/
def topTokenSpec : ChangeSpec := { name := "topToken", fn := fun _ => fun
  | [d] => { results := [.lit (.bool true)], args := [d] }
  | _ => none }
def topTokenRow : OpenClaim := { program := "ytlmkpjdaoinmoaa", sum := "aacbccc6faa1f3c56b3be5bfd3036b4ef619bf6d34b182bc26a2a0def7e1fcad", func := "wavewright/wavewrighttop.TopToken", spec := "topToken", unfollowed := true, recurses := true, loops := true, apart := false }
def TopTokenSaid : Prop := topTokenRow.holds Try.pinned (OpenSpec.ofChange topTokenSpec)

/-- ITS FALSE NEIGHBOUR: 'it returns false'. Refute it at one input. -/
def topTokenWrong : ChangeSpec := { name := "topToken", fn := fun _ => fun
  | [d] => { results := [.lit (.bool false)], args := [d] }
  | _ => none }
def TopTokenWrongFalsely : Prop := topTokenRow.holds Try.pinned (OpenSpec.ofChange topTokenWrong)

/- THE SECOND FORM. 'bulk': how many values and letters a reading holds, each counted each time it is reached (what is shared counts as often as it is met; a slice's spare places count too). A statement '..UptoSaid' is the law's where the arguments, and the package variables that the reading takes, are together of bulk at most 1048576: NARROWER than '..Said'. Prove '..Said' where nothing that the law and all that it calls make is longer than what came in: it says more and counts as full. Else prove '..UptoSaid'. A law counts once. -/
mutual
def uptoBulk {H : Type} : DataW H → Nat
  | .lit (.string bytes) => bytes.length + 1
  | .lit _ => 1
  | .nil => 1
  | .ptr d => uptoBulk d + 1
  | .slice elems spare => uptoBulkAll elems + uptoBulkAll spare + 1
  | .agg parts => uptoBulkAll parts + 1
  | .iface _ d => uptoBulk d + 1
  | .map entries => uptoBulkEntries entries + 1
  | .held _ => 1
def uptoBulkAll {H : Type} : List (DataW H) → Nat
  | [] => 0
  | d :: r => uptoBulk d + uptoBulkAll r
def uptoBulkEntries {H : Type} : List (Lit × DataW H) → Nat
  | [] => 0
  | x :: r => uptoBulkEntry x + uptoBulkEntries r
def uptoBulkEntry {H : Type} : Lit × DataW H → Nat
  | (.string bytes, d) => bytes.length + uptoBulk d + 1
  | (_, d) => uptoBulk d + 1
 end
def uptoSmall : (H : Type) → List (DataW H) → Bool := fun _ ds => decide (uptoBulkAll ds ≤ 1048576)
def OpenSpec.upto (s : _root_.Go.ChangeSpec) : _root_.Go.OpenSpec := { _root_.Go.OpenSpec.ofChange s with cond := some uptoSmall }

/-- 'wavewrightlaw.CloudSays', WHERE WHAT IT READS IS OF BULK AT MOST 1048576: true; the input reads as it did. -/
def cloudSaysUptoRow : OpenClaim := { program := "ytlmkpjdaoinmoaa", sum := "aacbccc6faa1f3c56b3be5bfd3036b4ef619bf6d34b182bc26a2a0def7e1fcad", func := "wavewright/wavewrightlaw.CloudSays", spec := "cloudSays", unfollowed := true, recurses := true, loops := true, apart := false, narrowed := true }
def CloudSaysUptoSaid : Prop := cloudSaysUptoRow.holds Try.pinned (OpenSpec.upto cloudSaysSpec)

/-- 'wavewrighttop.TopToken', WHERE WHAT IT READS IS OF BULK AT MOST 1048576: true; the input reads as it did. -/
def topTokenUptoRow : OpenClaim := { program := "ytlmkpjdaoinmoaa", sum := "aacbccc6faa1f3c56b3be5bfd3036b4ef619bf6d34b182bc26a2a0def7e1fcad", func := "wavewright/wavewrighttop.TopToken", spec := "topToken", unfollowed := true, recurses := true, loops := true, apart := false, narrowed := true }
def TopTokenUptoSaid : Prop := topTokenUptoRow.holds Try.pinned (OpenSpec.upto topTokenSpec)

end Rows
end Go.Proofs.Ytlmkpjdaoinmoaa
