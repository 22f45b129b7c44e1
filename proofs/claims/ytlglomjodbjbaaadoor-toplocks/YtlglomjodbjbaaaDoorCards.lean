/-
  DERIVED. GIVEN WITH THE SEED: THE CARDS: each row of YtlglomjodbjbaaaDoorRows.lean that lists a variable, with what it lists TIED to the program's text (the seventh form; the later family's looks); each row that meets fmt, with fmt's text TOLD by the authors' own Lean function (tested against real Go, not proved from fmt's source: count such statements apart). THE CARD IS WHAT COUNTS. Prove the row's statement (the work); the ties are given (YtlglomjodbjbaaaDoorTie.lean); close each card by the builder's one call (the guide's Derived/Test/ToyasCard.lean, 'card_holds'). Laid BY PROGRAM, IN A SANDBOX (cutbox-door.mjs). By AI agents, Wed Nov 11 2026. No macro, syntax, notation, axiom, sorry.
-/
import Derived.Test.YtlglomjodbjbaaaDoorRows
import GoSem.ClaimSeven
namespace Go.Proofs.YtlglomjodbjbaaaDoor
namespace Rows

/-- THE TIED CARD OF 'wavewrighttop.TopLocks'. -/
def topLocksCard : Claim7 := { stood := { row := topLocksRow, standIns := [], harness := (true, "d1b39c49727c343d05c177239afc33f94bff463609f41a20adf97d8c809f1713"), looks := true }, kinds := [], alts := [], laidByText := true, laidKinds := [.data, .data, .data], laidTests := true, laidLooks := .later }
def TopLocksCardSaid : Prop := Claim7.holds Tryd.pinned (.plain (OpenSpec.ofChange topLocksSpec)) topLocksCard

/-- THE SECOND FORM's CARD OF 'wavewrighttop.TopLocks'. -/
def topLocksUptoCard : Claim7 := { stood := { row := topLocksUptoRow, standIns := [], harness := (true, "d1b39c49727c343d05c177239afc33f94bff463609f41a20adf97d8c809f1713"), looks := true }, kinds := [], alts := [], laidByText := true, laidKinds := [.data, .data, .data], laidTests := true, laidLooks := .later }
def TopLocksUptoCardSaid : Prop := Claim7.holds Tryd.pinned (.plain (OpenSpec.upto topLocksSpec)) topLocksUptoCard
end Rows
end Go.Proofs.YtlglomjodbjbaaaDoor
