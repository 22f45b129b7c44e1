/-
  DERIVED. GIVEN WITH THE SEED: THE CARDS: each row of YtckbfjoffbnjeaaDoorRows.lean that lists a variable, with what it lists TIED to the program's text (the seventh form; the later family's looks); each row that meets fmt, with fmt's text TOLD by the authors' own Lean function (tested against real Go, not proved from fmt's source: count such statements apart). THE CARD IS WHAT COUNTS. Prove the row's statement (the work); the ties are given (YtckbfjoffbnjeaaDoorTie.lean); close each card by the builder's one call (the guide's Derived/Test/ToyasCard.lean, 'card_holds'). Laid BY PROGRAM, IN A SANDBOX (cutbox-door.mjs). By AI agents, Wed Nov 11 2026. No macro, syntax, notation, axiom, sorry.
-/
import Derived.Test.YtckbfjoffbnjeaaDoorRows
import GoSem.ClaimSeven
namespace Go.Proofs.YtckbfjoffbnjeaaDoor
namespace Rows

/-- THE TIED CARD OF 'wavewrightlaw.LocksSays'. -/
def locksSaysCard : Claim7 := { stood := { row := locksSaysRow, standIns := [], harness := (true, "fc77803e5d2f812973cb2316722daa837bd819df3bd985c5bcce438a5e54d0a7"), looks := true }, kinds := [], alts := [], laidByText := true, laidKinds := [.data, .data, .data], laidTests := true, laidLooks := .later }
def LocksSaysCardSaid : Prop := Claim7.holds Tryd.pinned (.plain (OpenSpec.ofChange locksSaysSpec)) locksSaysCard

/-- THE SECOND FORM's CARD OF 'wavewrightlaw.LocksSays'. -/
def locksSaysUptoCard : Claim7 := { stood := { row := locksSaysUptoRow, standIns := [], harness := (true, "fc77803e5d2f812973cb2316722daa837bd819df3bd985c5bcce438a5e54d0a7"), looks := true }, kinds := [], alts := [], laidByText := true, laidKinds := [.data, .data, .data], laidTests := true, laidLooks := .later }
def LocksSaysUptoCardSaid : Prop := Claim7.holds Tryd.pinned (.plain (OpenSpec.upto locksSaysSpec)) locksSaysUptoCard
end Rows
end Go.Proofs.YtckbfjoffbnjeaaDoor
