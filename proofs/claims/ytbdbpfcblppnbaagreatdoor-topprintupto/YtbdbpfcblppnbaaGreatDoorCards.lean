/-
  DERIVED. GIVEN WITH THE SEED: THE CARDS: each row of YtbdbpfcblppnbaaGreatDoorRows.lean that lists a variable, with what it lists TIED to the program's text (the seventh form; the later family's looks); each row that meets fmt, with fmt's text TOLD by the authors' own Lean function (tested against real Go, not proved from fmt's source: count such statements apart). THE CARD IS WHAT COUNTS. Prove the row's statement (the work); the ties are given (YtbdbpfcblppnbaaGreatDoorTie.lean); close each card by the builder's one call (the guide's Derived/Test/ToyasCard.lean, 'card_holds'). Laid BY PROGRAM, IN A SANDBOX (cutbox-door.mjs). By AI agents, Wed Nov 11 2026. No macro, syntax, notation, axiom, sorry.
-/
import Derived.Test.YtbdbpfcblppnbaaGreatDoorRows
import GoSem.ClaimSeven
namespace Go.Proofs.YtbdbpfcblppnbaaGreatDoor
namespace Rows

/-- THE TIED CARD OF 'wavewrighttop.TopPrint'. -/
def topPrintCard : Claim7 := { stood := { row := topPrintRow, standIns := [], harness := (true, "089b1f91e80984e234d155f168dd6ab65658df1c7164ba9c50eb33cbb28224b7"), looks := true }, kinds := [], alts := [], laidByText := true, laidKinds := [.data, .data, .data, .sentinel, .sentinel], laidTests := true, laidLooks := .later }
def TopPrintCardSaid : Prop := Claim7.holds Tryz.pinned (.plain (OpenSpec.ofChange topPrintSpec)) topPrintCard

/-- THE SECOND FORM's CARD OF 'wavewrighttop.TopPrint'. -/
def topPrintUptoCard : Claim7 := { stood := { row := topPrintUptoRow, standIns := [], harness := (true, "089b1f91e80984e234d155f168dd6ab65658df1c7164ba9c50eb33cbb28224b7"), looks := true }, kinds := [], alts := [], laidByText := true, laidKinds := [.data, .data, .data, .sentinel, .sentinel], laidTests := true, laidLooks := .later }
def TopPrintUptoCardSaid : Prop := Claim7.holds Tryz.pinned (.plain (OpenSpec.upto topPrintSpec)) topPrintUptoCard
end Rows
end Go.Proofs.YtbdbpfcblppnbaaGreatDoor
