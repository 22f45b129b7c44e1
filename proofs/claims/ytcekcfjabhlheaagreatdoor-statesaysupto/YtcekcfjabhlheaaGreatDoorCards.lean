/-
  DERIVED. GIVEN WITH THE SEED: THE CARDS: each row of YtcekcfjabhlheaaGreatDoorRows.lean that lists a variable, with what it lists TIED to the program's text (the seventh form; the later family's looks); each row that meets fmt, with fmt's text TOLD by the authors' own Lean function (tested against real Go, not proved from fmt's source: count such statements apart). THE CARD IS WHAT COUNTS. Prove the row's statement (the work); the ties are given (YtcekcfjabhlheaaGreatDoorTie.lean); close each card by the builder's one call (the guide's Derived/Test/ToyasCard.lean, 'card_holds'). Laid BY PROGRAM, IN A SANDBOX (cutbox-door.mjs). By AI agents, Wed Nov 11 2026. No macro, syntax, notation, axiom, sorry.
-/
import Derived.Test.YtcekcfjabhlheaaGreatDoorRows
import GoSem.ClaimSeven
namespace Go.Proofs.YtcekcfjabhlheaaGreatDoor
namespace Rows

/-- THE TIED CARD OF 'wavewrighttop.TopState'. -/
def topStateCard : Claim7 := { stood := { row := topStateRow, standIns := [], harness := (true, "b9d96257cfefd30990fdd51c1b7fa6a69c5fdfd6e102328a6755d8141ebaa274"), looks := true }, kinds := [], alts := [], laidByText := true, laidKinds := [.data, .data, .data, .data, .sentinel, .sentinel, .pinned], laidTests := true, laidLooks := .later }
def TopStateCardSaid : Prop := Claim7.holds Tryz.pinned (.plain (OpenSpec.ofChange topStateSpec)) topStateCard

/-- THE TIED CARD OF 'wavewrightlaw.StateSays'. -/
def stateSaysCard : Claim7 := { stood := { row := stateSaysRow, standIns := [], harness := (true, "b9d96257cfefd30990fdd51c1b7fa6a69c5fdfd6e102328a6755d8141ebaa274"), looks := true }, kinds := [], alts := [], laidByText := true, laidKinds := [.data, .data, .data, .data, .sentinel, .sentinel, .pinned], laidTests := true, laidLooks := .later }
def StateSaysCardSaid : Prop := Claim7.holds Tryz.pinned (.plain (OpenSpec.ofChange stateSaysSpec)) stateSaysCard

/-- THE SECOND FORM's CARD OF 'wavewrighttop.TopState'. -/
def topStateUptoCard : Claim7 := { stood := { row := topStateUptoRow, standIns := [], harness := (true, "b9d96257cfefd30990fdd51c1b7fa6a69c5fdfd6e102328a6755d8141ebaa274"), looks := true }, kinds := [], alts := [], laidByText := true, laidKinds := [.data, .data, .data, .data, .sentinel, .sentinel, .pinned], laidTests := true, laidLooks := .later }
def TopStateUptoCardSaid : Prop := Claim7.holds Tryz.pinned (.plain (OpenSpec.upto topStateSpec)) topStateUptoCard

/-- THE SECOND FORM's CARD OF 'wavewrightlaw.StateSays'. -/
def stateSaysUptoCard : Claim7 := { stood := { row := stateSaysUptoRow, standIns := [], harness := (true, "b9d96257cfefd30990fdd51c1b7fa6a69c5fdfd6e102328a6755d8141ebaa274"), looks := true }, kinds := [], alts := [], laidByText := true, laidKinds := [.data, .data, .data, .data, .sentinel, .sentinel, .pinned], laidTests := true, laidLooks := .later }
def StateSaysUptoCardSaid : Prop := Claim7.holds Tryz.pinned (.plain (OpenSpec.upto stateSaysSpec)) stateSaysUptoCard
end Rows
end Go.Proofs.YtcekcfjabhlheaaGreatDoor
