/-
  DERIVED. GIVEN WITH THE SEED: THE CARDS: each row of YtenlapppaimkkaeGreatDoorRows.lean that lists a variable, with what it lists TIED to the program's text (the seventh form; the later family's looks); each row that meets fmt, with fmt's text TOLD by the authors' own Lean function (tested against real Go, not proved from fmt's source: count such statements apart). THE CARD IS WHAT COUNTS. Prove the row's statement (the work); the ties are given (YtenlapppaimkkaeGreatDoorTie.lean); close each card by the builder's one call (the guide's Derived/Test/ToyasCard.lean, 'card_holds'). Laid BY PROGRAM, IN A SANDBOX (cutbox-door.mjs). By AI agents, Wed Nov 11 2026. No macro, syntax, notation, axiom, sorry.
-/
import Derived.Test.YtenlapppaimkkaeGreatDoorRows
import GoSem.ClaimSeven
namespace Go.Proofs.YtenlapppaimkkaeGreatDoor
namespace Rows

/-- THE TIED CARD OF 'laws.FnAlwaysSomething'. -/
def fnAlwaysSomethingCard : Claim7 := { stood := { row := fnAlwaysSomethingRow, standIns := [], harness := (true, "457008573ccb71e009c20139cd58ae1f38b284e9644abfed7874b870b7cf6b32"), looks := true }, kinds := [], alts := [], laidByText := true, laidKinds := [.data], laidTests := true, laidLooks := .later }
def FnAlwaysSomethingCardSaid : Prop := Claim7.holds Tryz.pinned (.plain (OpenSpec.ofChange fnAlwaysSomethingSpec)) fnAlwaysSomethingCard

/-- THE SECOND FORM's CARD OF 'laws.FnAlwaysSomething'. -/
def fnAlwaysSomethingUptoCard : Claim7 := { stood := { row := fnAlwaysSomethingUptoRow, standIns := [], harness := (true, "457008573ccb71e009c20139cd58ae1f38b284e9644abfed7874b870b7cf6b32"), looks := true }, kinds := [], alts := [], laidByText := true, laidKinds := [.data], laidTests := true, laidLooks := .later }
def FnAlwaysSomethingUptoCardSaid : Prop := Claim7.holds Tryz.pinned (.plain (OpenSpec.upto fnAlwaysSomethingSpec)) fnAlwaysSomethingUptoCard
end Rows
end Go.Proofs.YtenlapppaimkkaeGreatDoor
