/-
  DERIVED. GIVEN WITH THE SEED: THE CARDS: each row of YtcfimaffeopbbaaGreatDoorRows.lean that lists a variable, with what it lists TIED to the program's text (the seventh form; the later family's looks); each row that meets fmt, with fmt's text TOLD by the authors' own Lean function (tested against real Go, not proved from fmt's source: count such statements apart). THE CARD IS WHAT COUNTS. Prove the row's statement (the work); the ties are given (YtcfimaffeopbbaaGreatDoorTie.lean); close each card by the builder's one call (the guide's Derived/Test/ToyasCard.lean, 'card_holds'). Laid BY PROGRAM, IN A SANDBOX (cutbox-door.mjs). By AI agents, Wed Nov 11 2026. No macro, syntax, notation, axiom, sorry.
-/
import Derived.Test.YtcfimaffeopbbaaGreatDoorRows
import GoSem.ClaimSeven
namespace Go.Proofs.YtcfimaffeopbbaaGreatDoor
namespace Rows

/-- THE TIED CARD OF 'laws.FnExactMachineNew'. -/
def fnExactMachineNewCard : Claim7 := { stood := { row := fnExactMachineNewRow, standIns := [], harness := (true, "7f2b1cb7083de5055a34c6cb6fc846e20b5d1e44f8927ff65700560f112d66c6"), looks := false }, kinds := [], alts := [], laidByText := true, laidKinds := [.data], laidTests := true, laidLooks := .later }
def FnExactMachineNewCardSaid : Prop := Claim7.holds Tryz.pinned (.plain (OpenSpec.ofChange fnExactMachineNewSpec)) fnExactMachineNewCard

/-- THE SECOND FORM's CARD OF 'laws.FnExactMachineNew'. -/
def fnExactMachineNewUptoCard : Claim7 := { stood := { row := fnExactMachineNewUptoRow, standIns := [], harness := (true, "7f2b1cb7083de5055a34c6cb6fc846e20b5d1e44f8927ff65700560f112d66c6"), looks := false }, kinds := [], alts := [], laidByText := true, laidKinds := [.data], laidTests := true, laidLooks := .later }
def FnExactMachineNewUptoCardSaid : Prop := Claim7.holds Tryz.pinned (.plain (OpenSpec.upto fnExactMachineNewSpec)) fnExactMachineNewUptoCard
end Rows
end Go.Proofs.YtcfimaffeopbbaaGreatDoor
