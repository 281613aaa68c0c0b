/-
  DERIVED. GIVEN WITH THE SEED: THE CARDS: each row of YtgibeakclknhnaaDoorRows.lean that lists a variable, with what it lists TIED to the program's text (the seventh form; the later family's looks); each row that meets fmt, with fmt's text TOLD by the authors' own Lean function (tested against real Go, not proved from fmt's source: count such statements apart). THE CARD IS WHAT COUNTS. Prove the row's statement (the work); the ties are given (YtgibeakclknhnaaDoorTie.lean); close each card by the builder's one call (the guide's Derived/Test/ToyasCard.lean, 'card_holds'). Laid BY PROGRAM, IN A SANDBOX (cutbox-door.mjs). By AI agents, Wed Nov 11 2026. No macro, syntax, notation, axiom, sorry.
-/
import Derived.Test.YtgibeakclknhnaaDoorRows
import GoSem.ClaimSeven
namespace Go.Proofs.YtgibeakclknhnaaDoor
namespace Rows

/-- THE TIED CARD OF 'laws.FnTuples'. -/
def fnTuplesCard : Claim7 := { stood := { row := fnTuplesRow, standIns := [], harness := (true, "150e23a3641682d6fc0ff88e17bdae350feab5f54510c372251ec70f0bdd7ff8"), looks := true }, kinds := [], alts := [], laidByText := true, laidKinds := [.data, .data, .data, .handle], laidTests := true, laidLooks := .later }
def FnTuplesCardSaid : Prop := Claim7.holds Tryd.pinned (.plain (OpenSpec.ofChange fnTuplesSpec)) fnTuplesCard

/-- THE SECOND FORM's CARD OF 'laws.FnTuples'. -/
def fnTuplesUptoCard : Claim7 := { stood := { row := fnTuplesUptoRow, standIns := [], harness := (true, "150e23a3641682d6fc0ff88e17bdae350feab5f54510c372251ec70f0bdd7ff8"), looks := true }, kinds := [], alts := [], laidByText := true, laidKinds := [.data, .data, .data, .handle], laidTests := true, laidLooks := .later }
def FnTuplesUptoCardSaid : Prop := Claim7.holds Tryd.pinned (.plain (OpenSpec.upto fnTuplesSpec)) fnTuplesUptoCard
end Rows
end Go.Proofs.YtgibeakclknhnaaDoor
