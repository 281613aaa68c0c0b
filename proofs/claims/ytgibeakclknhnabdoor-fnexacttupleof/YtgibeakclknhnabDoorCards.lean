/-
  DERIVED. GIVEN WITH THE SEED: THE CARDS: each row of YtgibeakclknhnabDoorRows.lean that lists a variable, with what it lists TIED to the program's text (the seventh form; the later family's looks); each row that meets fmt, with fmt's text TOLD by the authors' own Lean function (tested against real Go, not proved from fmt's source: count such statements apart). THE CARD IS WHAT COUNTS. Prove the row's statement (the work); the ties are given (YtgibeakclknhnabDoorTie.lean); close each card by the builder's one call (the guide's Derived/Test/ToyasCard.lean, 'card_holds'). Laid BY PROGRAM, IN A SANDBOX (cutbox-door.mjs). By AI agents, Wed Nov 11 2026. No macro, syntax, notation, axiom, sorry.
-/
import Derived.Test.YtgibeakclknhnabDoorRows
import GoSem.ClaimSeven
namespace Go.Proofs.YtgibeakclknhnabDoor
namespace Rows

/-- THE TIED CARD OF 'laws.FnExactTupleOf'. -/
def fnExactTupleOfCard : Claim7 := { stood := { row := fnExactTupleOfRow, standIns := [], harness := (true, "9138bd63ce35d7d4ac6ac31f27d5e1f5564dc3fd6f76ed4bc4854c4079efd5b9"), looks := true }, kinds := [], alts := [], laidByText := true, laidKinds := [.handle], laidTests := true, laidLooks := .later }
def FnExactTupleOfCardSaid : Prop := Claim7.holds Tryd.pinned (.plain (OpenSpec.ofChange fnExactTupleOfSpec)) fnExactTupleOfCard

/-- THE TIED CARD OF 'laws.FnExactTupleText'. -/
def fnExactTupleTextCard : Claim7 := { stood := { row := fnExactTupleTextRow, standIns := [], harness := (true, "9138bd63ce35d7d4ac6ac31f27d5e1f5564dc3fd6f76ed4bc4854c4079efd5b9"), looks := true }, kinds := [], alts := [], laidByText := true, laidKinds := [.data, .data, .data], laidTests := true, laidLooks := .later }
def FnExactTupleTextCardSaid : Prop := Claim7.holds Tryd.pinned (.plain (OpenSpec.ofChange fnExactTupleTextSpec)) fnExactTupleTextCard

/-- THE SECOND FORM's CARD OF 'laws.FnExactTupleOf'. -/
def fnExactTupleOfUptoCard : Claim7 := { stood := { row := fnExactTupleOfUptoRow, standIns := [], harness := (true, "9138bd63ce35d7d4ac6ac31f27d5e1f5564dc3fd6f76ed4bc4854c4079efd5b9"), looks := true }, kinds := [], alts := [], laidByText := true, laidKinds := [.handle], laidTests := true, laidLooks := .later }
def FnExactTupleOfUptoCardSaid : Prop := Claim7.holds Tryd.pinned (.plain (OpenSpec.upto fnExactTupleOfSpec)) fnExactTupleOfUptoCard

/-- THE SECOND FORM's CARD OF 'laws.FnExactTupleText'. -/
def fnExactTupleTextUptoCard : Claim7 := { stood := { row := fnExactTupleTextUptoRow, standIns := [], harness := (true, "9138bd63ce35d7d4ac6ac31f27d5e1f5564dc3fd6f76ed4bc4854c4079efd5b9"), looks := true }, kinds := [], alts := [], laidByText := true, laidKinds := [.data, .data, .data], laidTests := true, laidLooks := .later }
def FnExactTupleTextUptoCardSaid : Prop := Claim7.holds Tryd.pinned (.plain (OpenSpec.upto fnExactTupleTextSpec)) fnExactTupleTextUptoCard
end Rows
end Go.Proofs.YtgibeakclknhnabDoor
