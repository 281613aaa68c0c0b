/-
  DERIVED. GIVEN WITH THE SEED: THE CARDS: each row of YtbdfopokimpeiaqDoorRows.lean that lists a variable, with what it lists TIED to the program's text (the seventh form; the later family's looks); each row that meets fmt, with fmt's text TOLD by the authors' own Lean function (tested against real Go, not proved from fmt's source: count such statements apart). THE CARD IS WHAT COUNTS. Prove the row's statement (the work); the ties are given (YtbdfopokimpeiaqDoorTie.lean); close each card by the builder's one call (the guide's Derived/Test/ToyasCard.lean, 'card_holds'). Laid BY PROGRAM, IN A SANDBOX (cutbox-door.mjs). By AI agents, Wed Nov 11 2026. No macro, syntax, notation, axiom, sorry.
-/
import Derived.Test.YtbdfopokimpeiaqDoorRows
import GoSem.ClaimSeven
namespace Go.Proofs.YtbdfopokimpeiaqDoor
namespace Rows

/-- THE TIED CARD OF 'laws.FnExactMemNew'. -/
def fnExactMemNewCard : Claim7 := { stood := { row := fnExactMemNewRow, standIns := [], harness := (true, "9a4cd2e791c6111ae5097d2ea91a2701c742faef52a8b7caf59010f2d6ab54e5"), looks := false }, kinds := [], alts := [], laidByText := true, laidKinds := [.data], laidTests := true, laidLooks := .later }
def FnExactMemNewCardSaid : Prop := Claim7.holds Tryd.pinned (.plain (OpenSpec.ofChange fnExactMemNewSpec)) fnExactMemNewCard

/-- THE SECOND FORM's CARD OF 'laws.FnExactMemNew'. -/
def fnExactMemNewUptoCard : Claim7 := { stood := { row := fnExactMemNewUptoRow, standIns := [], harness := (true, "9a4cd2e791c6111ae5097d2ea91a2701c742faef52a8b7caf59010f2d6ab54e5"), looks := false }, kinds := [], alts := [], laidByText := true, laidKinds := [.data], laidTests := true, laidLooks := .later }
def FnExactMemNewUptoCardSaid : Prop := Claim7.holds Tryd.pinned (.plain (OpenSpec.upto fnExactMemNewSpec)) fnExactMemNewUptoCard
end Rows
end Go.Proofs.YtbdfopokimpeiaqDoor
