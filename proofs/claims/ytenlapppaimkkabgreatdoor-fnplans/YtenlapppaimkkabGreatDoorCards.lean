/-
  DERIVED. GIVEN WITH THE SEED: THE CARDS: each row of YtenlapppaimkkabGreatDoorRows.lean that lists a variable, with what it lists TIED to the program's text (the seventh form; the later family's looks); each row that meets fmt, with fmt's text TOLD by the authors' own Lean function (tested against real Go, not proved from fmt's source: count such statements apart). THE CARD IS WHAT COUNTS. Prove the row's statement (the work); the ties are given (YtenlapppaimkkabGreatDoorTie.lean); close each card by the builder's one call (the guide's Derived/Test/ToyasCard.lean, 'card_holds'). Laid BY PROGRAM, IN A SANDBOX (cutbox-door.mjs). By AI agents, Wed Nov 11 2026. No macro, syntax, notation, axiom, sorry.
-/
import Derived.Test.YtenlapppaimkkabGreatDoorRows
import GoSem.ClaimSeven
namespace Go.Proofs.YtenlapppaimkkabGreatDoor
namespace Rows

/-- THE TIED CARD OF 'laws.FnPlans'. -/
def fnPlansCard : Claim7 := { stood := { row := fnPlansRow, standIns := [], harness := (true, "b43d86d5b94766bc413ce460a374d7f49bf45236c53fa368a9602691b816c06b"), looks := true }, kinds := [], alts := [], laidByText := true, laidKinds := [.data], laidTests := true, laidLooks := .later }
def FnPlansCardSaid : Prop := Claim7.holds Tryz.pinned (.plain (OpenSpec.ofChange fnPlansSpec)) fnPlansCard

/-- THE TIED CARD OF 'laws.FnKnows'. -/
def fnKnowsCard : Claim7 := { stood := { row := fnKnowsRow, standIns := [], harness := (true, "b43d86d5b94766bc413ce460a374d7f49bf45236c53fa368a9602691b816c06b"), looks := true }, kinds := [], alts := [], laidByText := true, laidKinds := [.data], laidTests := true, laidLooks := .later }
def FnKnowsCardSaid : Prop := Claim7.holds Tryz.pinned (.plain (OpenSpec.ofChange fnKnowsSpec)) fnKnowsCard

/-- THE SECOND FORM's CARD OF 'laws.FnPlans'. -/
def fnPlansUptoCard : Claim7 := { stood := { row := fnPlansUptoRow, standIns := [], harness := (true, "b43d86d5b94766bc413ce460a374d7f49bf45236c53fa368a9602691b816c06b"), looks := true }, kinds := [], alts := [], laidByText := true, laidKinds := [.data], laidTests := true, laidLooks := .later }
def FnPlansUptoCardSaid : Prop := Claim7.holds Tryz.pinned (.plain (OpenSpec.upto fnPlansSpec)) fnPlansUptoCard

/-- THE SECOND FORM's CARD OF 'laws.FnKnows'. -/
def fnKnowsUptoCard : Claim7 := { stood := { row := fnKnowsUptoRow, standIns := [], harness := (true, "b43d86d5b94766bc413ce460a374d7f49bf45236c53fa368a9602691b816c06b"), looks := true }, kinds := [], alts := [], laidByText := true, laidKinds := [.data], laidTests := true, laidLooks := .later }
def FnKnowsUptoCardSaid : Prop := Claim7.holds Tryz.pinned (.plain (OpenSpec.upto fnKnowsSpec)) fnKnowsUptoCard
end Rows
end Go.Proofs.YtenlapppaimkkabGreatDoor
