/-
  DERIVED. GIVEN WITH THE SEED: THE CARDS: each row of YtbfkbbdfjoahcanDoorRows.lean that lists a variable, with what it lists TIED to the program's text (the seventh form; the later family's looks); each row that meets fmt, with fmt's text TOLD by the authors' own Lean function (tested against real Go, not proved from fmt's source: count such statements apart). THE CARD IS WHAT COUNTS. Prove the row's statement (the work); the ties are given (YtbfkbbdfjoahcanDoorTie.lean); close each card by the builder's one call (the guide's Derived/Test/ToyasCard.lean, 'card_holds'). Laid BY PROGRAM, IN A SANDBOX (cutbox-door.mjs). By AI agents, Wed Nov 11 2026. No macro, syntax, notation, axiom, sorry.
-/
import Derived.Test.YtbfkbbdfjoahcanDoorRows
import GoSem.ClaimSeven
namespace Go.Proofs.YtbfkbbdfjoahcanDoor
namespace Rows

/-- THE TIED CARD OF 'laws.FnExactCountAt'. -/
def fnExactCountAtCard : Claim7 := { stood := { row := fnExactCountAtRow, standIns := [], harness := (true, "2450ae0a93b216bd7a824c0327600e051a944d2f183e86111c18815a2c0bfb34"), looks := false }, kinds := [], alts := [], laidByText := true, laidKinds := [.data], laidTests := true, laidLooks := .later }
def FnExactCountAtCardSaid : Prop := Claim7.holds Tryd.pinned (.plain (OpenSpec.ofChange fnExactCountAtSpec)) fnExactCountAtCard

/-- THE TIED CARD OF 'laws.FnExactStateAt'. -/
def fnExactStateAtCard : Claim7 := { stood := { row := fnExactStateAtRow, standIns := [], harness := (true, "2450ae0a93b216bd7a824c0327600e051a944d2f183e86111c18815a2c0bfb34"), looks := false }, kinds := [], alts := [], laidByText := true, laidKinds := [.data], laidTests := true, laidLooks := .later }
def FnExactStateAtCardSaid : Prop := Claim7.holds Tryd.pinned (.plain (OpenSpec.ofChange fnExactStateAtSpec)) fnExactStateAtCard

/-- THE TIED CARD OF 'laws.FnExactViaAt'. -/
def fnExactViaAtCard : Claim7 := { stood := { row := fnExactViaAtRow, standIns := [], harness := (true, "2450ae0a93b216bd7a824c0327600e051a944d2f183e86111c18815a2c0bfb34"), looks := false }, kinds := [], alts := [], laidByText := true, laidKinds := [.data], laidTests := true, laidLooks := .later }
def FnExactViaAtCardSaid : Prop := Claim7.holds Tryd.pinned (.plain (OpenSpec.ofChange fnExactViaAtSpec)) fnExactViaAtCard

/-- THE SECOND FORM's CARD OF 'laws.FnExactCountAt'. -/
def fnExactCountAtUptoCard : Claim7 := { stood := { row := fnExactCountAtUptoRow, standIns := [], harness := (true, "2450ae0a93b216bd7a824c0327600e051a944d2f183e86111c18815a2c0bfb34"), looks := false }, kinds := [], alts := [], laidByText := true, laidKinds := [.data], laidTests := true, laidLooks := .later }
def FnExactCountAtUptoCardSaid : Prop := Claim7.holds Tryd.pinned (.plain (OpenSpec.upto fnExactCountAtSpec)) fnExactCountAtUptoCard

/-- THE SECOND FORM's CARD OF 'laws.FnExactStateAt'. -/
def fnExactStateAtUptoCard : Claim7 := { stood := { row := fnExactStateAtUptoRow, standIns := [], harness := (true, "2450ae0a93b216bd7a824c0327600e051a944d2f183e86111c18815a2c0bfb34"), looks := false }, kinds := [], alts := [], laidByText := true, laidKinds := [.data], laidTests := true, laidLooks := .later }
def FnExactStateAtUptoCardSaid : Prop := Claim7.holds Tryd.pinned (.plain (OpenSpec.upto fnExactStateAtSpec)) fnExactStateAtUptoCard

/-- THE SECOND FORM's CARD OF 'laws.FnExactViaAt'. -/
def fnExactViaAtUptoCard : Claim7 := { stood := { row := fnExactViaAtUptoRow, standIns := [], harness := (true, "2450ae0a93b216bd7a824c0327600e051a944d2f183e86111c18815a2c0bfb34"), looks := false }, kinds := [], alts := [], laidByText := true, laidKinds := [.data], laidTests := true, laidLooks := .later }
def FnExactViaAtUptoCardSaid : Prop := Claim7.holds Tryd.pinned (.plain (OpenSpec.upto fnExactViaAtSpec)) fnExactViaAtUptoCard
end Rows
end Go.Proofs.YtbfkbbdfjoahcanDoor
