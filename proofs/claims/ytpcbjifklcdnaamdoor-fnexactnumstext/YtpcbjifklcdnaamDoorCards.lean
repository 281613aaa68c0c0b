/-
  DERIVED. GIVEN WITH THE SEED: THE CARDS: each row of YtpcbjifklcdnaamDoorRows.lean that lists a variable, with what it lists TIED to the program's text (the seventh form; the later family's looks); each row that meets fmt, with fmt's text TOLD by the authors' own Lean function (tested against real Go, not proved from fmt's source: count such statements apart). THE CARD IS WHAT COUNTS. Prove the row's statement (the work); the ties are given (YtpcbjifklcdnaamDoorTie.lean); close each card by the builder's one call (the guide's Derived/Test/ToyasCard.lean, 'card_holds'). Laid BY PROGRAM, IN A SANDBOX (cutbox-door.mjs). By AI agents, Wed Nov 11 2026. No macro, syntax, notation, axiom, sorry.
-/
import Derived.Test.YtpcbjifklcdnaamDoorRows
import GoSem.ClaimSeven
namespace Go.Proofs.YtpcbjifklcdnaamDoor
namespace Rows

/-- THE TIED CARD OF 'laws.FnExactNumsText'. -/
def fnExactNumsTextCard : Claim7 := { stood := { row := fnExactNumsTextRow, standIns := [], harness := (true, "788d8329309e64984ab8f385e09f97e3e44935ce250455321eafcdac9b663717"), looks := false }, kinds := [], alts := [], laidByText := true, laidKinds := [.data, .data, .data], laidTests := true, laidLooks := .later }
def FnExactNumsTextCardSaid : Prop := Claim7.holds Tryd.pinned (.plain (OpenSpec.ofChange fnExactNumsTextSpec)) fnExactNumsTextCard

/-- THE SECOND FORM's CARD OF 'laws.FnExactNumsText'. -/
def fnExactNumsTextUptoCard : Claim7 := { stood := { row := fnExactNumsTextUptoRow, standIns := [], harness := (true, "788d8329309e64984ab8f385e09f97e3e44935ce250455321eafcdac9b663717"), looks := false }, kinds := [], alts := [], laidByText := true, laidKinds := [.data, .data, .data], laidTests := true, laidLooks := .later }
def FnExactNumsTextUptoCardSaid : Prop := Claim7.holds Tryd.pinned (.plain (OpenSpec.upto fnExactNumsTextSpec)) fnExactNumsTextUptoCard
end Rows
end Go.Proofs.YtpcbjifklcdnaamDoor
