/-
  DERIVED. GIVEN WITH THE SEED: THE CARDS: each row of YtbfkbbdfjoahcamDoorRows.lean that lists a variable, with what it lists TIED to the program's text (the seventh form; the later family's looks); each row that meets fmt, with fmt's text TOLD by the authors' own Lean function (tested against real Go, not proved from fmt's source: count such statements apart). THE CARD IS WHAT COUNTS. Prove the row's statement (the work); the ties are given (YtbfkbbdfjoahcamDoorTie.lean); close each card by the builder's one call (the guide's Derived/Test/ToyasCard.lean, 'card_holds'). Laid BY PROGRAM, IN A SANDBOX (cutbox-door.mjs). By AI agents, Wed Nov 11 2026. No macro, syntax, notation, axiom, sorry.
-/
import Derived.Test.YtbfkbbdfjoahcamDoorRows
import GoSem.ClaimSeven
namespace Go.Proofs.YtbfkbbdfjoahcamDoor
namespace Rows

/-- THE TIED CARD OF 'laws.FnExactNumsText'. -/
def fnExactNumsTextCard : Claim7 := { stood := { row := fnExactNumsTextRow, standIns := [], harness := (true, "cc4d43766964a4b335a90e8260149f65af00c3b5c6617f829fe3f78cfbeb6bfc"), looks := false }, kinds := [], alts := [], laidByText := true, laidKinds := [.data, .data, .data], laidTests := true, laidLooks := .later }
def FnExactNumsTextCardSaid : Prop := Claim7.holds Tryd.pinned (.plain (OpenSpec.ofChange fnExactNumsTextSpec)) fnExactNumsTextCard

/-- THE TIED CARD OF 'laws.FnExactRowAt'. -/
def fnExactRowAtCard : Claim7 := { stood := { row := fnExactRowAtRow, standIns := [], harness := (true, "cc4d43766964a4b335a90e8260149f65af00c3b5c6617f829fe3f78cfbeb6bfc"), looks := false }, kinds := [], alts := [], laidByText := true, laidKinds := [.data], laidTests := true, laidLooks := .later }
def FnExactRowAtCardSaid : Prop := Claim7.holds Tryd.pinned (.plain (OpenSpec.ofChange fnExactRowAtSpec)) fnExactRowAtCard

/-- THE TIED CARD OF 'laws.FnExactOwnerAt'. -/
def fnExactOwnerAtCard : Claim7 := { stood := { row := fnExactOwnerAtRow, standIns := [], harness := (true, "cc4d43766964a4b335a90e8260149f65af00c3b5c6617f829fe3f78cfbeb6bfc"), looks := false }, kinds := [], alts := [], laidByText := true, laidKinds := [.data], laidTests := true, laidLooks := .later }
def FnExactOwnerAtCardSaid : Prop := Claim7.holds Tryd.pinned (.plain (OpenSpec.ofChange fnExactOwnerAtSpec)) fnExactOwnerAtCard

/-- THE SECOND FORM's CARD OF 'laws.FnExactNumsText'. -/
def fnExactNumsTextUptoCard : Claim7 := { stood := { row := fnExactNumsTextUptoRow, standIns := [], harness := (true, "cc4d43766964a4b335a90e8260149f65af00c3b5c6617f829fe3f78cfbeb6bfc"), looks := false }, kinds := [], alts := [], laidByText := true, laidKinds := [.data, .data, .data], laidTests := true, laidLooks := .later }
def FnExactNumsTextUptoCardSaid : Prop := Claim7.holds Tryd.pinned (.plain (OpenSpec.upto fnExactNumsTextSpec)) fnExactNumsTextUptoCard

/-- THE SECOND FORM's CARD OF 'laws.FnExactRowAt'. -/
def fnExactRowAtUptoCard : Claim7 := { stood := { row := fnExactRowAtUptoRow, standIns := [], harness := (true, "cc4d43766964a4b335a90e8260149f65af00c3b5c6617f829fe3f78cfbeb6bfc"), looks := false }, kinds := [], alts := [], laidByText := true, laidKinds := [.data], laidTests := true, laidLooks := .later }
def FnExactRowAtUptoCardSaid : Prop := Claim7.holds Tryd.pinned (.plain (OpenSpec.upto fnExactRowAtSpec)) fnExactRowAtUptoCard

/-- THE SECOND FORM's CARD OF 'laws.FnExactOwnerAt'. -/
def fnExactOwnerAtUptoCard : Claim7 := { stood := { row := fnExactOwnerAtUptoRow, standIns := [], harness := (true, "cc4d43766964a4b335a90e8260149f65af00c3b5c6617f829fe3f78cfbeb6bfc"), looks := false }, kinds := [], alts := [], laidByText := true, laidKinds := [.data], laidTests := true, laidLooks := .later }
def FnExactOwnerAtUptoCardSaid : Prop := Claim7.holds Tryd.pinned (.plain (OpenSpec.upto fnExactOwnerAtSpec)) fnExactOwnerAtUptoCard
end Rows
end Go.Proofs.YtbfkbbdfjoahcamDoor
