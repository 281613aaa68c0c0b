/-
  DERIVED. GIVEN WITH THE SEED: THE CARDS: each row of YtkifebhkgldefaaDoorRows.lean that lists a variable, with what it lists TIED to the program's text (the seventh form; the later family's looks); each row that meets fmt, with fmt's text TOLD by the authors' own Lean function (tested against real Go, not proved from fmt's source: count such statements apart). THE CARD IS WHAT COUNTS. Prove the row's statement (the work); the ties are given (YtkifebhkgldefaaDoorTie.lean); close each card by the builder's one call (the guide's Derived/Test/ToyasCard.lean, 'card_holds'). Laid BY PROGRAM, IN A SANDBOX (cutbox-door.mjs). By AI agents, Wed Nov 11 2026. No macro, syntax, notation, axiom, sorry.
-/
import Derived.Test.YtkifebhkgldefaaDoorRows
import GoSem.ClaimSeven
namespace Go.Proofs.YtkifebhkgldefaaDoor
namespace Rows

/-- THE TIED CARD OF 'laws.FnExactRowsIn'. -/
def fnExactRowsInCard : Claim7 := { stood := { row := fnExactRowsInRow, standIns := [], harness := (true, "ce8ab511bb9a1c98ead83c3aaf46932d92911d1e82f4e70502cd967987feddd1"), looks := false }, kinds := [], alts := [], laidByText := true, laidKinds := [.data], laidTests := true, laidLooks := .later }
def FnExactRowsInCardSaid : Prop := Claim7.holds Tryd.pinned (.plain (OpenSpec.ofChange fnExactRowsInSpec)) fnExactRowsInCard

/-- THE TIED CARD OF 'laws.FnExactWhole'. -/
def fnExactWholeCard : Claim7 := { stood := { row := fnExactWholeRow, standIns := [], harness := (true, "ce8ab511bb9a1c98ead83c3aaf46932d92911d1e82f4e70502cd967987feddd1"), looks := false }, kinds := [], alts := [], laidByText := true, laidKinds := [.data], laidTests := true, laidLooks := .later }
def FnExactWholeCardSaid : Prop := Claim7.holds Tryd.pinned (.plain (OpenSpec.ofChange fnExactWholeSpec)) fnExactWholeCard

/-- THE TIED CARD OF 'laws.FnExactStray'. -/
def fnExactStrayCard : Claim7 := { stood := { row := fnExactStrayRow, standIns := [], harness := (true, "ce8ab511bb9a1c98ead83c3aaf46932d92911d1e82f4e70502cd967987feddd1"), looks := false }, kinds := [], alts := [], laidByText := true, laidKinds := [.data], laidTests := true, laidLooks := .later }
def FnExactStrayCardSaid : Prop := Claim7.holds Tryd.pinned (.plain (OpenSpec.ofChange fnExactStraySpec)) fnExactStrayCard

/-- THE TIED CARD OF 'laws.FnExactFind'. -/
def fnExactFindCard : Claim7 := { stood := { row := fnExactFindRow, standIns := [], harness := (true, "ce8ab511bb9a1c98ead83c3aaf46932d92911d1e82f4e70502cd967987feddd1"), looks := false }, kinds := [], alts := [], laidByText := true, laidKinds := [.data], laidTests := true, laidLooks := .later }
def FnExactFindCardSaid : Prop := Claim7.holds Tryd.pinned (.plain (OpenSpec.ofChange fnExactFindSpec)) fnExactFindCard

/-- THE TIED CARD OF 'laws.FnExactFindVia'. -/
def fnExactFindViaCard : Claim7 := { stood := { row := fnExactFindViaRow, standIns := [], harness := (true, "ce8ab511bb9a1c98ead83c3aaf46932d92911d1e82f4e70502cd967987feddd1"), looks := false }, kinds := [], alts := [], laidByText := true, laidKinds := [.data], laidTests := true, laidLooks := .later }
def FnExactFindViaCardSaid : Prop := Claim7.holds Tryd.pinned (.plain (OpenSpec.ofChange fnExactFindViaSpec)) fnExactFindViaCard

/-- THE SECOND FORM's CARD OF 'laws.FnExactRowsIn'. -/
def fnExactRowsInUptoCard : Claim7 := { stood := { row := fnExactRowsInUptoRow, standIns := [], harness := (true, "ce8ab511bb9a1c98ead83c3aaf46932d92911d1e82f4e70502cd967987feddd1"), looks := false }, kinds := [], alts := [], laidByText := true, laidKinds := [.data], laidTests := true, laidLooks := .later }
def FnExactRowsInUptoCardSaid : Prop := Claim7.holds Tryd.pinned (.plain (OpenSpec.upto fnExactRowsInSpec)) fnExactRowsInUptoCard

/-- THE SECOND FORM's CARD OF 'laws.FnExactWhole'. -/
def fnExactWholeUptoCard : Claim7 := { stood := { row := fnExactWholeUptoRow, standIns := [], harness := (true, "ce8ab511bb9a1c98ead83c3aaf46932d92911d1e82f4e70502cd967987feddd1"), looks := false }, kinds := [], alts := [], laidByText := true, laidKinds := [.data], laidTests := true, laidLooks := .later }
def FnExactWholeUptoCardSaid : Prop := Claim7.holds Tryd.pinned (.plain (OpenSpec.upto fnExactWholeSpec)) fnExactWholeUptoCard

/-- THE SECOND FORM's CARD OF 'laws.FnExactStray'. -/
def fnExactStrayUptoCard : Claim7 := { stood := { row := fnExactStrayUptoRow, standIns := [], harness := (true, "ce8ab511bb9a1c98ead83c3aaf46932d92911d1e82f4e70502cd967987feddd1"), looks := false }, kinds := [], alts := [], laidByText := true, laidKinds := [.data], laidTests := true, laidLooks := .later }
def FnExactStrayUptoCardSaid : Prop := Claim7.holds Tryd.pinned (.plain (OpenSpec.upto fnExactStraySpec)) fnExactStrayUptoCard

/-- THE SECOND FORM's CARD OF 'laws.FnExactFind'. -/
def fnExactFindUptoCard : Claim7 := { stood := { row := fnExactFindUptoRow, standIns := [], harness := (true, "ce8ab511bb9a1c98ead83c3aaf46932d92911d1e82f4e70502cd967987feddd1"), looks := false }, kinds := [], alts := [], laidByText := true, laidKinds := [.data], laidTests := true, laidLooks := .later }
def FnExactFindUptoCardSaid : Prop := Claim7.holds Tryd.pinned (.plain (OpenSpec.upto fnExactFindSpec)) fnExactFindUptoCard

/-- THE SECOND FORM's CARD OF 'laws.FnExactFindVia'. -/
def fnExactFindViaUptoCard : Claim7 := { stood := { row := fnExactFindViaUptoRow, standIns := [], harness := (true, "ce8ab511bb9a1c98ead83c3aaf46932d92911d1e82f4e70502cd967987feddd1"), looks := false }, kinds := [], alts := [], laidByText := true, laidKinds := [.data], laidTests := true, laidLooks := .later }
def FnExactFindViaUptoCardSaid : Prop := Claim7.holds Tryd.pinned (.plain (OpenSpec.upto fnExactFindViaSpec)) fnExactFindViaUptoCard
end Rows
end Go.Proofs.YtkifebhkgldefaaDoor
