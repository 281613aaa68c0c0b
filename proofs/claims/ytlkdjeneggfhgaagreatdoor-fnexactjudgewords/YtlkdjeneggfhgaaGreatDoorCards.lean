/-
  DERIVED. GIVEN WITH THE SEED: THE CARDS: each row of YtlkdjeneggfhgaaGreatDoorRows.lean that lists a variable, with what it lists TIED to the program's text (the seventh form; the later family's looks); each row that meets fmt, with fmt's text TOLD by the authors' own Lean function (tested against real Go, not proved from fmt's source: count such statements apart). THE CARD IS WHAT COUNTS. Prove the row's statement (the work); the ties are given (YtlkdjeneggfhgaaGreatDoorTie.lean); close each card by the builder's one call (the guide's Derived/Test/ToyasCard.lean, 'card_holds'). Laid BY PROGRAM, IN A SANDBOX (cutbox-door.mjs). By AI agents, Wed Nov 11 2026. No macro, syntax, notation, axiom, sorry.
-/
import Derived.Test.YtlkdjeneggfhgaaGreatDoorRows
import GoSem.ClaimSeven
namespace Go.Proofs.YtlkdjeneggfhgaaGreatDoor
namespace Rows

/-- THE TIED CARD OF 'laws.FnExactReplay'. -/
def fnExactReplayCard : Claim7 := { stood := { row := fnExactReplayRow, standIns := [], harness := (true, "c94c35ec194adf24460e44da8a379fcc1d86c19e14ff9a636f8cf2f406a26de5"), looks := true }, kinds := [], alts := [], laidByText := true, laidKinds := [.sentinel, .sentinel], laidTests := true, laidLooks := .later }
def FnExactReplayCardSaid : Prop := Claim7.holds Tryz.pinned (.plain (OpenSpec.ofChange fnExactReplaySpec)) fnExactReplayCard

/-- THE TIED CARD OF 'laws.FnExactJudgeSo'. -/
def fnExactJudgeSoCard : Claim7 := { stood := { row := fnExactJudgeSoRow, standIns := [], harness := (true, "c94c35ec194adf24460e44da8a379fcc1d86c19e14ff9a636f8cf2f406a26de5"), looks := true }, kinds := [], alts := [], laidByText := true, laidKinds := [.sentinel, .sentinel], laidTests := true, laidLooks := .later }
def FnExactJudgeSoCardSaid : Prop := Claim7.holds Tryz.pinned (.plain (OpenSpec.ofChange fnExactJudgeSoSpec)) fnExactJudgeSoCard

/-- THE TIED CARD OF 'laws.FnExactJudgeWords'. -/
def fnExactJudgeWordsCard : Claim7 := { stood := { row := fnExactJudgeWordsRow, standIns := [], harness := (true, "c94c35ec194adf24460e44da8a379fcc1d86c19e14ff9a636f8cf2f406a26de5"), looks := true }, kinds := [], alts := [], laidByText := true, laidKinds := [.data, .sentinel, .sentinel], laidTests := true, laidLooks := .later }
def FnExactJudgeWordsCardSaid : Prop := Claim7.holds Tryz.pinned (.plain (OpenSpec.ofChange fnExactJudgeWordsSpec)) fnExactJudgeWordsCard

/-- THE TIED CARD OF 'laws.FnExactJudgeTimes'. -/
def fnExactJudgeTimesCard : Claim7 := { stood := { row := fnExactJudgeTimesRow, standIns := [], harness := (true, "c94c35ec194adf24460e44da8a379fcc1d86c19e14ff9a636f8cf2f406a26de5"), looks := true }, kinds := [], alts := [], laidByText := true, laidKinds := [.sentinel, .sentinel, .sentinel], laidTests := true, laidLooks := .later }
def FnExactJudgeTimesCardSaid : Prop := Claim7.holds Tryz.pinned (.plain (OpenSpec.ofChange fnExactJudgeTimesSpec)) fnExactJudgeTimesCard

/-- THE TIED CARD OF 'laws.FnExactJudgeAll'. -/
def fnExactJudgeAllCard : Claim7 := { stood := { row := fnExactJudgeAllRow, standIns := [], harness := (true, "c94c35ec194adf24460e44da8a379fcc1d86c19e14ff9a636f8cf2f406a26de5"), looks := true }, kinds := [], alts := [], laidByText := true, laidKinds := [.data, .sentinel, .sentinel, .sentinel, .sentinel], laidTests := true, laidLooks := .later }
def FnExactJudgeAllCardSaid : Prop := Claim7.holds Tryz.pinned (.plain (OpenSpec.ofChange fnExactJudgeAllSpec)) fnExactJudgeAllCard

/-- THE SECOND FORM's CARD OF 'laws.FnExactReplay'. -/
def fnExactReplayUptoCard : Claim7 := { stood := { row := fnExactReplayUptoRow, standIns := [], harness := (true, "c94c35ec194adf24460e44da8a379fcc1d86c19e14ff9a636f8cf2f406a26de5"), looks := true }, kinds := [], alts := [], laidByText := true, laidKinds := [.sentinel, .sentinel], laidTests := true, laidLooks := .later }
def FnExactReplayUptoCardSaid : Prop := Claim7.holds Tryz.pinned (.plain (OpenSpec.upto fnExactReplaySpec)) fnExactReplayUptoCard

/-- THE SECOND FORM's CARD OF 'laws.FnExactJudgeSo'. -/
def fnExactJudgeSoUptoCard : Claim7 := { stood := { row := fnExactJudgeSoUptoRow, standIns := [], harness := (true, "c94c35ec194adf24460e44da8a379fcc1d86c19e14ff9a636f8cf2f406a26de5"), looks := true }, kinds := [], alts := [], laidByText := true, laidKinds := [.sentinel, .sentinel], laidTests := true, laidLooks := .later }
def FnExactJudgeSoUptoCardSaid : Prop := Claim7.holds Tryz.pinned (.plain (OpenSpec.upto fnExactJudgeSoSpec)) fnExactJudgeSoUptoCard

/-- THE SECOND FORM's CARD OF 'laws.FnExactJudgeWords'. -/
def fnExactJudgeWordsUptoCard : Claim7 := { stood := { row := fnExactJudgeWordsUptoRow, standIns := [], harness := (true, "c94c35ec194adf24460e44da8a379fcc1d86c19e14ff9a636f8cf2f406a26de5"), looks := true }, kinds := [], alts := [], laidByText := true, laidKinds := [.data, .sentinel, .sentinel], laidTests := true, laidLooks := .later }
def FnExactJudgeWordsUptoCardSaid : Prop := Claim7.holds Tryz.pinned (.plain (OpenSpec.upto fnExactJudgeWordsSpec)) fnExactJudgeWordsUptoCard

/-- THE SECOND FORM's CARD OF 'laws.FnExactJudgeTimes'. -/
def fnExactJudgeTimesUptoCard : Claim7 := { stood := { row := fnExactJudgeTimesUptoRow, standIns := [], harness := (true, "c94c35ec194adf24460e44da8a379fcc1d86c19e14ff9a636f8cf2f406a26de5"), looks := true }, kinds := [], alts := [], laidByText := true, laidKinds := [.sentinel, .sentinel, .sentinel], laidTests := true, laidLooks := .later }
def FnExactJudgeTimesUptoCardSaid : Prop := Claim7.holds Tryz.pinned (.plain (OpenSpec.upto fnExactJudgeTimesSpec)) fnExactJudgeTimesUptoCard

/-- THE SECOND FORM's CARD OF 'laws.FnExactJudgeAll'. -/
def fnExactJudgeAllUptoCard : Claim7 := { stood := { row := fnExactJudgeAllUptoRow, standIns := [], harness := (true, "c94c35ec194adf24460e44da8a379fcc1d86c19e14ff9a636f8cf2f406a26de5"), looks := true }, kinds := [], alts := [], laidByText := true, laidKinds := [.data, .sentinel, .sentinel, .sentinel, .sentinel], laidTests := true, laidLooks := .later }
def FnExactJudgeAllUptoCardSaid : Prop := Claim7.holds Tryz.pinned (.plain (OpenSpec.upto fnExactJudgeAllSpec)) fnExactJudgeAllUptoCard
end Rows
end Go.Proofs.YtlkdjeneggfhgaaGreatDoor
