/-
  DERIVED. GIVEN WITH THE SEED: THE CARDS: each row of YtndmkbkmfonefabDoorRows.lean that lists a variable, with what it lists TIED to the program's text (the seventh form; the later family's looks); each row that meets fmt, with fmt's text TOLD by the authors' own Lean function (tested against real Go, not proved from fmt's source: count such statements apart). THE CARD IS WHAT COUNTS. Prove the row's statement (the work); the ties are given (YtndmkbkmfonefabDoorTie.lean); close each card by the builder's one call (the guide's Derived/Test/ToyasCard.lean, 'card_holds'). Laid BY PROGRAM, IN A SANDBOX (cutbox-door.mjs). By AI agents, Wed Nov 11 2026. No macro, syntax, notation, axiom, sorry.
-/
import Derived.Test.YtndmkbkmfonefabDoorRows
import GoSem.ClaimSeven
namespace Go.Proofs.YtndmkbkmfonefabDoor
namespace Rows

/-- THE TIED CARD OF 'laws.FnExactTakeMine'. -/
def fnExactTakeMineCard : Claim7 := { stood := { row := fnExactTakeMineRow, standIns := [], harness := (true, "6a4e7bb82c37251315036ccc63ff8ec84241938fa657adf4642595c8684ba0fc"), looks := false }, kinds := [], alts := [], laidByText := true, laidKinds := [.data, .pinned], laidTests := true, laidLooks := .later }
def FnExactTakeMineCardSaid : Prop := Claim7.holds Tryd.pinned (.plain (OpenSpec.ofChange fnExactTakeMineSpec)) fnExactTakeMineCard

/-- THE TIED CARD OF 'laws.FnExactOtherBoard'. -/
def fnExactOtherBoardCard : Claim7 := { stood := { row := fnExactOtherBoardRow, standIns := [], harness := (true, "6a4e7bb82c37251315036ccc63ff8ec84241938fa657adf4642595c8684ba0fc"), looks := false }, kinds := [], alts := [], laidByText := true, laidKinds := [.data, .pinned], laidTests := true, laidLooks := .later }
def FnExactOtherBoardCardSaid : Prop := Claim7.holds Tryd.pinned (.plain (OpenSpec.ofChange fnExactOtherBoardSpec)) fnExactOtherBoardCard

/-- THE TIED CARD OF 'laws.FnExactTurnBoard'. -/
def fnExactTurnBoardCard : Claim7 := { stood := { row := fnExactTurnBoardRow, standIns := [], harness := (true, "6a4e7bb82c37251315036ccc63ff8ec84241938fa657adf4642595c8684ba0fc"), looks := false }, kinds := [], alts := [], laidByText := true, laidKinds := [.data, .pinned], laidTests := true, laidLooks := .later }
def FnExactTurnBoardCardSaid : Prop := Claim7.holds Tryd.pinned (.plain (OpenSpec.ofChange fnExactTurnBoardSpec)) fnExactTurnBoardCard

/-- THE TIED CARD OF 'laws.FnExactMirrorBoard'. -/
def fnExactMirrorBoardCard : Claim7 := { stood := { row := fnExactMirrorBoardRow, standIns := [], harness := (true, "6a4e7bb82c37251315036ccc63ff8ec84241938fa657adf4642595c8684ba0fc"), looks := false }, kinds := [], alts := [], laidByText := true, laidKinds := [.data, .pinned], laidTests := true, laidLooks := .later }
def FnExactMirrorBoardCardSaid : Prop := Claim7.holds Tryd.pinned (.plain (OpenSpec.ofChange fnExactMirrorBoardSpec)) fnExactMirrorBoardCard

/-- THE TIED CARD OF 'laws.FnExactBesideBoard'. -/
def fnExactBesideBoardCard : Claim7 := { stood := { row := fnExactBesideBoardRow, standIns := [], harness := (true, "6a4e7bb82c37251315036ccc63ff8ec84241938fa657adf4642595c8684ba0fc"), looks := false }, kinds := [], alts := [], laidByText := true, laidKinds := [.data, .pinned], laidTests := true, laidLooks := .later }
def FnExactBesideBoardCardSaid : Prop := Claim7.holds Tryd.pinned (.plain (OpenSpec.ofChange fnExactBesideBoardSpec)) fnExactBesideBoardCard

/-- THE TIED CARD OF 'laws.FnExactZerosOf'. -/
def fnExactZerosOfCard : Claim7 := { stood := { row := fnExactZerosOfRow, standIns := [], harness := (true, "6a4e7bb82c37251315036ccc63ff8ec84241938fa657adf4642595c8684ba0fc"), looks := false }, kinds := [], alts := [], laidByText := true, laidKinds := [.data, .pinned], laidTests := true, laidLooks := .later }
def FnExactZerosOfCardSaid : Prop := Claim7.holds Tryd.pinned (.plain (OpenSpec.ofChange fnExactZerosOfSpec)) fnExactZerosOfCard

/-- THE TIED CARD OF 'laws.FnExactLonelyMines'. -/
def fnExactLonelyMinesCard : Claim7 := { stood := { row := fnExactLonelyMinesRow, standIns := [], harness := (true, "6a4e7bb82c37251315036ccc63ff8ec84241938fa657adf4642595c8684ba0fc"), looks := false }, kinds := [], alts := [], laidByText := true, laidKinds := [.data, .pinned], laidTests := true, laidLooks := .later }
def FnExactLonelyMinesCardSaid : Prop := Claim7.holds Tryd.pinned (.plain (OpenSpec.ofChange fnExactLonelyMinesSpec)) fnExactLonelyMinesCard

/-- THE TIED CARD OF 'laws.FnExactGroupsOfMines'. -/
def fnExactGroupsOfMinesCard : Claim7 := { stood := { row := fnExactGroupsOfMinesRow, standIns := [], harness := (true, "6a4e7bb82c37251315036ccc63ff8ec84241938fa657adf4642595c8684ba0fc"), looks := false }, kinds := [], alts := [], laidByText := true, laidKinds := [.data, .pinned], laidTests := true, laidLooks := .later }
def FnExactGroupsOfMinesCardSaid : Prop := Claim7.holds Tryd.pinned (.plain (OpenSpec.ofChange fnExactGroupsOfMinesSpec)) fnExactGroupsOfMinesCard

/-- THE TIED CARD OF 'laws.FnExactOpenedBy'. -/
def fnExactOpenedByCard : Claim7 := { stood := { row := fnExactOpenedByRow, standIns := [], harness := (true, "6a4e7bb82c37251315036ccc63ff8ec84241938fa657adf4642595c8684ba0fc"), looks := false }, kinds := [], alts := [], laidByText := true, laidKinds := [.data, .pinned], laidTests := true, laidLooks := .later }
def FnExactOpenedByCardSaid : Prop := Claim7.holds Tryd.pinned (.plain (OpenSpec.ofChange fnExactOpenedBySpec)) fnExactOpenedByCard

/-- THE TIED CARD OF 'laws.FnExactOpeningsOf'. -/
def fnExactOpeningsOfCard : Claim7 := { stood := { row := fnExactOpeningsOfRow, standIns := [], harness := (true, "6a4e7bb82c37251315036ccc63ff8ec84241938fa657adf4642595c8684ba0fc"), looks := false }, kinds := [], alts := [], laidByText := true, laidKinds := [.data, .pinned], laidTests := true, laidLooks := .later }
def FnExactOpeningsOfCardSaid : Prop := Claim7.holds Tryd.pinned (.plain (OpenSpec.ofChange fnExactOpeningsOfSpec)) fnExactOpeningsOfCard

/-- THE SECOND FORM's CARD OF 'laws.FnExactTakeMine'. -/
def fnExactTakeMineUptoCard : Claim7 := { stood := { row := fnExactTakeMineUptoRow, standIns := [], harness := (true, "6a4e7bb82c37251315036ccc63ff8ec84241938fa657adf4642595c8684ba0fc"), looks := false }, kinds := [], alts := [], laidByText := true, laidKinds := [.data, .pinned], laidTests := true, laidLooks := .later }
def FnExactTakeMineUptoCardSaid : Prop := Claim7.holds Tryd.pinned (.plain (OpenSpec.upto fnExactTakeMineSpec)) fnExactTakeMineUptoCard

/-- THE SECOND FORM's CARD OF 'laws.FnExactOtherBoard'. -/
def fnExactOtherBoardUptoCard : Claim7 := { stood := { row := fnExactOtherBoardUptoRow, standIns := [], harness := (true, "6a4e7bb82c37251315036ccc63ff8ec84241938fa657adf4642595c8684ba0fc"), looks := false }, kinds := [], alts := [], laidByText := true, laidKinds := [.data, .pinned], laidTests := true, laidLooks := .later }
def FnExactOtherBoardUptoCardSaid : Prop := Claim7.holds Tryd.pinned (.plain (OpenSpec.upto fnExactOtherBoardSpec)) fnExactOtherBoardUptoCard

/-- THE SECOND FORM's CARD OF 'laws.FnExactTurnBoard'. -/
def fnExactTurnBoardUptoCard : Claim7 := { stood := { row := fnExactTurnBoardUptoRow, standIns := [], harness := (true, "6a4e7bb82c37251315036ccc63ff8ec84241938fa657adf4642595c8684ba0fc"), looks := false }, kinds := [], alts := [], laidByText := true, laidKinds := [.data, .pinned], laidTests := true, laidLooks := .later }
def FnExactTurnBoardUptoCardSaid : Prop := Claim7.holds Tryd.pinned (.plain (OpenSpec.upto fnExactTurnBoardSpec)) fnExactTurnBoardUptoCard

/-- THE SECOND FORM's CARD OF 'laws.FnExactMirrorBoard'. -/
def fnExactMirrorBoardUptoCard : Claim7 := { stood := { row := fnExactMirrorBoardUptoRow, standIns := [], harness := (true, "6a4e7bb82c37251315036ccc63ff8ec84241938fa657adf4642595c8684ba0fc"), looks := false }, kinds := [], alts := [], laidByText := true, laidKinds := [.data, .pinned], laidTests := true, laidLooks := .later }
def FnExactMirrorBoardUptoCardSaid : Prop := Claim7.holds Tryd.pinned (.plain (OpenSpec.upto fnExactMirrorBoardSpec)) fnExactMirrorBoardUptoCard

/-- THE SECOND FORM's CARD OF 'laws.FnExactBesideBoard'. -/
def fnExactBesideBoardUptoCard : Claim7 := { stood := { row := fnExactBesideBoardUptoRow, standIns := [], harness := (true, "6a4e7bb82c37251315036ccc63ff8ec84241938fa657adf4642595c8684ba0fc"), looks := false }, kinds := [], alts := [], laidByText := true, laidKinds := [.data, .pinned], laidTests := true, laidLooks := .later }
def FnExactBesideBoardUptoCardSaid : Prop := Claim7.holds Tryd.pinned (.plain (OpenSpec.upto fnExactBesideBoardSpec)) fnExactBesideBoardUptoCard

/-- THE SECOND FORM's CARD OF 'laws.FnExactZerosOf'. -/
def fnExactZerosOfUptoCard : Claim7 := { stood := { row := fnExactZerosOfUptoRow, standIns := [], harness := (true, "6a4e7bb82c37251315036ccc63ff8ec84241938fa657adf4642595c8684ba0fc"), looks := false }, kinds := [], alts := [], laidByText := true, laidKinds := [.data, .pinned], laidTests := true, laidLooks := .later }
def FnExactZerosOfUptoCardSaid : Prop := Claim7.holds Tryd.pinned (.plain (OpenSpec.upto fnExactZerosOfSpec)) fnExactZerosOfUptoCard

/-- THE SECOND FORM's CARD OF 'laws.FnExactLonelyMines'. -/
def fnExactLonelyMinesUptoCard : Claim7 := { stood := { row := fnExactLonelyMinesUptoRow, standIns := [], harness := (true, "6a4e7bb82c37251315036ccc63ff8ec84241938fa657adf4642595c8684ba0fc"), looks := false }, kinds := [], alts := [], laidByText := true, laidKinds := [.data, .pinned], laidTests := true, laidLooks := .later }
def FnExactLonelyMinesUptoCardSaid : Prop := Claim7.holds Tryd.pinned (.plain (OpenSpec.upto fnExactLonelyMinesSpec)) fnExactLonelyMinesUptoCard

/-- THE SECOND FORM's CARD OF 'laws.FnExactGroupsOfMines'. -/
def fnExactGroupsOfMinesUptoCard : Claim7 := { stood := { row := fnExactGroupsOfMinesUptoRow, standIns := [], harness := (true, "6a4e7bb82c37251315036ccc63ff8ec84241938fa657adf4642595c8684ba0fc"), looks := false }, kinds := [], alts := [], laidByText := true, laidKinds := [.data, .pinned], laidTests := true, laidLooks := .later }
def FnExactGroupsOfMinesUptoCardSaid : Prop := Claim7.holds Tryd.pinned (.plain (OpenSpec.upto fnExactGroupsOfMinesSpec)) fnExactGroupsOfMinesUptoCard

/-- THE SECOND FORM's CARD OF 'laws.FnExactOpenedBy'. -/
def fnExactOpenedByUptoCard : Claim7 := { stood := { row := fnExactOpenedByUptoRow, standIns := [], harness := (true, "6a4e7bb82c37251315036ccc63ff8ec84241938fa657adf4642595c8684ba0fc"), looks := false }, kinds := [], alts := [], laidByText := true, laidKinds := [.data, .pinned], laidTests := true, laidLooks := .later }
def FnExactOpenedByUptoCardSaid : Prop := Claim7.holds Tryd.pinned (.plain (OpenSpec.upto fnExactOpenedBySpec)) fnExactOpenedByUptoCard

/-- THE SECOND FORM's CARD OF 'laws.FnExactOpeningsOf'. -/
def fnExactOpeningsOfUptoCard : Claim7 := { stood := { row := fnExactOpeningsOfUptoRow, standIns := [], harness := (true, "6a4e7bb82c37251315036ccc63ff8ec84241938fa657adf4642595c8684ba0fc"), looks := false }, kinds := [], alts := [], laidByText := true, laidKinds := [.data, .pinned], laidTests := true, laidLooks := .later }
def FnExactOpeningsOfUptoCardSaid : Prop := Claim7.holds Tryd.pinned (.plain (OpenSpec.upto fnExactOpeningsOfSpec)) fnExactOpeningsOfUptoCard
end Rows
end Go.Proofs.YtndmkbkmfonefabDoor
