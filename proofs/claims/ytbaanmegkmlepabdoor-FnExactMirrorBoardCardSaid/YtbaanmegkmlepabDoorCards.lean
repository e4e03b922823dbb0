/-
  DERIVED. GIVEN WITH THE SEED: THE CARDS: each row of YtbaanmegkmlepabDoorRows.lean that lists a variable, with what it lists TIED to the program's text (the seventh form; the later family's looks); each row that meets fmt, with fmt's text TOLD by the authors' own Lean function (tested against real Go, not proved from fmt's source: count such statements apart). THE CARD IS WHAT COUNTS. Prove the row's statement (the work); the ties are given (YtbaanmegkmlepabDoorTie.lean); close each card by the builder's one call (the guide's Derived/Test/ToyasCard.lean, 'card_holds'). Laid BY PROGRAM, IN A SANDBOX (cutbox-door.mjs). By AI agents, Wed Nov 11 2026. No macro, syntax, notation, axiom, sorry.
-/
import Derived.Test.YtbaanmegkmlepabDoorRows
import GoSem.ClaimSeven
namespace Go.Proofs.YtbaanmegkmlepabDoor
namespace Rows

/-- THE TIED CARD OF 'laws.FnExactPictureOf'. -/
def fnExactPictureOfCard : Claim7 := { stood := { row := fnExactPictureOfRow, standIns := [], harness := (true, "2aa31ceb80040a2b44862008e821ea03f39ba3c1a6d680fb371c907759fdbd99"), looks := false }, kinds := [], alts := [], laidByText := true, laidKinds := [.data, .pinned], laidTests := true, laidLooks := .later }
def FnExactPictureOfCardSaid : Prop := Claim7.holds Tryd.pinned (.plain (OpenSpec.ofChange fnExactPictureOfSpec)) fnExactPictureOfCard

/-- THE TIED CARD OF 'laws.FnExactSumOfNumbers'. -/
def fnExactSumOfNumbersCard : Claim7 := { stood := { row := fnExactSumOfNumbersRow, standIns := [], harness := (true, "2aa31ceb80040a2b44862008e821ea03f39ba3c1a6d680fb371c907759fdbd99"), looks := false }, kinds := [], alts := [], laidByText := true, laidKinds := [.data, .pinned], laidTests := true, laidLooks := .later }
def FnExactSumOfNumbersCardSaid : Prop := Claim7.holds Tryd.pinned (.plain (OpenSpec.ofChange fnExactSumOfNumbersSpec)) fnExactSumOfNumbersCard

/-- THE TIED CARD OF 'laws.FnExactPutMine'. -/
def fnExactPutMineCard : Claim7 := { stood := { row := fnExactPutMineRow, standIns := [], harness := (true, "2aa31ceb80040a2b44862008e821ea03f39ba3c1a6d680fb371c907759fdbd99"), looks := false }, kinds := [], alts := [], laidByText := true, laidKinds := [.data, .pinned], laidTests := true, laidLooks := .later }
def FnExactPutMineCardSaid : Prop := Claim7.holds Tryd.pinned (.plain (OpenSpec.ofChange fnExactPutMineSpec)) fnExactPutMineCard

/-- THE TIED CARD OF 'laws.FnExactTakeMine'. -/
def fnExactTakeMineCard : Claim7 := { stood := { row := fnExactTakeMineRow, standIns := [], harness := (true, "2aa31ceb80040a2b44862008e821ea03f39ba3c1a6d680fb371c907759fdbd99"), looks := false }, kinds := [], alts := [], laidByText := true, laidKinds := [.data, .pinned], laidTests := true, laidLooks := .later }
def FnExactTakeMineCardSaid : Prop := Claim7.holds Tryd.pinned (.plain (OpenSpec.ofChange fnExactTakeMineSpec)) fnExactTakeMineCard

/-- THE TIED CARD OF 'laws.FnExactOtherBoard'. -/
def fnExactOtherBoardCard : Claim7 := { stood := { row := fnExactOtherBoardRow, standIns := [], harness := (true, "2aa31ceb80040a2b44862008e821ea03f39ba3c1a6d680fb371c907759fdbd99"), looks := false }, kinds := [], alts := [], laidByText := true, laidKinds := [.data, .pinned], laidTests := true, laidLooks := .later }
def FnExactOtherBoardCardSaid : Prop := Claim7.holds Tryd.pinned (.plain (OpenSpec.ofChange fnExactOtherBoardSpec)) fnExactOtherBoardCard

/-- THE TIED CARD OF 'laws.FnExactTurnBoard'. -/
def fnExactTurnBoardCard : Claim7 := { stood := { row := fnExactTurnBoardRow, standIns := [], harness := (true, "2aa31ceb80040a2b44862008e821ea03f39ba3c1a6d680fb371c907759fdbd99"), looks := false }, kinds := [], alts := [], laidByText := true, laidKinds := [.data, .pinned], laidTests := true, laidLooks := .later }
def FnExactTurnBoardCardSaid : Prop := Claim7.holds Tryd.pinned (.plain (OpenSpec.ofChange fnExactTurnBoardSpec)) fnExactTurnBoardCard

/-- THE TIED CARD OF 'laws.FnExactMirrorBoard'. -/
def fnExactMirrorBoardCard : Claim7 := { stood := { row := fnExactMirrorBoardRow, standIns := [], harness := (true, "2aa31ceb80040a2b44862008e821ea03f39ba3c1a6d680fb371c907759fdbd99"), looks := false }, kinds := [], alts := [], laidByText := true, laidKinds := [.data, .pinned], laidTests := true, laidLooks := .later }
def FnExactMirrorBoardCardSaid : Prop := Claim7.holds Tryd.pinned (.plain (OpenSpec.ofChange fnExactMirrorBoardSpec)) fnExactMirrorBoardCard

/-- THE TIED CARD OF 'laws.FnExactBesideBoard'. -/
def fnExactBesideBoardCard : Claim7 := { stood := { row := fnExactBesideBoardRow, standIns := [], harness := (true, "2aa31ceb80040a2b44862008e821ea03f39ba3c1a6d680fb371c907759fdbd99"), looks := false }, kinds := [], alts := [], laidByText := true, laidKinds := [.data, .pinned], laidTests := true, laidLooks := .later }
def FnExactBesideBoardCardSaid : Prop := Claim7.holds Tryd.pinned (.plain (OpenSpec.ofChange fnExactBesideBoardSpec)) fnExactBesideBoardCard

/-- THE TIED CARD OF 'laws.FnExactZerosOf'. -/
def fnExactZerosOfCard : Claim7 := { stood := { row := fnExactZerosOfRow, standIns := [], harness := (true, "2aa31ceb80040a2b44862008e821ea03f39ba3c1a6d680fb371c907759fdbd99"), looks := false }, kinds := [], alts := [], laidByText := true, laidKinds := [.data, .pinned], laidTests := true, laidLooks := .later }
def FnExactZerosOfCardSaid : Prop := Claim7.holds Tryd.pinned (.plain (OpenSpec.ofChange fnExactZerosOfSpec)) fnExactZerosOfCard

/-- THE TIED CARD OF 'laws.FnExactGroupsOfMines'. -/
def fnExactGroupsOfMinesCard : Claim7 := { stood := { row := fnExactGroupsOfMinesRow, standIns := [], harness := (true, "2aa31ceb80040a2b44862008e821ea03f39ba3c1a6d680fb371c907759fdbd99"), looks := false }, kinds := [], alts := [], laidByText := true, laidKinds := [.data, .pinned], laidTests := true, laidLooks := .later }
def FnExactGroupsOfMinesCardSaid : Prop := Claim7.holds Tryd.pinned (.plain (OpenSpec.ofChange fnExactGroupsOfMinesSpec)) fnExactGroupsOfMinesCard

/-- THE TIED CARD OF 'laws.FnExactLonelyMines'. -/
def fnExactLonelyMinesCard : Claim7 := { stood := { row := fnExactLonelyMinesRow, standIns := [], harness := (true, "2aa31ceb80040a2b44862008e821ea03f39ba3c1a6d680fb371c907759fdbd99"), looks := false }, kinds := [], alts := [], laidByText := true, laidKinds := [.data, .pinned], laidTests := true, laidLooks := .later }
def FnExactLonelyMinesCardSaid : Prop := Claim7.holds Tryd.pinned (.plain (OpenSpec.ofChange fnExactLonelyMinesSpec)) fnExactLonelyMinesCard

/-- THE SECOND FORM's CARD OF 'laws.FnExactPictureOf'. -/
def fnExactPictureOfUptoCard : Claim7 := { stood := { row := fnExactPictureOfUptoRow, standIns := [], harness := (true, "2aa31ceb80040a2b44862008e821ea03f39ba3c1a6d680fb371c907759fdbd99"), looks := false }, kinds := [], alts := [], laidByText := true, laidKinds := [.data, .pinned], laidTests := true, laidLooks := .later }
def FnExactPictureOfUptoCardSaid : Prop := Claim7.holds Tryd.pinned (.plain (OpenSpec.upto fnExactPictureOfSpec)) fnExactPictureOfUptoCard

/-- THE SECOND FORM's CARD OF 'laws.FnExactSumOfNumbers'. -/
def fnExactSumOfNumbersUptoCard : Claim7 := { stood := { row := fnExactSumOfNumbersUptoRow, standIns := [], harness := (true, "2aa31ceb80040a2b44862008e821ea03f39ba3c1a6d680fb371c907759fdbd99"), looks := false }, kinds := [], alts := [], laidByText := true, laidKinds := [.data, .pinned], laidTests := true, laidLooks := .later }
def FnExactSumOfNumbersUptoCardSaid : Prop := Claim7.holds Tryd.pinned (.plain (OpenSpec.upto fnExactSumOfNumbersSpec)) fnExactSumOfNumbersUptoCard

/-- THE SECOND FORM's CARD OF 'laws.FnExactPutMine'. -/
def fnExactPutMineUptoCard : Claim7 := { stood := { row := fnExactPutMineUptoRow, standIns := [], harness := (true, "2aa31ceb80040a2b44862008e821ea03f39ba3c1a6d680fb371c907759fdbd99"), looks := false }, kinds := [], alts := [], laidByText := true, laidKinds := [.data, .pinned], laidTests := true, laidLooks := .later }
def FnExactPutMineUptoCardSaid : Prop := Claim7.holds Tryd.pinned (.plain (OpenSpec.upto fnExactPutMineSpec)) fnExactPutMineUptoCard

/-- THE SECOND FORM's CARD OF 'laws.FnExactTakeMine'. -/
def fnExactTakeMineUptoCard : Claim7 := { stood := { row := fnExactTakeMineUptoRow, standIns := [], harness := (true, "2aa31ceb80040a2b44862008e821ea03f39ba3c1a6d680fb371c907759fdbd99"), looks := false }, kinds := [], alts := [], laidByText := true, laidKinds := [.data, .pinned], laidTests := true, laidLooks := .later }
def FnExactTakeMineUptoCardSaid : Prop := Claim7.holds Tryd.pinned (.plain (OpenSpec.upto fnExactTakeMineSpec)) fnExactTakeMineUptoCard

/-- THE SECOND FORM's CARD OF 'laws.FnExactOtherBoard'. -/
def fnExactOtherBoardUptoCard : Claim7 := { stood := { row := fnExactOtherBoardUptoRow, standIns := [], harness := (true, "2aa31ceb80040a2b44862008e821ea03f39ba3c1a6d680fb371c907759fdbd99"), looks := false }, kinds := [], alts := [], laidByText := true, laidKinds := [.data, .pinned], laidTests := true, laidLooks := .later }
def FnExactOtherBoardUptoCardSaid : Prop := Claim7.holds Tryd.pinned (.plain (OpenSpec.upto fnExactOtherBoardSpec)) fnExactOtherBoardUptoCard

/-- THE SECOND FORM's CARD OF 'laws.FnExactTurnBoard'. -/
def fnExactTurnBoardUptoCard : Claim7 := { stood := { row := fnExactTurnBoardUptoRow, standIns := [], harness := (true, "2aa31ceb80040a2b44862008e821ea03f39ba3c1a6d680fb371c907759fdbd99"), looks := false }, kinds := [], alts := [], laidByText := true, laidKinds := [.data, .pinned], laidTests := true, laidLooks := .later }
def FnExactTurnBoardUptoCardSaid : Prop := Claim7.holds Tryd.pinned (.plain (OpenSpec.upto fnExactTurnBoardSpec)) fnExactTurnBoardUptoCard

/-- THE SECOND FORM's CARD OF 'laws.FnExactMirrorBoard'. -/
def fnExactMirrorBoardUptoCard : Claim7 := { stood := { row := fnExactMirrorBoardUptoRow, standIns := [], harness := (true, "2aa31ceb80040a2b44862008e821ea03f39ba3c1a6d680fb371c907759fdbd99"), looks := false }, kinds := [], alts := [], laidByText := true, laidKinds := [.data, .pinned], laidTests := true, laidLooks := .later }
def FnExactMirrorBoardUptoCardSaid : Prop := Claim7.holds Tryd.pinned (.plain (OpenSpec.upto fnExactMirrorBoardSpec)) fnExactMirrorBoardUptoCard

/-- THE SECOND FORM's CARD OF 'laws.FnExactBesideBoard'. -/
def fnExactBesideBoardUptoCard : Claim7 := { stood := { row := fnExactBesideBoardUptoRow, standIns := [], harness := (true, "2aa31ceb80040a2b44862008e821ea03f39ba3c1a6d680fb371c907759fdbd99"), looks := false }, kinds := [], alts := [], laidByText := true, laidKinds := [.data, .pinned], laidTests := true, laidLooks := .later }
def FnExactBesideBoardUptoCardSaid : Prop := Claim7.holds Tryd.pinned (.plain (OpenSpec.upto fnExactBesideBoardSpec)) fnExactBesideBoardUptoCard

/-- THE SECOND FORM's CARD OF 'laws.FnExactZerosOf'. -/
def fnExactZerosOfUptoCard : Claim7 := { stood := { row := fnExactZerosOfUptoRow, standIns := [], harness := (true, "2aa31ceb80040a2b44862008e821ea03f39ba3c1a6d680fb371c907759fdbd99"), looks := false }, kinds := [], alts := [], laidByText := true, laidKinds := [.data, .pinned], laidTests := true, laidLooks := .later }
def FnExactZerosOfUptoCardSaid : Prop := Claim7.holds Tryd.pinned (.plain (OpenSpec.upto fnExactZerosOfSpec)) fnExactZerosOfUptoCard

/-- THE SECOND FORM's CARD OF 'laws.FnExactGroupsOfMines'. -/
def fnExactGroupsOfMinesUptoCard : Claim7 := { stood := { row := fnExactGroupsOfMinesUptoRow, standIns := [], harness := (true, "2aa31ceb80040a2b44862008e821ea03f39ba3c1a6d680fb371c907759fdbd99"), looks := false }, kinds := [], alts := [], laidByText := true, laidKinds := [.data, .pinned], laidTests := true, laidLooks := .later }
def FnExactGroupsOfMinesUptoCardSaid : Prop := Claim7.holds Tryd.pinned (.plain (OpenSpec.upto fnExactGroupsOfMinesSpec)) fnExactGroupsOfMinesUptoCard

/-- THE SECOND FORM's CARD OF 'laws.FnExactLonelyMines'. -/
def fnExactLonelyMinesUptoCard : Claim7 := { stood := { row := fnExactLonelyMinesUptoRow, standIns := [], harness := (true, "2aa31ceb80040a2b44862008e821ea03f39ba3c1a6d680fb371c907759fdbd99"), looks := false }, kinds := [], alts := [], laidByText := true, laidKinds := [.data, .pinned], laidTests := true, laidLooks := .later }
def FnExactLonelyMinesUptoCardSaid : Prop := Claim7.holds Tryd.pinned (.plain (OpenSpec.upto fnExactLonelyMinesSpec)) fnExactLonelyMinesUptoCard
end Rows
end Go.Proofs.YtbaanmegkmlepabDoor
