/-
  DERIVED. GIVEN WITH THE SEED: THE CARDS: each row of YtndmkbkmfonefaaDoorRows.lean that lists a variable, with what it lists TIED to the program's text (the seventh form; the later family's looks); each row that meets fmt, with fmt's text TOLD by the authors' own Lean function (tested against real Go, not proved from fmt's source: count such statements apart). THE CARD IS WHAT COUNTS. Prove the row's statement (the work); the ties are given (YtndmkbkmfonefaaDoorTie.lean); close each card by the builder's one call (the guide's Derived/Test/ToyasCard.lean, 'card_holds'). Laid BY PROGRAM, IN A SANDBOX (cutbox-door.mjs). By AI agents, Wed Nov 11 2026. No macro, syntax, notation, axiom, sorry.
-/
import Derived.Test.YtndmkbkmfonefaaDoorRows
import GoSem.ClaimSeven
namespace Go.Proofs.YtndmkbkmfonefaaDoor
namespace Rows

/-- THE TIED CARD OF 'laws.FnExactIsBoard'. -/
def fnExactIsBoardCard : Claim7 := { stood := { row := fnExactIsBoardRow, standIns := [], harness := (true, "897cf7bdf5ae0dfb1f58bfe40680976bd35eafc7b2cd1d303f3e84be27d4f139"), looks := false }, kinds := [], alts := [], laidByText := true, laidKinds := [.data, .pinned], laidTests := true, laidLooks := .later }
def FnExactIsBoardCardSaid : Prop := Claim7.holds Tryd.pinned (.plain (OpenSpec.ofChange fnExactIsBoardSpec)) fnExactIsBoardCard

/-- THE TIED CARD OF 'laws.FnExactSizeOf'. -/
def fnExactSizeOfCard : Claim7 := { stood := { row := fnExactSizeOfRow, standIns := [], harness := (true, "897cf7bdf5ae0dfb1f58bfe40680976bd35eafc7b2cd1d303f3e84be27d4f139"), looks := false }, kinds := [], alts := [], laidByText := true, laidKinds := [.data, .pinned], laidTests := true, laidLooks := .later }
def FnExactSizeOfCardSaid : Prop := Claim7.holds Tryd.pinned (.plain (OpenSpec.ofChange fnExactSizeOfSpec)) fnExactSizeOfCard

/-- THE TIED CARD OF 'laws.FnExactCountMines'. -/
def fnExactCountMinesCard : Claim7 := { stood := { row := fnExactCountMinesRow, standIns := [], harness := (true, "897cf7bdf5ae0dfb1f58bfe40680976bd35eafc7b2cd1d303f3e84be27d4f139"), looks := false }, kinds := [], alts := [], laidByText := true, laidKinds := [.data, .pinned], laidTests := true, laidLooks := .later }
def FnExactCountMinesCardSaid : Prop := Claim7.holds Tryd.pinned (.plain (OpenSpec.ofChange fnExactCountMinesSpec)) fnExactCountMinesCard

/-- THE TIED CARD OF 'laws.FnExactMinesOf'. -/
def fnExactMinesOfCard : Claim7 := { stood := { row := fnExactMinesOfRow, standIns := [], harness := (true, "897cf7bdf5ae0dfb1f58bfe40680976bd35eafc7b2cd1d303f3e84be27d4f139"), looks := false }, kinds := [], alts := [], laidByText := true, laidKinds := [.data, .pinned], laidTests := true, laidLooks := .later }
def FnExactMinesOfCardSaid : Prop := Claim7.holds Tryd.pinned (.plain (OpenSpec.ofChange fnExactMinesOfSpec)) fnExactMinesOfCard

/-- THE TIED CARD OF 'laws.FnExactNeighboursOf'. -/
def fnExactNeighboursOfCard : Claim7 := { stood := { row := fnExactNeighboursOfRow, standIns := [], harness := (true, "897cf7bdf5ae0dfb1f58bfe40680976bd35eafc7b2cd1d303f3e84be27d4f139"), looks := false }, kinds := [], alts := [], laidByText := true, laidKinds := [.data, .pinned], laidTests := true, laidLooks := .later }
def FnExactNeighboursOfCardSaid : Prop := Claim7.holds Tryd.pinned (.plain (OpenSpec.ofChange fnExactNeighboursOfSpec)) fnExactNeighboursOfCard

/-- THE TIED CARD OF 'laws.FnExactNumberAt'. -/
def fnExactNumberAtCard : Claim7 := { stood := { row := fnExactNumberAtRow, standIns := [], harness := (true, "897cf7bdf5ae0dfb1f58bfe40680976bd35eafc7b2cd1d303f3e84be27d4f139"), looks := false }, kinds := [], alts := [], laidByText := true, laidKinds := [.data, .pinned], laidTests := true, laidLooks := .later }
def FnExactNumberAtCardSaid : Prop := Claim7.holds Tryd.pinned (.plain (OpenSpec.ofChange fnExactNumberAtSpec)) fnExactNumberAtCard

/-- THE TIED CARD OF 'laws.FnExactNumbersOf'. -/
def fnExactNumbersOfCard : Claim7 := { stood := { row := fnExactNumbersOfRow, standIns := [], harness := (true, "897cf7bdf5ae0dfb1f58bfe40680976bd35eafc7b2cd1d303f3e84be27d4f139"), looks := false }, kinds := [], alts := [], laidByText := true, laidKinds := [.data, .pinned], laidTests := true, laidLooks := .later }
def FnExactNumbersOfCardSaid : Prop := Claim7.holds Tryd.pinned (.plain (OpenSpec.ofChange fnExactNumbersOfSpec)) fnExactNumbersOfCard

/-- THE TIED CARD OF 'laws.FnExactPictureOf'. -/
def fnExactPictureOfCard : Claim7 := { stood := { row := fnExactPictureOfRow, standIns := [], harness := (true, "897cf7bdf5ae0dfb1f58bfe40680976bd35eafc7b2cd1d303f3e84be27d4f139"), looks := false }, kinds := [], alts := [], laidByText := true, laidKinds := [.data, .pinned], laidTests := true, laidLooks := .later }
def FnExactPictureOfCardSaid : Prop := Claim7.holds Tryd.pinned (.plain (OpenSpec.ofChange fnExactPictureOfSpec)) fnExactPictureOfCard

/-- THE TIED CARD OF 'laws.FnExactSumOfNumbers'. -/
def fnExactSumOfNumbersCard : Claim7 := { stood := { row := fnExactSumOfNumbersRow, standIns := [], harness := (true, "897cf7bdf5ae0dfb1f58bfe40680976bd35eafc7b2cd1d303f3e84be27d4f139"), looks := false }, kinds := [], alts := [], laidByText := true, laidKinds := [.data, .pinned], laidTests := true, laidLooks := .later }
def FnExactSumOfNumbersCardSaid : Prop := Claim7.holds Tryd.pinned (.plain (OpenSpec.ofChange fnExactSumOfNumbersSpec)) fnExactSumOfNumbersCard

/-- THE TIED CARD OF 'laws.FnExactPutMine'. -/
def fnExactPutMineCard : Claim7 := { stood := { row := fnExactPutMineRow, standIns := [], harness := (true, "897cf7bdf5ae0dfb1f58bfe40680976bd35eafc7b2cd1d303f3e84be27d4f139"), looks := false }, kinds := [], alts := [], laidByText := true, laidKinds := [.data, .pinned], laidTests := true, laidLooks := .later }
def FnExactPutMineCardSaid : Prop := Claim7.holds Tryd.pinned (.plain (OpenSpec.ofChange fnExactPutMineSpec)) fnExactPutMineCard

/-- THE SECOND FORM's CARD OF 'laws.FnExactIsBoard'. -/
def fnExactIsBoardUptoCard : Claim7 := { stood := { row := fnExactIsBoardUptoRow, standIns := [], harness := (true, "897cf7bdf5ae0dfb1f58bfe40680976bd35eafc7b2cd1d303f3e84be27d4f139"), looks := false }, kinds := [], alts := [], laidByText := true, laidKinds := [.data, .pinned], laidTests := true, laidLooks := .later }
def FnExactIsBoardUptoCardSaid : Prop := Claim7.holds Tryd.pinned (.plain (OpenSpec.upto fnExactIsBoardSpec)) fnExactIsBoardUptoCard

/-- THE SECOND FORM's CARD OF 'laws.FnExactSizeOf'. -/
def fnExactSizeOfUptoCard : Claim7 := { stood := { row := fnExactSizeOfUptoRow, standIns := [], harness := (true, "897cf7bdf5ae0dfb1f58bfe40680976bd35eafc7b2cd1d303f3e84be27d4f139"), looks := false }, kinds := [], alts := [], laidByText := true, laidKinds := [.data, .pinned], laidTests := true, laidLooks := .later }
def FnExactSizeOfUptoCardSaid : Prop := Claim7.holds Tryd.pinned (.plain (OpenSpec.upto fnExactSizeOfSpec)) fnExactSizeOfUptoCard

/-- THE SECOND FORM's CARD OF 'laws.FnExactCountMines'. -/
def fnExactCountMinesUptoCard : Claim7 := { stood := { row := fnExactCountMinesUptoRow, standIns := [], harness := (true, "897cf7bdf5ae0dfb1f58bfe40680976bd35eafc7b2cd1d303f3e84be27d4f139"), looks := false }, kinds := [], alts := [], laidByText := true, laidKinds := [.data, .pinned], laidTests := true, laidLooks := .later }
def FnExactCountMinesUptoCardSaid : Prop := Claim7.holds Tryd.pinned (.plain (OpenSpec.upto fnExactCountMinesSpec)) fnExactCountMinesUptoCard

/-- THE SECOND FORM's CARD OF 'laws.FnExactMinesOf'. -/
def fnExactMinesOfUptoCard : Claim7 := { stood := { row := fnExactMinesOfUptoRow, standIns := [], harness := (true, "897cf7bdf5ae0dfb1f58bfe40680976bd35eafc7b2cd1d303f3e84be27d4f139"), looks := false }, kinds := [], alts := [], laidByText := true, laidKinds := [.data, .pinned], laidTests := true, laidLooks := .later }
def FnExactMinesOfUptoCardSaid : Prop := Claim7.holds Tryd.pinned (.plain (OpenSpec.upto fnExactMinesOfSpec)) fnExactMinesOfUptoCard

/-- THE SECOND FORM's CARD OF 'laws.FnExactNeighboursOf'. -/
def fnExactNeighboursOfUptoCard : Claim7 := { stood := { row := fnExactNeighboursOfUptoRow, standIns := [], harness := (true, "897cf7bdf5ae0dfb1f58bfe40680976bd35eafc7b2cd1d303f3e84be27d4f139"), looks := false }, kinds := [], alts := [], laidByText := true, laidKinds := [.data, .pinned], laidTests := true, laidLooks := .later }
def FnExactNeighboursOfUptoCardSaid : Prop := Claim7.holds Tryd.pinned (.plain (OpenSpec.upto fnExactNeighboursOfSpec)) fnExactNeighboursOfUptoCard

/-- THE SECOND FORM's CARD OF 'laws.FnExactNumberAt'. -/
def fnExactNumberAtUptoCard : Claim7 := { stood := { row := fnExactNumberAtUptoRow, standIns := [], harness := (true, "897cf7bdf5ae0dfb1f58bfe40680976bd35eafc7b2cd1d303f3e84be27d4f139"), looks := false }, kinds := [], alts := [], laidByText := true, laidKinds := [.data, .pinned], laidTests := true, laidLooks := .later }
def FnExactNumberAtUptoCardSaid : Prop := Claim7.holds Tryd.pinned (.plain (OpenSpec.upto fnExactNumberAtSpec)) fnExactNumberAtUptoCard

/-- THE SECOND FORM's CARD OF 'laws.FnExactNumbersOf'. -/
def fnExactNumbersOfUptoCard : Claim7 := { stood := { row := fnExactNumbersOfUptoRow, standIns := [], harness := (true, "897cf7bdf5ae0dfb1f58bfe40680976bd35eafc7b2cd1d303f3e84be27d4f139"), looks := false }, kinds := [], alts := [], laidByText := true, laidKinds := [.data, .pinned], laidTests := true, laidLooks := .later }
def FnExactNumbersOfUptoCardSaid : Prop := Claim7.holds Tryd.pinned (.plain (OpenSpec.upto fnExactNumbersOfSpec)) fnExactNumbersOfUptoCard

/-- THE SECOND FORM's CARD OF 'laws.FnExactPictureOf'. -/
def fnExactPictureOfUptoCard : Claim7 := { stood := { row := fnExactPictureOfUptoRow, standIns := [], harness := (true, "897cf7bdf5ae0dfb1f58bfe40680976bd35eafc7b2cd1d303f3e84be27d4f139"), looks := false }, kinds := [], alts := [], laidByText := true, laidKinds := [.data, .pinned], laidTests := true, laidLooks := .later }
def FnExactPictureOfUptoCardSaid : Prop := Claim7.holds Tryd.pinned (.plain (OpenSpec.upto fnExactPictureOfSpec)) fnExactPictureOfUptoCard

/-- THE SECOND FORM's CARD OF 'laws.FnExactSumOfNumbers'. -/
def fnExactSumOfNumbersUptoCard : Claim7 := { stood := { row := fnExactSumOfNumbersUptoRow, standIns := [], harness := (true, "897cf7bdf5ae0dfb1f58bfe40680976bd35eafc7b2cd1d303f3e84be27d4f139"), looks := false }, kinds := [], alts := [], laidByText := true, laidKinds := [.data, .pinned], laidTests := true, laidLooks := .later }
def FnExactSumOfNumbersUptoCardSaid : Prop := Claim7.holds Tryd.pinned (.plain (OpenSpec.upto fnExactSumOfNumbersSpec)) fnExactSumOfNumbersUptoCard

/-- THE SECOND FORM's CARD OF 'laws.FnExactPutMine'. -/
def fnExactPutMineUptoCard : Claim7 := { stood := { row := fnExactPutMineUptoRow, standIns := [], harness := (true, "897cf7bdf5ae0dfb1f58bfe40680976bd35eafc7b2cd1d303f3e84be27d4f139"), looks := false }, kinds := [], alts := [], laidByText := true, laidKinds := [.data, .pinned], laidTests := true, laidLooks := .later }
def FnExactPutMineUptoCardSaid : Prop := Claim7.holds Tryd.pinned (.plain (OpenSpec.upto fnExactPutMineSpec)) fnExactPutMineUptoCard
end Rows
end Go.Proofs.YtndmkbkmfonefaaDoor
