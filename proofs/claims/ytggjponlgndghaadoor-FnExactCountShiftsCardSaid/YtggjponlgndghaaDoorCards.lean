/-
  DERIVED. GIVEN WITH THE SEED: THE CARDS: each row of YtggjponlgndghaaDoorRows.lean that lists a variable, with what it lists TIED to the program's text (the seventh form; the later family's looks); each row that meets fmt, with fmt's text TOLD by the authors' own Lean function (tested against real Go, not proved from fmt's source: count such statements apart). THE CARD IS WHAT COUNTS. Prove the row's statement (the work); the ties are given (YtggjponlgndghaaDoorTie.lean); close each card by the builder's one call (the guide's Derived/Test/ToyasCard.lean, 'card_holds'). Laid BY PROGRAM, IN A SANDBOX (cutbox-door.mjs). By AI agents, Wed Nov 11 2026. No macro, syntax, notation, axiom, sorry.
-/
import Derived.Test.YtggjponlgndghaaDoorRows
import GoSem.ClaimSeven
namespace Go.Proofs.YtggjponlgndghaaDoor
namespace Rows

/-- THE TIED CARD OF 'laws.FnExactIsJoined'. -/
def fnExactIsJoinedCard : Claim7 := { stood := { row := fnExactIsJoinedRow, standIns := [], harness := (true, "b377001d7f7dd910ee7565f0701f0bb6c7fde7a2b2ae39480c09e9c61b86c60b"), looks := false }, kinds := [], alts := [], laidByText := true, laidKinds := [.data, .pinned], laidTests := true, laidLooks := .later }
def FnExactIsJoinedCardSaid : Prop := Claim7.holds Tryd.pinned (.plain (OpenSpec.ofChange fnExactIsJoinedSpec)) fnExactIsJoinedCard

/-- THE TIED CARD OF 'laws.FnExactJoinedNeighbours'. -/
def fnExactJoinedNeighboursCard : Claim7 := { stood := { row := fnExactJoinedNeighboursRow, standIns := [], harness := (true, "b377001d7f7dd910ee7565f0701f0bb6c7fde7a2b2ae39480c09e9c61b86c60b"), looks := false }, kinds := [], alts := [], laidByText := true, laidKinds := [.data, .pinned], laidTests := true, laidLooks := .later }
def FnExactJoinedNeighboursCardSaid : Prop := Claim7.holds Tryd.pinned (.plain (OpenSpec.ofChange fnExactJoinedNeighboursSpec)) fnExactJoinedNeighboursCard

/-- THE TIED CARD OF 'laws.FnExactJoinedNumbers'. -/
def fnExactJoinedNumbersCard : Claim7 := { stood := { row := fnExactJoinedNumbersRow, standIns := [], harness := (true, "b377001d7f7dd910ee7565f0701f0bb6c7fde7a2b2ae39480c09e9c61b86c60b"), looks := false }, kinds := [], alts := [], laidByText := true, laidKinds := [.data, .pinned], laidTests := true, laidLooks := .later }
def FnExactJoinedNumbersCardSaid : Prop := Claim7.holds Tryd.pinned (.plain (OpenSpec.ofChange fnExactJoinedNumbersSpec)) fnExactJoinedNumbersCard

/-- THE TIED CARD OF 'laws.FnExactJoinedPicture'. -/
def fnExactJoinedPictureCard : Claim7 := { stood := { row := fnExactJoinedPictureRow, standIns := [], harness := (true, "b377001d7f7dd910ee7565f0701f0bb6c7fde7a2b2ae39480c09e9c61b86c60b"), looks := false }, kinds := [], alts := [], laidByText := true, laidKinds := [.data, .pinned], laidTests := true, laidLooks := .later }
def FnExactJoinedPictureCardSaid : Prop := Claim7.holds Tryd.pinned (.plain (OpenSpec.ofChange fnExactJoinedPictureSpec)) fnExactJoinedPictureCard

/-- THE TIED CARD OF 'laws.FnExactJoinedSum'. -/
def fnExactJoinedSumCard : Claim7 := { stood := { row := fnExactJoinedSumRow, standIns := [], harness := (true, "b377001d7f7dd910ee7565f0701f0bb6c7fde7a2b2ae39480c09e9c61b86c60b"), looks := false }, kinds := [], alts := [], laidByText := true, laidKinds := [.data, .pinned], laidTests := true, laidLooks := .later }
def FnExactJoinedSumCardSaid : Prop := Claim7.holds Tryd.pinned (.plain (OpenSpec.ofChange fnExactJoinedSumSpec)) fnExactJoinedSumCard

/-- THE TIED CARD OF 'laws.FnExactShiftBoard'. -/
def fnExactShiftBoardCard : Claim7 := { stood := { row := fnExactShiftBoardRow, standIns := [], harness := (true, "b377001d7f7dd910ee7565f0701f0bb6c7fde7a2b2ae39480c09e9c61b86c60b"), looks := false }, kinds := [], alts := [], laidByText := true, laidKinds := [.data, .pinned], laidTests := true, laidLooks := .later }
def FnExactShiftBoardCardSaid : Prop := Claim7.holds Tryd.pinned (.plain (OpenSpec.ofChange fnExactShiftBoardSpec)) fnExactShiftBoardCard

/-- THE TIED CARD OF 'laws.FnExactCountShifts'. -/
def fnExactCountShiftsCard : Claim7 := { stood := { row := fnExactCountShiftsRow, standIns := [], harness := (true, "b377001d7f7dd910ee7565f0701f0bb6c7fde7a2b2ae39480c09e9c61b86c60b"), looks := false }, kinds := [], alts := [], laidByText := true, laidKinds := [.data, .pinned], laidTests := true, laidLooks := .later }
def FnExactCountShiftsCardSaid : Prop := Claim7.holds Tryd.pinned (.plain (OpenSpec.ofChange fnExactCountShiftsSpec)) fnExactCountShiftsCard

/-- THE TIED CARD OF 'laws.FnExactShiftsKept'. -/
def fnExactShiftsKeptCard : Claim7 := { stood := { row := fnExactShiftsKeptRow, standIns := [], harness := (true, "b377001d7f7dd910ee7565f0701f0bb6c7fde7a2b2ae39480c09e9c61b86c60b"), looks := false }, kinds := [], alts := [], laidByText := true, laidKinds := [.data, .pinned], laidTests := true, laidLooks := .later }
def FnExactShiftsKeptCardSaid : Prop := Claim7.holds Tryd.pinned (.plain (OpenSpec.ofChange fnExactShiftsKeptSpec)) fnExactShiftsKeptCard

/-- THE SECOND FORM's CARD OF 'laws.FnExactIsJoined'. -/
def fnExactIsJoinedUptoCard : Claim7 := { stood := { row := fnExactIsJoinedUptoRow, standIns := [], harness := (true, "b377001d7f7dd910ee7565f0701f0bb6c7fde7a2b2ae39480c09e9c61b86c60b"), looks := false }, kinds := [], alts := [], laidByText := true, laidKinds := [.data, .pinned], laidTests := true, laidLooks := .later }
def FnExactIsJoinedUptoCardSaid : Prop := Claim7.holds Tryd.pinned (.plain (OpenSpec.upto fnExactIsJoinedSpec)) fnExactIsJoinedUptoCard

/-- THE SECOND FORM's CARD OF 'laws.FnExactJoinedNeighbours'. -/
def fnExactJoinedNeighboursUptoCard : Claim7 := { stood := { row := fnExactJoinedNeighboursUptoRow, standIns := [], harness := (true, "b377001d7f7dd910ee7565f0701f0bb6c7fde7a2b2ae39480c09e9c61b86c60b"), looks := false }, kinds := [], alts := [], laidByText := true, laidKinds := [.data, .pinned], laidTests := true, laidLooks := .later }
def FnExactJoinedNeighboursUptoCardSaid : Prop := Claim7.holds Tryd.pinned (.plain (OpenSpec.upto fnExactJoinedNeighboursSpec)) fnExactJoinedNeighboursUptoCard

/-- THE SECOND FORM's CARD OF 'laws.FnExactJoinedNumbers'. -/
def fnExactJoinedNumbersUptoCard : Claim7 := { stood := { row := fnExactJoinedNumbersUptoRow, standIns := [], harness := (true, "b377001d7f7dd910ee7565f0701f0bb6c7fde7a2b2ae39480c09e9c61b86c60b"), looks := false }, kinds := [], alts := [], laidByText := true, laidKinds := [.data, .pinned], laidTests := true, laidLooks := .later }
def FnExactJoinedNumbersUptoCardSaid : Prop := Claim7.holds Tryd.pinned (.plain (OpenSpec.upto fnExactJoinedNumbersSpec)) fnExactJoinedNumbersUptoCard

/-- THE SECOND FORM's CARD OF 'laws.FnExactJoinedPicture'. -/
def fnExactJoinedPictureUptoCard : Claim7 := { stood := { row := fnExactJoinedPictureUptoRow, standIns := [], harness := (true, "b377001d7f7dd910ee7565f0701f0bb6c7fde7a2b2ae39480c09e9c61b86c60b"), looks := false }, kinds := [], alts := [], laidByText := true, laidKinds := [.data, .pinned], laidTests := true, laidLooks := .later }
def FnExactJoinedPictureUptoCardSaid : Prop := Claim7.holds Tryd.pinned (.plain (OpenSpec.upto fnExactJoinedPictureSpec)) fnExactJoinedPictureUptoCard

/-- THE SECOND FORM's CARD OF 'laws.FnExactJoinedSum'. -/
def fnExactJoinedSumUptoCard : Claim7 := { stood := { row := fnExactJoinedSumUptoRow, standIns := [], harness := (true, "b377001d7f7dd910ee7565f0701f0bb6c7fde7a2b2ae39480c09e9c61b86c60b"), looks := false }, kinds := [], alts := [], laidByText := true, laidKinds := [.data, .pinned], laidTests := true, laidLooks := .later }
def FnExactJoinedSumUptoCardSaid : Prop := Claim7.holds Tryd.pinned (.plain (OpenSpec.upto fnExactJoinedSumSpec)) fnExactJoinedSumUptoCard

/-- THE SECOND FORM's CARD OF 'laws.FnExactShiftBoard'. -/
def fnExactShiftBoardUptoCard : Claim7 := { stood := { row := fnExactShiftBoardUptoRow, standIns := [], harness := (true, "b377001d7f7dd910ee7565f0701f0bb6c7fde7a2b2ae39480c09e9c61b86c60b"), looks := false }, kinds := [], alts := [], laidByText := true, laidKinds := [.data, .pinned], laidTests := true, laidLooks := .later }
def FnExactShiftBoardUptoCardSaid : Prop := Claim7.holds Tryd.pinned (.plain (OpenSpec.upto fnExactShiftBoardSpec)) fnExactShiftBoardUptoCard

/-- THE SECOND FORM's CARD OF 'laws.FnExactCountShifts'. -/
def fnExactCountShiftsUptoCard : Claim7 := { stood := { row := fnExactCountShiftsUptoRow, standIns := [], harness := (true, "b377001d7f7dd910ee7565f0701f0bb6c7fde7a2b2ae39480c09e9c61b86c60b"), looks := false }, kinds := [], alts := [], laidByText := true, laidKinds := [.data, .pinned], laidTests := true, laidLooks := .later }
def FnExactCountShiftsUptoCardSaid : Prop := Claim7.holds Tryd.pinned (.plain (OpenSpec.upto fnExactCountShiftsSpec)) fnExactCountShiftsUptoCard

/-- THE SECOND FORM's CARD OF 'laws.FnExactShiftsKept'. -/
def fnExactShiftsKeptUptoCard : Claim7 := { stood := { row := fnExactShiftsKeptUptoRow, standIns := [], harness := (true, "b377001d7f7dd910ee7565f0701f0bb6c7fde7a2b2ae39480c09e9c61b86c60b"), looks := false }, kinds := [], alts := [], laidByText := true, laidKinds := [.data, .pinned], laidTests := true, laidLooks := .later }
def FnExactShiftsKeptUptoCardSaid : Prop := Claim7.holds Tryd.pinned (.plain (OpenSpec.upto fnExactShiftsKeptSpec)) fnExactShiftsKeptUptoCard
end Rows
end Go.Proofs.YtggjponlgndghaaDoor
