/-
  DERIVED. GIVEN WITH THE SEED: THE CARDS: each row of YtcnjpejlobompabDoorRows.lean that lists a variable, with what it lists TIED to the program's text (the seventh form; the later family's looks); each row that meets fmt, with fmt's text TOLD by the authors' own Lean function (tested against real Go, not proved from fmt's source: count such statements apart). THE CARD IS WHAT COUNTS. Prove the row's statement (the work); the ties are given (YtcnjpejlobompabDoorTie.lean); close each card by the builder's one call (the guide's Derived/Test/ToyasCard.lean, 'card_holds'). Laid BY PROGRAM, IN A SANDBOX (cutbox-door.mjs). By AI agents, Wed Nov 11 2026. No macro, syntax, notation, axiom, sorry.
-/
import Derived.Test.YtcnjpejlobompabDoorRows
import GoSem.ClaimSeven
namespace Go.Proofs.YtcnjpejlobompabDoor
namespace Rows

/-- THE TIED CARD OF 'laws.FnExactBestClicks'. -/
def fnExactBestClicksCard : Claim7 := { stood := { row := fnExactBestClicksRow, standIns := [], harness := (true, "e6da69e65fcd9682a850ae90da54dd55f4be3d73cabec4823b87c44114b0416c"), looks := false }, kinds := [], alts := [], laidByText := true, laidKinds := [.data, .pinned], laidTests := true, laidLooks := .later }
def FnExactBestClicksCardSaid : Prop := Claim7.holds Tryd.pinned (.plain (OpenSpec.ofChange fnExactBestClicksSpec)) fnExactBestClicksCard

/-- THE TIED CARD OF 'laws.FnExactOpeningsWith'. -/
def fnExactOpeningsWithCard : Claim7 := { stood := { row := fnExactOpeningsWithRow, standIns := [], harness := (true, "e6da69e65fcd9682a850ae90da54dd55f4be3d73cabec4823b87c44114b0416c"), looks := false }, kinds := [], alts := [], laidByText := true, laidKinds := [.data, .pinned], laidTests := true, laidLooks := .later }
def FnExactOpeningsWithCardSaid : Prop := Claim7.holds Tryd.pinned (.plain (OpenSpec.ofChange fnExactOpeningsWithSpec)) fnExactOpeningsWithCard

/-- THE TIED CARD OF 'laws.FnExactSharedCells'. -/
def fnExactSharedCellsCard : Claim7 := { stood := { row := fnExactSharedCellsRow, standIns := [], harness := (true, "e6da69e65fcd9682a850ae90da54dd55f4be3d73cabec4823b87c44114b0416c"), looks := false }, kinds := [], alts := [], laidByText := true, laidKinds := [.data, .pinned], laidTests := true, laidLooks := .later }
def FnExactSharedCellsCardSaid : Prop := Claim7.holds Tryd.pinned (.plain (OpenSpec.ofChange fnExactSharedCellsSpec)) fnExactSharedCellsCard

/-- THE TIED CARD OF 'laws.FnExactClicksNeeded'. -/
def fnExactClicksNeededCard : Claim7 := { stood := { row := fnExactClicksNeededRow, standIns := [], harness := (true, "e6da69e65fcd9682a850ae90da54dd55f4be3d73cabec4823b87c44114b0416c"), looks := false }, kinds := [], alts := [], laidByText := true, laidKinds := [.data, .pinned], laidTests := true, laidLooks := .later }
def FnExactClicksNeededCardSaid : Prop := Claim7.holds Tryd.pinned (.plain (OpenSpec.ofChange fnExactClicksNeededSpec)) fnExactClicksNeededCard

/-- THE TIED CARD OF 'laws.FnExactBesideBoard'. -/
def fnExactBesideBoardCard : Claim7 := { stood := { row := fnExactBesideBoardRow, standIns := [], harness := (true, "e6da69e65fcd9682a850ae90da54dd55f4be3d73cabec4823b87c44114b0416c"), looks := false }, kinds := [], alts := [], laidByText := true, laidKinds := [.data, .pinned], laidTests := true, laidLooks := .later }
def FnExactBesideBoardCardSaid : Prop := Claim7.holds Tryd.pinned (.plain (OpenSpec.ofChange fnExactBesideBoardSpec)) fnExactBesideBoardCard

/-- THE TIED CARD OF 'laws.FnExactGroupsOfMines'. -/
def fnExactGroupsOfMinesCard : Claim7 := { stood := { row := fnExactGroupsOfMinesRow, standIns := [], harness := (true, "e6da69e65fcd9682a850ae90da54dd55f4be3d73cabec4823b87c44114b0416c"), looks := false }, kinds := [], alts := [], laidByText := true, laidKinds := [.data, .pinned], laidTests := true, laidLooks := .later }
def FnExactGroupsOfMinesCardSaid : Prop := Claim7.holds Tryd.pinned (.plain (OpenSpec.ofChange fnExactGroupsOfMinesSpec)) fnExactGroupsOfMinesCard

/-- THE SECOND FORM's CARD OF 'laws.FnExactBestClicks'. -/
def fnExactBestClicksUptoCard : Claim7 := { stood := { row := fnExactBestClicksUptoRow, standIns := [], harness := (true, "e6da69e65fcd9682a850ae90da54dd55f4be3d73cabec4823b87c44114b0416c"), looks := false }, kinds := [], alts := [], laidByText := true, laidKinds := [.data, .pinned], laidTests := true, laidLooks := .later }
def FnExactBestClicksUptoCardSaid : Prop := Claim7.holds Tryd.pinned (.plain (OpenSpec.upto fnExactBestClicksSpec)) fnExactBestClicksUptoCard

/-- THE SECOND FORM's CARD OF 'laws.FnExactOpeningsWith'. -/
def fnExactOpeningsWithUptoCard : Claim7 := { stood := { row := fnExactOpeningsWithUptoRow, standIns := [], harness := (true, "e6da69e65fcd9682a850ae90da54dd55f4be3d73cabec4823b87c44114b0416c"), looks := false }, kinds := [], alts := [], laidByText := true, laidKinds := [.data, .pinned], laidTests := true, laidLooks := .later }
def FnExactOpeningsWithUptoCardSaid : Prop := Claim7.holds Tryd.pinned (.plain (OpenSpec.upto fnExactOpeningsWithSpec)) fnExactOpeningsWithUptoCard

/-- THE SECOND FORM's CARD OF 'laws.FnExactSharedCells'. -/
def fnExactSharedCellsUptoCard : Claim7 := { stood := { row := fnExactSharedCellsUptoRow, standIns := [], harness := (true, "e6da69e65fcd9682a850ae90da54dd55f4be3d73cabec4823b87c44114b0416c"), looks := false }, kinds := [], alts := [], laidByText := true, laidKinds := [.data, .pinned], laidTests := true, laidLooks := .later }
def FnExactSharedCellsUptoCardSaid : Prop := Claim7.holds Tryd.pinned (.plain (OpenSpec.upto fnExactSharedCellsSpec)) fnExactSharedCellsUptoCard

/-- THE SECOND FORM's CARD OF 'laws.FnExactClicksNeeded'. -/
def fnExactClicksNeededUptoCard : Claim7 := { stood := { row := fnExactClicksNeededUptoRow, standIns := [], harness := (true, "e6da69e65fcd9682a850ae90da54dd55f4be3d73cabec4823b87c44114b0416c"), looks := false }, kinds := [], alts := [], laidByText := true, laidKinds := [.data, .pinned], laidTests := true, laidLooks := .later }
def FnExactClicksNeededUptoCardSaid : Prop := Claim7.holds Tryd.pinned (.plain (OpenSpec.upto fnExactClicksNeededSpec)) fnExactClicksNeededUptoCard

/-- THE SECOND FORM's CARD OF 'laws.FnExactBesideBoard'. -/
def fnExactBesideBoardUptoCard : Claim7 := { stood := { row := fnExactBesideBoardUptoRow, standIns := [], harness := (true, "e6da69e65fcd9682a850ae90da54dd55f4be3d73cabec4823b87c44114b0416c"), looks := false }, kinds := [], alts := [], laidByText := true, laidKinds := [.data, .pinned], laidTests := true, laidLooks := .later }
def FnExactBesideBoardUptoCardSaid : Prop := Claim7.holds Tryd.pinned (.plain (OpenSpec.upto fnExactBesideBoardSpec)) fnExactBesideBoardUptoCard

/-- THE SECOND FORM's CARD OF 'laws.FnExactGroupsOfMines'. -/
def fnExactGroupsOfMinesUptoCard : Claim7 := { stood := { row := fnExactGroupsOfMinesUptoRow, standIns := [], harness := (true, "e6da69e65fcd9682a850ae90da54dd55f4be3d73cabec4823b87c44114b0416c"), looks := false }, kinds := [], alts := [], laidByText := true, laidKinds := [.data, .pinned], laidTests := true, laidLooks := .later }
def FnExactGroupsOfMinesUptoCardSaid : Prop := Claim7.holds Tryd.pinned (.plain (OpenSpec.upto fnExactGroupsOfMinesSpec)) fnExactGroupsOfMinesUptoCard
end Rows
end Go.Proofs.YtcnjpejlobompabDoor
