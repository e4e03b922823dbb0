/-
  DERIVED. GIVEN WITH THE SEED: THE CARDS: each row of YtndmkbkmfonefacDoorRows.lean that lists a variable, with what it lists TIED to the program's text (the seventh form; the later family's looks); each row that meets fmt, with fmt's text TOLD by the authors' own Lean function (tested against real Go, not proved from fmt's source: count such statements apart). THE CARD IS WHAT COUNTS. Prove the row's statement (the work); the ties are given (YtndmkbkmfonefacDoorTie.lean); close each card by the builder's one call (the guide's Derived/Test/ToyasCard.lean, 'card_holds'). Laid BY PROGRAM, IN A SANDBOX (cutbox-door.mjs). By AI agents, Wed Nov 11 2026. No macro, syntax, notation, axiom, sorry.
-/
import Derived.Test.YtndmkbkmfonefacDoorRows
import GoSem.ClaimSeven
namespace Go.Proofs.YtndmkbkmfonefacDoor
namespace Rows

/-- THE TIED CARD OF 'laws.FnExactCountOpenings'. -/
def fnExactCountOpeningsCard : Claim7 := { stood := { row := fnExactCountOpeningsRow, standIns := [], harness := (true, "c43f15b723a7a76422297cdfa6b681e2798195425578d8f6b36d8c0da26588e3"), looks := false }, kinds := [], alts := [], laidByText := true, laidKinds := [.data, .pinned], laidTests := true, laidLooks := .later }
def FnExactCountOpeningsCardSaid : Prop := Claim7.holds Tryd.pinned (.plain (OpenSpec.ofChange fnExactCountOpeningsSpec)) fnExactCountOpeningsCard

/-- THE TIED CARD OF 'laws.FnExactEdgeOfOpening'. -/
def fnExactEdgeOfOpeningCard : Claim7 := { stood := { row := fnExactEdgeOfOpeningRow, standIns := [], harness := (true, "c43f15b723a7a76422297cdfa6b681e2798195425578d8f6b36d8c0da26588e3"), looks := false }, kinds := [], alts := [], laidByText := true, laidKinds := [.data, .pinned], laidTests := true, laidLooks := .later }
def FnExactEdgeOfOpeningCardSaid : Prop := Claim7.holds Tryd.pinned (.plain (OpenSpec.ofChange fnExactEdgeOfOpeningSpec)) fnExactEdgeOfOpeningCard

/-- THE TIED CARD OF 'laws.FnExactCellsAlone'. -/
def fnExactCellsAloneCard : Claim7 := { stood := { row := fnExactCellsAloneRow, standIns := [], harness := (true, "c43f15b723a7a76422297cdfa6b681e2798195425578d8f6b36d8c0da26588e3"), looks := false }, kinds := [], alts := [], laidByText := true, laidKinds := [.data, .pinned], laidTests := true, laidLooks := .later }
def FnExactCellsAloneCardSaid : Prop := Claim7.holds Tryd.pinned (.plain (OpenSpec.ofChange fnExactCellsAloneSpec)) fnExactCellsAloneCard

/-- THE TIED CARD OF 'laws.FnExactFewestClicks'. -/
def fnExactFewestClicksCard : Claim7 := { stood := { row := fnExactFewestClicksRow, standIns := [], harness := (true, "c43f15b723a7a76422297cdfa6b681e2798195425578d8f6b36d8c0da26588e3"), looks := false }, kinds := [], alts := [], laidByText := true, laidKinds := [.data, .pinned], laidTests := true, laidLooks := .later }
def FnExactFewestClicksCardSaid : Prop := Claim7.holds Tryd.pinned (.plain (OpenSpec.ofChange fnExactFewestClicksSpec)) fnExactFewestClicksCard

/-- THE TIED CARD OF 'laws.FnExactFirstClicks'. -/
def fnExactFirstClicksCard : Claim7 := { stood := { row := fnExactFirstClicksRow, standIns := [], harness := (true, "c43f15b723a7a76422297cdfa6b681e2798195425578d8f6b36d8c0da26588e3"), looks := false }, kinds := [], alts := [], laidByText := true, laidKinds := [.data, .pinned], laidTests := true, laidLooks := .later }
def FnExactFirstClicksCardSaid : Prop := Claim7.holds Tryd.pinned (.plain (OpenSpec.ofChange fnExactFirstClicksSpec)) fnExactFirstClicksCard

/-- THE TIED CARD OF 'laws.FnExactLargestOpening'. -/
def fnExactLargestOpeningCard : Claim7 := { stood := { row := fnExactLargestOpeningRow, standIns := [], harness := (true, "c43f15b723a7a76422297cdfa6b681e2798195425578d8f6b36d8c0da26588e3"), looks := false }, kinds := [], alts := [], laidByText := true, laidKinds := [.data, .pinned], laidTests := true, laidLooks := .later }
def FnExactLargestOpeningCardSaid : Prop := Claim7.holds Tryd.pinned (.plain (OpenSpec.ofChange fnExactLargestOpeningSpec)) fnExactLargestOpeningCard

/-- THE TIED CARD OF 'laws.FnExactBestClicks'. -/
def fnExactBestClicksCard : Claim7 := { stood := { row := fnExactBestClicksRow, standIns := [], harness := (true, "c43f15b723a7a76422297cdfa6b681e2798195425578d8f6b36d8c0da26588e3"), looks := false }, kinds := [], alts := [], laidByText := true, laidKinds := [.data, .pinned], laidTests := true, laidLooks := .later }
def FnExactBestClicksCardSaid : Prop := Claim7.holds Tryd.pinned (.plain (OpenSpec.ofChange fnExactBestClicksSpec)) fnExactBestClicksCard

/-- THE TIED CARD OF 'laws.FnExactOpeningsWith'. -/
def fnExactOpeningsWithCard : Claim7 := { stood := { row := fnExactOpeningsWithRow, standIns := [], harness := (true, "c43f15b723a7a76422297cdfa6b681e2798195425578d8f6b36d8c0da26588e3"), looks := false }, kinds := [], alts := [], laidByText := true, laidKinds := [.data, .pinned], laidTests := true, laidLooks := .later }
def FnExactOpeningsWithCardSaid : Prop := Claim7.holds Tryd.pinned (.plain (OpenSpec.ofChange fnExactOpeningsWithSpec)) fnExactOpeningsWithCard

/-- THE TIED CARD OF 'laws.FnExactSharedCells'. -/
def fnExactSharedCellsCard : Claim7 := { stood := { row := fnExactSharedCellsRow, standIns := [], harness := (true, "c43f15b723a7a76422297cdfa6b681e2798195425578d8f6b36d8c0da26588e3"), looks := false }, kinds := [], alts := [], laidByText := true, laidKinds := [.data, .pinned], laidTests := true, laidLooks := .later }
def FnExactSharedCellsCardSaid : Prop := Claim7.holds Tryd.pinned (.plain (OpenSpec.ofChange fnExactSharedCellsSpec)) fnExactSharedCellsCard

/-- THE TIED CARD OF 'laws.FnExactClicksNeeded'. -/
def fnExactClicksNeededCard : Claim7 := { stood := { row := fnExactClicksNeededRow, standIns := [], harness := (true, "c43f15b723a7a76422297cdfa6b681e2798195425578d8f6b36d8c0da26588e3"), looks := false }, kinds := [], alts := [], laidByText := true, laidKinds := [.data, .pinned], laidTests := true, laidLooks := .later }
def FnExactClicksNeededCardSaid : Prop := Claim7.holds Tryd.pinned (.plain (OpenSpec.ofChange fnExactClicksNeededSpec)) fnExactClicksNeededCard

/-- THE SECOND FORM's CARD OF 'laws.FnExactCountOpenings'. -/
def fnExactCountOpeningsUptoCard : Claim7 := { stood := { row := fnExactCountOpeningsUptoRow, standIns := [], harness := (true, "c43f15b723a7a76422297cdfa6b681e2798195425578d8f6b36d8c0da26588e3"), looks := false }, kinds := [], alts := [], laidByText := true, laidKinds := [.data, .pinned], laidTests := true, laidLooks := .later }
def FnExactCountOpeningsUptoCardSaid : Prop := Claim7.holds Tryd.pinned (.plain (OpenSpec.upto fnExactCountOpeningsSpec)) fnExactCountOpeningsUptoCard

/-- THE SECOND FORM's CARD OF 'laws.FnExactEdgeOfOpening'. -/
def fnExactEdgeOfOpeningUptoCard : Claim7 := { stood := { row := fnExactEdgeOfOpeningUptoRow, standIns := [], harness := (true, "c43f15b723a7a76422297cdfa6b681e2798195425578d8f6b36d8c0da26588e3"), looks := false }, kinds := [], alts := [], laidByText := true, laidKinds := [.data, .pinned], laidTests := true, laidLooks := .later }
def FnExactEdgeOfOpeningUptoCardSaid : Prop := Claim7.holds Tryd.pinned (.plain (OpenSpec.upto fnExactEdgeOfOpeningSpec)) fnExactEdgeOfOpeningUptoCard

/-- THE SECOND FORM's CARD OF 'laws.FnExactCellsAlone'. -/
def fnExactCellsAloneUptoCard : Claim7 := { stood := { row := fnExactCellsAloneUptoRow, standIns := [], harness := (true, "c43f15b723a7a76422297cdfa6b681e2798195425578d8f6b36d8c0da26588e3"), looks := false }, kinds := [], alts := [], laidByText := true, laidKinds := [.data, .pinned], laidTests := true, laidLooks := .later }
def FnExactCellsAloneUptoCardSaid : Prop := Claim7.holds Tryd.pinned (.plain (OpenSpec.upto fnExactCellsAloneSpec)) fnExactCellsAloneUptoCard

/-- THE SECOND FORM's CARD OF 'laws.FnExactFewestClicks'. -/
def fnExactFewestClicksUptoCard : Claim7 := { stood := { row := fnExactFewestClicksUptoRow, standIns := [], harness := (true, "c43f15b723a7a76422297cdfa6b681e2798195425578d8f6b36d8c0da26588e3"), looks := false }, kinds := [], alts := [], laidByText := true, laidKinds := [.data, .pinned], laidTests := true, laidLooks := .later }
def FnExactFewestClicksUptoCardSaid : Prop := Claim7.holds Tryd.pinned (.plain (OpenSpec.upto fnExactFewestClicksSpec)) fnExactFewestClicksUptoCard

/-- THE SECOND FORM's CARD OF 'laws.FnExactFirstClicks'. -/
def fnExactFirstClicksUptoCard : Claim7 := { stood := { row := fnExactFirstClicksUptoRow, standIns := [], harness := (true, "c43f15b723a7a76422297cdfa6b681e2798195425578d8f6b36d8c0da26588e3"), looks := false }, kinds := [], alts := [], laidByText := true, laidKinds := [.data, .pinned], laidTests := true, laidLooks := .later }
def FnExactFirstClicksUptoCardSaid : Prop := Claim7.holds Tryd.pinned (.plain (OpenSpec.upto fnExactFirstClicksSpec)) fnExactFirstClicksUptoCard

/-- THE SECOND FORM's CARD OF 'laws.FnExactLargestOpening'. -/
def fnExactLargestOpeningUptoCard : Claim7 := { stood := { row := fnExactLargestOpeningUptoRow, standIns := [], harness := (true, "c43f15b723a7a76422297cdfa6b681e2798195425578d8f6b36d8c0da26588e3"), looks := false }, kinds := [], alts := [], laidByText := true, laidKinds := [.data, .pinned], laidTests := true, laidLooks := .later }
def FnExactLargestOpeningUptoCardSaid : Prop := Claim7.holds Tryd.pinned (.plain (OpenSpec.upto fnExactLargestOpeningSpec)) fnExactLargestOpeningUptoCard

/-- THE SECOND FORM's CARD OF 'laws.FnExactBestClicks'. -/
def fnExactBestClicksUptoCard : Claim7 := { stood := { row := fnExactBestClicksUptoRow, standIns := [], harness := (true, "c43f15b723a7a76422297cdfa6b681e2798195425578d8f6b36d8c0da26588e3"), looks := false }, kinds := [], alts := [], laidByText := true, laidKinds := [.data, .pinned], laidTests := true, laidLooks := .later }
def FnExactBestClicksUptoCardSaid : Prop := Claim7.holds Tryd.pinned (.plain (OpenSpec.upto fnExactBestClicksSpec)) fnExactBestClicksUptoCard

/-- THE SECOND FORM's CARD OF 'laws.FnExactOpeningsWith'. -/
def fnExactOpeningsWithUptoCard : Claim7 := { stood := { row := fnExactOpeningsWithUptoRow, standIns := [], harness := (true, "c43f15b723a7a76422297cdfa6b681e2798195425578d8f6b36d8c0da26588e3"), looks := false }, kinds := [], alts := [], laidByText := true, laidKinds := [.data, .pinned], laidTests := true, laidLooks := .later }
def FnExactOpeningsWithUptoCardSaid : Prop := Claim7.holds Tryd.pinned (.plain (OpenSpec.upto fnExactOpeningsWithSpec)) fnExactOpeningsWithUptoCard

/-- THE SECOND FORM's CARD OF 'laws.FnExactSharedCells'. -/
def fnExactSharedCellsUptoCard : Claim7 := { stood := { row := fnExactSharedCellsUptoRow, standIns := [], harness := (true, "c43f15b723a7a76422297cdfa6b681e2798195425578d8f6b36d8c0da26588e3"), looks := false }, kinds := [], alts := [], laidByText := true, laidKinds := [.data, .pinned], laidTests := true, laidLooks := .later }
def FnExactSharedCellsUptoCardSaid : Prop := Claim7.holds Tryd.pinned (.plain (OpenSpec.upto fnExactSharedCellsSpec)) fnExactSharedCellsUptoCard

/-- THE SECOND FORM's CARD OF 'laws.FnExactClicksNeeded'. -/
def fnExactClicksNeededUptoCard : Claim7 := { stood := { row := fnExactClicksNeededUptoRow, standIns := [], harness := (true, "c43f15b723a7a76422297cdfa6b681e2798195425578d8f6b36d8c0da26588e3"), looks := false }, kinds := [], alts := [], laidByText := true, laidKinds := [.data, .pinned], laidTests := true, laidLooks := .later }
def FnExactClicksNeededUptoCardSaid : Prop := Claim7.holds Tryd.pinned (.plain (OpenSpec.upto fnExactClicksNeededSpec)) fnExactClicksNeededUptoCard
end Rows
end Go.Proofs.YtndmkbkmfonefacDoor
