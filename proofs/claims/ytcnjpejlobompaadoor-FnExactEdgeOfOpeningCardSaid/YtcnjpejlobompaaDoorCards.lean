/-
  DERIVED. GIVEN WITH THE SEED: THE CARDS: each row of YtcnjpejlobompaaDoorRows.lean that lists a variable, with what it lists TIED to the program's text (the seventh form; the later family's looks); each row that meets fmt, with fmt's text TOLD by the authors' own Lean function (tested against real Go, not proved from fmt's source: count such statements apart). THE CARD IS WHAT COUNTS. Prove the row's statement (the work); the ties are given (YtcnjpejlobompaaDoorTie.lean); close each card by the builder's one call (the guide's Derived/Test/ToyasCard.lean, 'card_holds'). Laid BY PROGRAM, IN A SANDBOX (cutbox-door.mjs). By AI agents, Wed Nov 11 2026. No macro, syntax, notation, axiom, sorry.
-/
import Derived.Test.YtcnjpejlobompaaDoorRows
import GoSem.ClaimSeven
namespace Go.Proofs.YtcnjpejlobompaaDoor
namespace Rows

/-- THE TIED CARD OF 'laws.FnExactOpenedBy'. -/
def fnExactOpenedByCard : Claim7 := { stood := { row := fnExactOpenedByRow, standIns := [], harness := (true, "3f67fe4b7d0ad2c381ca078bea2e99fda635a7720aa8ceb70370dd1a17379590"), looks := false }, kinds := [], alts := [], laidByText := true, laidKinds := [.data, .pinned], laidTests := true, laidLooks := .later }
def FnExactOpenedByCardSaid : Prop := Claim7.holds Tryd.pinned (.plain (OpenSpec.ofChange fnExactOpenedBySpec)) fnExactOpenedByCard

/-- THE TIED CARD OF 'laws.FnExactOpeningsOf'. -/
def fnExactOpeningsOfCard : Claim7 := { stood := { row := fnExactOpeningsOfRow, standIns := [], harness := (true, "3f67fe4b7d0ad2c381ca078bea2e99fda635a7720aa8ceb70370dd1a17379590"), looks := false }, kinds := [], alts := [], laidByText := true, laidKinds := [.data, .pinned], laidTests := true, laidLooks := .later }
def FnExactOpeningsOfCardSaid : Prop := Claim7.holds Tryd.pinned (.plain (OpenSpec.ofChange fnExactOpeningsOfSpec)) fnExactOpeningsOfCard

/-- THE TIED CARD OF 'laws.FnExactCountOpenings'. -/
def fnExactCountOpeningsCard : Claim7 := { stood := { row := fnExactCountOpeningsRow, standIns := [], harness := (true, "3f67fe4b7d0ad2c381ca078bea2e99fda635a7720aa8ceb70370dd1a17379590"), looks := false }, kinds := [], alts := [], laidByText := true, laidKinds := [.data, .pinned], laidTests := true, laidLooks := .later }
def FnExactCountOpeningsCardSaid : Prop := Claim7.holds Tryd.pinned (.plain (OpenSpec.ofChange fnExactCountOpeningsSpec)) fnExactCountOpeningsCard

/-- THE TIED CARD OF 'laws.FnExactEdgeOfOpening'. -/
def fnExactEdgeOfOpeningCard : Claim7 := { stood := { row := fnExactEdgeOfOpeningRow, standIns := [], harness := (true, "3f67fe4b7d0ad2c381ca078bea2e99fda635a7720aa8ceb70370dd1a17379590"), looks := false }, kinds := [], alts := [], laidByText := true, laidKinds := [.data, .pinned], laidTests := true, laidLooks := .later }
def FnExactEdgeOfOpeningCardSaid : Prop := Claim7.holds Tryd.pinned (.plain (OpenSpec.ofChange fnExactEdgeOfOpeningSpec)) fnExactEdgeOfOpeningCard

/-- THE TIED CARD OF 'laws.FnExactCellsAlone'. -/
def fnExactCellsAloneCard : Claim7 := { stood := { row := fnExactCellsAloneRow, standIns := [], harness := (true, "3f67fe4b7d0ad2c381ca078bea2e99fda635a7720aa8ceb70370dd1a17379590"), looks := false }, kinds := [], alts := [], laidByText := true, laidKinds := [.data, .pinned], laidTests := true, laidLooks := .later }
def FnExactCellsAloneCardSaid : Prop := Claim7.holds Tryd.pinned (.plain (OpenSpec.ofChange fnExactCellsAloneSpec)) fnExactCellsAloneCard

/-- THE TIED CARD OF 'laws.FnExactFewestClicks'. -/
def fnExactFewestClicksCard : Claim7 := { stood := { row := fnExactFewestClicksRow, standIns := [], harness := (true, "3f67fe4b7d0ad2c381ca078bea2e99fda635a7720aa8ceb70370dd1a17379590"), looks := false }, kinds := [], alts := [], laidByText := true, laidKinds := [.data, .pinned], laidTests := true, laidLooks := .later }
def FnExactFewestClicksCardSaid : Prop := Claim7.holds Tryd.pinned (.plain (OpenSpec.ofChange fnExactFewestClicksSpec)) fnExactFewestClicksCard

/-- THE TIED CARD OF 'laws.FnExactFirstClicks'. -/
def fnExactFirstClicksCard : Claim7 := { stood := { row := fnExactFirstClicksRow, standIns := [], harness := (true, "3f67fe4b7d0ad2c381ca078bea2e99fda635a7720aa8ceb70370dd1a17379590"), looks := false }, kinds := [], alts := [], laidByText := true, laidKinds := [.data, .pinned], laidTests := true, laidLooks := .later }
def FnExactFirstClicksCardSaid : Prop := Claim7.holds Tryd.pinned (.plain (OpenSpec.ofChange fnExactFirstClicksSpec)) fnExactFirstClicksCard

/-- THE TIED CARD OF 'laws.FnExactOpenAfter'. -/
def fnExactOpenAfterCard : Claim7 := { stood := { row := fnExactOpenAfterRow, standIns := [], harness := (true, "3f67fe4b7d0ad2c381ca078bea2e99fda635a7720aa8ceb70370dd1a17379590"), looks := false }, kinds := [], alts := [], laidByText := true, laidKinds := [.data, .pinned], laidTests := true, laidLooks := .later }
def FnExactOpenAfterCardSaid : Prop := Claim7.holds Tryd.pinned (.plain (OpenSpec.ofChange fnExactOpenAfterSpec)) fnExactOpenAfterCard

/-- THE TIED CARD OF 'laws.FnExactAreAllOpen'. -/
def fnExactAreAllOpenCard : Claim7 := { stood := { row := fnExactAreAllOpenRow, standIns := [], harness := (true, "3f67fe4b7d0ad2c381ca078bea2e99fda635a7720aa8ceb70370dd1a17379590"), looks := false }, kinds := [], alts := [], laidByText := true, laidKinds := [.data, .pinned], laidTests := true, laidLooks := .later }
def FnExactAreAllOpenCardSaid : Prop := Claim7.holds Tryd.pinned (.plain (OpenSpec.ofChange fnExactAreAllOpenSpec)) fnExactAreAllOpenCard

/-- THE TIED CARD OF 'laws.FnExactNeedlessClicks'. -/
def fnExactNeedlessClicksCard : Claim7 := { stood := { row := fnExactNeedlessClicksRow, standIns := [], harness := (true, "3f67fe4b7d0ad2c381ca078bea2e99fda635a7720aa8ceb70370dd1a17379590"), looks := false }, kinds := [], alts := [], laidByText := true, laidKinds := [.data, .pinned], laidTests := true, laidLooks := .later }
def FnExactNeedlessClicksCardSaid : Prop := Claim7.holds Tryd.pinned (.plain (OpenSpec.ofChange fnExactNeedlessClicksSpec)) fnExactNeedlessClicksCard

/-- THE TIED CARD OF 'laws.FnExactSeenAfter'. -/
def fnExactSeenAfterCard : Claim7 := { stood := { row := fnExactSeenAfterRow, standIns := [], harness := (true, "3f67fe4b7d0ad2c381ca078bea2e99fda635a7720aa8ceb70370dd1a17379590"), looks := false }, kinds := [], alts := [], laidByText := true, laidKinds := [.data, .pinned], laidTests := true, laidLooks := .later }
def FnExactSeenAfterCardSaid : Prop := Claim7.holds Tryd.pinned (.plain (OpenSpec.ofChange fnExactSeenAfterSpec)) fnExactSeenAfterCard

/-- THE TIED CARD OF 'laws.FnExactLargestOpening'. -/
def fnExactLargestOpeningCard : Claim7 := { stood := { row := fnExactLargestOpeningRow, standIns := [], harness := (true, "3f67fe4b7d0ad2c381ca078bea2e99fda635a7720aa8ceb70370dd1a17379590"), looks := false }, kinds := [], alts := [], laidByText := true, laidKinds := [.data, .pinned], laidTests := true, laidLooks := .later }
def FnExactLargestOpeningCardSaid : Prop := Claim7.holds Tryd.pinned (.plain (OpenSpec.ofChange fnExactLargestOpeningSpec)) fnExactLargestOpeningCard

/-- THE SECOND FORM's CARD OF 'laws.FnExactOpenedBy'. -/
def fnExactOpenedByUptoCard : Claim7 := { stood := { row := fnExactOpenedByUptoRow, standIns := [], harness := (true, "3f67fe4b7d0ad2c381ca078bea2e99fda635a7720aa8ceb70370dd1a17379590"), looks := false }, kinds := [], alts := [], laidByText := true, laidKinds := [.data, .pinned], laidTests := true, laidLooks := .later }
def FnExactOpenedByUptoCardSaid : Prop := Claim7.holds Tryd.pinned (.plain (OpenSpec.upto fnExactOpenedBySpec)) fnExactOpenedByUptoCard

/-- THE SECOND FORM's CARD OF 'laws.FnExactOpeningsOf'. -/
def fnExactOpeningsOfUptoCard : Claim7 := { stood := { row := fnExactOpeningsOfUptoRow, standIns := [], harness := (true, "3f67fe4b7d0ad2c381ca078bea2e99fda635a7720aa8ceb70370dd1a17379590"), looks := false }, kinds := [], alts := [], laidByText := true, laidKinds := [.data, .pinned], laidTests := true, laidLooks := .later }
def FnExactOpeningsOfUptoCardSaid : Prop := Claim7.holds Tryd.pinned (.plain (OpenSpec.upto fnExactOpeningsOfSpec)) fnExactOpeningsOfUptoCard

/-- THE SECOND FORM's CARD OF 'laws.FnExactCountOpenings'. -/
def fnExactCountOpeningsUptoCard : Claim7 := { stood := { row := fnExactCountOpeningsUptoRow, standIns := [], harness := (true, "3f67fe4b7d0ad2c381ca078bea2e99fda635a7720aa8ceb70370dd1a17379590"), looks := false }, kinds := [], alts := [], laidByText := true, laidKinds := [.data, .pinned], laidTests := true, laidLooks := .later }
def FnExactCountOpeningsUptoCardSaid : Prop := Claim7.holds Tryd.pinned (.plain (OpenSpec.upto fnExactCountOpeningsSpec)) fnExactCountOpeningsUptoCard

/-- THE SECOND FORM's CARD OF 'laws.FnExactEdgeOfOpening'. -/
def fnExactEdgeOfOpeningUptoCard : Claim7 := { stood := { row := fnExactEdgeOfOpeningUptoRow, standIns := [], harness := (true, "3f67fe4b7d0ad2c381ca078bea2e99fda635a7720aa8ceb70370dd1a17379590"), looks := false }, kinds := [], alts := [], laidByText := true, laidKinds := [.data, .pinned], laidTests := true, laidLooks := .later }
def FnExactEdgeOfOpeningUptoCardSaid : Prop := Claim7.holds Tryd.pinned (.plain (OpenSpec.upto fnExactEdgeOfOpeningSpec)) fnExactEdgeOfOpeningUptoCard

/-- THE SECOND FORM's CARD OF 'laws.FnExactCellsAlone'. -/
def fnExactCellsAloneUptoCard : Claim7 := { stood := { row := fnExactCellsAloneUptoRow, standIns := [], harness := (true, "3f67fe4b7d0ad2c381ca078bea2e99fda635a7720aa8ceb70370dd1a17379590"), looks := false }, kinds := [], alts := [], laidByText := true, laidKinds := [.data, .pinned], laidTests := true, laidLooks := .later }
def FnExactCellsAloneUptoCardSaid : Prop := Claim7.holds Tryd.pinned (.plain (OpenSpec.upto fnExactCellsAloneSpec)) fnExactCellsAloneUptoCard

/-- THE SECOND FORM's CARD OF 'laws.FnExactFewestClicks'. -/
def fnExactFewestClicksUptoCard : Claim7 := { stood := { row := fnExactFewestClicksUptoRow, standIns := [], harness := (true, "3f67fe4b7d0ad2c381ca078bea2e99fda635a7720aa8ceb70370dd1a17379590"), looks := false }, kinds := [], alts := [], laidByText := true, laidKinds := [.data, .pinned], laidTests := true, laidLooks := .later }
def FnExactFewestClicksUptoCardSaid : Prop := Claim7.holds Tryd.pinned (.plain (OpenSpec.upto fnExactFewestClicksSpec)) fnExactFewestClicksUptoCard

/-- THE SECOND FORM's CARD OF 'laws.FnExactFirstClicks'. -/
def fnExactFirstClicksUptoCard : Claim7 := { stood := { row := fnExactFirstClicksUptoRow, standIns := [], harness := (true, "3f67fe4b7d0ad2c381ca078bea2e99fda635a7720aa8ceb70370dd1a17379590"), looks := false }, kinds := [], alts := [], laidByText := true, laidKinds := [.data, .pinned], laidTests := true, laidLooks := .later }
def FnExactFirstClicksUptoCardSaid : Prop := Claim7.holds Tryd.pinned (.plain (OpenSpec.upto fnExactFirstClicksSpec)) fnExactFirstClicksUptoCard

/-- THE SECOND FORM's CARD OF 'laws.FnExactOpenAfter'. -/
def fnExactOpenAfterUptoCard : Claim7 := { stood := { row := fnExactOpenAfterUptoRow, standIns := [], harness := (true, "3f67fe4b7d0ad2c381ca078bea2e99fda635a7720aa8ceb70370dd1a17379590"), looks := false }, kinds := [], alts := [], laidByText := true, laidKinds := [.data, .pinned], laidTests := true, laidLooks := .later }
def FnExactOpenAfterUptoCardSaid : Prop := Claim7.holds Tryd.pinned (.plain (OpenSpec.upto fnExactOpenAfterSpec)) fnExactOpenAfterUptoCard

/-- THE SECOND FORM's CARD OF 'laws.FnExactAreAllOpen'. -/
def fnExactAreAllOpenUptoCard : Claim7 := { stood := { row := fnExactAreAllOpenUptoRow, standIns := [], harness := (true, "3f67fe4b7d0ad2c381ca078bea2e99fda635a7720aa8ceb70370dd1a17379590"), looks := false }, kinds := [], alts := [], laidByText := true, laidKinds := [.data, .pinned], laidTests := true, laidLooks := .later }
def FnExactAreAllOpenUptoCardSaid : Prop := Claim7.holds Tryd.pinned (.plain (OpenSpec.upto fnExactAreAllOpenSpec)) fnExactAreAllOpenUptoCard

/-- THE SECOND FORM's CARD OF 'laws.FnExactNeedlessClicks'. -/
def fnExactNeedlessClicksUptoCard : Claim7 := { stood := { row := fnExactNeedlessClicksUptoRow, standIns := [], harness := (true, "3f67fe4b7d0ad2c381ca078bea2e99fda635a7720aa8ceb70370dd1a17379590"), looks := false }, kinds := [], alts := [], laidByText := true, laidKinds := [.data, .pinned], laidTests := true, laidLooks := .later }
def FnExactNeedlessClicksUptoCardSaid : Prop := Claim7.holds Tryd.pinned (.plain (OpenSpec.upto fnExactNeedlessClicksSpec)) fnExactNeedlessClicksUptoCard

/-- THE SECOND FORM's CARD OF 'laws.FnExactSeenAfter'. -/
def fnExactSeenAfterUptoCard : Claim7 := { stood := { row := fnExactSeenAfterUptoRow, standIns := [], harness := (true, "3f67fe4b7d0ad2c381ca078bea2e99fda635a7720aa8ceb70370dd1a17379590"), looks := false }, kinds := [], alts := [], laidByText := true, laidKinds := [.data, .pinned], laidTests := true, laidLooks := .later }
def FnExactSeenAfterUptoCardSaid : Prop := Claim7.holds Tryd.pinned (.plain (OpenSpec.upto fnExactSeenAfterSpec)) fnExactSeenAfterUptoCard

/-- THE SECOND FORM's CARD OF 'laws.FnExactLargestOpening'. -/
def fnExactLargestOpeningUptoCard : Claim7 := { stood := { row := fnExactLargestOpeningUptoRow, standIns := [], harness := (true, "3f67fe4b7d0ad2c381ca078bea2e99fda635a7720aa8ceb70370dd1a17379590"), looks := false }, kinds := [], alts := [], laidByText := true, laidKinds := [.data, .pinned], laidTests := true, laidLooks := .later }
def FnExactLargestOpeningUptoCardSaid : Prop := Claim7.holds Tryd.pinned (.plain (OpenSpec.upto fnExactLargestOpeningSpec)) fnExactLargestOpeningUptoCard
end Rows
end Go.Proofs.YtcnjpejlobompaaDoor
