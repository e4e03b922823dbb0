/-
  DERIVED. GIVEN WITH THE SEED: THE CARDS: each row of YtggjponlgndghabDoorRows.lean that lists a variable, with what it lists TIED to the program's text (the seventh form; the later family's looks); each row that meets fmt, with fmt's text TOLD by the authors' own Lean function (tested against real Go, not proved from fmt's source: count such statements apart). THE CARD IS WHAT COUNTS. Prove the row's statement (the work); the ties are given (YtggjponlgndghabDoorTie.lean); close each card by the builder's one call (the guide's Derived/Test/ToyasCard.lean, 'card_holds'). Laid BY PROGRAM, IN A SANDBOX (cutbox-door.mjs). By AI agents, Wed Nov 11 2026. No macro, syntax, notation, axiom, sorry.
-/
import Derived.Test.YtggjponlgndghabDoorRows
import GoSem.ClaimSeven
namespace Go.Proofs.YtggjponlgndghabDoor
namespace Rows

/-- THE TIED CARD OF 'laws.FnExactIsEven'. -/
def fnExactIsEvenCard : Claim7 := { stood := { row := fnExactIsEvenRow, standIns := [], harness := (true, "232e40468e0f95bb8cdc2029c1caf36afedf6992e9ffba678f808ee2639a5f22"), looks := false }, kinds := [], alts := [], goes := true, laidByText := true, laidKinds := [.data, .pinned], laidTests := true, laidLooks := .later }
def FnExactIsEvenCardSaid : Prop := Claim7.holds Tryd.pinned (.plain (OpenSpec.ofChange fnExactIsEvenSpec)) fnExactIsEvenCard

/-- THE TIED CARD OF 'laws.FnExactJoinedGroups'. -/
def fnExactJoinedGroupsCard : Claim7 := { stood := { row := fnExactJoinedGroupsRow, standIns := [], harness := (true, "232e40468e0f95bb8cdc2029c1caf36afedf6992e9ffba678f808ee2639a5f22"), looks := false }, kinds := [], alts := [], goes := true, laidByText := true, laidKinds := [.data, .pinned], laidTests := true, laidLooks := .later }
def FnExactJoinedGroupsCardSaid : Prop := Claim7.holds Tryd.pinned (.plain (OpenSpec.ofChange fnExactJoinedGroupsSpec)) fnExactJoinedGroupsCard

/-- THE TIED CARD OF 'laws.FnExactJoinedOpened'. -/
def fnExactJoinedOpenedCard : Claim7 := { stood := { row := fnExactJoinedOpenedRow, standIns := [], harness := (true, "232e40468e0f95bb8cdc2029c1caf36afedf6992e9ffba678f808ee2639a5f22"), looks := false }, kinds := [], alts := [], goes := true, laidByText := true, laidKinds := [.data, .pinned], laidTests := true, laidLooks := .later }
def FnExactJoinedOpenedCardSaid : Prop := Claim7.holds Tryd.pinned (.plain (OpenSpec.ofChange fnExactJoinedOpenedSpec)) fnExactJoinedOpenedCard

/-- THE TIED CARD OF 'laws.FnExactJoinedClicks'. -/
def fnExactJoinedClicksCard : Claim7 := { stood := { row := fnExactJoinedClicksRow, standIns := [], harness := (true, "232e40468e0f95bb8cdc2029c1caf36afedf6992e9ffba678f808ee2639a5f22"), looks := false }, kinds := [], alts := [], goes := true, laidByText := true, laidKinds := [.data, .pinned], laidTests := true, laidLooks := .later }
def FnExactJoinedClicksCardSaid : Prop := Claim7.holds Tryd.pinned (.plain (OpenSpec.ofChange fnExactJoinedClicksSpec)) fnExactJoinedClicksCard

/-- THE TIED CARD OF 'laws.FnExactSameJoined'. -/
def fnExactSameJoinedCard : Claim7 := { stood := { row := fnExactSameJoinedRow, standIns := [], harness := (true, "232e40468e0f95bb8cdc2029c1caf36afedf6992e9ffba678f808ee2639a5f22"), looks := false }, kinds := [], alts := [], goes := true, laidByText := true, laidKinds := [.data, .pinned], laidTests := true, laidLooks := .later }
def FnExactSameJoinedCardSaid : Prop := Claim7.holds Tryd.pinned (.plain (OpenSpec.ofChange fnExactSameJoinedSpec)) fnExactSameJoinedCard

/-- THE TIED CARD OF 'laws.FnExactLeastShift'. -/
def fnExactLeastShiftCard : Claim7 := { stood := { row := fnExactLeastShiftRow, standIns := [], harness := (true, "232e40468e0f95bb8cdc2029c1caf36afedf6992e9ffba678f808ee2639a5f22"), looks := false }, kinds := [], alts := [], goes := true, laidByText := true, laidKinds := [.data, .pinned], laidTests := true, laidLooks := .later }
def FnExactLeastShiftCardSaid : Prop := Claim7.holds Tryd.pinned (.plain (OpenSpec.ofChange fnExactLeastShiftSpec)) fnExactLeastShiftCard

/-- THE TIED CARD OF 'laws.FnExactAreShifted'. -/
def fnExactAreShiftedCard : Claim7 := { stood := { row := fnExactAreShiftedRow, standIns := [], harness := (true, "232e40468e0f95bb8cdc2029c1caf36afedf6992e9ffba678f808ee2639a5f22"), looks := false }, kinds := [], alts := [], goes := true, laidByText := true, laidKinds := [.data, .pinned], laidTests := true, laidLooks := .later }
def FnExactAreShiftedCardSaid : Prop := Claim7.holds Tryd.pinned (.plain (OpenSpec.ofChange fnExactAreShiftedSpec)) fnExactAreShiftedCard

/-- THE SECOND FORM's CARD OF 'laws.FnExactIsEven'. -/
def fnExactIsEvenUptoCard : Claim7 := { stood := { row := fnExactIsEvenUptoRow, standIns := [], harness := (true, "232e40468e0f95bb8cdc2029c1caf36afedf6992e9ffba678f808ee2639a5f22"), looks := false }, kinds := [], alts := [], goes := true, laidByText := true, laidKinds := [.data, .pinned], laidTests := true, laidLooks := .later }
def FnExactIsEvenUptoCardSaid : Prop := Claim7.holds Tryd.pinned (.plain (OpenSpec.upto fnExactIsEvenSpec)) fnExactIsEvenUptoCard

/-- THE SECOND FORM's CARD OF 'laws.FnExactJoinedGroups'. -/
def fnExactJoinedGroupsUptoCard : Claim7 := { stood := { row := fnExactJoinedGroupsUptoRow, standIns := [], harness := (true, "232e40468e0f95bb8cdc2029c1caf36afedf6992e9ffba678f808ee2639a5f22"), looks := false }, kinds := [], alts := [], goes := true, laidByText := true, laidKinds := [.data, .pinned], laidTests := true, laidLooks := .later }
def FnExactJoinedGroupsUptoCardSaid : Prop := Claim7.holds Tryd.pinned (.plain (OpenSpec.upto fnExactJoinedGroupsSpec)) fnExactJoinedGroupsUptoCard

/-- THE SECOND FORM's CARD OF 'laws.FnExactJoinedOpened'. -/
def fnExactJoinedOpenedUptoCard : Claim7 := { stood := { row := fnExactJoinedOpenedUptoRow, standIns := [], harness := (true, "232e40468e0f95bb8cdc2029c1caf36afedf6992e9ffba678f808ee2639a5f22"), looks := false }, kinds := [], alts := [], goes := true, laidByText := true, laidKinds := [.data, .pinned], laidTests := true, laidLooks := .later }
def FnExactJoinedOpenedUptoCardSaid : Prop := Claim7.holds Tryd.pinned (.plain (OpenSpec.upto fnExactJoinedOpenedSpec)) fnExactJoinedOpenedUptoCard

/-- THE SECOND FORM's CARD OF 'laws.FnExactJoinedClicks'. -/
def fnExactJoinedClicksUptoCard : Claim7 := { stood := { row := fnExactJoinedClicksUptoRow, standIns := [], harness := (true, "232e40468e0f95bb8cdc2029c1caf36afedf6992e9ffba678f808ee2639a5f22"), looks := false }, kinds := [], alts := [], goes := true, laidByText := true, laidKinds := [.data, .pinned], laidTests := true, laidLooks := .later }
def FnExactJoinedClicksUptoCardSaid : Prop := Claim7.holds Tryd.pinned (.plain (OpenSpec.upto fnExactJoinedClicksSpec)) fnExactJoinedClicksUptoCard

/-- THE SECOND FORM's CARD OF 'laws.FnExactSameJoined'. -/
def fnExactSameJoinedUptoCard : Claim7 := { stood := { row := fnExactSameJoinedUptoRow, standIns := [], harness := (true, "232e40468e0f95bb8cdc2029c1caf36afedf6992e9ffba678f808ee2639a5f22"), looks := false }, kinds := [], alts := [], goes := true, laidByText := true, laidKinds := [.data, .pinned], laidTests := true, laidLooks := .later }
def FnExactSameJoinedUptoCardSaid : Prop := Claim7.holds Tryd.pinned (.plain (OpenSpec.upto fnExactSameJoinedSpec)) fnExactSameJoinedUptoCard

/-- THE SECOND FORM's CARD OF 'laws.FnExactLeastShift'. -/
def fnExactLeastShiftUptoCard : Claim7 := { stood := { row := fnExactLeastShiftUptoRow, standIns := [], harness := (true, "232e40468e0f95bb8cdc2029c1caf36afedf6992e9ffba678f808ee2639a5f22"), looks := false }, kinds := [], alts := [], goes := true, laidByText := true, laidKinds := [.data, .pinned], laidTests := true, laidLooks := .later }
def FnExactLeastShiftUptoCardSaid : Prop := Claim7.holds Tryd.pinned (.plain (OpenSpec.upto fnExactLeastShiftSpec)) fnExactLeastShiftUptoCard

/-- THE SECOND FORM's CARD OF 'laws.FnExactAreShifted'. -/
def fnExactAreShiftedUptoCard : Claim7 := { stood := { row := fnExactAreShiftedUptoRow, standIns := [], harness := (true, "232e40468e0f95bb8cdc2029c1caf36afedf6992e9ffba678f808ee2639a5f22"), looks := false }, kinds := [], alts := [], goes := true, laidByText := true, laidKinds := [.data, .pinned], laidTests := true, laidLooks := .later }
def FnExactAreShiftedUptoCardSaid : Prop := Claim7.holds Tryd.pinned (.plain (OpenSpec.upto fnExactAreShiftedSpec)) fnExactAreShiftedUptoCard
end Rows
end Go.Proofs.YtggjponlgndghabDoor
