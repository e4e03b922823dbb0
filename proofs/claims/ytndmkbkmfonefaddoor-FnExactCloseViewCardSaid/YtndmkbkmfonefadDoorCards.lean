/-
  DERIVED. GIVEN WITH THE SEED: THE CARDS: each row of YtndmkbkmfonefadDoorRows.lean that lists a variable, with what it lists TIED to the program's text (the seventh form; the later family's looks); each row that meets fmt, with fmt's text TOLD by the authors' own Lean function (tested against real Go, not proved from fmt's source: count such statements apart). THE CARD IS WHAT COUNTS. Prove the row's statement (the work); the ties are given (YtndmkbkmfonefadDoorTie.lean); close each card by the builder's one call (the guide's Derived/Test/ToyasCard.lean, 'card_holds'). Laid BY PROGRAM, IN A SANDBOX (cutbox-door.mjs). By AI agents, Wed Nov 11 2026. No macro, syntax, notation, axiom, sorry.
-/
import Derived.Test.YtndmkbkmfonefadDoorRows
import GoSem.ClaimSeven
namespace Go.Proofs.YtndmkbkmfonefadDoor
namespace Rows

/-- THE TIED CARD OF 'laws.FnExactOpenAfter'. -/
def fnExactOpenAfterCard : Claim7 := { stood := { row := fnExactOpenAfterRow, standIns := [], harness := (true, "dcb0c6bc4701aac68de0a8cafcba355dacb49445115edad33de5d40be20dd37e"), looks := false }, kinds := [], alts := [], laidByText := true, laidKinds := [.data, .pinned], laidTests := true, laidLooks := .later }
def FnExactOpenAfterCardSaid : Prop := Claim7.holds Tryd.pinned (.plain (OpenSpec.ofChange fnExactOpenAfterSpec)) fnExactOpenAfterCard

/-- THE TIED CARD OF 'laws.FnExactAreAllOpen'. -/
def fnExactAreAllOpenCard : Claim7 := { stood := { row := fnExactAreAllOpenRow, standIns := [], harness := (true, "dcb0c6bc4701aac68de0a8cafcba355dacb49445115edad33de5d40be20dd37e"), looks := false }, kinds := [], alts := [], laidByText := true, laidKinds := [.data, .pinned], laidTests := true, laidLooks := .later }
def FnExactAreAllOpenCardSaid : Prop := Claim7.holds Tryd.pinned (.plain (OpenSpec.ofChange fnExactAreAllOpenSpec)) fnExactAreAllOpenCard

/-- THE TIED CARD OF 'laws.FnExactNeedlessClicks'. -/
def fnExactNeedlessClicksCard : Claim7 := { stood := { row := fnExactNeedlessClicksRow, standIns := [], harness := (true, "dcb0c6bc4701aac68de0a8cafcba355dacb49445115edad33de5d40be20dd37e"), looks := false }, kinds := [], alts := [], laidByText := true, laidKinds := [.data, .pinned], laidTests := true, laidLooks := .later }
def FnExactNeedlessClicksCardSaid : Prop := Claim7.holds Tryd.pinned (.plain (OpenSpec.ofChange fnExactNeedlessClicksSpec)) fnExactNeedlessClicksCard

/-- THE TIED CARD OF 'laws.FnExactSeenAfter'. -/
def fnExactSeenAfterCard : Claim7 := { stood := { row := fnExactSeenAfterRow, standIns := [], harness := (true, "dcb0c6bc4701aac68de0a8cafcba355dacb49445115edad33de5d40be20dd37e"), looks := false }, kinds := [], alts := [], laidByText := true, laidKinds := [.data, .pinned], laidTests := true, laidLooks := .later }
def FnExactSeenAfterCardSaid : Prop := Claim7.holds Tryd.pinned (.plain (OpenSpec.ofChange fnExactSeenAfterSpec)) fnExactSeenAfterCard

/-- THE TIED CARD OF 'laws.FnExactIsView'. -/
def fnExactIsViewCard : Claim7 := { stood := { row := fnExactIsViewRow, standIns := [], harness := (true, "dcb0c6bc4701aac68de0a8cafcba355dacb49445115edad33de5d40be20dd37e"), looks := false }, kinds := [], alts := [], laidByText := true, laidKinds := [.data, .pinned], laidTests := true, laidLooks := .later }
def FnExactIsViewCardSaid : Prop := Claim7.holds Tryd.pinned (.plain (OpenSpec.ofChange fnExactIsViewSpec)) fnExactIsViewCard

/-- THE TIED CARD OF 'laws.FnExactHiddenCells'. -/
def fnExactHiddenCellsCard : Claim7 := { stood := { row := fnExactHiddenCellsRow, standIns := [], harness := (true, "dcb0c6bc4701aac68de0a8cafcba355dacb49445115edad33de5d40be20dd37e"), looks := false }, kinds := [], alts := [], laidByText := true, laidKinds := [.data, .pinned], laidTests := true, laidLooks := .later }
def FnExactHiddenCellsCardSaid : Prop := Claim7.holds Tryd.pinned (.plain (OpenSpec.ofChange fnExactHiddenCellsSpec)) fnExactHiddenCellsCard

/-- THE TIED CARD OF 'laws.FnExactViewOf'. -/
def fnExactViewOfCard : Claim7 := { stood := { row := fnExactViewOfRow, standIns := [], harness := (true, "dcb0c6bc4701aac68de0a8cafcba355dacb49445115edad33de5d40be20dd37e"), looks := false }, kinds := [], alts := [], laidByText := true, laidKinds := [.data, .pinned], laidTests := true, laidLooks := .later }
def FnExactViewOfCardSaid : Prop := Claim7.holds Tryd.pinned (.plain (OpenSpec.ofChange fnExactViewOfSpec)) fnExactViewOfCard

/-- THE TIED CARD OF 'laws.FnExactDoesFitView'. -/
def fnExactDoesFitViewCard : Claim7 := { stood := { row := fnExactDoesFitViewRow, standIns := [], harness := (true, "dcb0c6bc4701aac68de0a8cafcba355dacb49445115edad33de5d40be20dd37e"), looks := false }, kinds := [], alts := [], laidByText := true, laidKinds := [.data, .pinned], laidTests := true, laidLooks := .later }
def FnExactDoesFitViewCardSaid : Prop := Claim7.holds Tryd.pinned (.plain (OpenSpec.ofChange fnExactDoesFitViewSpec)) fnExactDoesFitViewCard

/-- THE TIED CARD OF 'laws.FnExactOpenCell'. -/
def fnExactOpenCellCard : Claim7 := { stood := { row := fnExactOpenCellRow, standIns := [], harness := (true, "dcb0c6bc4701aac68de0a8cafcba355dacb49445115edad33de5d40be20dd37e"), looks := false }, kinds := [], alts := [], laidByText := true, laidKinds := [.data, .pinned], laidTests := true, laidLooks := .later }
def FnExactOpenCellCardSaid : Prop := Claim7.holds Tryd.pinned (.plain (OpenSpec.ofChange fnExactOpenCellSpec)) fnExactOpenCellCard

/-- THE TIED CARD OF 'laws.FnExactCloseView'. -/
def fnExactCloseViewCard : Claim7 := { stood := { row := fnExactCloseViewRow, standIns := [], harness := (true, "dcb0c6bc4701aac68de0a8cafcba355dacb49445115edad33de5d40be20dd37e"), looks := false }, kinds := [], alts := [], laidByText := true, laidKinds := [.data, .pinned], laidTests := true, laidLooks := .later }
def FnExactCloseViewCardSaid : Prop := Claim7.holds Tryd.pinned (.plain (OpenSpec.ofChange fnExactCloseViewSpec)) fnExactCloseViewCard

/-- THE SECOND FORM's CARD OF 'laws.FnExactOpenAfter'. -/
def fnExactOpenAfterUptoCard : Claim7 := { stood := { row := fnExactOpenAfterUptoRow, standIns := [], harness := (true, "dcb0c6bc4701aac68de0a8cafcba355dacb49445115edad33de5d40be20dd37e"), looks := false }, kinds := [], alts := [], laidByText := true, laidKinds := [.data, .pinned], laidTests := true, laidLooks := .later }
def FnExactOpenAfterUptoCardSaid : Prop := Claim7.holds Tryd.pinned (.plain (OpenSpec.upto fnExactOpenAfterSpec)) fnExactOpenAfterUptoCard

/-- THE SECOND FORM's CARD OF 'laws.FnExactAreAllOpen'. -/
def fnExactAreAllOpenUptoCard : Claim7 := { stood := { row := fnExactAreAllOpenUptoRow, standIns := [], harness := (true, "dcb0c6bc4701aac68de0a8cafcba355dacb49445115edad33de5d40be20dd37e"), looks := false }, kinds := [], alts := [], laidByText := true, laidKinds := [.data, .pinned], laidTests := true, laidLooks := .later }
def FnExactAreAllOpenUptoCardSaid : Prop := Claim7.holds Tryd.pinned (.plain (OpenSpec.upto fnExactAreAllOpenSpec)) fnExactAreAllOpenUptoCard

/-- THE SECOND FORM's CARD OF 'laws.FnExactNeedlessClicks'. -/
def fnExactNeedlessClicksUptoCard : Claim7 := { stood := { row := fnExactNeedlessClicksUptoRow, standIns := [], harness := (true, "dcb0c6bc4701aac68de0a8cafcba355dacb49445115edad33de5d40be20dd37e"), looks := false }, kinds := [], alts := [], laidByText := true, laidKinds := [.data, .pinned], laidTests := true, laidLooks := .later }
def FnExactNeedlessClicksUptoCardSaid : Prop := Claim7.holds Tryd.pinned (.plain (OpenSpec.upto fnExactNeedlessClicksSpec)) fnExactNeedlessClicksUptoCard

/-- THE SECOND FORM's CARD OF 'laws.FnExactSeenAfter'. -/
def fnExactSeenAfterUptoCard : Claim7 := { stood := { row := fnExactSeenAfterUptoRow, standIns := [], harness := (true, "dcb0c6bc4701aac68de0a8cafcba355dacb49445115edad33de5d40be20dd37e"), looks := false }, kinds := [], alts := [], laidByText := true, laidKinds := [.data, .pinned], laidTests := true, laidLooks := .later }
def FnExactSeenAfterUptoCardSaid : Prop := Claim7.holds Tryd.pinned (.plain (OpenSpec.upto fnExactSeenAfterSpec)) fnExactSeenAfterUptoCard

/-- THE SECOND FORM's CARD OF 'laws.FnExactIsView'. -/
def fnExactIsViewUptoCard : Claim7 := { stood := { row := fnExactIsViewUptoRow, standIns := [], harness := (true, "dcb0c6bc4701aac68de0a8cafcba355dacb49445115edad33de5d40be20dd37e"), looks := false }, kinds := [], alts := [], laidByText := true, laidKinds := [.data, .pinned], laidTests := true, laidLooks := .later }
def FnExactIsViewUptoCardSaid : Prop := Claim7.holds Tryd.pinned (.plain (OpenSpec.upto fnExactIsViewSpec)) fnExactIsViewUptoCard

/-- THE SECOND FORM's CARD OF 'laws.FnExactHiddenCells'. -/
def fnExactHiddenCellsUptoCard : Claim7 := { stood := { row := fnExactHiddenCellsUptoRow, standIns := [], harness := (true, "dcb0c6bc4701aac68de0a8cafcba355dacb49445115edad33de5d40be20dd37e"), looks := false }, kinds := [], alts := [], laidByText := true, laidKinds := [.data, .pinned], laidTests := true, laidLooks := .later }
def FnExactHiddenCellsUptoCardSaid : Prop := Claim7.holds Tryd.pinned (.plain (OpenSpec.upto fnExactHiddenCellsSpec)) fnExactHiddenCellsUptoCard

/-- THE SECOND FORM's CARD OF 'laws.FnExactViewOf'. -/
def fnExactViewOfUptoCard : Claim7 := { stood := { row := fnExactViewOfUptoRow, standIns := [], harness := (true, "dcb0c6bc4701aac68de0a8cafcba355dacb49445115edad33de5d40be20dd37e"), looks := false }, kinds := [], alts := [], laidByText := true, laidKinds := [.data, .pinned], laidTests := true, laidLooks := .later }
def FnExactViewOfUptoCardSaid : Prop := Claim7.holds Tryd.pinned (.plain (OpenSpec.upto fnExactViewOfSpec)) fnExactViewOfUptoCard

/-- THE SECOND FORM's CARD OF 'laws.FnExactDoesFitView'. -/
def fnExactDoesFitViewUptoCard : Claim7 := { stood := { row := fnExactDoesFitViewUptoRow, standIns := [], harness := (true, "dcb0c6bc4701aac68de0a8cafcba355dacb49445115edad33de5d40be20dd37e"), looks := false }, kinds := [], alts := [], laidByText := true, laidKinds := [.data, .pinned], laidTests := true, laidLooks := .later }
def FnExactDoesFitViewUptoCardSaid : Prop := Claim7.holds Tryd.pinned (.plain (OpenSpec.upto fnExactDoesFitViewSpec)) fnExactDoesFitViewUptoCard

/-- THE SECOND FORM's CARD OF 'laws.FnExactOpenCell'. -/
def fnExactOpenCellUptoCard : Claim7 := { stood := { row := fnExactOpenCellUptoRow, standIns := [], harness := (true, "dcb0c6bc4701aac68de0a8cafcba355dacb49445115edad33de5d40be20dd37e"), looks := false }, kinds := [], alts := [], laidByText := true, laidKinds := [.data, .pinned], laidTests := true, laidLooks := .later }
def FnExactOpenCellUptoCardSaid : Prop := Claim7.holds Tryd.pinned (.plain (OpenSpec.upto fnExactOpenCellSpec)) fnExactOpenCellUptoCard

/-- THE SECOND FORM's CARD OF 'laws.FnExactCloseView'. -/
def fnExactCloseViewUptoCard : Claim7 := { stood := { row := fnExactCloseViewUptoRow, standIns := [], harness := (true, "dcb0c6bc4701aac68de0a8cafcba355dacb49445115edad33de5d40be20dd37e"), looks := false }, kinds := [], alts := [], laidByText := true, laidKinds := [.data, .pinned], laidTests := true, laidLooks := .later }
def FnExactCloseViewUptoCardSaid : Prop := Claim7.holds Tryd.pinned (.plain (OpenSpec.upto fnExactCloseViewSpec)) fnExactCloseViewUptoCard
end Rows
end Go.Proofs.YtndmkbkmfonefadDoor
