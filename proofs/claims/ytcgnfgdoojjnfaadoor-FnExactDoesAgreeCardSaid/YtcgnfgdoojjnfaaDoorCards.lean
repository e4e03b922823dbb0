/-
  DERIVED. GIVEN WITH THE SEED: THE CARDS: each row of YtcgnfgdoojjnfaaDoorRows.lean that lists a variable, with what it lists TIED to the program's text (the seventh form; the later family's looks); each row that meets fmt, with fmt's text TOLD by the authors' own Lean function (tested against real Go, not proved from fmt's source: count such statements apart). THE CARD IS WHAT COUNTS. Prove the row's statement (the work); the ties are given (YtcgnfgdoojjnfaaDoorTie.lean); close each card by the builder's one call (the guide's Derived/Test/ToyasCard.lean, 'card_holds'). Laid BY PROGRAM, IN A SANDBOX (cutbox-door.mjs). By AI agents, Wed Nov 11 2026. No macro, syntax, notation, axiom, sorry.
-/
import Derived.Test.YtcgnfgdoojjnfaaDoorRows
import GoSem.ClaimSeven
namespace Go.Proofs.YtcgnfgdoojjnfaaDoor
namespace Rows

/-- THE TIED CARD OF 'laws.FnExactIsNotes'. -/
def fnExactIsNotesCard : Claim7 := { stood := { row := fnExactIsNotesRow, standIns := [], harness := (true, "0ffaa986acb224824f84d64bd1796706d91fcbfa0b7403b9332dc939883aa46d"), looks := false }, kinds := [], alts := [], laidByText := true, laidKinds := [.data, .pinned], laidTests := true, laidLooks := .later }
def FnExactIsNotesCardSaid : Prop := Claim7.holds Tryd.pinned (.plain (OpenSpec.ofChange fnExactIsNotesSpec)) fnExactIsNotesCard

/-- THE TIED CARD OF 'laws.FnExactUnknownOf'. -/
def fnExactUnknownOfCard : Claim7 := { stood := { row := fnExactUnknownOfRow, standIns := [], harness := (true, "0ffaa986acb224824f84d64bd1796706d91fcbfa0b7403b9332dc939883aa46d"), looks := false }, kinds := [], alts := [], laidByText := true, laidKinds := [.data, .data, .pinned], laidTests := true, laidLooks := .later }
def FnExactUnknownOfCardSaid : Prop := Claim7.holds Tryd.pinned (.plain (OpenSpec.ofChange fnExactUnknownOfSpec)) fnExactUnknownOfCard

/-- THE TIED CARD OF 'laws.FnExactIsDone'. -/
def fnExactIsDoneCard : Claim7 := { stood := { row := fnExactIsDoneRow, standIns := [], harness := (true, "0ffaa986acb224824f84d64bd1796706d91fcbfa0b7403b9332dc939883aa46d"), looks := false }, kinds := [], alts := [], laidByText := true, laidKinds := [.data, .pinned], laidTests := true, laidLooks := .later }
def FnExactIsDoneCardSaid : Prop := Claim7.holds Tryd.pinned (.plain (OpenSpec.ofChange fnExactIsDoneSpec)) fnExactIsDoneCard

/-- THE TIED CARD OF 'laws.FnExactUnknownNear'. -/
def fnExactUnknownNearCard : Claim7 := { stood := { row := fnExactUnknownNearRow, standIns := [], harness := (true, "0ffaa986acb224824f84d64bd1796706d91fcbfa0b7403b9332dc939883aa46d"), looks := false }, kinds := [], alts := [], laidByText := true, laidKinds := [.data, .data, .pinned], laidTests := true, laidLooks := .later }
def FnExactUnknownNearCardSaid : Prop := Claim7.holds Tryd.pinned (.plain (OpenSpec.ofChange fnExactUnknownNearSpec)) fnExactUnknownNearCard

/-- THE TIED CARD OF 'laws.FnExactRestAt'. -/
def fnExactRestAtCard : Claim7 := { stood := { row := fnExactRestAtRow, standIns := [], harness := (true, "0ffaa986acb224824f84d64bd1796706d91fcbfa0b7403b9332dc939883aa46d"), looks := false }, kinds := [], alts := [], laidByText := true, laidKinds := [.data, .pinned], laidTests := true, laidLooks := .later }
def FnExactRestAtCardSaid : Prop := Claim7.holds Tryd.pinned (.plain (OpenSpec.ofChange fnExactRestAtSpec)) fnExactRestAtCard

/-- THE TIED CARD OF 'laws.FnExactNoteMines'. -/
def fnExactNoteMinesCard : Claim7 := { stood := { row := fnExactNoteMinesRow, standIns := [], harness := (true, "0ffaa986acb224824f84d64bd1796706d91fcbfa0b7403b9332dc939883aa46d"), looks := false }, kinds := [], alts := [], laidByText := true, laidKinds := [.data, .data, .pinned], laidTests := true, laidLooks := .later }
def FnExactNoteMinesCardSaid : Prop := Claim7.holds Tryd.pinned (.plain (OpenSpec.ofChange fnExactNoteMinesSpec)) fnExactNoteMinesCard

/-- THE TIED CARD OF 'laws.FnExactNoteFree'. -/
def fnExactNoteFreeCard : Claim7 := { stood := { row := fnExactNoteFreeRow, standIns := [], harness := (true, "0ffaa986acb224824f84d64bd1796706d91fcbfa0b7403b9332dc939883aa46d"), looks := false }, kinds := [], alts := [], laidByText := true, laidKinds := [.data, .data, .pinned], laidTests := true, laidLooks := .later }
def FnExactNoteFreeCardSaid : Prop := Claim7.holds Tryd.pinned (.plain (OpenSpec.ofChange fnExactNoteFreeSpec)) fnExactNoteFreeCard

/-- THE TIED CARD OF 'laws.FnExactDoesAgree'. -/
def fnExactDoesAgreeCard : Claim7 := { stood := { row := fnExactDoesAgreeRow, standIns := [], harness := (true, "0ffaa986acb224824f84d64bd1796706d91fcbfa0b7403b9332dc939883aa46d"), looks := false }, kinds := [], alts := [], laidByText := true, laidKinds := [.data, .pinned], laidTests := true, laidLooks := .later }
def FnExactDoesAgreeCardSaid : Prop := Claim7.holds Tryd.pinned (.plain (OpenSpec.ofChange fnExactDoesAgreeSpec)) fnExactDoesAgreeCard

/-- THE SECOND FORM's CARD OF 'laws.FnExactIsNotes'. -/
def fnExactIsNotesUptoCard : Claim7 := { stood := { row := fnExactIsNotesUptoRow, standIns := [], harness := (true, "0ffaa986acb224824f84d64bd1796706d91fcbfa0b7403b9332dc939883aa46d"), looks := false }, kinds := [], alts := [], laidByText := true, laidKinds := [.data, .pinned], laidTests := true, laidLooks := .later }
def FnExactIsNotesUptoCardSaid : Prop := Claim7.holds Tryd.pinned (.plain (OpenSpec.upto fnExactIsNotesSpec)) fnExactIsNotesUptoCard

/-- THE SECOND FORM's CARD OF 'laws.FnExactUnknownOf'. -/
def fnExactUnknownOfUptoCard : Claim7 := { stood := { row := fnExactUnknownOfUptoRow, standIns := [], harness := (true, "0ffaa986acb224824f84d64bd1796706d91fcbfa0b7403b9332dc939883aa46d"), looks := false }, kinds := [], alts := [], laidByText := true, laidKinds := [.data, .data, .pinned], laidTests := true, laidLooks := .later }
def FnExactUnknownOfUptoCardSaid : Prop := Claim7.holds Tryd.pinned (.plain (OpenSpec.upto fnExactUnknownOfSpec)) fnExactUnknownOfUptoCard

/-- THE SECOND FORM's CARD OF 'laws.FnExactIsDone'. -/
def fnExactIsDoneUptoCard : Claim7 := { stood := { row := fnExactIsDoneUptoRow, standIns := [], harness := (true, "0ffaa986acb224824f84d64bd1796706d91fcbfa0b7403b9332dc939883aa46d"), looks := false }, kinds := [], alts := [], laidByText := true, laidKinds := [.data, .pinned], laidTests := true, laidLooks := .later }
def FnExactIsDoneUptoCardSaid : Prop := Claim7.holds Tryd.pinned (.plain (OpenSpec.upto fnExactIsDoneSpec)) fnExactIsDoneUptoCard

/-- THE SECOND FORM's CARD OF 'laws.FnExactUnknownNear'. -/
def fnExactUnknownNearUptoCard : Claim7 := { stood := { row := fnExactUnknownNearUptoRow, standIns := [], harness := (true, "0ffaa986acb224824f84d64bd1796706d91fcbfa0b7403b9332dc939883aa46d"), looks := false }, kinds := [], alts := [], laidByText := true, laidKinds := [.data, .data, .pinned], laidTests := true, laidLooks := .later }
def FnExactUnknownNearUptoCardSaid : Prop := Claim7.holds Tryd.pinned (.plain (OpenSpec.upto fnExactUnknownNearSpec)) fnExactUnknownNearUptoCard

/-- THE SECOND FORM's CARD OF 'laws.FnExactRestAt'. -/
def fnExactRestAtUptoCard : Claim7 := { stood := { row := fnExactRestAtUptoRow, standIns := [], harness := (true, "0ffaa986acb224824f84d64bd1796706d91fcbfa0b7403b9332dc939883aa46d"), looks := false }, kinds := [], alts := [], laidByText := true, laidKinds := [.data, .pinned], laidTests := true, laidLooks := .later }
def FnExactRestAtUptoCardSaid : Prop := Claim7.holds Tryd.pinned (.plain (OpenSpec.upto fnExactRestAtSpec)) fnExactRestAtUptoCard

/-- THE SECOND FORM's CARD OF 'laws.FnExactNoteMines'. -/
def fnExactNoteMinesUptoCard : Claim7 := { stood := { row := fnExactNoteMinesUptoRow, standIns := [], harness := (true, "0ffaa986acb224824f84d64bd1796706d91fcbfa0b7403b9332dc939883aa46d"), looks := false }, kinds := [], alts := [], laidByText := true, laidKinds := [.data, .data, .pinned], laidTests := true, laidLooks := .later }
def FnExactNoteMinesUptoCardSaid : Prop := Claim7.holds Tryd.pinned (.plain (OpenSpec.upto fnExactNoteMinesSpec)) fnExactNoteMinesUptoCard

/-- THE SECOND FORM's CARD OF 'laws.FnExactNoteFree'. -/
def fnExactNoteFreeUptoCard : Claim7 := { stood := { row := fnExactNoteFreeUptoRow, standIns := [], harness := (true, "0ffaa986acb224824f84d64bd1796706d91fcbfa0b7403b9332dc939883aa46d"), looks := false }, kinds := [], alts := [], laidByText := true, laidKinds := [.data, .data, .pinned], laidTests := true, laidLooks := .later }
def FnExactNoteFreeUptoCardSaid : Prop := Claim7.holds Tryd.pinned (.plain (OpenSpec.upto fnExactNoteFreeSpec)) fnExactNoteFreeUptoCard

/-- THE SECOND FORM's CARD OF 'laws.FnExactDoesAgree'. -/
def fnExactDoesAgreeUptoCard : Claim7 := { stood := { row := fnExactDoesAgreeUptoRow, standIns := [], harness := (true, "0ffaa986acb224824f84d64bd1796706d91fcbfa0b7403b9332dc939883aa46d"), looks := false }, kinds := [], alts := [], laidByText := true, laidKinds := [.data, .pinned], laidTests := true, laidLooks := .later }
def FnExactDoesAgreeUptoCardSaid : Prop := Claim7.holds Tryd.pinned (.plain (OpenSpec.upto fnExactDoesAgreeSpec)) fnExactDoesAgreeUptoCard
end Rows
end Go.Proofs.YtcgnfgdoojjnfaaDoor
