/-
  DERIVED. GIVEN WITH THE SEED: THE CARDS: each row of YthlbplmghjaeoabDoorRows.lean that lists a variable, with what it lists TIED to the program's text (the seventh form; the later family's looks); each row that meets fmt, with fmt's text TOLD by the authors' own Lean function (tested against real Go, not proved from fmt's source: count such statements apart). THE CARD IS WHAT COUNTS. Prove the row's statement (the work); the ties are given (YthlbplmghjaeoabDoorTie.lean); close each card by the builder's one call (the guide's Derived/Test/ToyasCard.lean, 'card_holds'). Laid BY PROGRAM, IN A SANDBOX (cutbox-door.mjs). By AI agents, Wed Nov 11 2026. No macro, syntax, notation, axiom, sorry.
-/
import Derived.Test.YthlbplmghjaeoabDoorRows
import GoSem.ClaimSeven
namespace Go.Proofs.YthlbplmghjaeoabDoor
namespace Rows

/-- THE TIED CARD OF 'laws.FnExactIsDone'. -/
def fnExactIsDoneCard : Claim7 := { stood := { row := fnExactIsDoneRow, standIns := [], harness := (true, "3a1f424fb415afb7ba530b9be58b67be6d3e72dde389a47934537d9831d7ccf1"), looks := false }, kinds := [], alts := [], laidByText := true, laidKinds := [.data, .pinned], laidTests := true, laidLooks := .later }
def FnExactIsDoneCardSaid : Prop := Claim7.holds Tryd.pinned (.plain (OpenSpec.ofChange fnExactIsDoneSpec)) fnExactIsDoneCard

/-- THE TIED CARD OF 'laws.FnExactUnknownNear'. -/
def fnExactUnknownNearCard : Claim7 := { stood := { row := fnExactUnknownNearRow, standIns := [], harness := (true, "3a1f424fb415afb7ba530b9be58b67be6d3e72dde389a47934537d9831d7ccf1"), looks := false }, kinds := [], alts := [], laidByText := true, laidKinds := [.data, .data, .pinned], laidTests := true, laidLooks := .later }
def FnExactUnknownNearCardSaid : Prop := Claim7.holds Tryd.pinned (.plain (OpenSpec.ofChange fnExactUnknownNearSpec)) fnExactUnknownNearCard

/-- THE TIED CARD OF 'laws.FnExactRestAt'. -/
def fnExactRestAtCard : Claim7 := { stood := { row := fnExactRestAtRow, standIns := [], harness := (true, "3a1f424fb415afb7ba530b9be58b67be6d3e72dde389a47934537d9831d7ccf1"), looks := false }, kinds := [], alts := [], laidByText := true, laidKinds := [.data, .pinned], laidTests := true, laidLooks := .later }
def FnExactRestAtCardSaid : Prop := Claim7.holds Tryd.pinned (.plain (OpenSpec.ofChange fnExactRestAtSpec)) fnExactRestAtCard

/-- THE TIED CARD OF 'laws.FnExactNoteMines'. -/
def fnExactNoteMinesCard : Claim7 := { stood := { row := fnExactNoteMinesRow, standIns := [], harness := (true, "3a1f424fb415afb7ba530b9be58b67be6d3e72dde389a47934537d9831d7ccf1"), looks := false }, kinds := [], alts := [], laidByText := true, laidKinds := [.data, .data, .pinned], laidTests := true, laidLooks := .later }
def FnExactNoteMinesCardSaid : Prop := Claim7.holds Tryd.pinned (.plain (OpenSpec.ofChange fnExactNoteMinesSpec)) fnExactNoteMinesCard

/-- THE TIED CARD OF 'laws.FnExactNoteFree'. -/
def fnExactNoteFreeCard : Claim7 := { stood := { row := fnExactNoteFreeRow, standIns := [], harness := (true, "3a1f424fb415afb7ba530b9be58b67be6d3e72dde389a47934537d9831d7ccf1"), looks := false }, kinds := [], alts := [], laidByText := true, laidKinds := [.data, .data, .pinned], laidTests := true, laidLooks := .later }
def FnExactNoteFreeCardSaid : Prop := Claim7.holds Tryd.pinned (.plain (OpenSpec.ofChange fnExactNoteFreeSpec)) fnExactNoteFreeCard

/-- THE TIED CARD OF 'laws.FnExactDoesAgree'. -/
def fnExactDoesAgreeCard : Claim7 := { stood := { row := fnExactDoesAgreeRow, standIns := [], harness := (true, "3a1f424fb415afb7ba530b9be58b67be6d3e72dde389a47934537d9831d7ccf1"), looks := false }, kinds := [], alts := [], laidByText := true, laidKinds := [.data, .pinned], laidTests := true, laidLooks := .later }
def FnExactDoesAgreeCardSaid : Prop := Claim7.holds Tryd.pinned (.plain (OpenSpec.ofChange fnExactDoesAgreeSpec)) fnExactDoesAgreeCard

/-- THE TIED CARD OF 'laws.FnExactIsSound'. -/
def fnExactIsSoundCard : Claim7 := { stood := { row := fnExactIsSoundRow, standIns := [], harness := (true, "3a1f424fb415afb7ba530b9be58b67be6d3e72dde389a47934537d9831d7ccf1"), looks := false }, kinds := [], alts := [], laidByText := true, laidKinds := [.data, .pinned], laidTests := true, laidLooks := .later }
def FnExactIsSoundCardSaid : Prop := Claim7.holds Tryd.pinned (.plain (OpenSpec.ofChange fnExactIsSoundSpec)) fnExactIsSoundCard

/-- THE TIED CARD OF 'laws.FnExactSingleFinds'. -/
def fnExactSingleFindsCard : Claim7 := { stood := { row := fnExactSingleFindsRow, standIns := [], harness := (true, "3a1f424fb415afb7ba530b9be58b67be6d3e72dde389a47934537d9831d7ccf1"), looks := false }, kinds := [], alts := [], laidByText := true, laidKinds := [.data, .data, .pinned], laidTests := true, laidLooks := .later }
def FnExactSingleFindsCardSaid : Prop := Claim7.holds Tryd.pinned (.plain (OpenSpec.ofChange fnExactSingleFindsSpec)) fnExactSingleFindsCard

/-- THE SECOND FORM's CARD OF 'laws.FnExactIsDone'. -/
def fnExactIsDoneUptoCard : Claim7 := { stood := { row := fnExactIsDoneUptoRow, standIns := [], harness := (true, "3a1f424fb415afb7ba530b9be58b67be6d3e72dde389a47934537d9831d7ccf1"), looks := false }, kinds := [], alts := [], laidByText := true, laidKinds := [.data, .pinned], laidTests := true, laidLooks := .later }
def FnExactIsDoneUptoCardSaid : Prop := Claim7.holds Tryd.pinned (.plain (OpenSpec.upto fnExactIsDoneSpec)) fnExactIsDoneUptoCard

/-- THE SECOND FORM's CARD OF 'laws.FnExactUnknownNear'. -/
def fnExactUnknownNearUptoCard : Claim7 := { stood := { row := fnExactUnknownNearUptoRow, standIns := [], harness := (true, "3a1f424fb415afb7ba530b9be58b67be6d3e72dde389a47934537d9831d7ccf1"), looks := false }, kinds := [], alts := [], laidByText := true, laidKinds := [.data, .data, .pinned], laidTests := true, laidLooks := .later }
def FnExactUnknownNearUptoCardSaid : Prop := Claim7.holds Tryd.pinned (.plain (OpenSpec.upto fnExactUnknownNearSpec)) fnExactUnknownNearUptoCard

/-- THE SECOND FORM's CARD OF 'laws.FnExactRestAt'. -/
def fnExactRestAtUptoCard : Claim7 := { stood := { row := fnExactRestAtUptoRow, standIns := [], harness := (true, "3a1f424fb415afb7ba530b9be58b67be6d3e72dde389a47934537d9831d7ccf1"), looks := false }, kinds := [], alts := [], laidByText := true, laidKinds := [.data, .pinned], laidTests := true, laidLooks := .later }
def FnExactRestAtUptoCardSaid : Prop := Claim7.holds Tryd.pinned (.plain (OpenSpec.upto fnExactRestAtSpec)) fnExactRestAtUptoCard

/-- THE SECOND FORM's CARD OF 'laws.FnExactNoteMines'. -/
def fnExactNoteMinesUptoCard : Claim7 := { stood := { row := fnExactNoteMinesUptoRow, standIns := [], harness := (true, "3a1f424fb415afb7ba530b9be58b67be6d3e72dde389a47934537d9831d7ccf1"), looks := false }, kinds := [], alts := [], laidByText := true, laidKinds := [.data, .data, .pinned], laidTests := true, laidLooks := .later }
def FnExactNoteMinesUptoCardSaid : Prop := Claim7.holds Tryd.pinned (.plain (OpenSpec.upto fnExactNoteMinesSpec)) fnExactNoteMinesUptoCard

/-- THE SECOND FORM's CARD OF 'laws.FnExactNoteFree'. -/
def fnExactNoteFreeUptoCard : Claim7 := { stood := { row := fnExactNoteFreeUptoRow, standIns := [], harness := (true, "3a1f424fb415afb7ba530b9be58b67be6d3e72dde389a47934537d9831d7ccf1"), looks := false }, kinds := [], alts := [], laidByText := true, laidKinds := [.data, .data, .pinned], laidTests := true, laidLooks := .later }
def FnExactNoteFreeUptoCardSaid : Prop := Claim7.holds Tryd.pinned (.plain (OpenSpec.upto fnExactNoteFreeSpec)) fnExactNoteFreeUptoCard

/-- THE SECOND FORM's CARD OF 'laws.FnExactDoesAgree'. -/
def fnExactDoesAgreeUptoCard : Claim7 := { stood := { row := fnExactDoesAgreeUptoRow, standIns := [], harness := (true, "3a1f424fb415afb7ba530b9be58b67be6d3e72dde389a47934537d9831d7ccf1"), looks := false }, kinds := [], alts := [], laidByText := true, laidKinds := [.data, .pinned], laidTests := true, laidLooks := .later }
def FnExactDoesAgreeUptoCardSaid : Prop := Claim7.holds Tryd.pinned (.plain (OpenSpec.upto fnExactDoesAgreeSpec)) fnExactDoesAgreeUptoCard

/-- THE SECOND FORM's CARD OF 'laws.FnExactIsSound'. -/
def fnExactIsSoundUptoCard : Claim7 := { stood := { row := fnExactIsSoundUptoRow, standIns := [], harness := (true, "3a1f424fb415afb7ba530b9be58b67be6d3e72dde389a47934537d9831d7ccf1"), looks := false }, kinds := [], alts := [], laidByText := true, laidKinds := [.data, .pinned], laidTests := true, laidLooks := .later }
def FnExactIsSoundUptoCardSaid : Prop := Claim7.holds Tryd.pinned (.plain (OpenSpec.upto fnExactIsSoundSpec)) fnExactIsSoundUptoCard

/-- THE SECOND FORM's CARD OF 'laws.FnExactSingleFinds'. -/
def fnExactSingleFindsUptoCard : Claim7 := { stood := { row := fnExactSingleFindsUptoRow, standIns := [], harness := (true, "3a1f424fb415afb7ba530b9be58b67be6d3e72dde389a47934537d9831d7ccf1"), looks := false }, kinds := [], alts := [], laidByText := true, laidKinds := [.data, .data, .pinned], laidTests := true, laidLooks := .later }
def FnExactSingleFindsUptoCardSaid : Prop := Claim7.holds Tryd.pinned (.plain (OpenSpec.upto fnExactSingleFindsSpec)) fnExactSingleFindsUptoCard
end Rows
end Go.Proofs.YthlbplmghjaeoabDoor
