/-
  DERIVED. GIVEN WITH THE SEED: THE CARDS: each row of YtbnoallcdjpihaaDoorRows.lean that lists a variable, with what it lists TIED to the program's text (the seventh form; the later family's looks); each row that meets fmt, with fmt's text TOLD by the authors' own Lean function (tested against real Go, not proved from fmt's source: count such statements apart). THE CARD IS WHAT COUNTS. Prove the row's statement (the work); the ties are given (YtbnoallcdjpihaaDoorTie.lean); close each card by the builder's one call (the guide's Derived/Test/ToyasCard.lean, 'card_holds'). Laid BY PROGRAM, IN A SANDBOX (cutbox-door.mjs). By AI agents, Wed Nov 11 2026. No macro, syntax, notation, axiom, sorry.
-/
import Derived.Test.YtbnoallcdjpihaaDoorRows
import GoSem.ClaimSeven
namespace Go.Proofs.YtbnoallcdjpihaaDoor
namespace Rows

/-- THE TIED CARD OF 'laws.FnExactIsEven'. -/
def fnExactIsEvenCard : Claim7 := { stood := { row := fnExactIsEvenRow, standIns := [], harness := (true, "aa68c00ef54e2f7c1cd5645d6d3b0122210c3ec3caec5e5469ca490456009271"), looks := false }, kinds := [], alts := [], laidByText := true, laidKinds := [.data, .pinned], laidTests := true, laidLooks := .later }
def FnExactIsEvenCardSaid : Prop := Claim7.holds Tryd.pinned (.plain (OpenSpec.ofChange fnExactIsEvenSpec)) fnExactIsEvenCard

/-- THE TIED CARD OF 'laws.FnExactJoinedGroups'. -/
def fnExactJoinedGroupsCard : Claim7 := { stood := { row := fnExactJoinedGroupsRow, standIns := [], harness := (true, "aa68c00ef54e2f7c1cd5645d6d3b0122210c3ec3caec5e5469ca490456009271"), looks := false }, kinds := [], alts := [], laidByText := true, laidKinds := [.data, .pinned], laidTests := true, laidLooks := .later }
def FnExactJoinedGroupsCardSaid : Prop := Claim7.holds Tryd.pinned (.plain (OpenSpec.ofChange fnExactJoinedGroupsSpec)) fnExactJoinedGroupsCard

/-- THE TIED CARD OF 'laws.FnExactJoinedOpened'. -/
def fnExactJoinedOpenedCard : Claim7 := { stood := { row := fnExactJoinedOpenedRow, standIns := [], harness := (true, "aa68c00ef54e2f7c1cd5645d6d3b0122210c3ec3caec5e5469ca490456009271"), looks := false }, kinds := [], alts := [], laidByText := true, laidKinds := [.data, .pinned], laidTests := true, laidLooks := .later }
def FnExactJoinedOpenedCardSaid : Prop := Claim7.holds Tryd.pinned (.plain (OpenSpec.ofChange fnExactJoinedOpenedSpec)) fnExactJoinedOpenedCard

/-- THE TIED CARD OF 'laws.FnExactJoinedClicks'. -/
def fnExactJoinedClicksCard : Claim7 := { stood := { row := fnExactJoinedClicksRow, standIns := [], harness := (true, "aa68c00ef54e2f7c1cd5645d6d3b0122210c3ec3caec5e5469ca490456009271"), looks := false }, kinds := [], alts := [], laidByText := true, laidKinds := [.data, .pinned], laidTests := true, laidLooks := .later }
def FnExactJoinedClicksCardSaid : Prop := Claim7.holds Tryd.pinned (.plain (OpenSpec.ofChange fnExactJoinedClicksSpec)) fnExactJoinedClicksCard

/-- THE SECOND FORM's CARD OF 'laws.FnExactIsEven'. -/
def fnExactIsEvenUptoCard : Claim7 := { stood := { row := fnExactIsEvenUptoRow, standIns := [], harness := (true, "aa68c00ef54e2f7c1cd5645d6d3b0122210c3ec3caec5e5469ca490456009271"), looks := false }, kinds := [], alts := [], laidByText := true, laidKinds := [.data, .pinned], laidTests := true, laidLooks := .later }
def FnExactIsEvenUptoCardSaid : Prop := Claim7.holds Tryd.pinned (.plain (OpenSpec.upto fnExactIsEvenSpec)) fnExactIsEvenUptoCard

/-- THE SECOND FORM's CARD OF 'laws.FnExactJoinedGroups'. -/
def fnExactJoinedGroupsUptoCard : Claim7 := { stood := { row := fnExactJoinedGroupsUptoRow, standIns := [], harness := (true, "aa68c00ef54e2f7c1cd5645d6d3b0122210c3ec3caec5e5469ca490456009271"), looks := false }, kinds := [], alts := [], laidByText := true, laidKinds := [.data, .pinned], laidTests := true, laidLooks := .later }
def FnExactJoinedGroupsUptoCardSaid : Prop := Claim7.holds Tryd.pinned (.plain (OpenSpec.upto fnExactJoinedGroupsSpec)) fnExactJoinedGroupsUptoCard

/-- THE SECOND FORM's CARD OF 'laws.FnExactJoinedOpened'. -/
def fnExactJoinedOpenedUptoCard : Claim7 := { stood := { row := fnExactJoinedOpenedUptoRow, standIns := [], harness := (true, "aa68c00ef54e2f7c1cd5645d6d3b0122210c3ec3caec5e5469ca490456009271"), looks := false }, kinds := [], alts := [], laidByText := true, laidKinds := [.data, .pinned], laidTests := true, laidLooks := .later }
def FnExactJoinedOpenedUptoCardSaid : Prop := Claim7.holds Tryd.pinned (.plain (OpenSpec.upto fnExactJoinedOpenedSpec)) fnExactJoinedOpenedUptoCard

/-- THE SECOND FORM's CARD OF 'laws.FnExactJoinedClicks'. -/
def fnExactJoinedClicksUptoCard : Claim7 := { stood := { row := fnExactJoinedClicksUptoRow, standIns := [], harness := (true, "aa68c00ef54e2f7c1cd5645d6d3b0122210c3ec3caec5e5469ca490456009271"), looks := false }, kinds := [], alts := [], laidByText := true, laidKinds := [.data, .pinned], laidTests := true, laidLooks := .later }
def FnExactJoinedClicksUptoCardSaid : Prop := Claim7.holds Tryd.pinned (.plain (OpenSpec.upto fnExactJoinedClicksSpec)) fnExactJoinedClicksUptoCard
end Rows
end Go.Proofs.YtbnoallcdjpihaaDoor
