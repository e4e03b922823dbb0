/-
  DERIVED. GIVEN WITH THE SEED: THE CARDS: each row of YthlbplmghjaeoaeDoorRows.lean that lists a variable, with what it lists TIED to the program's text (the seventh form; the later family's looks); each row that meets fmt, with fmt's text TOLD by the authors' own Lean function (tested against real Go, not proved from fmt's source: count such statements apart). THE CARD IS WHAT COUNTS. Prove the row's statement (the work); the ties are given (YthlbplmghjaeoaeDoorTie.lean); close each card by the builder's one call (the guide's Derived/Test/ToyasCard.lean, 'card_holds'). Laid BY PROGRAM, IN A SANDBOX (cutbox-door.mjs). By AI agents, Wed Nov 11 2026. No macro, syntax, notation, axiom, sorry.
-/
import Derived.Test.YthlbplmghjaeoaeDoorRows
import GoSem.ClaimSeven
namespace Go.Proofs.YthlbplmghjaeoaeDoor
namespace Rows

/-- THE TIED CARD OF 'laws.FnExactSameNumbers'. -/
def fnExactSameNumbersCard : Claim7 := { stood := { row := fnExactSameNumbersRow, standIns := [], harness := (true, "49849ff46e68edb4c434883c72206a049702104abdd4f96f3d362be886dfa72f"), looks := false }, kinds := [], alts := [], laidByText := true, laidKinds := [.data, .pinned], laidTests := true, laidLooks := .later }
def FnExactSameNumbersCardSaid : Prop := Claim7.holds Tryd.pinned (.plain (OpenSpec.ofChange fnExactSameNumbersSpec)) fnExactSameNumbersCard

/-- THE SECOND FORM's CARD OF 'laws.FnExactSameNumbers'. -/
def fnExactSameNumbersUptoCard : Claim7 := { stood := { row := fnExactSameNumbersUptoRow, standIns := [], harness := (true, "49849ff46e68edb4c434883c72206a049702104abdd4f96f3d362be886dfa72f"), looks := false }, kinds := [], alts := [], laidByText := true, laidKinds := [.data, .pinned], laidTests := true, laidLooks := .later }
def FnExactSameNumbersUptoCardSaid : Prop := Claim7.holds Tryd.pinned (.plain (OpenSpec.upto fnExactSameNumbersSpec)) fnExactSameNumbersUptoCard
end Rows
end Go.Proofs.YthlbplmghjaeoaeDoor
