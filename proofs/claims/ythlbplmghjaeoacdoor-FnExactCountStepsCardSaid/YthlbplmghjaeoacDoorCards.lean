/-
  DERIVED. GIVEN WITH THE SEED: THE CARDS: each row of YthlbplmghjaeoacDoorRows.lean that lists a variable, with what it lists TIED to the program's text (the seventh form; the later family's looks); each row that meets fmt, with fmt's text TOLD by the authors' own Lean function (tested against real Go, not proved from fmt's source: count such statements apart). THE CARD IS WHAT COUNTS. Prove the row's statement (the work); the ties are given (YthlbplmghjaeoacDoorTie.lean); close each card by the builder's one call (the guide's Derived/Test/ToyasCard.lean, 'card_holds'). Laid BY PROGRAM, IN A SANDBOX (cutbox-door.mjs). By AI agents, Wed Nov 11 2026. No macro, syntax, notation, axiom, sorry.
-/
import Derived.Test.YthlbplmghjaeoacDoorRows
import GoSem.ClaimSeven
namespace Go.Proofs.YthlbplmghjaeoacDoor
namespace Rows

/-- THE TIED CARD OF 'laws.FnExactPairFinds'. -/
def fnExactPairFindsCard : Claim7 := { stood := { row := fnExactPairFindsRow, standIns := [], harness := (true, "327ddc614ae09b2055bbe1075d4111999ce53f66a19a559a2ede85d17ab049e3"), looks := false }, kinds := [], alts := [], laidByText := true, laidKinds := [.data, .data, .pinned], laidTests := true, laidLooks := .later }
def FnExactPairFindsCardSaid : Prop := Claim7.holds Tryd.pinned (.plain (OpenSpec.ofChange fnExactPairFindsSpec)) fnExactPairFindsCard

/-- THE TIED CARD OF 'laws.FnExactFirstSingle'. -/
def fnExactFirstSingleCard : Claim7 := { stood := { row := fnExactFirstSingleRow, standIns := [], harness := (true, "327ddc614ae09b2055bbe1075d4111999ce53f66a19a559a2ede85d17ab049e3"), looks := false }, kinds := [], alts := [], laidByText := true, laidKinds := [.data, .pinned], laidTests := true, laidLooks := .later }
def FnExactFirstSingleCardSaid : Prop := Claim7.holds Tryd.pinned (.plain (OpenSpec.ofChange fnExactFirstSingleSpec)) fnExactFirstSingleCard

/-- THE TIED CARD OF 'laws.FnExactFirstPair'. -/
def fnExactFirstPairCard : Claim7 := { stood := { row := fnExactFirstPairRow, standIns := [], harness := (true, "327ddc614ae09b2055bbe1075d4111999ce53f66a19a559a2ede85d17ab049e3"), looks := false }, kinds := [], alts := [], laidByText := true, laidKinds := [.data, .pinned], laidTests := true, laidLooks := .later }
def FnExactFirstPairCardSaid : Prop := Claim7.holds Tryd.pinned (.plain (OpenSpec.ofChange fnExactFirstPairSpec)) fnExactFirstPairCard

/-- THE TIED CARD OF 'laws.FnExactStepByRule'. -/
def fnExactStepByRuleCard : Claim7 := { stood := { row := fnExactStepByRuleRow, standIns := [], harness := (true, "327ddc614ae09b2055bbe1075d4111999ce53f66a19a559a2ede85d17ab049e3"), looks := false }, kinds := [], alts := [], laidByText := true, laidKinds := [.data, .data, .pinned], laidTests := true, laidLooks := .later }
def FnExactStepByRuleCardSaid : Prop := Claim7.holds Tryd.pinned (.plain (OpenSpec.ofChange fnExactStepByRuleSpec)) fnExactStepByRuleCard

/-- THE TIED CARD OF 'laws.FnExactFindByRules'. -/
def fnExactFindByRulesCard : Claim7 := { stood := { row := fnExactFindByRulesRow, standIns := [], harness := (true, "327ddc614ae09b2055bbe1075d4111999ce53f66a19a559a2ede85d17ab049e3"), looks := false }, kinds := [], alts := [], laidByText := true, laidKinds := [.data, .data, .pinned], laidTests := true, laidLooks := .later }
def FnExactFindByRulesCardSaid : Prop := Claim7.holds Tryd.pinned (.plain (OpenSpec.ofChange fnExactFindByRulesSpec)) fnExactFindByRulesCard

/-- THE TIED CARD OF 'laws.FnExactCountSteps'. -/
def fnExactCountStepsCard : Claim7 := { stood := { row := fnExactCountStepsRow, standIns := [], harness := (true, "327ddc614ae09b2055bbe1075d4111999ce53f66a19a559a2ede85d17ab049e3"), looks := false }, kinds := [], alts := [], laidByText := true, laidKinds := [.data, .data, .pinned], laidTests := true, laidLooks := .later }
def FnExactCountStepsCardSaid : Prop := Claim7.holds Tryd.pinned (.plain (OpenSpec.ofChange fnExactCountStepsSpec)) fnExactCountStepsCard

/-- THE SECOND FORM's CARD OF 'laws.FnExactPairFinds'. -/
def fnExactPairFindsUptoCard : Claim7 := { stood := { row := fnExactPairFindsUptoRow, standIns := [], harness := (true, "327ddc614ae09b2055bbe1075d4111999ce53f66a19a559a2ede85d17ab049e3"), looks := false }, kinds := [], alts := [], laidByText := true, laidKinds := [.data, .data, .pinned], laidTests := true, laidLooks := .later }
def FnExactPairFindsUptoCardSaid : Prop := Claim7.holds Tryd.pinned (.plain (OpenSpec.upto fnExactPairFindsSpec)) fnExactPairFindsUptoCard

/-- THE SECOND FORM's CARD OF 'laws.FnExactFirstSingle'. -/
def fnExactFirstSingleUptoCard : Claim7 := { stood := { row := fnExactFirstSingleUptoRow, standIns := [], harness := (true, "327ddc614ae09b2055bbe1075d4111999ce53f66a19a559a2ede85d17ab049e3"), looks := false }, kinds := [], alts := [], laidByText := true, laidKinds := [.data, .pinned], laidTests := true, laidLooks := .later }
def FnExactFirstSingleUptoCardSaid : Prop := Claim7.holds Tryd.pinned (.plain (OpenSpec.upto fnExactFirstSingleSpec)) fnExactFirstSingleUptoCard

/-- THE SECOND FORM's CARD OF 'laws.FnExactFirstPair'. -/
def fnExactFirstPairUptoCard : Claim7 := { stood := { row := fnExactFirstPairUptoRow, standIns := [], harness := (true, "327ddc614ae09b2055bbe1075d4111999ce53f66a19a559a2ede85d17ab049e3"), looks := false }, kinds := [], alts := [], laidByText := true, laidKinds := [.data, .pinned], laidTests := true, laidLooks := .later }
def FnExactFirstPairUptoCardSaid : Prop := Claim7.holds Tryd.pinned (.plain (OpenSpec.upto fnExactFirstPairSpec)) fnExactFirstPairUptoCard

/-- THE SECOND FORM's CARD OF 'laws.FnExactStepByRule'. -/
def fnExactStepByRuleUptoCard : Claim7 := { stood := { row := fnExactStepByRuleUptoRow, standIns := [], harness := (true, "327ddc614ae09b2055bbe1075d4111999ce53f66a19a559a2ede85d17ab049e3"), looks := false }, kinds := [], alts := [], laidByText := true, laidKinds := [.data, .data, .pinned], laidTests := true, laidLooks := .later }
def FnExactStepByRuleUptoCardSaid : Prop := Claim7.holds Tryd.pinned (.plain (OpenSpec.upto fnExactStepByRuleSpec)) fnExactStepByRuleUptoCard

/-- THE SECOND FORM's CARD OF 'laws.FnExactFindByRules'. -/
def fnExactFindByRulesUptoCard : Claim7 := { stood := { row := fnExactFindByRulesUptoRow, standIns := [], harness := (true, "327ddc614ae09b2055bbe1075d4111999ce53f66a19a559a2ede85d17ab049e3"), looks := false }, kinds := [], alts := [], laidByText := true, laidKinds := [.data, .data, .pinned], laidTests := true, laidLooks := .later }
def FnExactFindByRulesUptoCardSaid : Prop := Claim7.holds Tryd.pinned (.plain (OpenSpec.upto fnExactFindByRulesSpec)) fnExactFindByRulesUptoCard

/-- THE SECOND FORM's CARD OF 'laws.FnExactCountSteps'. -/
def fnExactCountStepsUptoCard : Claim7 := { stood := { row := fnExactCountStepsUptoRow, standIns := [], harness := (true, "327ddc614ae09b2055bbe1075d4111999ce53f66a19a559a2ede85d17ab049e3"), looks := false }, kinds := [], alts := [], laidByText := true, laidKinds := [.data, .data, .pinned], laidTests := true, laidLooks := .later }
def FnExactCountStepsUptoCardSaid : Prop := Claim7.holds Tryd.pinned (.plain (OpenSpec.upto fnExactCountStepsSpec)) fnExactCountStepsUptoCard
end Rows
end Go.Proofs.YthlbplmghjaeoacDoor
