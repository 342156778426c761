/-
  DERIVED. GIVEN WITH THE SEED: THE CARDS: each row of YtmmkboldkaehgaaGreatDoorRows.lean that lists a variable, with what it lists TIED to the program's text (the seventh form; the later family's looks); each row that meets fmt, with fmt's text TOLD by the authors' own Lean function (tested against real Go, not proved from fmt's source: count such statements apart). THE CARD IS WHAT COUNTS. Prove the row's statement (the work); the ties are given (YtmmkboldkaehgaaGreatDoorTie.lean); close each card by the builder's one call (the guide's Derived/Test/ToyasCard.lean, 'card_holds'). Laid BY PROGRAM, IN A SANDBOX (cutbox-door.mjs). By AI agents, Wed Nov 11 2026. No macro, syntax, notation, axiom, sorry.
-/
import Derived.Test.YtmmkboldkaehgaaGreatDoorRows
import GoSem.ClaimSeven
namespace Go.Proofs.YtmmkboldkaehgaaGreatDoor
namespace Rows

/-- THE TIED CARD OF 'gnomonlaw22.RulesSames'. -/
def rulesSamesCard : Claim7 := { stood := { row := rulesSamesRow, standIns := [], harness := (true, "a942e5e3a7706585cf65624a6a1f671fe2e0b054d6c2d076829188fc82faa89f"), looks := true }, kinds := [], alts := [], laidByText := true, laidKinds := [.data, .data, .widerDeep, .widerDeep, .data, .data, .data, .data, .data, .sentinel, .sentinel, .data, .pinned, .pinned], laidTests := true, laidLooks := .later }
def RulesSamesCardSaid : Prop := Claim7.holds Tryz.pinned (.plain (OpenSpec.ofChange rulesSamesSpec)) rulesSamesCard

/-- THE SECOND FORM's CARD OF 'gnomonlaw22.RulesSames'. -/
def rulesSamesUptoCard : Claim7 := { stood := { row := rulesSamesUptoRow, standIns := [], harness := (true, "a942e5e3a7706585cf65624a6a1f671fe2e0b054d6c2d076829188fc82faa89f"), looks := true }, kinds := [], alts := [], laidByText := true, laidKinds := [.data, .data, .widerDeep, .widerDeep, .data, .data, .data, .data, .data, .sentinel, .sentinel, .data, .pinned, .pinned], laidTests := true, laidLooks := .later }
def RulesSamesUptoCardSaid : Prop := Claim7.holds Tryz.pinned (.plain (OpenSpec.upto rulesSamesSpec)) rulesSamesUptoCard
end Rows
end Go.Proofs.YtmmkboldkaehgaaGreatDoor
