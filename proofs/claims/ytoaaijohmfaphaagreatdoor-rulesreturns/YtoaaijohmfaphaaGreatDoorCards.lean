/-
  DERIVED. GIVEN WITH THE SEED: THE CARDS: each row of YtoaaijohmfaphaaGreatDoorRows.lean that lists a variable, with what it lists TIED to the program's text (the seventh form; the later family's looks); each row that meets fmt, with fmt's text TOLD by the authors' own Lean function (tested against real Go, not proved from fmt's source: count such statements apart). THE CARD IS WHAT COUNTS. Prove the row's statement (the work); the ties are given (YtoaaijohmfaphaaGreatDoorTie.lean); close each card by the builder's one call (the guide's Derived/Test/ToyasCard.lean, 'card_holds'). Laid BY PROGRAM, IN A SANDBOX (cutbox-door.mjs). By AI agents, Wed Nov 11 2026. No macro, syntax, notation, axiom, sorry.
-/
import Derived.Test.YtoaaijohmfaphaaGreatDoorRows
import GoSem.ClaimSeven
namespace Go.Proofs.YtoaaijohmfaphaaGreatDoor
namespace Rows

/-- THE TIED CARD OF 'gnomonlaw22.RulesReturns'. -/
def rulesReturnsCard : Claim7 := { stood := { row := rulesReturnsRow, standIns := [], harness := (true, "8135d393d8c35a3a5df1fe1b70c1d4069d21e78f5b261c510dfc31c7ef781609"), looks := true }, kinds := [], alts := [], laidByText := true, laidKinds := [.data, .data, .widerDeep, .widerDeep, .data, .data, .data, .data, .data, .sentinel, .sentinel, .data, .pinned, .pinned], laidTests := true, laidLooks := .later }
def RulesReturnsCardSaid : Prop := Claim7.holds Tryz.pinned (.plain (OpenSpec.ofChange rulesReturnsSpec)) rulesReturnsCard

/-- THE SECOND FORM's CARD OF 'gnomonlaw22.RulesReturns'. -/
def rulesReturnsUptoCard : Claim7 := { stood := { row := rulesReturnsUptoRow, standIns := [], harness := (true, "8135d393d8c35a3a5df1fe1b70c1d4069d21e78f5b261c510dfc31c7ef781609"), looks := true }, kinds := [], alts := [], laidByText := true, laidKinds := [.data, .data, .widerDeep, .widerDeep, .data, .data, .data, .data, .data, .sentinel, .sentinel, .data, .pinned, .pinned], laidTests := true, laidLooks := .later }
def RulesReturnsUptoCardSaid : Prop := Claim7.holds Tryz.pinned (.plain (OpenSpec.upto rulesReturnsSpec)) rulesReturnsUptoCard
end Rows
end Go.Proofs.YtoaaijohmfaphaaGreatDoor
