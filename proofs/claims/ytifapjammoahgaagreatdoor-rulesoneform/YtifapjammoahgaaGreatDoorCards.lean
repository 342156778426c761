/-
  DERIVED. GIVEN WITH THE SEED: THE CARDS: each row of YtifapjammoahgaaGreatDoorRows.lean that lists a variable, with what it lists TIED to the program's text (the seventh form; the later family's looks); each row that meets fmt, with fmt's text TOLD by the authors' own Lean function (tested against real Go, not proved from fmt's source: count such statements apart). THE CARD IS WHAT COUNTS. Prove the row's statement (the work); the ties are given (YtifapjammoahgaaGreatDoorTie.lean); close each card by the builder's one call (the guide's Derived/Test/ToyasCard.lean, 'card_holds'). Laid BY PROGRAM, IN A SANDBOX (cutbox-door.mjs). By AI agents, Wed Nov 11 2026. No macro, syntax, notation, axiom, sorry.
-/
import Derived.Test.YtifapjammoahgaaGreatDoorRows
import GoSem.ClaimSeven
namespace Go.Proofs.YtifapjammoahgaaGreatDoor
namespace Rows

/-- THE TIED CARD OF 'gnomonlaw22.RulesOneForm'. -/
def rulesOneFormCard : Claim7 := { stood := { row := rulesOneFormRow, standIns := [], harness := (true, "ce4addfe11b1ad8dba0d05bf70123924f4ab5af761c138ba09a568f6e0463238"), looks := true }, kinds := [], alts := [], laidByText := true, laidKinds := [.data, .data, .widerDeep, .widerDeep, .data, .data, .data, .data, .data, .sentinel, .sentinel, .data, .pinned, .pinned], laidTests := true, laidLooks := .later }
def RulesOneFormCardSaid : Prop := Claim7.holds Tryz.pinned (.plain (OpenSpec.ofChange rulesOneFormSpec)) rulesOneFormCard

/-- THE SECOND FORM's CARD OF 'gnomonlaw22.RulesOneForm'. -/
def rulesOneFormUptoCard : Claim7 := { stood := { row := rulesOneFormUptoRow, standIns := [], harness := (true, "ce4addfe11b1ad8dba0d05bf70123924f4ab5af761c138ba09a568f6e0463238"), looks := true }, kinds := [], alts := [], laidByText := true, laidKinds := [.data, .data, .widerDeep, .widerDeep, .data, .data, .data, .data, .data, .sentinel, .sentinel, .data, .pinned, .pinned], laidTests := true, laidLooks := .later }
def RulesOneFormUptoCardSaid : Prop := Claim7.holds Tryz.pinned (.plain (OpenSpec.upto rulesOneFormSpec)) rulesOneFormUptoCard
end Rows
end Go.Proofs.YtifapjammoahgaaGreatDoor
