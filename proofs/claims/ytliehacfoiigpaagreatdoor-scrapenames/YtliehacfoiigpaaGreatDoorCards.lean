/-
  DERIVED. GIVEN WITH THE SEED: THE CARDS: each row of YtliehacfoiigpaaGreatDoorRows.lean that lists a variable, with what it lists TIED to the program's text (the seventh form; the later family's looks); each row that meets fmt, with fmt's text TOLD by the authors' own Lean function (tested against real Go, not proved from fmt's source: count such statements apart). THE CARD IS WHAT COUNTS. Prove the row's statement (the work); the ties are given (YtliehacfoiigpaaGreatDoorTie.lean); close each card by the builder's one call (the guide's Derived/Test/ToyasCard.lean, 'card_holds'). Laid BY PROGRAM, IN A SANDBOX (cutbox-door.mjs). By AI agents, Wed Nov 11 2026. No macro, syntax, notation, axiom, sorry.
-/
import Derived.Test.YtliehacfoiigpaaGreatDoorRows
import GoSem.ClaimSeven
namespace Go.Proofs.YtliehacfoiigpaaGreatDoor
namespace Rows

/-- THE TIED CARD OF 'gnomonlaw17.ScrapeNames'. -/
def scrapeNamesCard : Claim7 := { stood := { row := scrapeNamesRow, standIns := [], harness := (true, "301ae1fbb727eb0865e6a6e065c153a57d5a67f802bfcdb9790e3b6b62b2aeed"), looks := true }, kinds := [], alts := [], laidByText := true, laidKinds := [.data, .data, .widerDeep, .widerDeep, .data, .data, .data, .data, .data, .sentinel, .sentinel, .pinned, .pinned], laidTests := true, laidLooks := .later }
def ScrapeNamesCardSaid : Prop := Claim7.holds Tryz.pinned (.plain (OpenSpec.ofChange scrapeNamesSpec)) scrapeNamesCard

/-- THE SECOND FORM's CARD OF 'gnomonlaw17.ScrapeNames'. -/
def scrapeNamesUptoCard : Claim7 := { stood := { row := scrapeNamesUptoRow, standIns := [], harness := (true, "301ae1fbb727eb0865e6a6e065c153a57d5a67f802bfcdb9790e3b6b62b2aeed"), looks := true }, kinds := [], alts := [], laidByText := true, laidKinds := [.data, .data, .widerDeep, .widerDeep, .data, .data, .data, .data, .data, .sentinel, .sentinel, .pinned, .pinned], laidTests := true, laidLooks := .later }
def ScrapeNamesUptoCardSaid : Prop := Claim7.holds Tryz.pinned (.plain (OpenSpec.upto scrapeNamesSpec)) scrapeNamesUptoCard
end Rows
end Go.Proofs.YtliehacfoiigpaaGreatDoor
