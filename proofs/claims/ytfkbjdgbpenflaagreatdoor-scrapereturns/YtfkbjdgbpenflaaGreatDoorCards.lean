/-
  DERIVED. GIVEN WITH THE SEED: THE CARDS: each row of YtfkbjdgbpenflaaGreatDoorRows.lean that lists a variable, with what it lists TIED to the program's text (the seventh form; the later family's looks); each row that meets fmt, with fmt's text TOLD by the authors' own Lean function (tested against real Go, not proved from fmt's source: count such statements apart). THE CARD IS WHAT COUNTS. Prove the row's statement (the work); the ties are given (YtfkbjdgbpenflaaGreatDoorTie.lean); close each card by the builder's one call (the guide's Derived/Test/ToyasCard.lean, 'card_holds'). Laid BY PROGRAM, IN A SANDBOX (cutbox-door.mjs). By AI agents, Wed Nov 11 2026. No macro, syntax, notation, axiom, sorry.
-/
import Derived.Test.YtfkbjdgbpenflaaGreatDoorRows
import GoSem.ClaimSeven
namespace Go.Proofs.YtfkbjdgbpenflaaGreatDoor
namespace Rows

/-- THE TIED CARD OF 'gnomonlaw17.ScrapeReturns'. -/
def scrapeReturnsCard : Claim7 := { stood := { row := scrapeReturnsRow, standIns := [], harness := (true, "f95c7a18aca20d45437745cb40a07c443d1810decdb923d0431871e185844be4"), looks := true }, kinds := [], alts := [], laidByText := true, laidKinds := [.data, .data, .widerDeep, .widerDeep, .data, .data, .data, .data, .data, .sentinel, .sentinel, .pinned, .pinned], laidTests := true, laidLooks := .later }
def ScrapeReturnsCardSaid : Prop := Claim7.holds Tryz.pinned (.plain (OpenSpec.ofChange scrapeReturnsSpec)) scrapeReturnsCard

/-- THE SECOND FORM's CARD OF 'gnomonlaw17.ScrapeReturns'. -/
def scrapeReturnsUptoCard : Claim7 := { stood := { row := scrapeReturnsUptoRow, standIns := [], harness := (true, "f95c7a18aca20d45437745cb40a07c443d1810decdb923d0431871e185844be4"), looks := true }, kinds := [], alts := [], laidByText := true, laidKinds := [.data, .data, .widerDeep, .widerDeep, .data, .data, .data, .data, .data, .sentinel, .sentinel, .pinned, .pinned], laidTests := true, laidLooks := .later }
def ScrapeReturnsUptoCardSaid : Prop := Claim7.holds Tryz.pinned (.plain (OpenSpec.upto scrapeReturnsSpec)) scrapeReturnsUptoCard
end Rows
end Go.Proofs.YtfkbjdgbpenflaaGreatDoor
