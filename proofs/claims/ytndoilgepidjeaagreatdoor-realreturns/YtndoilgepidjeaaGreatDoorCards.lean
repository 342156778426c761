/-
  DERIVED. GIVEN WITH THE SEED: THE CARDS: each row of YtndoilgepidjeaaGreatDoorRows.lean that lists a variable, with what it lists TIED to the program's text (the seventh form; the later family's looks); each row that meets fmt, with fmt's text TOLD by the authors' own Lean function (tested against real Go, not proved from fmt's source: count such statements apart). THE CARD IS WHAT COUNTS. Prove the row's statement (the work); the ties are given (YtndoilgepidjeaaGreatDoorTie.lean); close each card by the builder's one call (the guide's Derived/Test/ToyasCard.lean, 'card_holds'). Laid BY PROGRAM, IN A SANDBOX (cutbox-door.mjs). By AI agents, Wed Nov 11 2026. No macro, syntax, notation, axiom, sorry.
-/
import Derived.Test.YtndoilgepidjeaaGreatDoorRows
import GoSem.ClaimSeven
namespace Go.Proofs.YtndoilgepidjeaaGreatDoor
namespace Rows

/-- THE TIED CARD OF 'gnomonlaw02.RealReturns'. -/
def realReturnsCard : Claim7 := { stood := { row := realReturnsRow, standIns := [], harness := (true, "cfc054a706a2b8fafcde4d39d08fcad77924736fbde6fb3c0b76309f8da33be2"), looks := true }, kinds := [], alts := [], laidByText := true, laidKinds := [.data, .data, .widerDeep, .widerDeep, .data, .data, .data, .data, .data, .sentinel, .sentinel, .pinned, .pinned], laidTests := true, laidLooks := .later }
def RealReturnsCardSaid : Prop := Claim7.holds Tryz.pinned (.plain (OpenSpec.ofChange realReturnsSpec)) realReturnsCard

/-- THE TIED CARD OF 'gnomonlaw02.RealOneForm'. -/
def realOneFormCard : Claim7 := { stood := { row := realOneFormRow, standIns := [], harness := (true, "cfc054a706a2b8fafcde4d39d08fcad77924736fbde6fb3c0b76309f8da33be2"), looks := true }, kinds := [], alts := [], laidByText := true, laidKinds := [.data, .data, .widerDeep, .widerDeep, .data, .data, .data, .data, .data, .sentinel, .sentinel, .pinned, .pinned], laidTests := true, laidLooks := .later }
def RealOneFormCardSaid : Prop := Claim7.holds Tryz.pinned (.plain (OpenSpec.ofChange realOneFormSpec)) realOneFormCard

/-- THE SECOND FORM's CARD OF 'gnomonlaw02.RealReturns'. -/
def realReturnsUptoCard : Claim7 := { stood := { row := realReturnsUptoRow, standIns := [], harness := (true, "cfc054a706a2b8fafcde4d39d08fcad77924736fbde6fb3c0b76309f8da33be2"), looks := true }, kinds := [], alts := [], laidByText := true, laidKinds := [.data, .data, .widerDeep, .widerDeep, .data, .data, .data, .data, .data, .sentinel, .sentinel, .pinned, .pinned], laidTests := true, laidLooks := .later }
def RealReturnsUptoCardSaid : Prop := Claim7.holds Tryz.pinned (.plain (OpenSpec.upto realReturnsSpec)) realReturnsUptoCard

/-- THE SECOND FORM's CARD OF 'gnomonlaw02.RealOneForm'. -/
def realOneFormUptoCard : Claim7 := { stood := { row := realOneFormUptoRow, standIns := [], harness := (true, "cfc054a706a2b8fafcde4d39d08fcad77924736fbde6fb3c0b76309f8da33be2"), looks := true }, kinds := [], alts := [], laidByText := true, laidKinds := [.data, .data, .widerDeep, .widerDeep, .data, .data, .data, .data, .data, .sentinel, .sentinel, .pinned, .pinned], laidTests := true, laidLooks := .later }
def RealOneFormUptoCardSaid : Prop := Claim7.holds Tryz.pinned (.plain (OpenSpec.upto realOneFormSpec)) realOneFormUptoCard
end Rows
end Go.Proofs.YtndoilgepidjeaaGreatDoor
