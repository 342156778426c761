/-
  DERIVED. GIVEN WITH THE SEED: THE CARDS: each row of YtbobhjgndgaoaabDoorRows.lean that lists a variable, with what it lists TIED to the program's text (the seventh form; the later family's looks); each row that meets fmt, with fmt's text TOLD by the authors' own Lean function (tested against real Go, not proved from fmt's source: count such statements apart). THE CARD IS WHAT COUNTS. Prove the row's statement (the work); the ties are given (YtbobhjgndgaoaabDoorTie.lean); close each card by the builder's one call (the guide's Derived/Test/ToyasCard.lean, 'card_holds'). Laid BY PROGRAM, IN A SANDBOX (cutbox-door.mjs). By AI agents, Wed Nov 11 2026. No macro, syntax, notation, axiom, sorry.
-/
import Derived.Test.YtbobhjgndgaoaabDoorRows
import GoSem.ClaimSeven
namespace Go.Proofs.YtbobhjgndgaoaabDoor
namespace Rows

/-- THE TIED CARD OF 'gnomonlaw01.WideReads'. -/
def wideReadsCard : Claim7 := { stood := { row := wideReadsRow, standIns := [], harness := (true, "6cf40aa23bcc1556ff4239a8a8b617524aa10ee980cba29ee2c42c4cc3cceb3d"), looks := false }, kinds := [], alts := [], laidByText := true, laidKinds := [.data, .data, .data], laidTests := true, laidLooks := .later }
def WideReadsCardSaid : Prop := Claim7.holds Tryd.pinned (.plain (OpenSpec.ofChange wideReadsSpec)) wideReadsCard

/-- THE SECOND FORM's CARD OF 'gnomonlaw01.WideReads'. -/
def wideReadsUptoCard : Claim7 := { stood := { row := wideReadsUptoRow, standIns := [], harness := (true, "6cf40aa23bcc1556ff4239a8a8b617524aa10ee980cba29ee2c42c4cc3cceb3d"), looks := false }, kinds := [], alts := [], laidByText := true, laidKinds := [.data, .data, .data], laidTests := true, laidLooks := .later }
def WideReadsUptoCardSaid : Prop := Claim7.holds Tryd.pinned (.plain (OpenSpec.upto wideReadsSpec)) wideReadsUptoCard
end Rows
end Go.Proofs.YtbobhjgndgaoaabDoor
