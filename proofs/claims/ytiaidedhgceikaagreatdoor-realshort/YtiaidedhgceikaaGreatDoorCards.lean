/-
  DERIVED. GIVEN WITH THE SEED: THE CARDS: each row of YtiaidedhgceikaaGreatDoorRows.lean that lists a variable, with what it lists TIED to the program's text (the seventh form; the later family's looks); each row that meets fmt, with fmt's text TOLD by the authors' own Lean function (tested against real Go, not proved from fmt's source: count such statements apart). THE CARD IS WHAT COUNTS. Prove the row's statement (the work); the ties are given (YtiaidedhgceikaaGreatDoorTie.lean); close each card by the builder's one call (the guide's Derived/Test/ToyasCard.lean, 'card_holds'). Laid BY PROGRAM, IN A SANDBOX (cutbox-door.mjs). By AI agents, Wed Nov 11 2026. No macro, syntax, notation, axiom, sorry.
-/
import Derived.Test.YtiaidedhgceikaaGreatDoorRows
import GoSem.ClaimSeven
namespace Go.Proofs.YtiaidedhgceikaaGreatDoor
namespace Rows

/-- THE TIED CARD OF 'gnomonlaw02.RealShort'. -/
def realShortCard : Claim7 := { stood := { row := realShortRow, standIns := [], harness := (true, "4074caef163c2872e72279c0faa23b46d9b87787ddd3aeb752bdbaacea66b8f6"), looks := true }, kinds := [], alts := [], laidByText := true, laidKinds := [.data, .data, .widerDeep, .widerDeep, .data, .data, .data, .data, .data, .sentinel, .sentinel, .pinned, .pinned], laidTests := true, laidLooks := .later }
def RealShortCardSaid : Prop := Claim7.holds Tryz.pinned (.plain (OpenSpec.ofChange realShortSpec)) realShortCard

/-- THE SECOND FORM's CARD OF 'gnomonlaw02.RealShort'. -/
def realShortUptoCard : Claim7 := { stood := { row := realShortUptoRow, standIns := [], harness := (true, "4074caef163c2872e72279c0faa23b46d9b87787ddd3aeb752bdbaacea66b8f6"), looks := true }, kinds := [], alts := [], laidByText := true, laidKinds := [.data, .data, .widerDeep, .widerDeep, .data, .data, .data, .data, .data, .sentinel, .sentinel, .pinned, .pinned], laidTests := true, laidLooks := .later }
def RealShortUptoCardSaid : Prop := Claim7.holds Tryz.pinned (.plain (OpenSpec.upto realShortSpec)) realShortUptoCard
end Rows
end Go.Proofs.YtiaidedhgceikaaGreatDoor
