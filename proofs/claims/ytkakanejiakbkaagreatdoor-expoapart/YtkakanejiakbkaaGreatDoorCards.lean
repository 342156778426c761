/-
  DERIVED. GIVEN WITH THE SEED: THE CARDS: each row of YtkakanejiakbkaaGreatDoorRows.lean that lists a variable, with what it lists TIED to the program's text (the seventh form; the later family's looks); each row that meets fmt, with fmt's text TOLD by the authors' own Lean function (tested against real Go, not proved from fmt's source: count such statements apart). THE CARD IS WHAT COUNTS. Prove the row's statement (the work); the ties are given (YtkakanejiakbkaaGreatDoorTie.lean); close each card by the builder's one call (the guide's Derived/Test/ToyasCard.lean, 'card_holds'). Laid BY PROGRAM, IN A SANDBOX (cutbox-door.mjs). By AI agents, Wed Nov 11 2026. No macro, syntax, notation, axiom, sorry.
-/
import Derived.Test.YtkakanejiakbkaaGreatDoorRows
import GoSem.ClaimSeven
namespace Go.Proofs.YtkakanejiakbkaaGreatDoor
namespace Rows

/-- THE TIED CARD OF 'gnomonlaw16.ExpoApart'. -/
def expoApartCard : Claim7 := { stood := { row := expoApartRow, standIns := [], harness := (true, "0ebec29912f9d608c5fc653a5fc6a2d79d55ee1eaf0818526ad1800e5ecefa04"), looks := true }, kinds := [], alts := [], laidByText := true, laidKinds := [.data, .data, .data, .data, .sentinel, .sentinel, .pinned, .pinned], laidTests := true, laidLooks := .later }
def ExpoApartCardSaid : Prop := Claim7.holds Tryz.pinned (.plain (OpenSpec.ofChange expoApartSpec)) expoApartCard

/-- THE SECOND FORM's CARD OF 'gnomonlaw16.ExpoApart'. -/
def expoApartUptoCard : Claim7 := { stood := { row := expoApartUptoRow, standIns := [], harness := (true, "0ebec29912f9d608c5fc653a5fc6a2d79d55ee1eaf0818526ad1800e5ecefa04"), looks := true }, kinds := [], alts := [], laidByText := true, laidKinds := [.data, .data, .data, .data, .sentinel, .sentinel, .pinned, .pinned], laidTests := true, laidLooks := .later }
def ExpoApartUptoCardSaid : Prop := Claim7.holds Tryz.pinned (.plain (OpenSpec.upto expoApartSpec)) expoApartUptoCard
end Rows
end Go.Proofs.YtkakanejiakbkaaGreatDoor
