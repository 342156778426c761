/-
  DERIVED. GIVEN WITH THE SEED: THE CARDS: each row of YtlgfgeacphkhnaaGreatDoorRows.lean that lists a variable, with what it lists TIED to the program's text (the seventh form; the later family's looks); each row that meets fmt, with fmt's text TOLD by the authors' own Lean function (tested against real Go, not proved from fmt's source: count such statements apart). THE CARD IS WHAT COUNTS. Prove the row's statement (the work); the ties are given (YtlgfgeacphkhnaaGreatDoorTie.lean); close each card by the builder's one call (the guide's Derived/Test/ToyasCard.lean, 'card_holds'). Laid BY PROGRAM, IN A SANDBOX (cutbox-door.mjs). By AI agents, Wed Nov 11 2026. No macro, syntax, notation, axiom, sorry.
-/
import Derived.Test.YtlgfgeacphkhnaaGreatDoorRows
import GoSem.ClaimSeven
namespace Go.Proofs.YtlgfgeacphkhnaaGreatDoor
namespace Rows

/-- THE TIED CARD OF 'gnomonlaw16.ExpoKeeps'. -/
def expoKeepsCard : Claim7 := { stood := { row := expoKeepsRow, standIns := [], harness := (true, "f4edadecfcf85ecebde752fffee14e456f316c3f29093e1e1d2e9641b8290f4a"), looks := true }, kinds := [], alts := [], laidByText := true, laidKinds := [.data, .data, .data, .data, .sentinel, .sentinel, .pinned, .pinned], laidTests := true, laidLooks := .later }
def ExpoKeepsCardSaid : Prop := Claim7.holds Tryz.pinned (.plain (OpenSpec.ofChange expoKeepsSpec)) expoKeepsCard

/-- THE SECOND FORM's CARD OF 'gnomonlaw16.ExpoKeeps'. -/
def expoKeepsUptoCard : Claim7 := { stood := { row := expoKeepsUptoRow, standIns := [], harness := (true, "f4edadecfcf85ecebde752fffee14e456f316c3f29093e1e1d2e9641b8290f4a"), looks := true }, kinds := [], alts := [], laidByText := true, laidKinds := [.data, .data, .data, .data, .sentinel, .sentinel, .pinned, .pinned], laidTests := true, laidLooks := .later }
def ExpoKeepsUptoCardSaid : Prop := Claim7.holds Tryz.pinned (.plain (OpenSpec.upto expoKeepsSpec)) expoKeepsUptoCard
end Rows
end Go.Proofs.YtlgfgeacphkhnaaGreatDoor
