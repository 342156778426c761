/-
  DERIVED. GIVEN WITH THE SEED: THE CARDS: each row of YthgfeghgcickhaaGreatDoorRows.lean that lists a variable, with what it lists TIED to the program's text (the seventh form; the later family's looks); each row that meets fmt, with fmt's text TOLD by the authors' own Lean function (tested against real Go, not proved from fmt's source: count such statements apart). THE CARD IS WHAT COUNTS. Prove the row's statement (the work); the ties are given (YthgfeghgcickhaaGreatDoorTie.lean); close each card by the builder's one call (the guide's Derived/Test/ToyasCard.lean, 'card_holds'). Laid BY PROGRAM, IN A SANDBOX (cutbox-door.mjs). By AI agents, Wed Nov 11 2026. No macro, syntax, notation, axiom, sorry.
-/
import Derived.Test.YthgfeghgcickhaaGreatDoorRows
import GoSem.ClaimSeven
namespace Go.Proofs.YthgfeghgcickhaaGreatDoor
namespace Rows

/-- THE TIED CARD OF 'gnomonlaw16.ExpoNames'. -/
def expoNamesCard : Claim7 := { stood := { row := expoNamesRow, standIns := [], harness := (true, "9c18e580b916d955a1d7ad9cca3168ee6089b4d3963cf74ea74887aa71d2a36a"), looks := true }, kinds := [], alts := [], laidByText := true, laidKinds := [.data, .data, .data, .data, .sentinel, .sentinel, .pinned, .pinned], laidTests := true, laidLooks := .later }
def ExpoNamesCardSaid : Prop := Claim7.holds Tryz.pinned (.plain (OpenSpec.ofChange expoNamesSpec)) expoNamesCard

/-- THE TIED CARD OF 'gnomonlaw16.ExpoLines'. -/
def expoLinesCard : Claim7 := { stood := { row := expoLinesRow, standIns := [], harness := (true, "9c18e580b916d955a1d7ad9cca3168ee6089b4d3963cf74ea74887aa71d2a36a"), looks := true }, kinds := [], alts := [], laidByText := true, laidKinds := [.data, .data, .data, .data, .sentinel, .sentinel, .pinned, .pinned], laidTests := true, laidLooks := .later }
def ExpoLinesCardSaid : Prop := Claim7.holds Tryz.pinned (.plain (OpenSpec.ofChange expoLinesSpec)) expoLinesCard

/-- THE SECOND FORM's CARD OF 'gnomonlaw16.ExpoNames'. -/
def expoNamesUptoCard : Claim7 := { stood := { row := expoNamesUptoRow, standIns := [], harness := (true, "9c18e580b916d955a1d7ad9cca3168ee6089b4d3963cf74ea74887aa71d2a36a"), looks := true }, kinds := [], alts := [], laidByText := true, laidKinds := [.data, .data, .data, .data, .sentinel, .sentinel, .pinned, .pinned], laidTests := true, laidLooks := .later }
def ExpoNamesUptoCardSaid : Prop := Claim7.holds Tryz.pinned (.plain (OpenSpec.upto expoNamesSpec)) expoNamesUptoCard

/-- THE SECOND FORM's CARD OF 'gnomonlaw16.ExpoLines'. -/
def expoLinesUptoCard : Claim7 := { stood := { row := expoLinesUptoRow, standIns := [], harness := (true, "9c18e580b916d955a1d7ad9cca3168ee6089b4d3963cf74ea74887aa71d2a36a"), looks := true }, kinds := [], alts := [], laidByText := true, laidKinds := [.data, .data, .data, .data, .sentinel, .sentinel, .pinned, .pinned], laidTests := true, laidLooks := .later }
def ExpoLinesUptoCardSaid : Prop := Claim7.holds Tryz.pinned (.plain (OpenSpec.upto expoLinesSpec)) expoLinesUptoCard
end Rows
end Go.Proofs.YthgfeghgcickhaaGreatDoor
