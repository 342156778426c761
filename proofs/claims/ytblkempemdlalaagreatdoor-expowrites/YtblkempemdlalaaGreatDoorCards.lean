/-
  DERIVED. GIVEN WITH THE SEED: THE CARDS: each row of YtblkempemdlalaaGreatDoorRows.lean that lists a variable, with what it lists TIED to the program's text (the seventh form; the later family's looks); each row that meets fmt, with fmt's text TOLD by the authors' own Lean function (tested against real Go, not proved from fmt's source: count such statements apart). THE CARD IS WHAT COUNTS. Prove the row's statement (the work); the ties are given (YtblkempemdlalaaGreatDoorTie.lean); close each card by the builder's one call (the guide's Derived/Test/ToyasCard.lean, 'card_holds'). Laid BY PROGRAM, IN A SANDBOX (cutbox-door.mjs). By AI agents, Wed Nov 11 2026. No macro, syntax, notation, axiom, sorry.
-/
import Derived.Test.YtblkempemdlalaaGreatDoorRows
import GoSem.ClaimSeven
namespace Go.Proofs.YtblkempemdlalaaGreatDoor
namespace Rows

/-- THE TIED CARD OF 'gnomonlaw16.ExpoWrites'. -/
def expoWritesCard : Claim7 := { stood := { row := expoWritesRow, standIns := [], harness := (true, "344d5dfc9885736ee6b0d85f4ed0820df3b916b9d58f95f176ef4b2c69ea180c"), looks := true }, kinds := [], alts := [], laidByText := true, laidKinds := [.data, .data, .data, .data, .sentinel, .sentinel, .pinned, .pinned], laidTests := true, laidLooks := .later }
def ExpoWritesCardSaid : Prop := Claim7.holds Tryz.pinned (.plain (OpenSpec.ofChange expoWritesSpec)) expoWritesCard

/-- THE TIED CARD OF 'gnomonlaw16.ExpoKeeps'. -/
def expoKeepsCard : Claim7 := { stood := { row := expoKeepsRow, standIns := [], harness := (true, "344d5dfc9885736ee6b0d85f4ed0820df3b916b9d58f95f176ef4b2c69ea180c"), looks := true }, kinds := [], alts := [], laidByText := true, laidKinds := [.data, .data, .data, .data, .sentinel, .sentinel, .pinned, .pinned], laidTests := true, laidLooks := .later }
def ExpoKeepsCardSaid : Prop := Claim7.holds Tryz.pinned (.plain (OpenSpec.ofChange expoKeepsSpec)) expoKeepsCard

/-- THE SECOND FORM's CARD OF 'gnomonlaw16.ExpoWrites'. -/
def expoWritesUptoCard : Claim7 := { stood := { row := expoWritesUptoRow, standIns := [], harness := (true, "344d5dfc9885736ee6b0d85f4ed0820df3b916b9d58f95f176ef4b2c69ea180c"), looks := true }, kinds := [], alts := [], laidByText := true, laidKinds := [.data, .data, .data, .data, .sentinel, .sentinel, .pinned, .pinned], laidTests := true, laidLooks := .later }
def ExpoWritesUptoCardSaid : Prop := Claim7.holds Tryz.pinned (.plain (OpenSpec.upto expoWritesSpec)) expoWritesUptoCard

/-- THE SECOND FORM's CARD OF 'gnomonlaw16.ExpoKeeps'. -/
def expoKeepsUptoCard : Claim7 := { stood := { row := expoKeepsUptoRow, standIns := [], harness := (true, "344d5dfc9885736ee6b0d85f4ed0820df3b916b9d58f95f176ef4b2c69ea180c"), looks := true }, kinds := [], alts := [], laidByText := true, laidKinds := [.data, .data, .data, .data, .sentinel, .sentinel, .pinned, .pinned], laidTests := true, laidLooks := .later }
def ExpoKeepsUptoCardSaid : Prop := Claim7.holds Tryz.pinned (.plain (OpenSpec.upto expoKeepsSpec)) expoKeepsUptoCard
end Rows
end Go.Proofs.YtblkempemdlalaaGreatDoor
