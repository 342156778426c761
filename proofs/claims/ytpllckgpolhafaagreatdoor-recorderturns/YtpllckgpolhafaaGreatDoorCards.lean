/-
  DERIVED. GIVEN WITH THE SEED: THE CARDS: each row of YtpllckgpolhafaaGreatDoorRows.lean that lists a variable, with what it lists TIED to the program's text (the seventh form; the later family's looks); each row that meets fmt, with fmt's text TOLD by the authors' own Lean function (tested against real Go, not proved from fmt's source: count such statements apart). THE CARD IS WHAT COUNTS. Prove the row's statement (the work); the ties are given (YtpllckgpolhafaaGreatDoorTie.lean); close each card by the builder's one call (the guide's Derived/Test/ToyasCard.lean, 'card_holds'). Laid BY PROGRAM, IN A SANDBOX (cutbox-door.mjs). By AI agents, Wed Nov 11 2026. No macro, syntax, notation, axiom, sorry.
-/
import Derived.Test.YtpllckgpolhafaaGreatDoorRows
import GoSem.ClaimSeven
namespace Go.Proofs.YtpllckgpolhafaaGreatDoor
namespace Rows

/-- THE TIED CARD OF 'gnomonlaw14.RecorderDoes'. -/
def recorderDoesCard : Claim7 := { stood := { row := recorderDoesRow, standIns := [], harness := (true, "983e8ce6d904a4e43b2fce6eb088663f35e6ad94db615e2904d470655303be14"), looks := false }, kinds := [], alts := [], goes := true, laidByText := true, laidKinds := [.sentinel], laidTests := true, laidLooks := .later }
def RecorderDoesCardSaid : Prop := Claim7.holds Tryz.pinned (.plain (OpenSpec.ofChange recorderDoesSpec)) recorderDoesCard

/-- THE TIED CARD OF 'gnomonlaw14.RecorderTurns'. -/
def recorderTurnsCard : Claim7 := { stood := { row := recorderTurnsRow, standIns := [], harness := (true, "983e8ce6d904a4e43b2fce6eb088663f35e6ad94db615e2904d470655303be14"), looks := false }, kinds := [], alts := [], goes := true, laidByText := true, laidKinds := [.sentinel], laidTests := true, laidLooks := .later }
def RecorderTurnsCardSaid : Prop := Claim7.holds Tryz.pinned (.plain (OpenSpec.ofChange recorderTurnsSpec)) recorderTurnsCard

/-- THE SECOND FORM's CARD OF 'gnomonlaw14.RecorderDoes'. -/
def recorderDoesUptoCard : Claim7 := { stood := { row := recorderDoesUptoRow, standIns := [], harness := (true, "983e8ce6d904a4e43b2fce6eb088663f35e6ad94db615e2904d470655303be14"), looks := false }, kinds := [], alts := [], goes := true, laidByText := true, laidKinds := [.sentinel], laidTests := true, laidLooks := .later }
def RecorderDoesUptoCardSaid : Prop := Claim7.holds Tryz.pinned (.plain (OpenSpec.upto recorderDoesSpec)) recorderDoesUptoCard

/-- THE SECOND FORM's CARD OF 'gnomonlaw14.RecorderTurns'. -/
def recorderTurnsUptoCard : Claim7 := { stood := { row := recorderTurnsUptoRow, standIns := [], harness := (true, "983e8ce6d904a4e43b2fce6eb088663f35e6ad94db615e2904d470655303be14"), looks := false }, kinds := [], alts := [], goes := true, laidByText := true, laidKinds := [.sentinel], laidTests := true, laidLooks := .later }
def RecorderTurnsUptoCardSaid : Prop := Claim7.holds Tryz.pinned (.plain (OpenSpec.upto recorderTurnsSpec)) recorderTurnsUptoCard
end Rows
end Go.Proofs.YtpllckgpolhafaaGreatDoor
