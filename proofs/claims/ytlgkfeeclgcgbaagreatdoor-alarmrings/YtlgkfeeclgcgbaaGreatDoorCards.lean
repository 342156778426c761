/-
  DERIVED. GIVEN WITH THE SEED: THE CARDS: each row of YtlgkfeeclgcgbaaGreatDoorRows.lean that lists a variable, with what it lists TIED to the program's text (the seventh form; the later family's looks); each row that meets fmt, with fmt's text TOLD by the authors' own Lean function (tested against real Go, not proved from fmt's source: count such statements apart). THE CARD IS WHAT COUNTS. Prove the row's statement (the work); the ties are given (YtlgkfeeclgcgbaaGreatDoorTie.lean); close each card by the builder's one call (the guide's Derived/Test/ToyasCard.lean, 'card_holds'). Laid BY PROGRAM, IN A SANDBOX (cutbox-door.mjs). By AI agents, Wed Nov 11 2026. No macro, syntax, notation, axiom, sorry.
-/
import Derived.Test.YtlgkfeeclgcgbaaGreatDoorRows
import GoSem.ClaimSeven
namespace Go.Proofs.YtlgkfeeclgcgbaaGreatDoor
namespace Rows

/-- THE TIED CARD OF 'gnomonlaw23.AlarmRings'. -/
def alarmRingsCard : Claim7 := { stood := { row := alarmRingsRow, standIns := [], harness := (true, "e8fc6533a53e054949f6649144b9a161324be8c13bbc2f122ceb0e5a31771b80"), looks := true }, kinds := [], alts := [], laidByText := true, laidKinds := [.data, .data, .widerDeep, .widerDeep, .data, .data, .data, .data, .data, .sentinel, .sentinel, .data, .pinned, .pinned], laidTests := true, laidLooks := .later }
def AlarmRingsCardSaid : Prop := Claim7.holds Tryz.pinned (.plain (OpenSpec.ofChange alarmRingsSpec)) alarmRingsCard

/-- THE SECOND FORM's CARD OF 'gnomonlaw23.AlarmRings'. -/
def alarmRingsUptoCard : Claim7 := { stood := { row := alarmRingsUptoRow, standIns := [], harness := (true, "e8fc6533a53e054949f6649144b9a161324be8c13bbc2f122ceb0e5a31771b80"), looks := true }, kinds := [], alts := [], laidByText := true, laidKinds := [.data, .data, .widerDeep, .widerDeep, .data, .data, .data, .data, .data, .sentinel, .sentinel, .data, .pinned, .pinned], laidTests := true, laidLooks := .later }
def AlarmRingsUptoCardSaid : Prop := Claim7.holds Tryz.pinned (.plain (OpenSpec.upto alarmRingsSpec)) alarmRingsUptoCard
end Rows
end Go.Proofs.YtlgkfeeclgcgbaaGreatDoor
