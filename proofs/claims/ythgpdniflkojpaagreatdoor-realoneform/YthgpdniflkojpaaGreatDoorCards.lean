/-
  DERIVED. GIVEN WITH THE SEED: THE CARDS: each row of YthgpdniflkojpaaGreatDoorRows.lean that lists a variable, with what it lists TIED to the program's text (the seventh form; the later family's looks); each row that meets fmt, with fmt's text TOLD by the authors' own Lean function (tested against real Go, not proved from fmt's source: count such statements apart). THE CARD IS WHAT COUNTS. Prove the row's statement (the work); the ties are given (YthgpdniflkojpaaGreatDoorTie.lean); close each card by the builder's one call (the guide's Derived/Test/ToyasCard.lean, 'card_holds'). Laid BY PROGRAM, IN A SANDBOX (cutbox-door.mjs). By AI agents, Wed Nov 11 2026. No macro, syntax, notation, axiom, sorry.
-/
import Derived.Test.YthgpdniflkojpaaGreatDoorRows
import GoSem.ClaimSeven
namespace Go.Proofs.YthgpdniflkojpaaGreatDoor
namespace Rows

/-- THE TIED CARD OF 'gnomonlaw02.RealParses'. -/
def realParsesCard : Claim7 := { stood := { row := realParsesRow, standIns := [], harness := (true, "71511644cfb4f43c258c0e69484ec5ff795d100ea4513f041b123d99b3c9ef49"), looks := true }, kinds := [], alts := [], laidByText := true, laidKinds := [.data, .data, .widerDeep, .widerDeep, .data, .data, .data, .data, .data, .sentinel, .sentinel, .pinned, .pinned], laidTests := true, laidLooks := .later }
def RealParsesCardSaid : Prop := Claim7.holds Tryz.pinned (.plain (OpenSpec.ofChange realParsesSpec)) realParsesCard

/-- THE TIED CARD OF 'gnomonlaw02.RealOneForm'. -/
def realOneFormCard : Claim7 := { stood := { row := realOneFormRow, standIns := [], harness := (true, "71511644cfb4f43c258c0e69484ec5ff795d100ea4513f041b123d99b3c9ef49"), looks := true }, kinds := [], alts := [], laidByText := true, laidKinds := [.data, .data, .widerDeep, .widerDeep, .data, .data, .data, .data, .data, .sentinel, .sentinel, .pinned, .pinned], laidTests := true, laidLooks := .later }
def RealOneFormCardSaid : Prop := Claim7.holds Tryz.pinned (.plain (OpenSpec.ofChange realOneFormSpec)) realOneFormCard

/-- THE SECOND FORM's CARD OF 'gnomonlaw02.RealParses'. -/
def realParsesUptoCard : Claim7 := { stood := { row := realParsesUptoRow, standIns := [], harness := (true, "71511644cfb4f43c258c0e69484ec5ff795d100ea4513f041b123d99b3c9ef49"), looks := true }, kinds := [], alts := [], laidByText := true, laidKinds := [.data, .data, .widerDeep, .widerDeep, .data, .data, .data, .data, .data, .sentinel, .sentinel, .pinned, .pinned], laidTests := true, laidLooks := .later }
def RealParsesUptoCardSaid : Prop := Claim7.holds Tryz.pinned (.plain (OpenSpec.upto realParsesSpec)) realParsesUptoCard

/-- THE SECOND FORM's CARD OF 'gnomonlaw02.RealOneForm'. -/
def realOneFormUptoCard : Claim7 := { stood := { row := realOneFormUptoRow, standIns := [], harness := (true, "71511644cfb4f43c258c0e69484ec5ff795d100ea4513f041b123d99b3c9ef49"), looks := true }, kinds := [], alts := [], laidByText := true, laidKinds := [.data, .data, .widerDeep, .widerDeep, .data, .data, .data, .data, .data, .sentinel, .sentinel, .pinned, .pinned], laidTests := true, laidLooks := .later }
def RealOneFormUptoCardSaid : Prop := Claim7.holds Tryz.pinned (.plain (OpenSpec.upto realOneFormSpec)) realOneFormUptoCard
end Rows
end Go.Proofs.YthgpdniflkojpaaGreatDoor
