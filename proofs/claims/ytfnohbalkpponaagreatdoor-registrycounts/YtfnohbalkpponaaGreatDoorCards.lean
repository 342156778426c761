/-
  DERIVED. GIVEN WITH THE SEED: THE CARDS: each row of YtfnohbalkpponaaGreatDoorRows.lean that lists a variable, with what it lists TIED to the program's text (the seventh form; the later family's looks); each row that meets fmt, with fmt's text TOLD by the authors' own Lean function (tested against real Go, not proved from fmt's source: count such statements apart). THE CARD IS WHAT COUNTS. Prove the row's statement (the work); the ties are given (YtfnohbalkpponaaGreatDoorTie.lean); close each card by the builder's one call (the guide's Derived/Test/ToyasCard.lean, 'card_holds'). Laid BY PROGRAM, IN A SANDBOX (cutbox-door.mjs). By AI agents, Wed Nov 11 2026. No macro, syntax, notation, axiom, sorry.
-/
import Derived.Test.YtfnohbalkpponaaGreatDoorRows
import GoSem.ClaimSeven
namespace Go.Proofs.YtfnohbalkpponaaGreatDoor
namespace Rows

/-- THE TIED CARD OF 'gnomonlaw15.RegistryDoes'. -/
def registryDoesCard : Claim7 := { stood := { row := registryDoesRow, standIns := [], harness := (true, "8d1d6b6ef334ebee35bf95c5127a60400c2c680274e836ddee9eefafb4a6190c"), looks := false }, kinds := [], alts := [], goes := true, laidByText := true, laidKinds := [.sentinel], laidTests := true, laidLooks := .later }
def RegistryDoesCardSaid : Prop := Claim7.holds Tryz.pinned (.plain (OpenSpec.ofChange registryDoesSpec)) registryDoesCard

/-- THE TIED CARD OF 'gnomonlaw15.RegistryCounts'. -/
def registryCountsCard : Claim7 := { stood := { row := registryCountsRow, standIns := [], harness := (true, "8d1d6b6ef334ebee35bf95c5127a60400c2c680274e836ddee9eefafb4a6190c"), looks := false }, kinds := [], alts := [], goes := true, laidByText := true, laidKinds := [.sentinel], laidTests := true, laidLooks := .later }
def RegistryCountsCardSaid : Prop := Claim7.holds Tryz.pinned (.plain (OpenSpec.ofChange registryCountsSpec)) registryCountsCard

/-- THE SECOND FORM's CARD OF 'gnomonlaw15.RegistryDoes'. -/
def registryDoesUptoCard : Claim7 := { stood := { row := registryDoesUptoRow, standIns := [], harness := (true, "8d1d6b6ef334ebee35bf95c5127a60400c2c680274e836ddee9eefafb4a6190c"), looks := false }, kinds := [], alts := [], goes := true, laidByText := true, laidKinds := [.sentinel], laidTests := true, laidLooks := .later }
def RegistryDoesUptoCardSaid : Prop := Claim7.holds Tryz.pinned (.plain (OpenSpec.upto registryDoesSpec)) registryDoesUptoCard

/-- THE SECOND FORM's CARD OF 'gnomonlaw15.RegistryCounts'. -/
def registryCountsUptoCard : Claim7 := { stood := { row := registryCountsUptoRow, standIns := [], harness := (true, "8d1d6b6ef334ebee35bf95c5127a60400c2c680274e836ddee9eefafb4a6190c"), looks := false }, kinds := [], alts := [], goes := true, laidByText := true, laidKinds := [.sentinel], laidTests := true, laidLooks := .later }
def RegistryCountsUptoCardSaid : Prop := Claim7.holds Tryz.pinned (.plain (OpenSpec.upto registryCountsSpec)) registryCountsUptoCard
end Rows
end Go.Proofs.YtfnohbalkpponaaGreatDoor
