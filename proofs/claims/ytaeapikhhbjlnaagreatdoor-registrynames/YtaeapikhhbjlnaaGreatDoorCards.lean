/-
  DERIVED. GIVEN WITH THE SEED: THE CARDS: each row of YtaeapikhhbjlnaaGreatDoorRows.lean that lists a variable, with what it lists TIED to the program's text (the seventh form; the later family's looks); each row that meets fmt, with fmt's text TOLD by the authors' own Lean function (tested against real Go, not proved from fmt's source: count such statements apart). THE CARD IS WHAT COUNTS. Prove the row's statement (the work); the ties are given (YtaeapikhhbjlnaaGreatDoorTie.lean); close each card by the builder's one call (the guide's Derived/Test/ToyasCard.lean, 'card_holds'). Laid BY PROGRAM, IN A SANDBOX (cutbox-door.mjs). By AI agents, Wed Nov 11 2026. No macro, syntax, notation, axiom, sorry.
-/
import Derived.Test.YtaeapikhhbjlnaaGreatDoorRows
import GoSem.ClaimSeven
namespace Go.Proofs.YtaeapikhhbjlnaaGreatDoor
namespace Rows

/-- THE TIED CARD OF 'gnomonlaw14.RecorderDoes'. -/
def recorderDoesCard : Claim7 := { stood := { row := recorderDoesRow, standIns := [], harness := (true, "9492e15439fee9f3dc4a327cb1920f74efc2624030ca4fb5733fc9f4acc08219"), looks := false }, kinds := [], alts := [], goes := true, laidByText := true, laidKinds := [.sentinel], laidTests := true, laidLooks := .later }
def RecorderDoesCardSaid : Prop := Claim7.holds Tryz.pinned (.plain (OpenSpec.ofChange recorderDoesSpec)) recorderDoesCard

/-- THE TIED CARD OF 'gnomonlaw15.RegistryNames'. -/
def registryNamesCard : Claim7 := { stood := { row := registryNamesRow, standIns := [], harness := (true, "9492e15439fee9f3dc4a327cb1920f74efc2624030ca4fb5733fc9f4acc08219"), looks := false }, kinds := [], alts := [], goes := true, laidByText := true, laidKinds := [.sentinel], laidTests := true, laidLooks := .later }
def RegistryNamesCardSaid : Prop := Claim7.holds Tryz.pinned (.plain (OpenSpec.ofChange registryNamesSpec)) registryNamesCard

/-- THE TIED CARD OF 'gnomonlaw15.RegistryDoes'. -/
def registryDoesCard : Claim7 := { stood := { row := registryDoesRow, standIns := [], harness := (true, "9492e15439fee9f3dc4a327cb1920f74efc2624030ca4fb5733fc9f4acc08219"), looks := false }, kinds := [], alts := [], goes := true, laidByText := true, laidKinds := [.sentinel], laidTests := true, laidLooks := .later }
def RegistryDoesCardSaid : Prop := Claim7.holds Tryz.pinned (.plain (OpenSpec.ofChange registryDoesSpec)) registryDoesCard

/-- THE TIED CARD OF 'gnomonlaw15.RegistryCounts'. -/
def registryCountsCard : Claim7 := { stood := { row := registryCountsRow, standIns := [], harness := (true, "9492e15439fee9f3dc4a327cb1920f74efc2624030ca4fb5733fc9f4acc08219"), looks := false }, kinds := [], alts := [], goes := true, laidByText := true, laidKinds := [.sentinel], laidTests := true, laidLooks := .later }
def RegistryCountsCardSaid : Prop := Claim7.holds Tryz.pinned (.plain (OpenSpec.ofChange registryCountsSpec)) registryCountsCard

/-- THE SECOND FORM's CARD OF 'gnomonlaw14.RecorderDoes'. -/
def recorderDoesUptoCard : Claim7 := { stood := { row := recorderDoesUptoRow, standIns := [], harness := (true, "9492e15439fee9f3dc4a327cb1920f74efc2624030ca4fb5733fc9f4acc08219"), looks := false }, kinds := [], alts := [], goes := true, laidByText := true, laidKinds := [.sentinel], laidTests := true, laidLooks := .later }
def RecorderDoesUptoCardSaid : Prop := Claim7.holds Tryz.pinned (.plain (OpenSpec.upto recorderDoesSpec)) recorderDoesUptoCard

/-- THE SECOND FORM's CARD OF 'gnomonlaw15.RegistryNames'. -/
def registryNamesUptoCard : Claim7 := { stood := { row := registryNamesUptoRow, standIns := [], harness := (true, "9492e15439fee9f3dc4a327cb1920f74efc2624030ca4fb5733fc9f4acc08219"), looks := false }, kinds := [], alts := [], goes := true, laidByText := true, laidKinds := [.sentinel], laidTests := true, laidLooks := .later }
def RegistryNamesUptoCardSaid : Prop := Claim7.holds Tryz.pinned (.plain (OpenSpec.upto registryNamesSpec)) registryNamesUptoCard

/-- THE SECOND FORM's CARD OF 'gnomonlaw15.RegistryDoes'. -/
def registryDoesUptoCard : Claim7 := { stood := { row := registryDoesUptoRow, standIns := [], harness := (true, "9492e15439fee9f3dc4a327cb1920f74efc2624030ca4fb5733fc9f4acc08219"), looks := false }, kinds := [], alts := [], goes := true, laidByText := true, laidKinds := [.sentinel], laidTests := true, laidLooks := .later }
def RegistryDoesUptoCardSaid : Prop := Claim7.holds Tryz.pinned (.plain (OpenSpec.upto registryDoesSpec)) registryDoesUptoCard

/-- THE SECOND FORM's CARD OF 'gnomonlaw15.RegistryCounts'. -/
def registryCountsUptoCard : Claim7 := { stood := { row := registryCountsUptoRow, standIns := [], harness := (true, "9492e15439fee9f3dc4a327cb1920f74efc2624030ca4fb5733fc9f4acc08219"), looks := false }, kinds := [], alts := [], goes := true, laidByText := true, laidKinds := [.sentinel], laidTests := true, laidLooks := .later }
def RegistryCountsUptoCardSaid : Prop := Claim7.holds Tryz.pinned (.plain (OpenSpec.upto registryCountsSpec)) registryCountsUptoCard
end Rows
end Go.Proofs.YtaeapikhhbjlnaaGreatDoor
