/-
  No cell of these rows narrows 'for every input' (looked for: loops, veiled, ifaces, maps, wideKeys, modest, calm, conditions, laid).
  DERIVED. THE GIVEN ROWS OF THIS SEAT. 5 by the template 'for every input the law returns true; each argument reads behind the call as it read before'; 0 by the template 'total and deterministic' (their statements: YthhoklgfgandpaaTotals.lean).
  GIVEN WITH THE SEED: the statements are not yours to turn. If you find one false, say at which input.
  Laid BY PROGRAM, IN A SANDBOX (cutbox-rows.mjs): the forced cells as the released guide's own fill.sh prints them over the translation 147935f75663ff30… (all of the seat's roots in one cut). By AI agents, Wed Nov 11 2026. No macro, syntax, notation, axiom, sorry.
-/
import Derived.Test.YthhoklgfgandpaaChecked
import GoSem.Claim
import GoSem.ClaimJoined
import GoSem.ClaimMapViews
import Derived.JoinedTies
import Derived.KernelRfl
namespace Go.Proofs.Ythhoklgfgandpaa
/- THE CELL 'sum', in the pinned program and in every row, IS THE sha256 OF THE DUMP (.gsa) THAT YthhoklgfgandpaaProg.lean LOADS. Nothing in Lean hashes anything: it is a label: what it is worth is what the hold of that sum in a sandbox is worth. -/
noncomputable def Try.pinned : Pinned := { name := "ythhoklgfgandpaa", sum := "147935f75663ff306dbad9c2073800031c4e5d1018622cad294a43e52d731ffb", checked := Try.checked }
namespace Rows
def none {H : Type} : Left H := { results := [], args := [] }

/-- 'gnomonlaw05.RanksNames': WHATEVER THE INPUT: true; the input reads as it did. -/
def ranksNamesSpec : ChangeSpec := { name := "ranksNames", fn := fun _ => fun
  | [] => { results := [.lit (.bool true)], args := [] }
  | _ => none }
def ranksNamesRow : OpenClaim := { program := "ythhoklgfgandpaa", sum := "147935f75663ff306dbad9c2073800031c4e5d1018622cad294a43e52d731ffb", func := "gnomon/gnomonlaw05.RanksNames", spec := "ranksNames", inPlace := ["math/bits.Add64"], unfollowed := true, recurses := true, named := ["math/bits.divideError", "math/bits.overflowError"], apart := false }
def RanksNamesSaid : Prop := ranksNamesRow.holds Try.pinned (OpenSpec.ofChange ranksNamesSpec)

/-- ITS FALSE NEIGHBOUR: 'it returns false'. Refute it at one input. -/
def ranksNamesWrong : ChangeSpec := { name := "ranksNames", fn := fun _ => fun
  | [] => { results := [.lit (.bool false)], args := [] }
  | _ => none }
def RanksNamesWrongFalsely : Prop := ranksNamesRow.holds Try.pinned (OpenSpec.ofChange ranksNamesWrong)

/-- 'gnomonlaw05.RanksDoes': WHATEVER THE INPUT: true; the input reads as it did. -/
def ranksDoesSpec : ChangeSpec := { name := "ranksDoes", fn := fun _ => fun
  | [d] => { results := [.lit (.bool true)], args := [d] }
  | _ => none }
def ranksDoesRow : OpenClaim := { program := "ythhoklgfgandpaa", sum := "147935f75663ff306dbad9c2073800031c4e5d1018622cad294a43e52d731ffb", func := "gnomon/gnomonlaw05.RanksDoes", spec := "ranksDoes", inPlace := ["math/bits.Add64"], unfollowed := true, recurses := true, named := ["math/bits.divideError", "math/bits.overflowError"], apart := false }
def RanksDoesSaid : Prop := ranksDoesRow.holds Try.pinned (OpenSpec.ofChange ranksDoesSpec)

/-- ITS FALSE NEIGHBOUR: 'it returns false'. Refute it at one input. -/
def ranksDoesWrong : ChangeSpec := { name := "ranksDoes", fn := fun _ => fun
  | [d] => { results := [.lit (.bool false)], args := [d] }
  | _ => none }
def RanksDoesWrongFalsely : Prop := ranksDoesRow.holds Try.pinned (OpenSpec.ofChange ranksDoesWrong)

/-- 'gnomonlaw05.RanksQuantiles': WHATEVER THE INPUT: true; the input reads as it did. -/
def ranksQuantilesSpec : ChangeSpec := { name := "ranksQuantiles", fn := fun _ => fun
  | [d] => { results := [.lit (.bool true)], args := [d] }
  | _ => none }
def ranksQuantilesRow : OpenClaim := { program := "ythhoklgfgandpaa", sum := "147935f75663ff306dbad9c2073800031c4e5d1018622cad294a43e52d731ffb", func := "gnomon/gnomonlaw05.RanksQuantiles", spec := "ranksQuantiles", inPlace := ["math/bits.Add64"], unfollowed := true, recurses := true, named := ["math/bits.divideError", "math/bits.overflowError"], apart := false }
def RanksQuantilesSaid : Prop := ranksQuantilesRow.holds Try.pinned (OpenSpec.ofChange ranksQuantilesSpec)

/-- ITS FALSE NEIGHBOUR: 'it returns false'. Refute it at one input. -/
def ranksQuantilesWrong : ChangeSpec := { name := "ranksQuantiles", fn := fun _ => fun
  | [d] => { results := [.lit (.bool false)], args := [d] }
  | _ => none }
def RanksQuantilesWrongFalsely : Prop := ranksQuantilesRow.holds Try.pinned (OpenSpec.ofChange ranksQuantilesWrong)

/-- 'gnomonlaw05.RanksMerges': WHATEVER THE INPUT: true; the input reads as it did. -/
def ranksMergesSpec : ChangeSpec := { name := "ranksMerges", fn := fun _ => fun
  | [d] => { results := [.lit (.bool true)], args := [d] }
  | _ => none }
def ranksMergesRow : OpenClaim := { program := "ythhoklgfgandpaa", sum := "147935f75663ff306dbad9c2073800031c4e5d1018622cad294a43e52d731ffb", func := "gnomon/gnomonlaw05.RanksMerges", spec := "ranksMerges", inPlace := ["math/bits.Add64"], unfollowed := true, recurses := true, named := ["math/bits.divideError", "math/bits.overflowError"], apart := false }
def RanksMergesSaid : Prop := ranksMergesRow.holds Try.pinned (OpenSpec.ofChange ranksMergesSpec)

/-- ITS FALSE NEIGHBOUR: 'it returns false'. Refute it at one input. -/
def ranksMergesWrong : ChangeSpec := { name := "ranksMerges", fn := fun _ => fun
  | [d] => { results := [.lit (.bool false)], args := [d] }
  | _ => none }
def RanksMergesWrongFalsely : Prop := ranksMergesRow.holds Try.pinned (OpenSpec.ofChange ranksMergesWrong)

/-- 'gnomonlaw05.RanksKeeps': WHATEVER THE INPUT: true; the input reads as it did. -/
def ranksKeepsSpec : ChangeSpec := { name := "ranksKeeps", fn := fun _ => fun
  | [d1, d2] => { results := [.lit (.bool true)], args := [d1, d2] }
  | _ => none }
def ranksKeepsRow : OpenClaim := { program := "ythhoklgfgandpaa", sum := "147935f75663ff306dbad9c2073800031c4e5d1018622cad294a43e52d731ffb", func := "gnomon/gnomonlaw05.RanksKeeps", spec := "ranksKeeps", inPlace := ["math/bits.Add64"], unfollowed := true, recurses := true, named := ["math/bits.divideError", "math/bits.overflowError"], apart := false }
def RanksKeepsSaid : Prop := ranksKeepsRow.holds Try.pinned (OpenSpec.ofChange ranksKeepsSpec)

/-- ITS FALSE NEIGHBOUR: 'it returns false'. Refute it at one input. -/
def ranksKeepsWrong : ChangeSpec := { name := "ranksKeeps", fn := fun _ => fun
  | [d1, d2] => { results := [.lit (.bool false)], args := [d1, d2] }
  | _ => none }
def RanksKeepsWrongFalsely : Prop := ranksKeepsRow.holds Try.pinned (OpenSpec.ofChange ranksKeepsWrong)

/- THE SECOND FORM. 'bulk': how many values and letters a reading holds, each counted each time it is reached (what is shared counts as often as it is met; a slice's spare places count too). A statement '..UptoSaid' is the law's where the arguments, and the package variables that the reading takes, are together of bulk at most 1048576: NARROWER than '..Said'. Prove '..Said' where nothing that the law and all that it calls make is longer than what came in: it says more and counts as full. Else prove '..UptoSaid'. A law counts once. -/
mutual
def uptoBulk {H : Type} : DataW H → Nat
  | .lit (.string bytes) => bytes.length + 1
  | .lit _ => 1
  | .nil => 1
  | .ptr d => uptoBulk d + 1
  | .slice elems spare => uptoBulkAll elems + uptoBulkAll spare + 1
  | .agg parts => uptoBulkAll parts + 1
  | .iface _ d => uptoBulk d + 1
  | .map entries => uptoBulkEntries entries + 1
  | .held _ => 1
def uptoBulkAll {H : Type} : List (DataW H) → Nat
  | [] => 0
  | d :: r => uptoBulk d + uptoBulkAll r
def uptoBulkEntries {H : Type} : List (Lit × DataW H) → Nat
  | [] => 0
  | x :: r => uptoBulkEntry x + uptoBulkEntries r
def uptoBulkEntry {H : Type} : Lit × DataW H → Nat
  | (.string bytes, d) => bytes.length + uptoBulk d + 1
  | (_, d) => uptoBulk d + 1
 end
def uptoSmall : (H : Type) → List (DataW H) → Bool := fun _ ds => decide (uptoBulkAll ds ≤ 1048576)
def OpenSpec.upto (s : _root_.Go.ChangeSpec) : _root_.Go.OpenSpec := { _root_.Go.OpenSpec.ofChange s with cond := some uptoSmall }

/-- 'gnomonlaw05.RanksNames', WHERE WHAT IT READS IS OF BULK AT MOST 1048576: true; the input reads as it did. -/
def ranksNamesUptoRow : OpenClaim := { program := "ythhoklgfgandpaa", sum := "147935f75663ff306dbad9c2073800031c4e5d1018622cad294a43e52d731ffb", func := "gnomon/gnomonlaw05.RanksNames", spec := "ranksNames", inPlace := ["math/bits.Add64"], unfollowed := true, recurses := true, named := ["math/bits.divideError", "math/bits.overflowError"], apart := false, narrowed := true }
def RanksNamesUptoSaid : Prop := ranksNamesUptoRow.holds Try.pinned (OpenSpec.upto ranksNamesSpec)

/-- 'gnomonlaw05.RanksDoes', WHERE WHAT IT READS IS OF BULK AT MOST 1048576: true; the input reads as it did. -/
def ranksDoesUptoRow : OpenClaim := { program := "ythhoklgfgandpaa", sum := "147935f75663ff306dbad9c2073800031c4e5d1018622cad294a43e52d731ffb", func := "gnomon/gnomonlaw05.RanksDoes", spec := "ranksDoes", inPlace := ["math/bits.Add64"], unfollowed := true, recurses := true, named := ["math/bits.divideError", "math/bits.overflowError"], apart := false, narrowed := true }
def RanksDoesUptoSaid : Prop := ranksDoesUptoRow.holds Try.pinned (OpenSpec.upto ranksDoesSpec)

/-- 'gnomonlaw05.RanksQuantiles', WHERE WHAT IT READS IS OF BULK AT MOST 1048576: true; the input reads as it did. -/
def ranksQuantilesUptoRow : OpenClaim := { program := "ythhoklgfgandpaa", sum := "147935f75663ff306dbad9c2073800031c4e5d1018622cad294a43e52d731ffb", func := "gnomon/gnomonlaw05.RanksQuantiles", spec := "ranksQuantiles", inPlace := ["math/bits.Add64"], unfollowed := true, recurses := true, named := ["math/bits.divideError", "math/bits.overflowError"], apart := false, narrowed := true }
def RanksQuantilesUptoSaid : Prop := ranksQuantilesUptoRow.holds Try.pinned (OpenSpec.upto ranksQuantilesSpec)

/-- 'gnomonlaw05.RanksMerges', WHERE WHAT IT READS IS OF BULK AT MOST 1048576: true; the input reads as it did. -/
def ranksMergesUptoRow : OpenClaim := { program := "ythhoklgfgandpaa", sum := "147935f75663ff306dbad9c2073800031c4e5d1018622cad294a43e52d731ffb", func := "gnomon/gnomonlaw05.RanksMerges", spec := "ranksMerges", inPlace := ["math/bits.Add64"], unfollowed := true, recurses := true, named := ["math/bits.divideError", "math/bits.overflowError"], apart := false, narrowed := true }
def RanksMergesUptoSaid : Prop := ranksMergesUptoRow.holds Try.pinned (OpenSpec.upto ranksMergesSpec)

/-- 'gnomonlaw05.RanksKeeps', WHERE WHAT IT READS IS OF BULK AT MOST 1048576: true; the input reads as it did. -/
def ranksKeepsUptoRow : OpenClaim := { program := "ythhoklgfgandpaa", sum := "147935f75663ff306dbad9c2073800031c4e5d1018622cad294a43e52d731ffb", func := "gnomon/gnomonlaw05.RanksKeeps", spec := "ranksKeeps", inPlace := ["math/bits.Add64"], unfollowed := true, recurses := true, named := ["math/bits.divideError", "math/bits.overflowError"], apart := false, narrowed := true }
def RanksKeepsUptoSaid : Prop := ranksKeepsUptoRow.holds Try.pinned (OpenSpec.upto ranksKeepsSpec)

end Rows
end Go.Proofs.Ythhoklgfgandpaa
