/- Utf, the document's: THE WALK; text. Own work of the verifier. -/
import Derived.Test.YthgfeghgcickhaaGreatDoorYAC
import Derived.Lib.Strings
import Derived.Sort.Walk0
namespace Go.Proofs.YthgfeghgcickhaaGreatDoor.La
open Go.RowKit

/-- How great what was read so far may be, by how many bytes were read. -/
def Low (k c : Nat) : Prop := (k = 1 → c < 32) ∧ (k = 2 → c < 2048) ∧ (k = 3 → c < 131072) ∧ (k = 4 → c < 8388608) ∧ c < 8388608
end Go.Proofs.YthgfeghgcickhaaGreatDoor.La
/- text, behind, order, the document's. Own work of the verifier. -/
namespace Go.Proofs.YthgfeghgcickhaaGreatDoor.La
open Go.RowKit

/-- What is wrong with a help or a value. -/
def txE (l : List UInt8) : Int := if 1024 < l.length then 4 else if utfB l then 0 else 11
/-- Bytewise less. -/
def bltB (a b : List UInt8) : Bool := decide (a < b)
theorem less_list (a b : List UInt8) : Op.bytesLess a b = bltB a b := by
  unfold bltB
  rw [Proofs.bytesLess_eq]
def bhE (a b : List UInt8) : Int := if a = b then 10 else if bltB b a then 15 else 0
def ordE (a b : List UInt8) : Int := if bltB a b then -1 else if bltB b a then 1 else 0
end Go.Proofs.YthgfeghgcickhaaGreatDoor.La
