/- Utf, the document's: THE WALK; text. Own work of the verifier. -/
import Derived.Test.YthgfeghgcickhaaGreatDoorZAC
namespace Go.Proofs.YthgfeghgcickhaaGreatDoor.La
open Go.RowKit

/-- How great what was read so far may be, by how many bytes were read. -/
def Low (k c : Nat) : Prop := (k = 1 → c < 32) ∧ (k = 2 → c < 2048) ∧ (k = 3 → c < 131072) ∧ (k = 4 → c < 8388608) ∧ c < 8388608
end Go.Proofs.YthgfeghgcickhaaGreatDoor.La
