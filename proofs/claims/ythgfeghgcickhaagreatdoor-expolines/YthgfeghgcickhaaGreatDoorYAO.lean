/- THE DOCUMENT's calls of bucket. Own work of the verifier. -/
import Derived.Test.YthgfeghgcickhaaGreatDoorYAN
import Derived.Test.YthgfeghgcickhaaGreatDoorYAM
import Derived.WalkKit
import Derived.WalkSpells
import Derived.RowKit3
import Derived.Below
import Derived.Outline
import Derived.Deep.QuietTactic
import Derived.Deep.Draws
import Derived.BigQuiet
import Derived.Laws.Bits64
import Derived.Laws.BitsAllLaws
import Derived.Deep.RegionHeld3
import Derived.Deep.DeepCutAuto
namespace Go.Proofs.YthgfeghgcickhaaGreatDoor
open Go.RowKit

end Go.Proofs.YthgfeghgcickhaaGreatDoor
/- LISTS OF COUNTS in memory; Total. Own work of the verifier. -/
namespace Go.Proofs.YthgfeghgcickhaaGreatDoor
open Go.RowKit

def Wc (L : List Cn) : Prop := ∀ c ∈ L, -9223372036854775808 ≤ c.1 ∧ c.1 < 9223372036854775808 ∧ c.2 < 18446744073709551616
def RowC (W : World) (b o : Nat) (L : List Cn) : Prop := ∀ i (h : i < L.length), W.cell? ⟨b, o + i * 2, none⟩ = some (.int .i64 L[i].1) ∧ W.cell? ⟨b, o + i * 2 + 1, none⟩ = some (.int .u64 (L[i].2 : Int))
theorem lt_of_cell {w : World} {a : Addr} {v : Value} (h : w.cell? a = some v) : a.block < w.heap.size := by
  unfold World.cell? at h
  split at h
  · rename_i h1
    rcases Nat.lt_or_ge a.block w.heap.size with k | k
    · exact k
    · rw [Array.getElem?_eq_none k] at h1; cases h1
  · cases h
theorem RowC.lt {W : World} {b o : Nat} {L : List Cn} (h : RowC W b o L) (hL : L ≠ []) : b < W.heap.size := by
  have h0 : 0 < L.length := List.length_pos_iff.2 hL
  exact lt_of_cell (h 0 h0).1
theorem RowC.below {W W1 : World} {b o : Nat} {L : List Cn} {B : Nat} (h : RowC W b o L) (hb : Below B W W1) (hB : L ≠ [] → b < B) : RowC W1 b o L := fun i hi => by
  have hL : L ≠ [] := fun e => by rw [e] at hi; simp at hi
  rw [hb.cell (p := ⟨b, o + i * 2, none⟩) (hB hL), hb.cell (p := ⟨b, o + i * 2 + 1, none⟩) (hB hL)]
  exact h i hi
/-- The sum of all, brought round. -/
def tot (L : List Cn) : Nat := (L.map (·.2)).sum % 18446744073709551616
end Go.Proofs.YthgfeghgcickhaaGreatDoor
/- Same and At, the document's. Own work of the verifier. -/
namespace Go.Proofs.YthgfeghgcickhaaGreatDoor
open Go.RowKit

end Go.Proofs.YthgfeghgcickhaaGreatDoor
/- At, the document's. Own work of the verifier. -/
namespace Go.Proofs.YthgfeghgcickhaaGreatDoor
open Go.RowKit

def atF : List Cn → Nat → Int × Int
  | [], _ => (0, 2)
  | c :: L, r => if r = 0 then (0, 2) else if r ≤ c.2 then (c.1, 0) else atF L (r - c.2)
end Go.Proofs.YthgfeghgcickhaaGreatDoor
