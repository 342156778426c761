/- COUNTS, merged: the plain mathematics. Own work of the verifier. -/
import Derived.Handy
import Derived.Test.YtmmkboldkaehgaaGreatDoorRows
import Derived.WalkKit
import Derived.WalkSpells
import Derived.RowKit3
import Derived.Below
import Derived.Outline
import Derived.Deep.QuietTactic
import Derived.Deep.Draws
import Derived.BigQuiet
import Derived.Laws.Bits64
import Derived.Laws.BitsAllLaws
import Derived.Laws.ShiftsVarLaws
import Derived.Deep.RegionHeld3
import Derived.Deep.DeepCutAuto
import Derived.RangeFuncNested
import Derived.RangeFuncBound
import Derived.RangeFuncCalls
import Derived.RangeFuncLeaves
import Derived.Shelf.Abstract
import Derived.Shelf.RegionOpen
import Derived.OwnWalkIn
import Derived.TacticsInMore
import Derived.LoopNIn
import Derived.LoopIn
namespace Go.Proofs.YtmmkboldkaehgaaGreatDoor

/-- A count: an index and a number. -/
abbrev Cn := Int × Nat
/-- What all counts of an index come to. -/
def key : List Cn → Int → Nat
  | [], _ => 0
  | c :: L, k => (if c.1 = k then c.2 else 0) + key L k
end Go.Proofs.YtmmkboldkaehgaaGreatDoor
/- Buckets, in whole numbers. Own work of the verifier. -/
namespace Go.Proofs.YtmmkboldkaehgaaGreatDoor

def kk (P i : Nat) : Nat := i / P - 1
def rr (P i : Nat) : Nat := i - kk P i * P
def lo (P i : Nat) : Nat := rr P i * 2 ^ kk P i

end Go.Proofs.YtmmkboldkaehgaaGreatDoor
/- THE LEAVES of bucket. Own work of the verifier. -/
namespace Go.Proofs.YtmmkboldkaehgaaGreatDoor
open Go.RowKit

theorem retI {k : IntKind} {A B : Int} (h : A = B) : Ending.returned (Value.int k A) = .returned (.int k B) := by rw [h]
theorem retB {A B : Bool} (h : A = B) : Ending.returned (Value.bool A) = .returned (.bool B) := by rw [h]

theorem window {p v k s : Nat} (h : k + max (2 * s) 1 ≤ 64 ∧ v / 2 ^ (k + max (2 * s) 1) < 2 ^ p ∧ (k = 0 ∨ 2 ^ p ≤ v / 2 ^ k)) (hs : s = 1 ∨ s = 2 ∨ s = 4 ∨ s = 8 ∨ s = 16 ∨ s = 32) :
    (2 ^ p ≤ v / 2 ^ (k + s) → (k + s) + max (2 * (s / 2)) 1 ≤ 64 ∧ v / 2 ^ ((k + s) + max (2 * (s / 2)) 1) < 2 ^ p ∧ ((k + s) = 0 ∨ 2 ^ p ≤ v / 2 ^ (k + s))) ∧
    (¬ 2 ^ p ≤ v / 2 ^ (k + s) → k + max (2 * (s / 2)) 1 ≤ 64 ∧ v / 2 ^ (k + max (2 * (s / 2)) 1) < 2 ^ p ∧ (k = 0 ∨ 2 ^ p ≤ v / 2 ^ k)) := by
  have e1 : max (2 * s) 1 = 2 * s := by omega
  have e2 : max (2 * (s / 2)) 1 = s := by omega
  rw [e1] at h
  rw [e2]
  obtain ⟨a, b, c⟩ := h
  exact ⟨fun d => ⟨by omega, by rw [show k + s + s = k + 2 * s by omega]; exact b, Or.inr d⟩, fun d => ⟨by omega, by omega, c⟩⟩
end Go.Proofs.YtmmkboldkaehgaaGreatDoor
/- THE CALLS of bucket. Own work of the verifier. -/
namespace Go.Proofs.YtmmkboldkaehgaaGreatDoor
open Go.RowKit

abbrev two (a e : Int) : Ending := .returned (.tuple #[.int .i64 a, .int .i64 e])
abbrev three (a b e : Int) : Ending := .returned (.tuple #[.int .i64 a, .int .i64 b, .int .i64 e])

end Go.Proofs.YtmmkboldkaehgaaGreatDoor
/- LISTS OF COUNTS in memory; Total. Own work of the verifier. -/
namespace Go.Proofs.YtmmkboldkaehgaaGreatDoor
open Go.RowKit

theorem lt_of_cell {w : World} {a : Addr} {v : Value} (h : w.cell? a = some v) : a.block < w.heap.size := by
  unfold World.cell? at h
  split at h
  · rename_i h1
    rcases Nat.lt_or_ge a.block w.heap.size with k | k
    · exact k
    · rw [Array.getElem?_eq_none k] at h1; cases h1
  · cases h
end Go.Proofs.YtmmkboldkaehgaaGreatDoor
/- A RANGE OVER AN ITERATOR THAT HAS CELLS OF ITS OWN: the law. Own work of the verifier. -/
namespace Go.Proofs.YtmmkboldkaehgaaGreatDoor
open Go.RowKit Go.Shelf

/-- Nothing has turned but blocks from n0 up to B. -/
structure Mid (n0 B : Nat) (W W' : World) : Prop where
  os : W'.os = W.os
  tape : W'.tape = W.tape
  output : W'.output = W.output
  size : W.heap.size ≤ W'.heap.size
  block : ∀ k, k < W.heap.size → ¬ (n0 ≤ k ∧ k < B) → W'.heap[k]? = W.heap[k]?
theorem Mid.refl (n0 B : Nat) (W : World) : Mid n0 B W W := ⟨rfl, rfl, rfl, Nat.le_refl _, fun _ _ _ => rfl⟩
theorem Mid.setCell {n0 B : Nat} {a w : World} (h : Mid n0 B a w) {p : Addr} (hp : (n0 ≤ p.block ∧ p.block < B) ∨ a.heap.size ≤ p.block) (u : Value) : Mid n0 B a (w.setCell p u) :=
  ⟨h.os, h.tape, h.output, Nat.le_trans h.size (by simp [World.setCell]), fun k hk hn => (Below.heap_setCell _ _ _ _ (fun e => by subst e; rcases hp with hp | hp; exact hn hp; omega)).trans (h.block k hk hn)⟩
theorem Mid.toBelow {n0 B : Nat} {a b : World} (h : Mid n0 B a b) (ha : n0 ≤ a.heap.size) : Below n0 a b := ⟨h.os, h.tape, h.output, h.size, fun k hk => h.block k (by omega) (by omega)⟩

def midPost (n0 B : Nat) (I : Nat → World → Prop) (Ix : Code → Nat → World → Prop) (i : Nat) (W : World) : Exit → Act → World → Prop
  | .normal, _, W' => Mid n0 B W W' ∧ I i W'
  | .ret, _, W' => Mid n0 B W W' ∧ Ix .ret i W'
  | .exit id, _, W' => Mid n0 B W W' ∧ Ix (.exit id) i W'
  | .goto t, _, W' => Mid n0 B W W' ∧ Ix (.goto t) i W'
  | .panic _, _, _ => False
  | .outgrown, _, _ => False


end Go.Proofs.YtmmkboldkaehgaaGreatDoor
