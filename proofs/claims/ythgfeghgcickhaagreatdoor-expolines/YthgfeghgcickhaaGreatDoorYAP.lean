/- May, the document's. Own work of the verifier. -/
import Derived.Test.YthgfeghgcickhaaGreatDoorYAO
import Derived.Test.YthgfeghgcickhaaGreatDoorYAJ
import Derived.Test.YthgfeghgcickhaaGreatDoorRows
import Derived.WalkKit
import Derived.WalkSpells
import Derived.RowKit3
import Derived.Below
import Derived.Outline
import Derived.Deep.QuietTactic
import Derived.BigQuiet
import Derived.Laws.Bits64
import Derived.Laws.BitsAllLaws
import Derived.Laws.ShiftsVarLaws
import Derived.Handy
namespace Go.Proofs.YthgfeghgcickhaaGreatDoor
open Go.RowKit

/-- What is wrong with a count at its place; 0: nothing. -/
def bad (N : Nat) (L : List Cn) (i : Nat) : Int :=
  if (L.getD i (0, 1)).1 < 0 ∨ (N : Int) ≤ (L.getD i (0, 1)).1 then 2
  else if 0 < i ∧ (L.getD i (0, 1)).1 ≤ (L.getD (i - 1) (0, 1)).1 then 15
  else if (L.getD i (0, 1)).2 = 0 then 16 else 0
def sumN (L : List Cn) : Nat := (L.map (·.2)).sum
theorem sumN_take (L : List Cn) (i : Nat) (h : i < L.length) : sumN (L.take (i + 1)) = sumN (L.take i) + L[i].2 := by
  unfold sumN
  rw [List.take_succ_eq_append_getElem h, List.map_append, List.sum_append]
  simp
/-- The error of counts. -/
def MayIs (p : Int) (L : List Cn) (e : Int) : Prop :=
  (¬ (1 ≤ p ∧ p ≤ 14) ∧ e = 1) ∨ ((1 ≤ p ∧ p ≤ 14) ∧ ((∃ i, i < L.length ∧ (∀ j, j < i → bad ((64 - p.toNat) * 2 ^ p.toNat) L j = 0) ∧ bad ((64 - p.toNat) * 2 ^ p.toNat) L i ≠ 0 ∧ e = bad ((64 - p.toNat) * 2 ^ p.toNat) L i) ∨
    ((∀ j, j < L.length → bad ((64 - p.toNat) * 2 ^ p.toNat) L j = 0) ∧ e = if 9223372036854775807 < sumN L then 3 else 0)))
theorem MayIs.uniq {p : Int} {L : List Cn} {e f : Int} (h : MayIs p L e) (k : MayIs p L f) : e = f := by
  rcases h with ⟨h1, rfl⟩ | ⟨h1, h2⟩
  · rcases k with ⟨_, rfl⟩ | ⟨k1, _⟩
    · rfl
    · exact absurd k1 h1
  · rcases k with ⟨k1, _⟩ | ⟨_, k2⟩
    · exact absurd h1 k1
    · rcases h2 with ⟨i, a1, a2, a3, rfl⟩ | ⟨a1, rfl⟩ <;> rcases k2 with ⟨j, b1, b2, b3, rfl⟩ | ⟨b1, rfl⟩
      · rcases Nat.lt_trichotomy i j with c | c | c
        · exact absurd (b2 i c) a3
        · rw [c]
        · exact absurd (a2 j c) b3
      · exact absurd (b1 i a1) a3
      · exact absurd (a1 j b1) b3
      · rfl
end Go.Proofs.YthgfeghgcickhaaGreatDoor
/- THE PLAIN MATHEMATICS of products and of a division bit by bit (no Go in sight). Own work of the verifier. -/
namespace Go.Proofs.YthgfeghgcickhaaGreatDoor


end Go.Proofs.YthgfeghgcickhaaGreatDoor
/- PRODUCTS AND QUOTIENTS, the document's, once more. Own work of the verifier. -/
namespace Go.Proofs.YthgfeghgcickhaaGreatDoor
open Go.RowKit

end Go.Proofs.YthgfeghgcickhaaGreatDoor
