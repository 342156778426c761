/- PRODUCTS AND QUOTIENTS, the document's, once more. Own work of the verifier. -/
import Derived.Test.YtkakanejiakbkaaGreatDoorVAM
import Derived.Test.YtkakanejiakbkaaGreatDoorRows
import Derived.WalkKit
import Derived.WalkSpells
import Derived.RowKit3
import Derived.Below
import Derived.Outline
import Derived.Deep.QuietTactic
import Derived.BigQuiet
import Derived.Laws.Bits64
import Derived.Laws.BitsAllLaws
import Derived.Laws.ShiftsVarLaws
import Derived.Handy
namespace Go.Proofs.YtkakanejiakbkaaGreatDoor
open Go.RowKit

end Go.Proofs.YtkakanejiakbkaaGreatDoor
/- Rank, AtMost, Quantile, the document's. Own work of the verifier. -/
namespace Go.Proofs.YtkakanejiakbkaaGreatDoor
open Go.RowKit

theorem mayIs_ex (p : Int) (L : List Cn) : ∃ e, MayIs p L e := by
  by_cases hp : 1 ≤ p ∧ p ≤ 14
  · by_cases h : ∀ j, j < L.length → bad ((64 - p.toNat) * 2 ^ p.toNat) L j = 0
    · exact ⟨_, Or.inr ⟨hp, Or.inr ⟨h, rfl⟩⟩⟩
    · have : ∀ m, (∃ j, j < m ∧ j < L.length ∧ bad ((64 - p.toNat) * 2 ^ p.toNat) L j ≠ 0) → ∃ i, i < L.length ∧ (∀ j, j < i → bad ((64 - p.toNat) * 2 ^ p.toNat) L j = 0) ∧ bad ((64 - p.toNat) * 2 ^ p.toNat) L i ≠ 0 := by
        intro m
        induction m with
        | zero => rintro ⟨j, hj, _⟩; omega
        | succ m ih =>
          rintro ⟨j, hj, hl, hb⟩
          by_cases c : ∃ j, j < m ∧ j < L.length ∧ bad ((64 - p.toNat) * 2 ^ p.toNat) L j ≠ 0
          · exact ih c
          · have e : j = m := by
              by_cases h' : j < m
              · exact absurd ⟨j, h', hl, hb⟩ c
              · omega
            subst e
            refine ⟨j, hl, fun k hk => ?_, hb⟩
            by_cases h' : bad ((64 - p.toNat) * 2 ^ p.toNat) L k = 0
            · exact h'
            · exact absurd ⟨k, hk, by omega, h'⟩ c
      have hex : ∃ j, j < L.length ∧ j < L.length ∧ bad ((64 - p.toNat) * 2 ^ p.toNat) L j ≠ 0 := by
        apply Classical.byContradiction
        intro hn
        exact h fun j hj => Classical.byContradiction fun hb => hn ⟨j, hj, hj, hb⟩
      obtain ⟨i, h1, h2, h3⟩ := this _ hex
      exact ⟨_, Or.inr ⟨hp, Or.inl ⟨i, h1, h2, h3, rfl⟩⟩⟩
  · exact ⟨1, Or.inl ⟨hp, rfl⟩⟩
end Go.Proofs.YtkakanejiakbkaaGreatDoor
/- exact and less: the law's own. Own work of the verifier. -/
namespace Go.Proofs.YtkakanejiakbkaaGreatDoor
open Go.RowKit

end Go.Proofs.YtkakanejiakbkaaGreatDoor
/- exact: the law's own. Own work of the verifier. -/
namespace Go.Proofs.YtkakanejiakbkaaGreatDoor
open Go.RowKit

end Go.Proofs.YtkakanejiakbkaaGreatDoor
/- AtMost, Quantile, the document's. Own work of the verifier. -/
namespace Go.Proofs.YtkakanejiakbkaaGreatDoor
open Go.RowKit

theorem below_drew (w : World) (n : Nat) : Below w.heap.size w (w.drewN n) := by
  induction n with
  | zero => exact Below.refl _ _
  | succ n ih => exact ih.drew
/-- The greatest value of a bucket. -/
def hiV (p i : Nat) : Nat := lo (2 ^ p) i + 2 ^ kk (2 ^ p) i - 1
/-- Counts that may be. -/
theorem may_ok {p : Int} {L : List Cn} (h : MayIs p L 0) : (1 ≤ p ∧ p ≤ 14) ∧ sumN L ≤ 9223372036854775807 ∧ ∀ i (hi : i < L.length), 0 ≤ L[i].1 ∧ L[i].1 < (((64 - p.toNat) * 2 ^ p.toNat : Nat) : Int) ∧ L[i].2 ≠ 0 := by
  rcases h with ⟨_, h⟩ | ⟨hp, h⟩
  · exact absurd h (by decide)
  · rcases h with ⟨i, _, _, h3, h4⟩ | ⟨h1, h2⟩
    · exact absurd h4.symm h3
    · refine ⟨hp, ?_, fun i hi => ?_⟩
      · by_cases c : 9223372036854775807 < sumN L
        · rw [if_pos c] at h2; exact absurd h2 (by decide)
        · omega
      · have hb := h1 i hi
        unfold bad at hb
        rw [show L.getD i (0, 1) = L[i] from by simp [List.getD, hi]] at hb
        by_cases c1 : L[i].1 < 0 ∨ (((64 - p.toNat) * 2 ^ p.toNat : Nat) : Int) ≤ L[i].1
        · rw [if_pos c1] at hb; exact absurd hb (by decide)
        · rw [if_neg c1] at hb
          by_cases c2 : 0 < i ∧ L[i].1 ≤ (L.getD (i - 1) (0, 1)).1
          · rw [if_pos c2] at hb; exact absurd hb (by decide)
          · rw [if_neg c2] at hb
            by_cases c3 : L[i].2 = 0
            · rw [if_pos c3] at hb; exact absurd hb (by decide)
            · exact ⟨by omega, by omega, c3⟩
end Go.Proofs.YtkakanejiakbkaaGreatDoor
