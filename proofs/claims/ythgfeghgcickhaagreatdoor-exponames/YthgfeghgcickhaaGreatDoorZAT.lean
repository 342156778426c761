/- THE PLAIN MATHEMATICS of products and of a division bit by bit (no Go in sight). Own work of the verifier. -/
import Derived.Test.YthgfeghgcickhaaGreatDoorZAL
import Derived.Test.YthgfeghgcickhaaGreatDoorZAK
import Derived.Test.YthgfeghgcickhaaGreatDoorRows
import Derived.WalkKit
import Derived.WalkSpells
import Derived.RowKit3
import Derived.Below
import Derived.Outline
import Derived.Deep.QuietTactic
import Derived.BigQuiet
import Derived.Laws.Bits64
import Derived.Laws.BitsAllLaws
import Derived.Laws.ShiftsVarLaws
import Derived.Handy
import Derived.Test.YthgfeghgcickhaaGreatDoorZAS
namespace Go.Proofs.YthgfeghgcickhaaGreatDoor


end Go.Proofs.YthgfeghgcickhaaGreatDoor
/- PRODUCTS AND QUOTIENTS, the document's, once more. Own work of the verifier. -/
namespace Go.Proofs.YthgfeghgcickhaaGreatDoor
open Go.RowKit

end Go.Proofs.YthgfeghgcickhaaGreatDoor
/- Rank, AtMost, Quantile, the document's. Own work of the verifier. -/
namespace Go.Proofs.YthgfeghgcickhaaGreatDoor
open Go.RowKit

theorem mayIs_ex (p : Int) (L : List Cn) : ∃ e, MayIs p L e := by
  by_cases hp : 1 ≤ p ∧ p ≤ 14
  · by_cases h : ∀ j, j < L.length → bad ((64 - p.toNat) * 2 ^ p.toNat) L j = 0
    · exact ⟨_, Or.inr ⟨hp, Or.inr ⟨h, rfl⟩⟩⟩
    · have : ∀ m, (∃ j, j < m ∧ j < L.length ∧ bad ((64 - p.toNat) * 2 ^ p.toNat) L j ≠ 0) → ∃ i, i < L.length ∧ (∀ j, j < i → bad ((64 - p.toNat) * 2 ^ p.toNat) L j = 0) ∧ bad ((64 - p.toNat) * 2 ^ p.toNat) L i ≠ 0 := by
        intro m
        induction m with
        | zero => rintro ⟨j, hj, _⟩; omega
        | succ m ih =>
          rintro ⟨j, hj, hl, hb⟩
          by_cases c : ∃ j, j < m ∧ j < L.length ∧ bad ((64 - p.toNat) * 2 ^ p.toNat) L j ≠ 0
          · exact ih c
          · have e : j = m := by
              by_cases h' : j < m
              · exact absurd ⟨j, h', hl, hb⟩ c
              · omega
            subst e
            refine ⟨j, hl, fun k hk => ?_, hb⟩
            by_cases h' : bad ((64 - p.toNat) * 2 ^ p.toNat) L k = 0
            · exact h'
            · exact absurd ⟨k, hk, by omega, h'⟩ c
      have hex : ∃ j, j < L.length ∧ j < L.length ∧ bad ((64 - p.toNat) * 2 ^ p.toNat) L j ≠ 0 := by
        apply Classical.byContradiction
        intro hn
        exact h fun j hj => Classical.byContradiction fun hb => hn ⟨j, hj, hj, hb⟩
      obtain ⟨i, h1, h2, h3⟩ := this _ hex
      exact ⟨_, Or.inr ⟨hp, Or.inl ⟨i, h1, h2, h3, rfl⟩⟩⟩
  · exact ⟨1, Or.inl ⟨hp, rfl⟩⟩
end Go.Proofs.YthgfeghgcickhaaGreatDoor
