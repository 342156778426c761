/- THE CODE KEEPS TO THE DOCUMENT. Own work of the verifier. -/
import Derived.Test.YthhoklgfgandpaaX5
import Derived.Test.YthhoklgfgandpaaY8
import Derived.Test.YthhoklgfgandpaaE10
namespace Go.Proofs.Ythhoklgfgandpaa
open Go.RowKit

theorem doc_now : Doc 11 13 9 16 18 20 22 := by
  constructor
  · exact may_any
  · exact total_any
  · exact at_any
  · intro W v v' A C hA hC hW lA lC
    exact cmerge_any W v v' A C hA hC hW lA lC
  · intro W n num den hn hd
    exact crank_any n num den hn hd W
  · intro W v L p num den x h hW hl hx hd
    by_cases h0 : x = 0
    · subst h0
      have hp := (may_ok hx).1
      obtain ⟨P, rfl⟩ := Int.eq_ofNat_of_zero_le (by omega : 0 ≤ p)
      exact cquant_ok W v P L h hW hl hx num den hd
    · rw [if_neg h0, if_neg h0]
      exact cquant_not W v p L h hW hl hx h0 num den
  · intro W v L p y x h hW hl hx
    by_cases h0 : x = 0
    · subst h0
      have hp := (may_ok hx).1
      obtain ⟨P, rfl⟩ := Int.eq_ofNat_of_zero_le (by omega : 0 ≤ p)
      exact most_ok W v L P y h hW hl hx
    · rw [if_neg h0]
      exact most_not W v L p x y h hW hl hx h0
end Go.Proofs.Ythhoklgfgandpaa
