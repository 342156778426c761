/- THE DOCUMENT's SUM OF TWO FLOATS. Own work of the verifier. -/
import Derived.Test.YtfnohbalkpponaaGreatDoorZAP
namespace Go.Proofs.YtfnohbalkpponaaGreatDoor.Pr
open Go.RowKit Soft

end Go.Proofs.YtfnohbalkpponaaGreatDoor.Pr
/- LOSSES AND PAIRS, by words. Own work of the verifier. -/
namespace Go.Proofs.YtfnohbalkpponaaGreatDoor.Soft

def geq (x y : Nat) : Bool := !isn x && !isn y && decide (y % 9223372036854775808 ≤ x % 9223372036854775808)
/-- What rounding loses of a sum. -/
def fl (x y : Nat) : Nat := if geq x y then fa (fa x (neg (fa x y))) y else fa (fa y (neg (fa x y))) x
def putW (p : Nat × Nat) (x : Nat) : Nat × Nat := (fa p.1 x, fa p.2 (fl p.1 x))
theorem add_not_nan {x y r : Nat} (hx : x < 18446744073709551616) (hy : y < 18446744073709551616) (h : Ieee.double.add x y = some r) : isn r = false := by
  rcases word_cases x hx with k | ⟨s, rfl⟩ | ⟨s, a, rfl, ha⟩
  · rw [add_nan1 y hx k] at h; cases h
  · rcases word_cases y hy with k | ⟨t, rfl⟩ | ⟨t, b, rfl, hb⟩
    · rw [add_nan2 _ hy k] at h; cases h
    · rw [add_inf_inf] at h
      split at h
      · cases h; rw [isn_sw s (by omega)]; decide
      · cases h
    · rw [add_inf_fin s t hb] at h; cases h; rw [isn_sw s (by omega)]; decide
  · rcases word_cases y hy with k | ⟨t, rfl⟩ | ⟨t, b, rfl, hb⟩
    · rw [add_nan2 _ hy k] at h; cases h
    · rw [add_fin_inf t s ha] at h; cases h; rw [isn_sw t (by omega)]; decide
    · rw [add_fin s t a b ha hb] at h
      cases h
      unfold addW
      split
      · rw [isn_sw _ (by omega)]; decide
      · rw [isn_sw _ (by have := nrung_le (sv s a + sv t b).natAbs; omega)]
        exact decide_eq_false (by have := nrung_le (sv s a + sv t b).natAbs; omega)
theorem fa_can (x y : Nat) (hx : x < 18446744073709551616) (hy : y < 18446744073709551616) : one (fa x y) = fa x y := by
  unfold fa
  cases h : Ieee.double.add x y with
  | none => decide
  | some r => exact one_of_not (add_not_nan hx hy h)
theorem fl_lt (x y : Nat) : fl x y < 18446744073709551616 := by unfold fl; split <;> exact fa_lt _ _
theorem fl_can (x y : Nat) (hx : x < 18446744073709551616) (hy : y < 18446744073709551616) : one (fl x y) = fl x y := by
  unfold fl; split
  · exact fa_can _ _ (fa_lt _ _) hy
  · exact fa_can _ _ (fa_lt _ _) hx
theorem order_geq (x y : Nat) (_hx : x < 18446744073709551616) (_hy : y < 18446744073709551616) :
    (Ieee.double.order (x % 9223372036854775808) (y % 9223372036854775808) == some .gt || Ieee.double.order (x % 9223372036854775808) (y % 9223372036854775808) == some .eq) = geq x y := by
  unfold geq isn
  have ha : x % 9223372036854775808 < 9223372036854775808 := by omega
  have hb : y % 9223372036854775808 < 9223372036854775808 := by omega
  generalize x % 9223372036854775808 = a at *
  generalize y % 9223372036854775808 = b at *
  by_cases h1 : 9218868437227405312 < a
  · have := order_nan1 false a b h1 ha
    rw [show sw false a = a from rfl] at this
    rw [this, decide_eq_true h1]; rfl
  · by_cases h2 : 9218868437227405312 < b
    · have := order_nan2 false b a h2 hb
      rw [show sw false b = b from rfl] at this
      rw [this, decide_eq_true h2]; simp
    · have := order_all false false a b (by omega) (by omega)
      rw [show sw false a = a from rfl, show sw false b = b from rfl, show sr false a = (a : Int) from rfl, show sr false b = (b : Int) from rfl] at this
      rw [this, decide_eq_false h1, decide_eq_false h2]
      rcases Int.lt_trichotomy (a : Int) (b : Int) with k | k | k
      · rw [Int.compare_eq_lt.2 k, decide_eq_false (by omega)]; rfl
      · rw [show compare (a : Int) (b : Int) = .eq from Int.compare_eq_eq.2 k, decide_eq_true (by omega)]; rfl
      · rw [Int.compare_eq_gt.2 k, decide_eq_true (by omega)]; rfl
end Go.Proofs.YtfnohbalkpponaaGreatDoor.Soft
