/- BELOW THE LEAST NORMAL FLOAT the values rise too. Own work of the verifier. -/
import Derived.Test.YtmejmohambhaaaaGreatDoorV7
import Derived.Test.YtmejmohambhaaaaGreatDoorV5
namespace Go.Proofs.YtmejmohambhaaaaGreatDoor
open Go.RowKit

theorem short_low (f z : Nat) (hz : 12 ≤ z) : shortF (f * 2 ^ z) (-1074 - (z : Int)) = pick (f * 2 ^ z) (f * 2 ^ z - 2 ^ (z - 1)) (f * 2 ^ z + 2 ^ (z - 1)) (f % 2) (-1074 - (z : Int)) (-(l10 (-1074))) := by
  unfold shortF
  rw [if_neg (by omega), if_neg (by omega), show (-1075 - (-1074 - (z : Int))).toNat = z - 1 from by omega, show (-1074 - (-1074 - (z : Int))).toNat = z from by omega, Nat.mul_div_cancel _ (Nat.pow_pos (by decide))]
theorem rise_low (f z : Nat) (hz0 : 12 ≤ z) (hz1 : z ≤ 63) (h0 : 9223372036854775808 ≤ f * 2 ^ z) (h1 : (f + 2) * 2 ^ z ≤ 18446744073709551616) :
    ltV (shortF (f * 2 ^ z) (-1074 - (z : Int))) (shortF ((f + 1) * 2 ^ z) (-1074 - (z : Int))) = true := by
  rw [short_low f z hz0, short_low (f + 1) z hz0]
  have hE := ok_sub (-1074 - (z : Int)) (by omega) (by omega)
  have hW := wide_sub (-1074 - (z : Int)) (by omega) (by omega)
  rw [show (-1075 - (-1074 - (z : Int))).toNat = z - 1 from by omega] at hW
  refine ltV_of _ _ (-(l10 (-1074))) (by decide) (pick_two ..) (pick_two ..) ?_
  have hg : 2 ^ (z - 1) ≤ 4611686018427387904 := by
    have : 2 ^ (z - 1) ≤ 2 ^ 62 := Nat.pow_le_pow_right (by decide) (by omega)
    exact this
  have hg0 : 0 < 2 ^ (z - 1) := Nat.pow_pos (by decide)
  have e1 : (f + 1) * 2 ^ z = f * 2 ^ z + 2 ^ z := by rw [Nat.add_mul, Nat.one_mul]
  have e2 : (f + 2) * 2 ^ z = f * 2 ^ z + 2 * 2 ^ z := by rw [Nat.add_mul]
  have e3 : 2 ^ z = 2 * 2 ^ (z - 1) := by rw [← Nat.pow_succ', show (z - 1).succ = z from by omega]
  have a := (pick_sym (f * 2 ^ z) (2 ^ (z - 1)) (f % 2) _ _ (by omega) (by omega) (by omega) (by omega) hE hW).2.1
  have b := (pick_sym ((f + 1) * 2 ^ z) (2 ^ (z - 1)) ((f + 1) % 2) _ _ (by omega) (by omega) (by omega) (by omega) hE hW).1
  have u := scl_between (f * 2 ^ z + 2 ^ (z - 1)) _ _ (by omega) (by omega) hE
  have c := high_low (scl (f * 2 ^ z + 2 ^ (z - 1)) (-1074 - (z : Int)) (-(l10 (-1074)))) (f % 2) (by omega) (by omega) (by omega)
  rw [show (f + 1) % 2 = 1 - f % 2 from by omega] at b ⊢
  have e4 : (f + 1) * 2 ^ z - 2 ^ (z - 1) = f * 2 ^ z + 2 ^ (z - 1) := by omega
  rw [e4] at b ⊢
  exact Nat.lt_of_le_of_lt a (Nat.lt_of_lt_of_le c b)
end Go.Proofs.YtmejmohambhaaaaGreatDoor
