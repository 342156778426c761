/- THE PLAIN MATHEMATICS of a division of two words by one, its end. Own work of the verifier. -/
import Derived.Test.YtgkdggcpplmnaaaGreatZAB
import Derived.Test.YtgkdggcpplmnaaaGreatZAK
import Derived.Test.YtgkdggcpplmnaaaGreatZAG
import Derived.Test.YtgkdggcpplmnaaaGreatShelf
import Derived.Test.YtgkdggcpplmnaaaGreatZAC
namespace Go.Proofs.YtgkdggcpplmnaaaGreat


/-- A divisor, shifted up to its greatest bit. -/
theorem bitLen_norm (y : Nat) (h0 : 0 < y) (h1 : y < 18446744073709551616) : Lib.bitLen y ≤ 64 ∧ 1 ≤ Lib.bitLen y ∧ 9223372036854775808 ≤ y * 2 ^ (64 - Lib.bitLen y) ∧ y * 2 ^ (64 - Lib.bitLen y) < 18446744073709551616 := by
  have b := Lib.bitLenAux_bounds 64 y (by omega) (by omega)
  have hle := Lib.bitLen_le y 64 (Nat.le_refl _) (by omega)
  change 1 ≤ Lib.bitLen y ∧ 2 ^ (Lib.bitLen y - 1) ≤ y ∧ y < 2 ^ Lib.bitLen y at b
  generalize Lib.bitLen y = k at *
  obtain ⟨b1, b2, b3⟩ := b
  refine ⟨hle, b1, ?_, ?_⟩
  · calc 9223372036854775808 = 2 ^ (k - 1) * 2 ^ (64 - k) := by rw [← Nat.pow_add, show k - 1 + (64 - k) = 63 from by omega]
      _ ≤ _ := Nat.mul_le_mul_right _ b2
  · calc y * 2 ^ (64 - k) < 2 ^ k * 2 ^ (64 - k) := Nat.mul_lt_mul_of_pos_right b3 (Nat.pow_pos (by decide))
      _ = _ := by rw [← Nat.pow_add, show k + (64 - k) = 64 from by omega]
end Go.Proofs.YtgkdggcpplmnaaaGreat
/- Rank and Quantile, the code's. Own work of the verifier. -/
namespace Go.Proofs.YtgkdggcpplmnaaaGreat
open Go.RowKit

theorem cmul64_any (x y : Int) (hx0 : 0 ≤ x) (hx : x < 18446744073709551616) (hy0 : 0 ≤ y) (hy : y < 18446744073709551616) (w : World) :
    Calls Tryz.prog 110 #[.int .u64 x, .int .u64 y] w fun e w' => e = .returned (.tuple #[.int .u64 (hiOf (x * y)), .int .u64 (loOf (x * y))]) ∧ w' = w := by
  obtain ⟨x, rfl⟩ := Int.eq_ofNat_of_zero_le hx0
  obtain ⟨y, rfl⟩ := Int.eq_ofNat_of_zero_le hy0
  refine (Tryz.bits_Mul64 x y (by omega) (by omega) w).mono ?_
  rintro e w' ⟨rfl, rfl⟩
  refine ⟨?_, rfl⟩
  unfold hiOf loOf
  rw [← Int.natCast_mul]
  simp only [Int.natCast_ediv, Int.natCast_emod]
  rfl
set_option maxHeartbeats 400000 in
theorem cmul_any (x y : Int) (hx0 : 0 ≤ x) (hx : x < 18446744073709551616) (hy0 : 0 ≤ y) (hy : y < 18446744073709551616) (w : World) :
    Calls Tryz.prog 97 #[.int .u64 x, .int .u64 y] w fun e w' => e = .returned (.tuple #[.int .u64 (hiOf (x * y)), .int .u64 (loOf (x * y))]) ∧ w' = w := by
  go_enter Tryz.func97, Tryz.ntmps97
  go_wp2_with fail
  refine (cmul64_any x y hx0 hx hy0 hy _).mono ?_
  rintro e w1 ⟨rfl, rfl⟩
  go_wp2
  go_ret2
  exact ⟨rfl, rfl⟩
end Go.Proofs.YtgkdggcpplmnaaaGreat
