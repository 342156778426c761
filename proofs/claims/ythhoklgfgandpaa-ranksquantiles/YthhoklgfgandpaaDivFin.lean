/- THE PLAIN MATHEMATICS of a division of two words by one, its end. Own work of the verifier. -/
import Derived.Test.YthhoklgfgandpaaDivArith
namespace Go.Proofs.Ythhoklgfgandpaa

theorem div_fin {Nn y K U L Y u1 u0 h n q1 q0 T : Int} (hK : 0 < K) (hy : 0 < y) (hYK : Y = y * K) (hN : U * 18446744073709551616 + L = Nn * K) (hL : L = u1 * 4294967296 + u0)
    (hY : Y = h * 4294967296 + n) (hT : T = U * 4294967296 + u1 - q1 * Y) (e : DEnd T u0 h n q0) :
    q1 * 4294967296 + q0 = Nn / y ∧ (T * 4294967296 + u0 - q0 * Y) / K = Nn % y := by
  obtain ⟨_, lo, up⟩ := e
  rw [← hY] at lo up
  rw [Int.add_mul, Int.one_mul] at up
  obtain ⟨Q, hQ⟩ : ∃ Q : Int, Q = q1 * 4294967296 + q0 := ⟨_, rfl⟩
  obtain ⟨X, hX⟩ : ∃ X : Int, X = T * 4294967296 + u0 - q0 * Y := ⟨_, rfl⟩
  have e1 : Q * Y = q1 * Y * 4294967296 + q0 * Y := by
    rw [hQ, Int.add_mul, Int.mul_right_comm]
  have e2 : Q * Y + X = Nn * K := by
    generalize q1 * Y = a at *
    generalize q0 * Y = b at *
    omega
  have e3 : (Nn - Q * y) * K = X := by
    rw [Int.sub_mul, Int.mul_assoc, ← hYK]; omega
  have d0 : 0 ≤ Nn - Q * y := by
    rcases Int.lt_or_le (Nn - Q * y) 0 with k | k
    · have := Int.mul_neg_of_neg_of_pos k hK
      omega
    · exact k
  have d1 : Nn - Q * y < y := by
    rcases Int.lt_or_le (Nn - Q * y) y with k | k
    · exact k
    · have := Int.mul_le_mul_of_nonneg_right k (Int.le_of_lt hK)
      omega
  have u := (Int.ediv_emod_unique hy (a := Nn) (q := Q) (r := Nn - Q * y)).2 ⟨by rw [Int.mul_comm y Q]; omega, d0, d1⟩
  rw [← hQ, ← hX, ← e3, Int.mul_ediv_cancel _ (by omega)]
  exact ⟨u.1.symm, u.2.symm⟩

/-- A divisor, shifted up to its greatest bit. -/
theorem bitLen_norm (y : Nat) (h0 : 0 < y) (h1 : y < 18446744073709551616) : Lib.bitLen y ≤ 64 ∧ 1 ≤ Lib.bitLen y ∧ 9223372036854775808 ≤ y * 2 ^ (64 - Lib.bitLen y) ∧ y * 2 ^ (64 - Lib.bitLen y) < 18446744073709551616 := by
  have b := Lib.bitLenAux_bounds 64 y (by omega) (by omega)
  have hle := Lib.bitLen_le y 64 (Nat.le_refl _) (by omega)
  change 1 ≤ Lib.bitLen y ∧ 2 ^ (Lib.bitLen y - 1) ≤ y ∧ y < 2 ^ Lib.bitLen y at b
  generalize Lib.bitLen y = k at *
  obtain ⟨b1, b2, b3⟩ := b
  refine ⟨hle, b1, ?_, ?_⟩
  · calc 9223372036854775808 = 2 ^ (k - 1) * 2 ^ (64 - k) := by rw [← Nat.pow_add, show k - 1 + (64 - k) = 63 from by omega]
      _ ≤ _ := Nat.mul_le_mul_right _ b2
  · calc y * 2 ^ (64 - k) < 2 ^ k * 2 ^ (64 - k) := Nat.mul_lt_mul_of_pos_right b3 (Nat.pow_pos (by decide))
      _ = _ := by rw [← Nat.pow_add, show k + (64 - k) = 64 from by omega]
end Go.Proofs.Ythhoklgfgandpaa
