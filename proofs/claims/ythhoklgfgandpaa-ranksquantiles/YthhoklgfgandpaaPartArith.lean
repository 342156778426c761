/- THE PLAIN MATHEMATICS of products and of a division bit by bit (no Go in sight). Own work of the verifier. -/
import Derived.Test.YthhoklgfgandpaaDivArith
import Derived.Test.YthhoklgfgandpaaArith
namespace Go.Proofs.Ythhoklgfgandpaa

/-- A product by halves. -/
theorem mul_halves {a b a1 a0 b1 b0 : Int} (ha : a = a1 * 4294967296 + a0) (hb : b = b1 * 4294967296 + b0) : a * b = a1 * b1 * 18446744073709551616 + (a1 * b0 + a0 * b1) * 4294967296 + a0 * b0 := by
  have e1 : a1 * 4294967296 * (b1 * 4294967296) = a1 * b1 * 18446744073709551616 := by
    rw [Int.mul_assoc, Int.mul_left_comm 4294967296 b1, ← Int.mul_assoc]; rfl
  have e2 : a1 * 4294967296 * b0 = a1 * b0 * 4294967296 := Int.mul_right_comm ..
  have e3 : a0 * (b1 * 4294967296) = a0 * b1 * 4294967296 := (Int.mul_assoc ..).symm
  rw [ha, hb, Int.add_mul, Int.mul_add, Int.mul_add, e1, e2, e3]
  generalize a1 * b1 = p; generalize a1 * b0 = q; generalize a0 * b1 = r; generalize a0 * b0 = s
  omega
theorem half_mul {x y : Int} (x0 : 0 ≤ x) (x1 : x < 4294967296) (y0 : 0 ≤ y) (y1 : y < 4294967296) : 0 ≤ x * y ∧ x * y ≤ 18446744065119617025 := by
  refine ⟨Int.mul_nonneg x0 y0, ?_⟩
  have := Int.mul_le_mul (show x ≤ 4294967295 by omega) (show y ≤ 4294967295 by omega) y0 (by omega)
  omega

/-- How far a division bit by bit has come behind k bits. -/
def upTo (N k : Nat) : Nat := N / 2 ^ (64 - k)
theorem upTo_0 (H l : Nat) (hl : l < 18446744073709551616) : upTo (H * 18446744073709551616 + l) 0 = H := by
  unfold upTo; rw [show (2 : Nat) ^ (64 - 0) = 18446744073709551616 from by decide]; omega
theorem upTo_64 (N : Nat) : upTo N 64 = N := by unfold upTo; simp
theorem upTo_succ (H l k : Nat) (hk : k < 64) : upTo (H * 18446744073709551616 + l) (k + 1) = 2 * upTo (H * 18446744073709551616 + l) k + l / 2 ^ (63 - k) % 2 := by
  unfold upTo
  have e : 64 - k = (63 - k) + 1 := by omega
  have e' : 64 - (k + 1) = 63 - k := by omega
  rw [e, e', Nat.pow_succ, ← Nat.div_div_eq_div_mul]
  have h64 : 18446744073709551616 = 2 ^ (63 - k) * (2 * 2 ^ k) := by
    rw [← Nat.pow_succ', ← Nat.pow_add, show 63 - k + (k + 1) = 64 from by omega]
  have hN : (H * 18446744073709551616 + l) / 2 ^ (63 - k) = H * (2 * 2 ^ k) + l / 2 ^ (63 - k) := by
    rw [h64, Nat.mul_left_comm, Nat.mul_add_div (Nat.pow_pos (by decide))]
  rw [hN, Nat.mul_left_comm]
  omega
theorem upTo_lt (H l k by' : Nat) (hk : k ≤ 64) (hl : l < 18446744073709551616) (hH : H < by') : upTo (H * 18446744073709551616 + l) k / by' < 2 ^ k := by
  have hb : 0 < by' := by omega
  rw [Nat.div_lt_iff_lt_mul hb]
  unfold upTo
  rw [Nat.div_lt_iff_lt_mul (Nat.pow_pos (by decide))]
  have h64 : 18446744073709551616 = 2 ^ k * 2 ^ (64 - k) := by rw [← Nat.pow_add, show k + (64 - k) = 64 from by omega]
  have : (H + 1) * 18446744073709551616 ≤ by' * 18446744073709551616 := Nat.mul_le_mul_right _ hH
  rw [Nat.mul_right_comm, ← h64, Nat.mul_comm]
  omega
theorem div_step (P b by' : Nat) (hb : 0 < by') : (2 * P + b) / by' = (if by' ≤ 2 * (P % by') + b then 1 else 0) + 2 * (P / by') ∧ (2 * P + b) % by' = (2 * (P % by') + b) - (if by' ≤ 2 * (P % by') + b then by' else 0) ∨ 2 ≤ b := by
  rcases Nat.lt_or_ge b 2 with h | h
  · left
    have d := Nat.div_add_mod P by'
    have m := Nat.mod_lt P hb
    generalize P / by' = q at *
    generalize P % by' = r at *
    subst d
    split
    · rename_i hc
      have := (Nat.div_mod_unique hb (a := 2 * (by' * q + r) + b) (d := 1 + 2 * q) (c := 2 * r + b - by')).2 ⟨by rw [Nat.mul_add, Nat.mul_left_comm]; omega, by omega⟩
      exact this
    · rename_i hc
      have := (Nat.div_mod_unique hb (a := 2 * (by' * q + r) + b) (d := 0 + 2 * q) (c := 2 * r + b - 0)).2 ⟨by rw [Nat.zero_add, Nat.mul_left_comm]; omega, by omega⟩
      exact this
  · right; exact h
end Go.Proofs.Ythhoklgfgandpaa
