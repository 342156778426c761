/- THE PLAIN MATHEMATICS of floats that are added by whole numbers: what is packed. Own work of the verifier. -/
import Derived.Test.YtdlaloakochfeaaSoftMath
namespace Go.Proofs.Ytdlaloakochfeaa.Soft

/-- The rung nearest to N, without the bound above. -/
def nr (N : Nat) : Nat := if N < 9007199254740992 then N else (N.log2 - 52) * 4503599627370496 + rne N (N.log2 - 52)
theorem nrung_small {N : Nat} (h : N < 9007199254740992) : nrung N = N := by unfold nrung; rw [if_pos h]
theorem nrung_nr (N : Nat) : nrung N = min (nr N) 9218868437227405312 := by
  unfold nrung nr
  split
  · omega
  · rfl
theorem rne_eight (N D : Nat) : rne (8 * N) (D + 3) = rne N D := by
  have := rne_scale N 3 (D + 3) (by omega)
  rw [show D + 3 - 3 = D from by omega, show N * 2 ^ 3 = 8 * N from by omega] at this
  exact this
theorem log2_of (N k : Nat) (h1 : 2 ^ k ≤ N) (h2 : N < 2 ^ (k + 1)) : N.log2 = k := by
  have hN : N ≠ 0 := by have := pow_pos' k; omega
  apply Nat.le_antisymm
  · exact Nat.le_of_lt_succ ((Nat.log2_lt hN).2 h2)
  · exact (Nat.le_log2 hN).2 h1
/-- How great a number is whose eighths, shortened, have 56 bits. -/
theorem size_of_ss (N D : Nat) (h1 : 36028797018963968 ≤ ss (8 * N) D) (h2 : ss (8 * N) D < 72057594037927936) : 2 ^ (52 + D) ≤ N ∧ N < 2 ^ (52 + D + 1) := by
  have hp := pow_pos' D
  have hq : 36028797018963968 ≤ 8 * N / 2 ^ D ∧ 8 * N / 2 ^ D < 72057594037927936 := by
    rw [ss_val] at h1 h2
    split at h1
    · rename_i h; rw [if_pos h] at h2; exact ⟨h1, h2⟩
    · rename_i h; rw [if_neg h] at h2; constructor <;> omega
  obtain ⟨q1, q2⟩ := hq
  rw [Nat.le_div_iff_mul_le hp] at q1
  rw [Nat.div_lt_iff_lt_mul hp] at q2
  rw [Nat.pow_succ, Nat.pow_add]
  have e : (2 : Nat) ^ 52 = 4503599627370496 := by decide
  rw [e]
  generalize 2 ^ D = P at *
  omega
/-- A number's eighths shortened by D' bits, 56 of them left: to round these to whole ones is to round the number. -/
theorem pack_right (N D : Nat) (h1 : 36028797018963968 ≤ ss (8 * N) D) (h2 : ss (8 * N) D < 72057594037927936) : D * 4503599627370496 + rne (ss (8 * N) D) 3 = nr N := by
  obtain ⟨a, b⟩ := size_of_ss N D h1 h2
  have hl := log2_of N (52 + D) a (by rw [show 52 + D + 1 = 52 + D + 1 from rfl]; exact b)
  have hr : rne (ss (8 * N) D) 3 = rne N D := by
    have := rne_ss (8 * N) D (D + 3) (by omega)
    rw [show D + 3 - D = 3 from by omega, rne_eight] at this
    exact this
  rw [hr]
  unfold nr
  by_cases hs : N < 9007199254740992
  · rw [if_pos hs]
    have hD : D = 0 := by
      rcases Nat.eq_zero_or_pos D with h | h
      · exact h
      · exfalso
        have : 2 ^ 53 ≤ 2 ^ (52 + D) := Nat.pow_le_pow_right (by decide) (by omega)
        have e : (2 : Nat) ^ 53 = 9007199254740992 := by decide
        omega
    subst hD
    rw [rne_zero]; omega
  · rw [if_neg hs, hl, show 52 + D - 52 = D from by omega]
/-- The same where one more bit was put behind. -/
theorem pack_left1 (N D : Nat) (h1 : 18014398509481984 ≤ ss (8 * N) (D + 1)) (h2 : ss (8 * N) (D + 1) < 36028797018963968) : D * 4503599627370496 + rne (ss (8 * N) (D + 1) * 2) 3 = nr N := by
  have hp := pow_pos' D
  have hr : rne (ss (8 * N) (D + 1) * 2) 3 = rne N D := by
    have e1 := rne_scale (ss (8 * N) (D + 1)) 1 3 (by omega)
    rw [show 3 - 1 = 2 from rfl, Nat.pow_one] at e1
    have e2 := rne_ss (8 * N) (D + 1) (D + 3) (by omega)
    rw [show D + 3 - (D + 1) = 2 from by omega, rne_eight] at e2
    rw [e1, e2]
  have hq : 18014398509481984 ≤ 8 * N / 2 ^ (D + 1) ∧ 8 * N / 2 ^ (D + 1) < 36028797018963968 := by
    rw [ss_val] at h1 h2
    split at h1
    · rename_i h; rw [if_pos h] at h2; exact ⟨h1, h2⟩
    · rename_i h; rw [if_neg h] at h2; constructor <;> omega
  obtain ⟨q1, q2⟩ := hq
  rw [Nat.le_div_iff_mul_le (pow_pos' (D + 1))] at q1
  rw [Nat.div_lt_iff_lt_mul (pow_pos' (D + 1))] at q2
  rw [Nat.pow_succ] at q1 q2
  have a : 2 ^ (52 + D) ≤ N := by
    rw [Nat.pow_add, show (2 : Nat) ^ 52 = 4503599627370496 from by decide]
    generalize 2 ^ D = P at *
    omega
  have b : N < 2 ^ (52 + D + 1) := by
    rw [Nat.pow_succ, Nat.pow_add, show (2 : Nat) ^ 52 = 4503599627370496 from by decide]
    generalize 2 ^ D = P at *
    omega
  have hl := log2_of N (52 + D) a b
  rw [hr]
  unfold nr
  by_cases hs : N < 9007199254740992
  · rw [if_pos hs]
    have hD : D = 0 := by
      rcases Nat.eq_zero_or_pos D with h | h
      · exact h
      · exfalso
        have : 2 ^ 53 ≤ 2 ^ (52 + D) := Nat.pow_le_pow_right (by decide) (by omega)
        have e : (2 : Nat) ^ 53 = 9007199254740992 := by decide
        omega
    subst hD
    rw [rne_zero]; omega
  · rw [if_neg hs, hl, show 52 + D - 52 = D from by omega]
/-- Where nothing was cut off, any number of bits may be put behind. -/
theorem ss_exact (N D M : Nat) (h : 8 * N = M * 2 ^ D) (l : Nat) (hl : l ≤ D) : M * 2 ^ l = ss (8 * N) (D - l) := by
  have hp := pow_pos' (D - l)
  have e : 8 * N = 2 ^ (D - l) * (M * 2 ^ l) := by
    rw [h, Nat.mul_left_comm, ← Nat.pow_add, show D - l + l = D from by omega]
  rw [ss_val, e, Nat.mul_mod_right, if_pos rfl, Nat.mul_div_cancel_left _ hp]
/-- The least floats: nothing is cut off. -/
theorem pack_least (N : Nat) (h : 8 * N < 72057594037927936) : rne (8 * N) 3 = nr N := by
  have := rne_eight N 0
  rw [Nat.zero_add, rne_zero] at this
  rw [this]
  unfold nr
  rw [if_pos (by omega)]
end Go.Proofs.Ytdlaloakochfeaa.Soft
