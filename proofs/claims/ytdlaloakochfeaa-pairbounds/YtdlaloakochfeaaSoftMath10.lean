/- WHAT FLOATS STAND FOR, in units of the least one; exact sums. Own work of the verifier. -/
import Derived.Test.YtdlaloakochfeaaSoftMath9
namespace Go.Proofs.Ytdlaloakochfeaa.Soft

/-- A whole number of units that a float of 53 bits can hold. -/
def Rep (N : Nat) : Prop := ∃ m k, N = m * 2 ^ k ∧ m < 9007199254740992
theorem rep_small {N : Nat} (h : N < 9007199254740992) : Rep N := ⟨N, 0, by simp, h⟩
theorem rep_uV (a : Nat) : Rep (uV a) := ⟨magOf a, upOf a, (uV_eq a).symm, mag_lt a⟩
theorem two_pow_52 : (2 : Nat) ^ 52 = 4503599627370496 := by decide
theorem two_pow_53 : (2 : Nat) ^ 53 = 9007199254740992 := by decide
/-- Above all finite floats. -/
def TOP : Nat := uV 9218868437227405312
theorem top_uV : uV 9218868437227405312 = TOP := rfl
theorem top_le {D : Nat} (h : 2046 ≤ D) : TOP ≤ 2 ^ (52 + D) := by
  unfold TOP uV
  rw [if_neg (by decide)]
  have hE : 9218868437227405312 / 4503599627370496 - 1 = 2046 := by decide
  have hF : 4503599627370496 + 9218868437227405312 % 4503599627370496 = 4503599627370496 := by decide
  rw [hF]
  generalize 9218868437227405312 / 4503599627370496 - 1 = E at *
  rw [Nat.pow_add, two_pow_52]
  exact Nat.mul_le_mul_left _ (Nat.pow_le_pow_right (by decide) (by omega))
/-- Such a number is hit by rounding. -/
theorem nr_rep {N : Nat} (h : Rep N) : uV (nr N) = N ∧ (N < TOP → nr N < 9218868437227405312) := by
  by_cases hs : N < 9007199254740992
  · have e : nr N = N := by unfold nr; rw [if_pos hs]
    rw [e]
    refine ⟨?_, fun _ => by omega⟩
    unfold uV
    by_cases h1 : N < 4503599627370496
    · rw [if_pos h1]
    · rw [if_neg h1, show N / 4503599627370496 - 1 = 0 from by omega]; omega
  · obtain ⟨m, k, rfl, hm⟩ := h
    have hN : m * 2 ^ k ≠ 0 := by omega
    have hlo := Nat.log2_self_le hN
    have hhi := Nat.lt_log2_self (n := m * 2 ^ k)
    have hL : 53 ≤ (m * 2 ^ k).log2 := (Nat.le_log2 hN).2 (by rw [two_pow_53]; omega)
    obtain ⟨D, hD⟩ : ∃ D, (m * 2 ^ k).log2 = 52 + D := ⟨(m * 2 ^ k).log2 - 52, by omega⟩
    have hDk : D ≤ k := by
      rcases Nat.lt_or_ge k D with c | c
      · exfalso
        have h1 : m * 2 ^ k < 2 ^ 53 * 2 ^ k := Nat.mul_lt_mul_of_pos_right (by rw [two_pow_53]; exact hm) (pow_pos' k)
        rw [← Nat.pow_add] at h1
        have h2 : 2 ^ (53 + k) ≤ 2 ^ (52 + D) := Nat.pow_le_pow_right (by decide) (by omega)
        rw [hD] at hlo
        omega
      · exact c
    have hq : m * 2 ^ k = m * 2 ^ (k - D) * 2 ^ D := by rw [Nat.mul_assoc, ← Nat.pow_add, show k - D + D = k from by omega]
    have e1 : rne (m * 2 ^ k) D = m * 2 ^ (k - D) := rne_mul m k D hDk
    have hp := pow_pos' D
    rw [hD] at hlo hhi
    rw [hq] at hlo hhi
    have hlo' : 4503599627370496 ≤ m * 2 ^ (k - D) := by
      rw [Nat.pow_add, two_pow_52] at hlo
      exact Nat.le_of_mul_le_mul_right hlo hp
    have hhi' : m * 2 ^ (k - D) < 9007199254740992 := by
      rw [show 52 + D + 1 = 53 + D from by omega, Nat.pow_add, two_pow_53] at hhi
      exact Nat.lt_of_mul_lt_mul_right hhi
    have e2 : nr (m * 2 ^ k) = D * 4503599627370496 + m * 2 ^ (k - D) := by
      unfold nr; rw [if_neg hs, hD, show 52 + D - 52 = D from by omega, e1]
    rw [e2]
    generalize m * 2 ^ (k - D) = q at *
    refine ⟨?_, ?_⟩
    · unfold uV
      rw [if_neg (by omega), show (D * 4503599627370496 + q) / 4503599627370496 - 1 = D from by omega, show 4503599627370496 + (D * 4503599627370496 + q) % 4503599627370496 = q from by omega, hq]
    · intro hlt
      have : D < 2046 := by
        rcases Nat.lt_or_ge D 2046 with c | c
        · exact c
        · exfalso
          have h1 := top_le c
          rw [← hq] at hlo
          omega
      omega
theorem nrung_rep {N : Nat} (h : Rep N) (hN : N < TOP) : uV (nrung N) = N ∧ nrung N < 9218868437227405312 := by
  obtain ⟨h1, h2⟩ := nr_rep h
  have h3 := h2 hN
  rw [nrung_nr, Nat.min_eq_left (by omega)]
  exact ⟨h1, h3⟩
end Go.Proofs.Ytdlaloakochfeaa.Soft
