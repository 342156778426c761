/- ROUNDING: how far off, and what is nearest. Own work of the verifier. -/
import Derived.Test.YtdlaloakochfeaaSoftMath12
namespace Go.Proofs.Ytdlaloakochfeaa.Soft

/-- Rounding to a multiple of 2^D: nearer than any other multiple. -/
theorem rne_near (N D c : Nat) : (((rne N D * 2 ^ D : Nat) : Int) - (N : Int)).natAbs ≤ (((c * 2 ^ D : Nat) : Int) - (N : Int)).natAbs ∧ 2 * (((rne N D * 2 ^ D : Nat) : Int) - (N : Int)).natAbs ≤ 2 ^ D := by
  have hp := pow_pos' D
  have hd := Nat.div_add_mod N (2 ^ D)
  have hm := Nat.mod_lt N hp
  have hc : c ≤ N / 2 ^ D ∧ c * 2 ^ D ≤ N / 2 ^ D * 2 ^ D ∨ N / 2 ^ D + 1 ≤ c ∧ (N / 2 ^ D + 1) * 2 ^ D ≤ c * 2 ^ D := by
    rcases Nat.lt_or_ge (N / 2 ^ D) c with k | k
    · exact .inr ⟨k, Nat.mul_le_mul_right _ k⟩
    · exact .inl ⟨k, Nat.mul_le_mul_right _ k⟩
  rw [Nat.mul_comm] at hd
  have e1 : (N / 2 ^ D + 1) * 2 ^ D = N / 2 ^ D * 2 ^ D + 2 ^ D := by rw [Nat.add_mul, Nat.one_mul]
  unfold rne
  by_cases h : 2 ^ D < 2 * (N % 2 ^ D) ∨ 2 ^ D = 2 * (N % 2 ^ D) ∧ N / 2 ^ D % 2 = 1
  · rw [if_pos h, e1]
    rw [e1] at hc
    have h' : 2 ^ D ≤ 2 * (N % 2 ^ D) := by omega
    clear h
    generalize N / 2 ^ D * 2 ^ D = Q at *
    generalize c * 2 ^ D = C at *
    generalize N % 2 ^ D = r at *
    generalize 2 ^ D = P at *
    omega
  · rw [if_neg h, Nat.add_zero]
    rw [e1] at hc
    have h' : 2 * (N % 2 ^ D) ≤ 2 ^ D := by omega
    clear h
    generalize N / 2 ^ D * 2 ^ D = Q at *
    generalize c * 2 ^ D = C at *
    generalize N % 2 ^ D = r at *
    generalize 2 ^ D = P at *
    omega
/-- What rounding makes of a whole number of units. -/
def rN (N : Nat) : Nat := uV (nr N)
theorem rN_small {N : Nat} (h : N < 9007199254740992) : rN N = N := (nr_rep (rep_small h)).1
theorem rN_rep {N : Nat} (h : Rep N) : rN N = N := (nr_rep h).1
/-- Of a great number: the exponent, and the bits. -/
theorem rN_big {N : Nat} (h : 9007199254740992 ≤ N) : ∃ D, 1 ≤ D ∧ 2 ^ (52 + D) ≤ N ∧ N < 2 ^ (53 + D) ∧ rN N = rne N D * 2 ^ D ∧ nr N = D * 4503599627370496 + rne N D ∧ rne N D ≤ 9007199254740992 := by
  have hN : N ≠ 0 := by omega
  have hlo := Nat.log2_self_le hN
  have hhi := Nat.lt_log2_self (n := N)
  have hL : 53 ≤ N.log2 := (Nat.le_log2 hN).2 (by rw [two_pow_53]; exact h)
  obtain ⟨D, hD⟩ : ∃ D, N.log2 = 52 + D := ⟨N.log2 - 52, by omega⟩
  rw [hD] at hlo hhi
  have hp := pow_pos' D
  have hq0 : 4503599627370496 ≤ N / 2 ^ D := by
    rw [Nat.pow_add, two_pow_52] at hlo
    exact (Nat.le_div_iff_mul_le hp).2 hlo
  have hq1 : N / 2 ^ D < 9007199254740992 := by
    rw [show 52 + D + 1 = 53 + D from by omega, Nat.pow_add, two_pow_53] at hhi
    exact (Nat.div_lt_iff_lt_mul hp).2 hhi
  have hr : rne N D = N / 2 ^ D ∨ rne N D = N / 2 ^ D + 1 := by unfold rne; split <;> simp
  have e2 : nr N = D * 4503599627370496 + rne N D := by
    unfold nr; rw [if_neg (by omega), hD, show 52 + D - 52 = D from by omega]
  refine ⟨D, by omega, hlo, by rw [show 53 + D = 52 + D + 1 from by omega]; exact hhi, ?_, e2, by omega⟩
  unfold rN
  rw [e2]
  generalize rne N D = q at *
  have hq : 4503599627370496 ≤ q ∧ q ≤ 9007199254740992 := by omega
  clear hr e2 hlo hhi hL hD
  unfold uV
  rw [if_neg (by omega)]
  rcases Nat.lt_or_eq_of_le hq.2 with c | c
  · rw [show (D * 4503599627370496 + q) / 4503599627370496 - 1 = D from by omega, show 4503599627370496 + (D * 4503599627370496 + q) % 4503599627370496 = q from by omega]
  · subst c
    rw [show (D * 4503599627370496 + 9007199254740992) / 4503599627370496 - 1 = D + 1 from by omega, show 4503599627370496 + (D * 4503599627370496 + 9007199254740992) % 4503599627370496 = 4503599627370496 from by omega, Nat.pow_succ]
    generalize 2 ^ D = P
    omega
/-- The error of rounding, against the number. -/
theorem rN_err (N : Nat) : 9007199254740992 * ((rN N : Int) - (N : Int)).natAbs ≤ N := by
  rcases Nat.lt_or_ge N 9007199254740992 with h | h
  · rw [rN_small h]; omega
  · obtain ⟨D, _, h1, _, h3, _⟩ := rN_big h
    have h4 := (rne_near N D 0).2
    rw [h3]
    generalize (((rne N D * 2 ^ D : Nat) : Int) - (N : Int)).natAbs = e at *
    rw [Nat.pow_add, two_pow_52] at h1
    generalize 2 ^ D = P at *
    omega
/-- No float is too great for its number of units. -/
theorem rN_top {N : Nat} (h : 4 * N < TOP) : nrung N = nr N ∧ nr N < 9218868437227405312 := by
  have key : nr N < 9218868437227405312 := by
    rcases Nat.lt_or_ge N 9007199254740992 with c | c
    · have : nr N = N := by unfold nr; rw [if_pos c]
      omega
    · obtain ⟨D, _, h1, _, _, h4, h5⟩ := rN_big c
      have : D < 2044 := by
        rcases Nat.lt_or_ge D 2044 with k | k
        · exact k
        · exfalso
          have h6 := top_le (D := D + 2) (by omega)
          rw [show 52 + (D + 2) = 52 + D + 2 from by omega, Nat.pow_add] at h6
          have e4 : (2 : Nat) ^ 2 = 4 := by decide
          rw [e4] at h6
          clear e4
          generalize 2 ^ (52 + D) = Z at *
          omega
      omega
  exact ⟨by rw [nrung_nr, Nat.min_eq_left (by omega)], key⟩
end Go.Proofs.Ytdlaloakochfeaa.Soft
