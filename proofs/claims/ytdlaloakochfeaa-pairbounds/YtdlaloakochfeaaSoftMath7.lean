/- ROUNDING, step by step. Own work of the verifier. -/
import Derived.Test.YtdlaloakochfeaaSoftMath6
namespace Go.Proofs.Ytdlaloakochfeaa.Soft

theorem ss_one (M : Nat) : ss M 1 = M / 2 ||| M % 2 := by
  unfold ss
  rw [Nat.pow_one]
  congr 1
  split <;> omega
theorem ss_one_bounds (M : Nat) : M / 2 ≤ ss M 1 ∧ ss M 1 ≤ M / 2 + 1 := by
  rw [ss_val, Nat.pow_one]
  split <;> omega
/-- The first loop's state. -/
def Down (N D M : Nat) : Prop := M = ss (8 * N) D ∧ (8 * N = M * 2 ^ D ∨ 18014398509481984 ≤ M)
theorem down_step {N D M : Nat} (h : Down N D M) (hM : 72057594037927936 ≤ M) : Down N (D + 1) (ss M 1) := by
  obtain ⟨h1, _⟩ := h
  have b := ss_one_bounds M
  refine ⟨?_, .inr (by omega)⟩
  rw [h1, ss_ss]
/-- The second loop's state. -/
def Grow (N D M : Nat) : Prop := (M = ss (8 * N) D ∧ 8 * N = M * 2 ^ D) ∨ (18014398509481984 ≤ M ∧ M = ss (8 * N) D) ∨ (36028797018963968 ≤ M ∧ Left N D M)
theorem grow_of_down {N D M : Nat} (h : Down N D M) : Grow N D M := by
  obtain ⟨h1, h2 | h2⟩ := h
  · exact .inl ⟨h1, h2⟩
  · exact .inr (.inl ⟨h2, h1⟩)
theorem grow_step {N D M : Nat} (h : Grow N (D + 1) M) (hM : M < 36028797018963968) : Grow N D (M * 2) := by
  rcases h with ⟨h1, h2⟩ | ⟨h1, h2⟩ | ⟨h1, _⟩
  · left
    have e : 8 * N = M * 2 * 2 ^ D := by rw [h2, Nat.pow_succ, Nat.mul_assoc, Nat.mul_comm 2]
    refine ⟨?_, e⟩
    have := ss_exact N D (M * 2) e 0 (Nat.zero_le _)
    simpa using this
  · right; right
    exact ⟨by omega, left_step N D M h2 (.inr h1) hM⟩
  · omega
theorem grow_left {N D M : Nat} (h : Grow N D M) : Left N D M := by
  rcases h with ⟨h1, _⟩ | ⟨_, h2⟩ | ⟨_, h2⟩
  · exact .inl h1
  · exact .inl h2
  · exact h2
theorem rne3_cases (M : Nat) : ∃ c, rne M 3 = M / 8 + c ∧ (4 < M % 8 ∧ c = 1 ∨ M % 8 = 4 ∧ M / 8 % 2 = 1 ∧ c = 1 ∨ M % 8 = 4 ∧ M / 8 % 2 = 0 ∧ c = 0 ∨ M % 8 < 4 ∧ c = 0) := by
  unfold rne
  rw [show (2 : Nat) ^ 3 = 8 from by decide]
  refine ⟨_, rfl, ?_⟩
  by_cases h : 8 < 2 * (M % 8) ∨ 8 = 2 * (M % 8) ∧ M / 8 % 2 = 1
  · rw [if_pos h]; omega
  · rw [if_neg h]; omega
/-- What comes out. -/
theorem pack_out {N D M R : Nat} (h : Grow N D M) (h2 : M < 72057594037927936) (h1 : 36028797018963968 ≤ M ∨ D = 0) (hR : rne M 3 = R) :
    R = 9007199254740992 ∧ nrung N = (if 2047 ≤ D + 2 then 9218868437227405312 else (D + 2) * 4503599627370496 + 0) ∨
    4503599627370496 ≤ R ∧ R < 9007199254740992 ∧ nrung N = (if 2047 ≤ D + 1 then 9218868437227405312 else (D + 1) * 4503599627370496 + R % 4503599627370496) ∨
    R < 4503599627370496 ∧ D = 0 ∧ nrung N = R := by
  have p := pack_fin N D M (grow_left h) h2 h1
  rw [hR] at p
  obtain ⟨c, k1, k2⟩ := rne3_cases M
  rw [hR] at k1
  rw [nrung_nr, ← p]
  clear p h
  rcases Nat.lt_trichotomy R 9007199254740992 with k | k | k
  · by_cases k3 : R < 4503599627370496
    · right; right
      have hD : D = 0 := by rcases h1 with h1 | h1 <;> omega
      subst hD
      exact ⟨k3, rfl, by rw [Nat.zero_mul, Nat.zero_add, Nat.min_eq_left (by omega)]⟩
    · right; left
      refine ⟨by omega, k, ?_⟩
      have e : D * 4503599627370496 + R = (D + 1) * 4503599627370496 + R % 4503599627370496 := by omega
      rw [e]
      have hm : R % 4503599627370496 < 4503599627370496 := by omega
      generalize R % 4503599627370496 = f at hm ⊢
      clear e
      by_cases k4 : 2047 ≤ D + 1
      · rw [if_pos k4, Nat.min_eq_right (by omega)]
      · rw [if_neg k4, Nat.min_eq_left (by omega)]
  · left
    refine ⟨k, ?_⟩
    have e : D * 4503599627370496 + R = (D + 2) * 4503599627370496 := by omega
    rw [e]
    by_cases k4 : 2047 ≤ D + 2
    · rw [if_pos k4, Nat.min_eq_right (by omega)]
    · rw [if_neg k4, Nat.min_eq_left (by omega)]; omega
  · exfalso; omega
theorem ss_one_lt {M : Nat} (h : M < 144115188075855872) : ss M 1 < 72057594037927936 := by
  rw [ss_val, Nat.pow_one]
  split <;> omega
theorem nrung_le (N : Nat) : nrung N ≤ 9218868437227405312 := by rw [nrung_nr]; omega
end Go.Proofs.Ytdlaloakochfeaa.Soft
