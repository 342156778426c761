/- THE PLAIN MATHEMATICS of floats that are added by whole numbers: what is laid one over the other. Own work of the verifier. -/
import Derived.Test.YtdlaloakochfeaaSoftMath2
namespace Go.Proofs.Ytdlaloakochfeaa.Soft

theorem ss_scale (x c k : Nat) : ss (x * 2 ^ c) (c + k) = ss x k := by
  have hp := pow_pos' c
  rw [ss_val, ss_val, Nat.add_comm c k, Nat.pow_add, Nat.mul_div_mul_right _ _ hp, Nat.mul_mod_mul_right]
  by_cases h : x % 2 ^ k = 0
  · rw [if_pos h, if_pos (by rw [h]; simp)]
  · rw [if_neg h, if_neg (Nat.mul_ne_zero h (by omega))]
theorem align_add (ma mb k : Nat) : 8 * ma + ss (8 * mb) k = ss (8 * (ma * 2 ^ k + mb)) k := by
  have hp := pow_pos' k
  have e : 8 * (ma * 2 ^ k + mb) = 2 ^ k * (8 * ma) + 8 * mb := by rw [Nat.mul_add, ← Nat.mul_assoc, Nat.mul_comm (8 * ma)]
  rw [ss_val, ss_val, e, Nat.mul_add_div hp, Nat.mul_add_mod]
  split <;> omega
theorem align_sub (ma mb k : Nat) (h : mb ≤ ma * 2 ^ k) : 8 * ma - ss (8 * mb) k = ss (8 * (ma * 2 ^ k - mb)) k := by
  have hp := pow_pos' k
  have hY := Nat.div_add_mod (8 * mb) (2 ^ k)
  have hr := Nat.mod_lt (8 * mb) hp
  have e : 8 * (ma * 2 ^ k - mb) = 2 ^ k * (8 * ma) - 8 * mb := by
    rw [Nat.mul_sub, ← Nat.mul_assoc, Nat.mul_comm (8 * ma)]
  have hle : 8 * mb ≤ 2 ^ k * (8 * ma) := by
    have : 8 * mb ≤ 8 * (ma * 2 ^ k) := Nat.mul_le_mul_left _ h
    rw [← Nat.mul_assoc, Nat.mul_comm (8 * ma)] at this; exact this
  rw [ss_val, ss_val, e]
  have hev : 8 * ma % 2 = 0 := by omega
  generalize 8 * ma = m at *
  generalize hq : 8 * mb / 2 ^ k = q at *
  generalize hr' : 8 * mb % 2 ^ k = r at *
  generalize 8 * mb = Y at *
  generalize 2 ^ k = P at *
  have hqm : q ≤ m := by
    rcases Nat.lt_or_ge m q with c | c
    · exfalso
      have : P * (m + 1) ≤ P * q := Nat.mul_le_mul_left _ c
      rw [Nat.mul_add, Nat.mul_one] at this
      omega
    · exact c
  by_cases h0 : r = 0
  · have d : P * m - Y = P * (m - q) := by rw [Nat.mul_sub]; omega
    rw [if_pos h0, d, Nat.mul_mod_right, if_pos rfl, Nat.mul_div_cancel_left _ hp]
  · have hlt : q < m := by
      rcases Nat.lt_or_eq_of_le hqm with c | c
      · exact c
      · exfalso; subst c; omega
    have d : P * m - Y = P * (m - q - 1) + (P - r) := by
      have : P * m = P * (m - q - 1) + P * q + P := by
        rw [← Nat.mul_add, ← Nat.mul_succ]; congr 1; omega
      omega
    rw [if_neg h0, d, Nat.mul_add_mod, Nat.mod_eq_of_lt (show P - r < P by omega), if_neg (by omega), Nat.mul_add_div hp, Nat.div_eq_of_lt (show P - r < P by omega), Nat.add_zero]
    omega
/-- Where the second number was cut, what comes is great. -/
theorem cut_great (ma mb k : Nat) (hb : mb < 9007199254740992) (h : ss (8 * mb) k * 2 ^ k ≠ 8 * mb) (ha : 4503599627370496 ≤ ma) : 18014398509481984 ≤ 8 * ma - ss (8 * mb) k := by
  have hk : 4 ≤ k := by
    rcases Nat.lt_or_ge k 4 with c | c
    · exfalso; apply h
      rw [ss_val]
      have : k = 0 ∨ k = 1 ∨ k = 2 ∨ k = 3 := by omega
      rcases this with rfl | rfl | rfl | rfl
      · rw [Nat.pow_zero, if_pos (Nat.mod_one _)]; omega
      · rw [if_pos (by omega)]; omega
      · rw [if_pos (by omega)]; omega
      · rw [if_pos (by omega)]; omega
    · exact c
  have h16 : 16 ≤ 2 ^ k := by
    have : 2 ^ 4 ≤ 2 ^ k := Nat.pow_le_pow_right (by decide) hk
    omega
  have hd : 8 * mb / 2 ^ k ≤ 4503599627370496 := by
    have : 8 * mb / 2 ^ k ≤ 8 * mb / 16 := Nat.div_le_div_left h16 (by decide)
    omega
  have : ss (8 * mb) k ≤ 4503599627370497 := by
    rw [ss_val]; split <;> omega
  omega
/-- What the second loop leaves: nothing was cut off; or something was, and one bit at most was put behind. -/
def Left (N D M : Nat) : Prop := M = ss (8 * N) D ∨ 36028797018963968 ≤ M ∧ M = ss (8 * N) (D + 1) * 2
theorem pack_fin (N D M : Nat) (h : Left N D M) (h2 : M < 72057594037927936) (h1 : 36028797018963968 ≤ M ∨ D = 0) : D * 4503599627370496 + rne M 3 = nr N := by
  rcases h with h | ⟨h, k⟩
  · subst h
    rcases Nat.lt_or_ge (ss (8 * N) D) 36028797018963968 with c | c
    · have hD : D = 0 := by omega
      subst hD
      rw [ss_zero] at c ⊢
      rw [pack_least N (by omega)]; omega
    · exact pack_right N D c h2
  · rw [k]
    exact pack_left1 N D (by omega) (by omega)
/-- A round of the second loop. -/
theorem left_step (N D M : Nat) (h : M = ss (8 * N) (D + 1)) (hx : 8 * N = M * 2 ^ (D + 1) ∨ 18014398509481984 ≤ M) (hM : M < 36028797018963968) : Left N D (M * 2) := by
  rcases hx with hx | hx
  · left
    have := ss_exact N (D + 1) M hx 1 (by omega)
    rw [Nat.pow_one, show D + 1 - 1 = D from by omega] at this
    exact this
  · right
    exact ⟨by omega, by rw [h]⟩
end Go.Proofs.Ytdlaloakochfeaa.Soft
