/- THE PLAIN MATHEMATICS of the float nearest to a number of 128 bits (no Go in sight). Own work of the verifier. -/
import Derived.Test.YtbobhjgndgaoaaaDoorFloatMath
namespace Go.Proofs.YtbobhjgndgaoaaaDoor

theorem fword_bounds (N : Nat) (hN : N ≠ 0) (h2 : N.log2 ≤ 127) : (N.log2 + 1023) * 4503599627370496 ≤ fword N ∧ fword N ≤ (N.log2 + 1024) * 4503599627370496 := by
  have hle : 2 ^ N.log2 ≤ N := Nat.log2_self_le hN
  have hlt : N < 2 ^ (N.log2 + 1) := Nat.lt_log2_self
  by_cases h : N.log2 ≤ 52
  · rw [fword_small N hN h]
    have a : 4503599627370496 ≤ N * 2 ^ (52 - N.log2) := by
      calc 4503599627370496 = 2 ^ N.log2 * 2 ^ (52 - N.log2) := by rw [← Nat.pow_add, show N.log2 + (52 - N.log2) = 52 from by omega]
        _ ≤ _ := Nat.mul_le_mul_right _ hle
    have b : N * 2 ^ (52 - N.log2) < 9007199254740992 := by
      calc N * 2 ^ (52 - N.log2) < 2 ^ (N.log2 + 1) * 2 ^ (52 - N.log2) := Nat.mul_lt_mul_of_pos_right hlt (Nat.pow_pos (by decide))
        _ = 9007199254740992 := by rw [← Nat.pow_add, show N.log2 + 1 + (52 - N.log2) = 53 from by omega]
    omega
  · rw [fword_big N (by omega) h2]
    have hp : 0 < 2 ^ (N.log2 - 52) := Nat.pow_pos (by decide)
    have a : 4503599627370496 ≤ N / 2 ^ (N.log2 - 52) := by
      rw [Nat.le_div_iff_mul_le hp]
      calc 4503599627370496 * 2 ^ (N.log2 - 52) = 2 ^ N.log2 := by rw [show (4503599627370496 : Nat) = 2 ^ 52 from by decide, ← Nat.pow_add, show 52 + (N.log2 - 52) = N.log2 from by omega]
        _ ≤ N := hle
    have b : N / 2 ^ (N.log2 - 52) < 9007199254740992 := by
      rw [Nat.div_lt_iff_lt_mul hp]
      calc N < 2 ^ (N.log2 + 1) := hlt
        _ = 9007199254740992 * 2 ^ (N.log2 - 52) := by rw [show (9007199254740992 : Nat) = 2 ^ 53 from by decide, ← Nat.pow_add, show 53 + (N.log2 - 52) = N.log2 + 1 from by omega]
    have hr : rb N (N.log2 - 52) ≤ 1 := by unfold rb; split <;> omega
    omega

/-- A number cut to its 64 greatest bits, the last of them told whether anything was cut off. -/
def sticky (N j : Nat) : Nat := if N % 2 ^ j = 0 then N / 2 ^ j else N / 2 ^ j / 2 * 2 + 1
theorem sticky_log (N j : Nat) (h : N.log2 = 63 + j) : (sticky N j).log2 = 63 := by
  have hN : N ≠ 0 := by intro e; subst e; simp at h; omega
  have hle : 2 ^ N.log2 ≤ N := Nat.log2_self_le hN
  have hlt : N < 2 ^ (N.log2 + 1) := Nat.lt_log2_self
  rw [h] at hle hlt
  have hp : 0 < 2 ^ j := Nat.pow_pos (by decide)
  have a : 9223372036854775808 ≤ N / 2 ^ j := by
    rw [Nat.le_div_iff_mul_le hp, show (9223372036854775808 : Nat) = 2 ^ 63 from by decide, ← Nat.pow_add]; exact hle
  have b : N / 2 ^ j < 18446744073709551616 := by
    rw [Nat.div_lt_iff_lt_mul hp, show (18446744073709551616 : Nat) = 2 ^ 64 from by decide, ← Nat.pow_add, show 64 + j = 63 + j + 1 from by omega]; exact hlt
  have c : 9223372036854775808 ≤ sticky N j ∧ sticky N j < 18446744073709551616 := by unfold sticky; split <;> omega
  rw [Nat.log2_eq_iff (by omega), show (2 : Nat) ^ 63 = 9223372036854775808 from by decide, show (2 : Nat) ^ (63 + 1) = 18446744073709551616 from by decide]
  exact c
theorem sticky_fword (N j : Nat) (h : N.log2 = 63 + j) (hj : j ≤ 64) : fword N = fword (sticky N j) + j * 4503599627370496 := by
  have hl := sticky_log N j h
  rw [fword_big N (by omega) (by omega), fword_big (sticky N j) (by omega) (by omega), hl, h, show 63 + j - 52 = j + 11 from by omega, show 63 - 52 = 11 from rfl]
  have hp : 0 < 2 ^ j := Nat.pow_pos (by decide)
  have hpe : 2 ^ (j + 11) = 2 ^ j * 2048 := by rw [Nat.pow_add]
  have q1 : N / 2 ^ (j + 11) = N / 2 ^ j / 2048 := by rw [hpe, Nat.div_div_eq_div_mul]
  have q2 : sticky N j / 2 ^ 11 = N / 2 ^ j / 2048 := by
    unfold sticky; rw [show (2 : Nat) ^ 11 = 2048 from by decide]; split <;> omega
  have hr : rb N (j + 11) = rb (sticky N j) 11 := by
    unfold rb
    rw [q1, q2, hpe, show (2 : Nat) ^ 11 = 2048 from by decide]
    have hm : N % (2 ^ j * 2048) = (N / 2 ^ j % 2048) * 2 ^ j + N % 2 ^ j := by
      rw [Nat.mod_mul, Nat.add_comm, Nat.mul_comm]
    have hs : N % 2 ^ j < 2 ^ j := Nat.mod_lt _ hp
    rw [hm]
    have hst : sticky N j % 2048 = if N % 2 ^ j = 0 then N / 2 ^ j % 2048 else N / 2 ^ j % 2048 / 2 * 2 + 1 := by
      unfold sticky; split <;> omega
    rw [hst]
    generalize N / 2 ^ j = T at *
    generalize N % 2 ^ j = s at *
    generalize 2 ^ j = p at *
    clear q1 q2 hst hm hpe hl h
    have key : ∀ t, t = T % 2048 → ((p * 2048 < 2 * (t * p + s)) ↔ (2048 < 2 * (if s = 0 then t else t / 2 * 2 + 1))) ∧ ((p * 2048 = 2 * (t * p + s)) ↔ (2048 = 2 * (if s = 0 then t else t / 2 * 2 + 1))) := by
      intro t _
      rcases Nat.lt_trichotomy t 1024 with k | k | k
      · have h1 : t * p + s < 1024 * p := by
          have := Nat.mul_le_mul_right p (show t + 1 ≤ 1024 by omega)
          rw [Nat.add_mul, Nat.one_mul] at this
          omega
        split <;> constructor <;> constructor <;> intro h' <;> omega
      · subst k
        split <;> constructor <;> constructor <;> intro h' <;> omega
      · have h1 : 1025 * p ≤ t * p := Nat.mul_le_mul_right p (show 1025 ≤ t by omega)
        split <;> constructor <;> constructor <;> intro h' <;> omega
    obtain ⟨k1, k2⟩ := key (T % 2048) rfl
    by_cases c : 2048 < 2 * (if s = 0 then T % 2048 else T % 2048 / 2 * 2 + 1) ∨ 2048 = 2 * (if s = 0 then T % 2048 else T % 2048 / 2 * 2 + 1) ∧ T / 2048 % 2 = 1
    · rw [if_pos c, if_pos (by rw [k1, k2]; exact c)]
    · rw [if_neg c, if_neg (by rw [k1, k2]; exact c)]
  rw [q1, q2, hr]
  omega
end Go.Proofs.YtbobhjgndgaoaaaDoor
