/- SUMS of floats by whole numbers: the document's way. Own work of the verifier. -/
import Derived.Test.YtdlaloakochfeaaSoftMath4
namespace Go.Proofs.Ytdlaloakochfeaa.Soft

theorem up_mono {a b : Nat} (h : b ≤ a) : upOf b ≤ upOf a := by
  unfold upOf
  split <;> split <;> omega
theorem mag_lt (a : Nat) : magOf a < 9007199254740992 := by unfold magOf; split <;> omega
theorem mag_norm {a : Nat} (h : 0 < upOf a) : 4503599627370496 ≤ magOf a := by
  unfold upOf at h; unfold magOf
  split at h
  · omega
  · rw [if_neg (by assumption)]; omega
theorem uV_up {a b : Nat} (h : upOf b ≤ upOf a) : uV a = magOf a * 2 ^ (upOf a - upOf b) * 2 ^ upOf b := by
  rw [← uV_eq a, Nat.mul_assoc, ← Nat.pow_add, show upOf a - upOf b + upOf b = upOf a from by omega]
theorem sum_bits (a b : Nat) (h : b ≤ a) : 8 * magOf a + ss (8 * magOf b) (upOf a - upOf b) = ss (8 * (uV a + uV b)) (upOf a) := by
  have hu := up_mono h
  rw [align_add, uV_up hu, ← uV_eq b, ← Nat.add_mul, ← Nat.mul_assoc]
  have := ss_scale (8 * (magOf a * 2 ^ (upOf a - upOf b) + magOf b)) (upOf b) (upOf a - upOf b)
  rw [show upOf b + (upOf a - upOf b) = upOf a from by omega] at this
  exact this.symm
theorem uV_le {a b : Nat} (h : b ≤ a) : uV b ≤ uV a := by
  rcases Nat.lt_or_eq_of_le h with k | k
  · exact Nat.le_of_lt (uV_mono k)
  · rw [k]; exact Nat.le_refl _
theorem aligned_le {a b : Nat} (h : b ≤ a) : magOf b ≤ magOf a * 2 ^ (upOf a - upOf b) := by
  have hu := up_mono h
  have := uV_le h
  rw [uV_up hu, ← uV_eq b] at this
  exact Nat.le_of_mul_le_mul_right this (pow_pos' _)
theorem dif_bits (a b : Nat) (h : b ≤ a) : 8 * magOf a - ss (8 * magOf b) (upOf a - upOf b) = ss (8 * (uV a - uV b)) (upOf a) := by
  have hu := up_mono h
  rw [align_sub _ _ _ (aligned_le h), uV_up hu, ← uV_eq b, ← Nat.sub_mul, ← Nat.mul_assoc]
  have := ss_scale (8 * (magOf a * 2 ^ (upOf a - upOf b) - magOf b)) (upOf b) (upOf a - upOf b)
  rw [show upOf b + (upOf a - upOf b) = upOf a from by omega] at this
  exact this.symm
/-- Nothing was cut off, or what is left is great: of a difference. -/
theorem dif_left (a b : Nat) (h : b ≤ a) : 8 * (uV a - uV b) = (8 * magOf a - ss (8 * magOf b) (upOf a - upOf b)) * 2 ^ upOf a ∨ 18014398509481984 ≤ 8 * magOf a - ss (8 * magOf b) (upOf a - upOf b) := by
  have hu := up_mono h
  by_cases hx : ss (8 * magOf b) (upOf a - upOf b) * 2 ^ (upOf a - upOf b) = 8 * magOf b
  · left
    have e : 2 ^ upOf a = 2 ^ (upOf a - upOf b) * 2 ^ upOf b := by rw [← Nat.pow_add, show upOf a - upOf b + upOf b = upOf a from by omega]
    rw [Nat.sub_mul, e, ← Nat.mul_assoc (ss _ _), hx, Nat.mul_sub, uV_up hu, ← uV_eq b]
    simp only [Nat.mul_assoc]
  · right
    have h0 : 0 < upOf a := by
      rcases Nat.eq_zero_or_pos (upOf a) with k | k
      · exfalso; apply hx
        have : upOf a - upOf b = 0 := by omega
        rw [this, ss_zero, Nat.pow_zero, Nat.mul_one]
      · exact k
    exact cut_great _ _ _ (mag_lt b) hx (mag_norm h0)
/-- .. of a sum. -/
theorem sum_left (a b : Nat) (h : b ≤ a) : 8 * (uV a + uV b) = (8 * magOf a + ss (8 * magOf b) (upOf a - upOf b)) * 2 ^ upOf a ∨ 18014398509481984 ≤ 8 * magOf a + ss (8 * magOf b) (upOf a - upOf b) := by
  have hu := up_mono h
  by_cases hx : ss (8 * magOf b) (upOf a - upOf b) * 2 ^ (upOf a - upOf b) = 8 * magOf b
  · left
    have e : 2 ^ upOf a = 2 ^ (upOf a - upOf b) * 2 ^ upOf b := by rw [← Nat.pow_add, show upOf a - upOf b + upOf b = upOf a from by omega]
    rw [Nat.add_mul, e, ← Nat.mul_assoc (ss _ _), hx, Nat.mul_add, uV_up hu, ← uV_eq b]
    simp only [Nat.mul_assoc]
  · right
    have h0 : 0 < upOf a := by
      rcases Nat.eq_zero_or_pos (upOf a) with k | k
      · exfalso; apply hx
        have : upOf a - upOf b = 0 := by omega
        rw [this, ss_zero, Nat.pow_zero, Nat.mul_one]
      · exact k
    have := mag_norm h0
    omega
theorem ss_le (N k : Nat) : ss N k ≤ N := by
  have hp := pow_pos' k
  have hd : N / 2 ^ k ≤ N := Nat.div_le_self _ _
  rw [ss_val]
  split
  · exact hd
  · rename_i h
    have hN : 0 < N := by
      rcases Nat.eq_zero_or_pos N with e | e
      · rw [e] at h; simp at h
      · exact e
    rcases Nat.eq_zero_or_pos k with e | e
    · rw [e, Nat.pow_zero, Nat.mod_one] at h; exact absurd rfl h
    · have : 2 ^ 1 ≤ 2 ^ k := Nat.pow_le_pow_right (by decide) e
      have : N / 2 ^ k ≤ N / 2 := Nat.div_le_div_left (by omega) (by decide)
      omega
end Go.Proofs.Ytdlaloakochfeaa.Soft
