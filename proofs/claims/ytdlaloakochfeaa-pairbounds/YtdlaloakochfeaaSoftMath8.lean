/- THE SUM OF TWO FLOATS, the document's way. Own work of the verifier. -/
import Derived.Test.YtdlaloakochfeaaSoftMath7
namespace Go.Proofs.Ytdlaloakochfeaa.Soft

theorem ss_small {n : Nat} (h : n ≤ 1) (j : Nat) : ss n j = n := by
  rcases Nat.eq_zero_or_pos j with rfl | hj
  · exact ss_zero n
  · have h2 : 2 ^ 1 ≤ 2 ^ j := Nat.pow_le_pow_right (by decide) hj
    rw [ss_val]
    rcases Nat.eq_zero_or_pos n with rfl | hn
    · simp
    · obtain rfl : n = 1 := by omega
      have : 1 % 2 ^ j = 1 := Nat.mod_eq_of_lt (by omega)
      rw [this, if_neg (by decide)]
      have : 1 / 2 ^ j = 0 := Nat.div_eq_of_lt (by omega)
      rw [this]
theorem ss_rest (N k j : Nat) (h : ss N k ≤ 1) (hj : k ≤ j) : ss N j = ss N k := by
  have := ss_ss N k (j - k)
  rw [show k + (j - k) = j from by omega] at this
  rw [← this, ss_small h]
theorem nrung_zero : nrung 0 = 0 := by decide
theorem uV_pos {a : Nat} (h : 0 < a) : 0 < uV a := by have := uV_mono h; omega
theorem fa_same (s : Bool) (a b : Nat) (hb : b ≤ a) (ha : a < 9218868437227405312) : fa (sw s a) (sw s b) = sw s (nrung (uV a + uV b)) := by
  unfold fa
  rw [add_fin s s a b ha (by omega)]
  show addW s s a b = _
  unfold addW sv
  cases s
  · simp only [Bool.false_eq_true, if_false]
    by_cases h : (uV a : Int) + (uV b : Int) = 0
    · rw [if_pos h, show uV a + uV b = 0 from by omega, nrung_zero]; rfl
    · rw [if_neg h, decide_eq_false (by omega), show ((uV a : Int) + (uV b : Int)).natAbs = uV a + uV b from by omega]
  · simp only [if_true]
    by_cases h : -(uV a : Int) + -(uV b : Int) = 0
    · rw [if_pos h, show uV a + uV b = 0 from by omega, nrung_zero]; rfl
    · rw [if_neg h, decide_eq_true (by omega), show (-(uV a : Int) + -(uV b : Int)).natAbs = uV a + uV b from by omega]
theorem fa_diff (s : Bool) (a b : Nat) (hb : b ≤ a) (ha : a < 9218868437227405312) : fa (sw s a) (sw (!s) b) = if uV a = uV b then 0 else sw s (nrung (uV a - uV b)) := by
  have hu := uV_le hb
  unfold fa
  rw [add_fin s (!s) a b ha (by omega)]
  show addW s (!s) a b = _
  unfold addW sv
  cases s
  · simp only [Bool.false_eq_true, if_false, Bool.not_false, if_true]
    by_cases h : (uV a : Int) + -(uV b : Int) = 0
    · rw [if_pos h, if_pos (by omega)]; rfl
    · rw [if_neg h, if_neg (by omega), decide_eq_false (by omega), show ((uV a : Int) + -(uV b : Int)).natAbs = uV a - uV b from by omega]
  · simp only [if_true, Bool.not_true, Bool.false_eq_true, if_false]
    by_cases h : -(uV a : Int) + (uV b : Int) = 0
    · rw [if_pos h, if_pos (by omega)]; rfl
    · rw [if_neg h, if_neg (by omega), decide_eq_true (by omega), show (-(uV a : Int) + (uV b : Int)).natAbs = uV a - uV b from by omega]
theorem ss_eq_zero {N k : Nat} : ss N k = 0 ↔ N = 0 := by
  rw [ss_val]
  constructor
  · intro h
    split at h
    · rename_i h2
      have := Nat.div_add_mod N (2 ^ k)
      rw [h, h2] at this; omega
    · omega
  · rintro rfl; simp
/-- The two ways of a sum, by parts. -/
theorem sum_down (a b : Nat) (h : b ≤ a) : Down (uV a + uV b) (upOf a) (8 * magOf a + ss (8 * magOf b) (upOf a - upOf b)) := ⟨sum_bits a b h, sum_left a b h⟩
theorem dif_down (a b : Nat) (h : b ≤ a) : Down (uV a - uV b) (upOf a) (8 * magOf a - ss (8 * magOf b) (upOf a - upOf b)) := ⟨dif_bits a b h, dif_left a b h⟩
theorem dif_zero (a b : Nat) (h : b ≤ a) : 8 * magOf a - ss (8 * magOf b) (upOf a - upOf b) = 0 ↔ uV a = uV b := by
  rw [dif_bits a b h, ss_eq_zero]
  have := uV_le h
  omega
theorem ss_mag_lt (b k : Nat) : ss (8 * magOf b) k < 72057594037927936 := by
  have := ss_le (8 * magOf b) k
  have := mag_lt b
  omega
theorem up_le {a : Nat} (h : a < 9218868437227405312) : upOf a ≤ 2045 := by unfold upOf; split <;> omega
theorem dif_ge (a b : Nat) (h : b ≤ a) : ss (8 * magOf b) (upOf a - upOf b) ≤ 8 * magOf a := by
  by_cases hx : upOf a = 0
  · rw [hx, Nat.zero_sub, ss_zero]
    have := aligned_le h
    rw [hx, Nat.zero_sub, Nat.pow_zero, Nat.mul_one] at this
    omega
  · have h1 := mag_norm (show 0 < upOf a by omega)
    by_cases hy : upOf a - upOf b = 0
    · rw [hy, ss_zero]
      have := aligned_le h
      rw [hy, Nat.pow_zero, Nat.mul_one] at this
      omega
    · have : ss (8 * magOf b) (upOf a - upOf b) ≤ 4 * magOf b + 1 := by
        have e := ss_ss (8 * magOf b) 1 (upOf a - upOf b - 1)
        rw [show 1 + (upOf a - upOf b - 1) = upOf a - upOf b from by omega] at e
        rw [← e]
        have := ss_le (ss (8 * magOf b) 1) (upOf a - upOf b - 1)
        have := (ss_one_bounds (8 * magOf b)).2
        omega
      have := mag_lt b
      omega
end Go.Proofs.Ytdlaloakochfeaa.Soft
