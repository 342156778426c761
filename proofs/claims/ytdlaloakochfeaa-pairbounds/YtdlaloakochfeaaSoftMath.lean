/- THE PLAIN MATHEMATICS of floats that are added by whole numbers (no Go in sight). Own work of the verifier. -/
import Derived.Laws.FloatArith
namespace Go.Proofs.Ytdlaloakochfeaa.Soft

/-- A number less its last j bits, to the nearest, of two as near the even one. -/
def rne (N j : Nat) : Nat := N / 2 ^ j + (if 2 ^ j < 2 * (N % 2 ^ j) ∨ 2 ^ j = 2 * (N % 2 ^ j) ∧ N / 2 ^ j % 2 = 1 then 1 else 0)
/-- A number less its last i bits, whose last bit tells whether anything was cut off. -/
def ss (N i : Nat) : Nat := N / 2 ^ i ||| (if N % 2 ^ i = 0 then 0 else 1)
theorem or_one (a : Nat) : a ||| 1 = a / 2 * 2 + 1 := by
  apply Nat.eq_of_testBit_eq
  intro i
  rw [Nat.testBit_or]
  cases i with
  | zero => simp [Nat.testBit_zero]
  | succ i =>
    rw [Nat.testBit_succ, Nat.testBit_succ, Nat.testBit_succ, show (a / 2 * 2 + 1) / 2 = a / 2 from by omega, show 1 / 2 = 0 from rfl]
    simp
theorem ss_val (N i : Nat) : ss N i = if N % 2 ^ i = 0 then N / 2 ^ i else N / 2 ^ i / 2 * 2 + 1 := by
  unfold ss; split
  · simp
  · exact or_one _
theorem ss_zero (N : Nat) : ss N 0 = N := by rw [ss_val]; simp [Nat.mod_one]
theorem pow_pos' (j : Nat) : 0 < 2 ^ j := Nat.pow_pos (by decide)
/-- To round a number whose last bit tells what was cut off is to round the number. -/
theorem rne_ss (N i j : Nat) (h : i + 2 ≤ j) : rne (ss N i) (j - i) = rne N j := by
  obtain ⟨k, rfl⟩ : ∃ k, j = i + (k + 2) := ⟨j - i - 2, by omega⟩
  rw [show i + (k + 2) - i = k + 2 from by omega]
  have e1 : (2 : Nat) ^ (i + (k + 2)) = 2 ^ i * (4 * 2 ^ k) := by rw [Nat.pow_add, Nat.pow_add]; congr 1; omega
  have e2 : (2 : Nat) ^ (k + 2) = 4 * 2 ^ k := by rw [Nat.pow_add]; omega
  have hp := pow_pos' i
  have hq := pow_pos' k
  unfold rne
  rw [ss_val, e1, e2]
  -- N = 2^i A + r
  have hN := Nat.div_add_mod N (2 ^ i)
  have hr := Nat.mod_lt N hp
  have hd : N / (2 ^ i * (4 * 2 ^ k)) = N / 2 ^ i / (4 * 2 ^ k) := (Nat.div_div_eq_div_mul _ _ _).symm
  rw [hd]
  clear hd
  have hm : N % (2 ^ i * (4 * 2 ^ k)) = 2 ^ i * (N / 2 ^ i % (4 * 2 ^ k)) + N % 2 ^ i := by
    rw [Nat.mod_mul]; omega
  rw [hm]
  generalize N / 2 ^ i = A at *
  generalize N % 2 ^ i = r at *
  generalize 2 ^ i = P at *
  generalize 2 ^ k = Q at *
  have hA := Nat.div_add_mod A (4 * Q)
  have ha := Nat.mod_lt A (show 0 < 4 * Q by omega)
  generalize hα : A % (4 * Q) = α at *
  generalize hβ : A / (4 * Q) = q at *
  by_cases h0 : r = 0
  · rw [if_pos h0, hα, hβ, h0, Nat.add_zero]
    have c1 : P * (4 * Q) < 2 * (P * α) ↔ 4 * Q < 2 * α := by
      rw [show 2 * (P * α) = P * (2 * α) from by rw [Nat.mul_left_comm]]
      exact Nat.mul_lt_mul_left hp
    have c2 : P * (4 * Q) = 2 * (P * α) ↔ 4 * Q = 2 * α := by
      rw [show 2 * (P * α) = P * (2 * α) from by rw [Nat.mul_left_comm]]
      exact Nat.mul_right_inj (by omega)
    simp only [c1, c2]
  · rw [if_neg h0]
    have f1 : (A / 2 * 2 + 1) / (4 * Q) = q := by
      rw [← hβ]
      rcases Nat.mod_two_eq_zero_or_one A with m | m
      · rw [show A / 2 * 2 + 1 = A + 1 from by omega]
        have : α % 2 = 0 := by
          have : A % 2 = α % 2 := by rw [← hα, Nat.mod_mod_of_dvd _ (by exact ⟨2 * Q, by omega⟩)]
          omega
        have k1 : A + 1 = 4 * Q * q + (α + 1) := by omega
        rw [k1, Nat.mul_add_div (by omega), Nat.div_eq_of_lt (by omega), ← hβ]; rfl
      · rw [show A / 2 * 2 + 1 = A from by omega]
    have f2 : (A / 2 * 2 + 1) % (4 * Q) = α / 2 * 2 + 1 := by
      have k0 := Nat.div_add_mod (A / 2 * 2 + 1) (4 * Q)
      rw [f1] at k0
      have : A % 2 = α % 2 := by rw [← hα, Nat.mod_mod_of_dvd _ (by exact ⟨2 * Q, by omega⟩)]
      omega
    rw [f1, f2]
    congr 1
    have hr0 : 0 < r := by omega
    have c1 : (4 * Q < 2 * (α / 2 * 2 + 1) ∨ 4 * Q = 2 * (α / 2 * 2 + 1) ∧ q % 2 = 1) ↔ 2 * Q ≤ α := by constructor <;> intro h <;> omega
    have c2 : (P * (4 * Q) < 2 * (P * α + r) ∨ P * (4 * Q) = 2 * (P * α + r) ∧ q % 2 = 1) ↔ 2 * Q ≤ α := by
      constructor
      · intro h
        rcases Nat.lt_or_ge α (2 * Q) with k | k
        · exfalso
          have : P * (α + 1) ≤ P * (2 * Q) := Nat.mul_le_mul_left _ k
          rw [Nat.mul_add, Nat.mul_one] at this
          have e : P * (4 * Q) = 2 * (P * (2 * Q)) := by rw [Nat.mul_left_comm 2 P]; congr 1; omega
          omega
        · exact k
      · intro h
        left
        have : P * (2 * Q) ≤ P * α := Nat.mul_le_mul_left _ h
        have e : P * (4 * Q) = 2 * (P * (2 * Q)) := by rw [Nat.mul_left_comm 2 P]; congr 1; omega
        omega
    simp only [c1, c2]
theorem ss_ss (N i k : Nat) : ss (ss N i) k = ss N (i + k) := by
  rw [ss_val (ss N i) k, ss_val N (i + k), ss_val N i, Nat.pow_add]
  have hp := pow_pos' i
  have hN := Nat.div_add_mod N (2 ^ i)
  have hr := Nat.mod_lt N hp
  have hd : N / (2 ^ i * 2 ^ k) = N / 2 ^ i / 2 ^ k := (Nat.div_div_eq_div_mul _ _ _).symm
  have hm : N % (2 ^ i * 2 ^ k) = 2 ^ i * (N / 2 ^ i % 2 ^ k) + N % 2 ^ i := by rw [Nat.mod_mul]; omega
  rw [hd, hm]
  cases k with
  | zero =>
    simp only [Nat.pow_zero, Nat.mod_one, Nat.div_one, Nat.mul_zero, Nat.zero_add, if_true]
  | succ k =>
    have e : (2 : Nat) ^ (k + 1) = 2 * 2 ^ k := by rw [Nat.pow_succ]; omega
    have hq := pow_pos' k
    rw [e]
    generalize N / 2 ^ i = A at *
    generalize N % 2 ^ i = r at *
    generalize 2 ^ i = P at *
    generalize 2 ^ k = Q at *
    by_cases h0 : r = 0
    · subst h0
      rw [if_pos rfl]
      by_cases hz : A % (2 * Q) = 0
      · rw [if_pos hz, if_pos (by rw [hz]; simp)]
      · have h3 : ¬ P * (A % (2 * Q)) + 0 = 0 := by rw [Nat.add_zero]; exact Nat.mul_ne_zero (by omega) hz
        rw [if_neg hz, if_neg h3]
    · have f1 : (A / 2 * 2 + 1) / (2 * Q) = A / (2 * Q) := by
        rw [← Nat.div_div_eq_div_mul, ← Nat.div_div_eq_div_mul]
        congr 1; omega
      have f2 : ¬ (A / 2 * 2 + 1) % (2 * Q) = 0 := by
        intro h
        have : (A / 2 * 2 + 1) % 2 = 0 := by
          have := Nat.mod_mod_of_dvd (A / 2 * 2 + 1) (show 2 ∣ 2 * Q from ⟨Q, rfl⟩)
          rw [h] at this; omega
        omega
      have f3 : ¬ P * (A % (2 * Q)) + r = 0 := by omega
      rw [if_neg h0, if_neg f2, if_neg f3, f1]
/-- The rung nearest to a whole number of the least units. -/
def nrung (N : Nat) : Nat := if N < 9007199254740992 then N else min ((N.log2 - 52) * 4503599627370496 + rne N (N.log2 - 52)) 9218868437227405312
theorem cut_even (neg : Bool) (n d : Nat) : Ieee.Toward.even.cut neg n d = rne n d := by
  unfold Ieee.Toward.cut rne
  simp only [Nat.one_shiftLeft]
  by_cases h : d ≤ n.log2 + 2
  · rw [Nat.min_eq_left h]
    congr 1
    by_cases c : 2 ^ d < 2 * (n % 2 ^ d) ∨ 2 ^ d = 2 * (n % 2 ^ d) ∧ n / 2 ^ d % 2 = 1
    · rw [if_pos c]
      have : (decide (2 ^ d < 2 * (n % 2 ^ d)) || (2 ^ d == 2 * (n % 2 ^ d) && n / 2 ^ d % 2 == 1)) = true := by simpa using c
      rw [this]; rfl
    · rw [if_neg c]
      have : (decide (2 ^ d < 2 * (n % 2 ^ d)) || (2 ^ d == 2 * (n % 2 ^ d) && n / 2 ^ d % 2 == 1)) = false := by
        rw [Bool.eq_false_iff]; intro k; exact c (by simpa using k)
      rw [this]; rfl
  · rw [Nat.min_eq_right (by omega)]
    have hn : n < 2 ^ (n.log2 + 1) := Nat.lt_log2_self
    have e1 : (2 : Nat) ^ (n.log2 + 2) = 2 * 2 ^ (n.log2 + 1) := by rw [Nat.pow_succ]; omega
    have e2 : 2 ^ (n.log2 + 2) ≤ 2 ^ d := Nat.pow_le_pow_right (by decide) (by omega)
    have m1 : n % 2 ^ (n.log2 + 2) = n := Nat.mod_eq_of_lt (by omega)
    have m2 : n % 2 ^ d = n := Nat.mod_eq_of_lt (by omega)
    have d1 : n / 2 ^ (n.log2 + 2) = 0 := Nat.div_eq_of_lt (by omega)
    have d2 : n / 2 ^ d = 0 := Nat.div_eq_of_lt (by omega)
    rw [m1, m2, d1, d2]
    have c1 : ¬ (2 ^ d < 2 * n ∨ 2 ^ d = 2 * n ∧ 0 % 2 = 1) := by omega
    rw [if_neg c1]
    have : (decide (2 ^ (n.log2 + 2) < 2 * n) || (2 ^ (n.log2 + 2) == 2 * n && (0 % 2 == 1))) = false := by
      rw [Bool.eq_false_iff]; intro k
      simp at k
      omega
    rw [this]; rfl
theorem log2_mul_pow (n c : Nat) (h : n ≠ 0) : (n * 2 ^ c).log2 = n.log2 + c := by
  have hp := pow_pos' c
  have h1 : 2 ^ n.log2 ≤ n := Nat.log2_self_le h
  have h2 : n < 2 ^ (n.log2 + 1) := Nat.lt_log2_self
  have h0 : n * 2 ^ c ≠ 0 := Nat.mul_ne_zero h (by omega)
  apply Nat.le_antisymm
  · apply Nat.le_of_lt_succ
    rw [Nat.log2_lt h0, show (n.log2 + c).succ = n.log2 + 1 + c from by omega, Nat.pow_add]
    exact Nat.mul_lt_mul_of_pos_right h2 hp
  · rw [Nat.le_log2 h0, Nat.pow_add]
    exact Nat.mul_le_mul_right _ h1
theorem rne_zero (N : Nat) : rne N 0 = N := by unfold rne; simp [Nat.mod_one]
theorem rne_mul (m c d : Nat) (h : d ≤ c) : rne (m * 2 ^ c) d = m * 2 ^ (c - d) := by
  have e : m * 2 ^ c = 2 ^ d * (m * 2 ^ (c - d)) := by
    rw [Nat.mul_left_comm, ← Nat.pow_add, show d + (c - d) = c from by omega]
  unfold rne
  rw [e, Nat.mul_div_cancel_left _ (pow_pos' d), Nat.mul_mod_right]
  have := pow_pos' d
  rw [if_neg (by omega)]; rfl
theorem rne_scale (m c d : Nat) (h : c ≤ d) : rne (m * 2 ^ c) d = rne m (d - c) := by
  obtain ⟨k, rfl⟩ : ∃ k, d = c + k := ⟨d - c, by omega⟩
  rw [show c + k - c = k from by omega]
  unfold rne
  have hp := pow_pos' c
  have e1 : m * 2 ^ c / 2 ^ (c + k) = m / 2 ^ k := by rw [Nat.add_comm, Nat.pow_add, Nat.mul_div_mul_right _ _ hp]
  have e2 : m * 2 ^ c % 2 ^ (c + k) = m % 2 ^ k * 2 ^ c := by rw [Nat.add_comm, Nat.pow_add, Nat.mul_mod_mul_right]
  rw [e1, e2, Nat.add_comm c k, Nat.pow_add]
  congr 1
  have c1 : 2 ^ k * 2 ^ c < 2 * (m % 2 ^ k * 2 ^ c) ↔ 2 ^ k < 2 * (m % 2 ^ k) := by rw [← Nat.mul_assoc]; exact Nat.mul_lt_mul_right hp
  have c2 : 2 ^ k * 2 ^ c = 2 * (m % 2 ^ k * 2 ^ c) ↔ 2 ^ k = 2 * (m % 2 ^ k) := by rw [← Nat.mul_assoc]; exact Nat.mul_left_inj (by omega)
  simp only [c1, c2]
/-- What the model's floats round to. -/
theorem nearest_rung (neg : Bool) (mag c : Nat) (h : mag ≠ 0) : Ieee.double.nearest neg mag (-1074 + (c : Int)) = Ieee.double.word neg (nrung (mag * 2 ^ c)) := by
  unfold Ieee.Format.nearest
  rw [if_neg h]
  simp only [cut_even, Nat.shiftLeft_eq]
  have f1 : Ieee.double.binade = 4503599627370496 := by decide
  have f2 : Ieee.double.infRung = 9218868437227405312 := by decide
  have f3 : Ieee.double.leastPlace = -1074 := by decide
  have f4 : Ieee.double.fractionBits = 52 := rfl
  rw [f1, f2, f3, f4]
  congr 1
  have hN : mag * 2 ^ c ≠ 0 := Nat.mul_ne_zero h (by have := pow_pos' c; omega)
  have hl := log2_mul_pow mag c h
  unfold nrung
  by_cases hs : mag * 2 ^ c < 9007199254740992
  · have hlt : (mag * 2 ^ c).log2 < 53 := (Nat.log2_lt hN).2 hs
    rw [if_pos hs, show max (-1074 + (c : Int) + (mag.log2 : Int) - ((52 : Nat) : Int)) (-1074) = -1074 from by omega]
    rw [show (-1074 + (c : Int) - -1074).toNat = c from by omega, show (-1074 - (-1074 + (c : Int))).toNat = 0 from by omega, show ((-1074 : Int) - -1074).toNat = 0 from by decide, rne_zero]
    omega
  · have hge : 53 ≤ (mag * 2 ^ c).log2 := by rw [Nat.le_log2 hN]; omega
    rw [if_neg hs, hl]
    rw [hl] at hge
    rw [show max (-1074 + (c : Int) + (mag.log2 : Int) - ((52 : Nat) : Int)) (-1074) = -1074 + ((mag.log2 + c - 52 : Nat) : Int) from by omega]
    generalize hd : mag.log2 + c - 52 = d
    rw [show (-1074 + (d : Int) - -1074).toNat = d from by omega, show (-1074 + (c : Int) - (-1074 + (d : Int))).toNat = c - d from by omega, show (-1074 + (d : Int) - (-1074 + (c : Int))).toNat = d - c from by omega]
    congr 2
    rcases Nat.le_total d c with k | k
    · rw [show d - c = 0 from by omega, rne_zero, rne_mul _ _ _ k]
    · rw [show c - d = 0 from by omega, Nat.pow_zero, Nat.mul_one, rne_scale _ _ _ k]
end Go.Proofs.Ytdlaloakochfeaa.Soft
