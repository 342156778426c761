/- THE PLAIN MATHEMATICS of floats that are added by whole numbers (no Go in sight). Own work of the verifier. -/
import Derived.Laws.FloatArith
namespace Go.Proofs.YtaeapikhhbjlnaaGreatDoor.Soft

/-- A number less its last j bits, to the nearest, of two as near the even one. -/
def rne (N j : Nat) : Nat := N / 2 ^ j + (if 2 ^ j < 2 * (N % 2 ^ j) ∨ 2 ^ j = 2 * (N % 2 ^ j) ∧ N / 2 ^ j % 2 = 1 then 1 else 0)
/-- A number less its last i bits, whose last bit tells whether anything was cut off. -/
def ss (N i : Nat) : Nat := N / 2 ^ i ||| (if N % 2 ^ i = 0 then 0 else 1)
theorem or_one (a : Nat) : a ||| 1 = a / 2 * 2 + 1 := by
  apply Nat.eq_of_testBit_eq
  intro i
  rw [Nat.testBit_or]
  cases i with
  | zero => simp [Nat.testBit_zero]
  | succ i =>
    rw [Nat.testBit_succ, Nat.testBit_succ, Nat.testBit_succ, show (a / 2 * 2 + 1) / 2 = a / 2 from by omega, show 1 / 2 = 0 from rfl]
    simp
theorem ss_val (N i : Nat) : ss N i = if N % 2 ^ i = 0 then N / 2 ^ i else N / 2 ^ i / 2 * 2 + 1 := by
  unfold ss; split
  · simp
  · exact or_one _
theorem ss_zero (N : Nat) : ss N 0 = N := by rw [ss_val]; simp [Nat.mod_one]
theorem pow_pos' (j : Nat) : 0 < 2 ^ j := Nat.pow_pos (by decide)
/-- To round a number whose last bit tells what was cut off is to round the number. -/
theorem rne_ss (N i j : Nat) (h : i + 2 ≤ j) : rne (ss N i) (j - i) = rne N j := by
  obtain ⟨k, rfl⟩ : ∃ k, j = i + (k + 2) := ⟨j - i - 2, by omega⟩
  rw [show i + (k + 2) - i = k + 2 from by omega]
  have e1 : (2 : Nat) ^ (i + (k + 2)) = 2 ^ i * (4 * 2 ^ k) := by rw [Nat.pow_add, Nat.pow_add]; congr 1; omega
  have e2 : (2 : Nat) ^ (k + 2) = 4 * 2 ^ k := by rw [Nat.pow_add]; omega
  have hp := pow_pos' i
  have hq := pow_pos' k
  unfold rne
  rw [ss_val, e1, e2]
  -- N = 2^i A + r
  have hN := Nat.div_add_mod N (2 ^ i)
  have hr := Nat.mod_lt N hp
  have hd : N / (2 ^ i * (4 * 2 ^ k)) = N / 2 ^ i / (4 * 2 ^ k) := (Nat.div_div_eq_div_mul _ _ _).symm
  rw [hd]
  clear hd
  have hm : N % (2 ^ i * (4 * 2 ^ k)) = 2 ^ i * (N / 2 ^ i % (4 * 2 ^ k)) + N % 2 ^ i := by
    rw [Nat.mod_mul]; omega
  rw [hm]
  generalize N / 2 ^ i = A at *
  generalize N % 2 ^ i = r at *
  generalize 2 ^ i = P at *
  generalize 2 ^ k = Q at *
  have hA := Nat.div_add_mod A (4 * Q)
  have ha := Nat.mod_lt A (show 0 < 4 * Q by omega)
  generalize hα : A % (4 * Q) = α at *
  generalize hβ : A / (4 * Q) = q at *
  by_cases h0 : r = 0
  · rw [if_pos h0, hα, hβ, h0, Nat.add_zero]
    have c1 : P * (4 * Q) < 2 * (P * α) ↔ 4 * Q < 2 * α := by
      rw [show 2 * (P * α) = P * (2 * α) from by rw [Nat.mul_left_comm]]
      exact Nat.mul_lt_mul_left hp
    have c2 : P * (4 * Q) = 2 * (P * α) ↔ 4 * Q = 2 * α := by
      rw [show 2 * (P * α) = P * (2 * α) from by rw [Nat.mul_left_comm]]
      exact Nat.mul_right_inj (by omega)
    simp only [c1, c2]
  · rw [if_neg h0]
    have f1 : (A / 2 * 2 + 1) / (4 * Q) = q := by
      rw [← hβ]
      rcases Nat.mod_two_eq_zero_or_one A with m | m
      · rw [show A / 2 * 2 + 1 = A + 1 from by omega]
        have : α % 2 = 0 := by
          have : A % 2 = α % 2 := by rw [← hα, Nat.mod_mod_of_dvd _ (by exact ⟨2 * Q, by omega⟩)]
          omega
        have k1 : A + 1 = 4 * Q * q + (α + 1) := by omega
        rw [k1, Nat.mul_add_div (by omega), Nat.div_eq_of_lt (by omega), ← hβ]; rfl
      · rw [show A / 2 * 2 + 1 = A from by omega]
    have f2 : (A / 2 * 2 + 1) % (4 * Q) = α / 2 * 2 + 1 := by
      have k0 := Nat.div_add_mod (A / 2 * 2 + 1) (4 * Q)
      rw [f1] at k0
      have : A % 2 = α % 2 := by rw [← hα, Nat.mod_mod_of_dvd _ (by exact ⟨2 * Q, by omega⟩)]
      omega
    rw [f1, f2]
    congr 1
    have hr0 : 0 < r := by omega
    have c1 : (4 * Q < 2 * (α / 2 * 2 + 1) ∨ 4 * Q = 2 * (α / 2 * 2 + 1) ∧ q % 2 = 1) ↔ 2 * Q ≤ α := by constructor <;> intro h <;> omega
    have c2 : (P * (4 * Q) < 2 * (P * α + r) ∨ P * (4 * Q) = 2 * (P * α + r) ∧ q % 2 = 1) ↔ 2 * Q ≤ α := by
      constructor
      · intro h
        rcases Nat.lt_or_ge α (2 * Q) with k | k
        · exfalso
          have : P * (α + 1) ≤ P * (2 * Q) := Nat.mul_le_mul_left _ k
          rw [Nat.mul_add, Nat.mul_one] at this
          have e : P * (4 * Q) = 2 * (P * (2 * Q)) := by rw [Nat.mul_left_comm 2 P]; congr 1; omega
          omega
        · exact k
      · intro h
        left
        have : P * (2 * Q) ≤ P * α := Nat.mul_le_mul_left _ h
        have e : P * (4 * Q) = 2 * (P * (2 * Q)) := by rw [Nat.mul_left_comm 2 P]; congr 1; omega
        omega
    simp only [c1, c2]
theorem ss_ss (N i k : Nat) : ss (ss N i) k = ss N (i + k) := by
  rw [ss_val (ss N i) k, ss_val N (i + k), ss_val N i, Nat.pow_add]
  have hp := pow_pos' i
  have hN := Nat.div_add_mod N (2 ^ i)
  have hr := Nat.mod_lt N hp
  have hd : N / (2 ^ i * 2 ^ k) = N / 2 ^ i / 2 ^ k := (Nat.div_div_eq_div_mul _ _ _).symm
  have hm : N % (2 ^ i * 2 ^ k) = 2 ^ i * (N / 2 ^ i % 2 ^ k) + N % 2 ^ i := by rw [Nat.mod_mul]; omega
  rw [hd, hm]
  cases k with
  | zero =>
    simp only [Nat.pow_zero, Nat.mod_one, Nat.div_one, Nat.mul_zero, Nat.zero_add, if_true]
  | succ k =>
    have e : (2 : Nat) ^ (k + 1) = 2 * 2 ^ k := by rw [Nat.pow_succ]; omega
    have hq := pow_pos' k
    rw [e]
    generalize N / 2 ^ i = A at *
    generalize N % 2 ^ i = r at *
    generalize 2 ^ i = P at *
    generalize 2 ^ k = Q at *
    by_cases h0 : r = 0
    · subst h0
      rw [if_pos rfl]
      by_cases hz : A % (2 * Q) = 0
      · rw [if_pos hz, if_pos (by rw [hz]; simp)]
      · have h3 : ¬ P * (A % (2 * Q)) + 0 = 0 := by rw [Nat.add_zero]; exact Nat.mul_ne_zero (by omega) hz
        rw [if_neg hz, if_neg h3]
    · have f1 : (A / 2 * 2 + 1) / (2 * Q) = A / (2 * Q) := by
        rw [← Nat.div_div_eq_div_mul, ← Nat.div_div_eq_div_mul]
        congr 1; omega
      have f2 : ¬ (A / 2 * 2 + 1) % (2 * Q) = 0 := by
        intro h
        have : (A / 2 * 2 + 1) % 2 = 0 := by
          have := Nat.mod_mod_of_dvd (A / 2 * 2 + 1) (show 2 ∣ 2 * Q from ⟨Q, rfl⟩)
          rw [h] at this; omega
        omega
      have f3 : ¬ P * (A % (2 * Q)) + r = 0 := by omega
      rw [if_neg h0, if_neg f2, if_neg f3, f1]
/-- The rung nearest to a whole number of the least units. -/
def nrung (N : Nat) : Nat := if N < 9007199254740992 then N else min ((N.log2 - 52) * 4503599627370496 + rne N (N.log2 - 52)) 9218868437227405312
theorem cut_even (neg : Bool) (n d : Nat) : Ieee.Toward.even.cut neg n d = rne n d := by
  unfold Ieee.Toward.cut rne
  simp only [Nat.one_shiftLeft]
  by_cases h : d ≤ n.log2 + 2
  · rw [Nat.min_eq_left h]
    congr 1
    by_cases c : 2 ^ d < 2 * (n % 2 ^ d) ∨ 2 ^ d = 2 * (n % 2 ^ d) ∧ n / 2 ^ d % 2 = 1
    · rw [if_pos c]
      have : (decide (2 ^ d < 2 * (n % 2 ^ d)) || (2 ^ d == 2 * (n % 2 ^ d) && n / 2 ^ d % 2 == 1)) = true := by simpa using c
      rw [this]; rfl
    · rw [if_neg c]
      have : (decide (2 ^ d < 2 * (n % 2 ^ d)) || (2 ^ d == 2 * (n % 2 ^ d) && n / 2 ^ d % 2 == 1)) = false := by
        rw [Bool.eq_false_iff]; intro k; exact c (by simpa using k)
      rw [this]; rfl
  · rw [Nat.min_eq_right (by omega)]
    have hn : n < 2 ^ (n.log2 + 1) := Nat.lt_log2_self
    have e1 : (2 : Nat) ^ (n.log2 + 2) = 2 * 2 ^ (n.log2 + 1) := by rw [Nat.pow_succ]; omega
    have e2 : 2 ^ (n.log2 + 2) ≤ 2 ^ d := Nat.pow_le_pow_right (by decide) (by omega)
    have m1 : n % 2 ^ (n.log2 + 2) = n := Nat.mod_eq_of_lt (by omega)
    have m2 : n % 2 ^ d = n := Nat.mod_eq_of_lt (by omega)
    have d1 : n / 2 ^ (n.log2 + 2) = 0 := Nat.div_eq_of_lt (by omega)
    have d2 : n / 2 ^ d = 0 := Nat.div_eq_of_lt (by omega)
    rw [m1, m2, d1, d2]
    have c1 : ¬ (2 ^ d < 2 * n ∨ 2 ^ d = 2 * n ∧ 0 % 2 = 1) := by omega
    rw [if_neg c1]
    have : (decide (2 ^ (n.log2 + 2) < 2 * n) || (2 ^ (n.log2 + 2) == 2 * n && (0 % 2 == 1))) = false := by
      rw [Bool.eq_false_iff]; intro k
      simp at k
      omega
    rw [this]; rfl
theorem log2_mul_pow (n c : Nat) (h : n ≠ 0) : (n * 2 ^ c).log2 = n.log2 + c := by
  have hp := pow_pos' c
  have h1 : 2 ^ n.log2 ≤ n := Nat.log2_self_le h
  have h2 : n < 2 ^ (n.log2 + 1) := Nat.lt_log2_self
  have h0 : n * 2 ^ c ≠ 0 := Nat.mul_ne_zero h (by omega)
  apply Nat.le_antisymm
  · apply Nat.le_of_lt_succ
    rw [Nat.log2_lt h0, show (n.log2 + c).succ = n.log2 + 1 + c from by omega, Nat.pow_add]
    exact Nat.mul_lt_mul_of_pos_right h2 hp
  · rw [Nat.le_log2 h0, Nat.pow_add]
    exact Nat.mul_le_mul_right _ h1
theorem rne_zero (N : Nat) : rne N 0 = N := by unfold rne; simp [Nat.mod_one]
theorem rne_mul (m c d : Nat) (h : d ≤ c) : rne (m * 2 ^ c) d = m * 2 ^ (c - d) := by
  have e : m * 2 ^ c = 2 ^ d * (m * 2 ^ (c - d)) := by
    rw [Nat.mul_left_comm, ← Nat.pow_add, show d + (c - d) = c from by omega]
  unfold rne
  rw [e, Nat.mul_div_cancel_left _ (pow_pos' d), Nat.mul_mod_right]
  have := pow_pos' d
  rw [if_neg (by omega)]; rfl
theorem rne_scale (m c d : Nat) (h : c ≤ d) : rne (m * 2 ^ c) d = rne m (d - c) := by
  obtain ⟨k, rfl⟩ : ∃ k, d = c + k := ⟨d - c, by omega⟩
  rw [show c + k - c = k from by omega]
  unfold rne
  have hp := pow_pos' c
  have e1 : m * 2 ^ c / 2 ^ (c + k) = m / 2 ^ k := by rw [Nat.add_comm, Nat.pow_add, Nat.mul_div_mul_right _ _ hp]
  have e2 : m * 2 ^ c % 2 ^ (c + k) = m % 2 ^ k * 2 ^ c := by rw [Nat.add_comm, Nat.pow_add, Nat.mul_mod_mul_right]
  rw [e1, e2, Nat.add_comm c k, Nat.pow_add]
  congr 1
  have c1 : 2 ^ k * 2 ^ c < 2 * (m % 2 ^ k * 2 ^ c) ↔ 2 ^ k < 2 * (m % 2 ^ k) := by rw [← Nat.mul_assoc]; exact Nat.mul_lt_mul_right hp
  have c2 : 2 ^ k * 2 ^ c = 2 * (m % 2 ^ k * 2 ^ c) ↔ 2 ^ k = 2 * (m % 2 ^ k) := by rw [← Nat.mul_assoc]; exact Nat.mul_left_inj (by omega)
  simp only [c1, c2]
/-- What the model's floats round to. -/
theorem nearest_rung (neg : Bool) (mag c : Nat) (h : mag ≠ 0) : Ieee.double.nearest neg mag (-1074 + (c : Int)) = Ieee.double.word neg (nrung (mag * 2 ^ c)) := by
  unfold Ieee.Format.nearest
  rw [if_neg h]
  simp only [cut_even, Nat.shiftLeft_eq]
  have f1 : Ieee.double.binade = 4503599627370496 := by decide
  have f2 : Ieee.double.infRung = 9218868437227405312 := by decide
  have f3 : Ieee.double.leastPlace = -1074 := by decide
  have f4 : Ieee.double.fractionBits = 52 := rfl
  rw [f1, f2, f3, f4]
  congr 1
  have hN : mag * 2 ^ c ≠ 0 := Nat.mul_ne_zero h (by have := pow_pos' c; omega)
  have hl := log2_mul_pow mag c h
  unfold nrung
  by_cases hs : mag * 2 ^ c < 9007199254740992
  · have hlt : (mag * 2 ^ c).log2 < 53 := (Nat.log2_lt hN).2 hs
    rw [if_pos hs, show max (-1074 + (c : Int) + (mag.log2 : Int) - ((52 : Nat) : Int)) (-1074) = -1074 from by omega]
    rw [show (-1074 + (c : Int) - -1074).toNat = c from by omega, show (-1074 - (-1074 + (c : Int))).toNat = 0 from by omega, show ((-1074 : Int) - -1074).toNat = 0 from by decide, rne_zero]
    omega
  · have hge : 53 ≤ (mag * 2 ^ c).log2 := by rw [Nat.le_log2 hN]; omega
    rw [if_neg hs, hl]
    rw [hl] at hge
    rw [show max (-1074 + (c : Int) + (mag.log2 : Int) - ((52 : Nat) : Int)) (-1074) = -1074 + ((mag.log2 + c - 52 : Nat) : Int) from by omega]
    generalize hd : mag.log2 + c - 52 = d
    rw [show (-1074 + (d : Int) - -1074).toNat = d from by omega, show (-1074 + (c : Int) - (-1074 + (d : Int))).toNat = c - d from by omega, show (-1074 + (d : Int) - (-1074 + (c : Int))).toNat = d - c from by omega]
    congr 2
    rcases Nat.le_total d c with k | k
    · rw [show d - c = 0 from by omega, rne_zero, rne_mul _ _ _ k]
    · rw [show c - d = 0 from by omega, Nat.pow_zero, Nat.mul_one, rne_scale _ _ _ k]
end Go.Proofs.YtaeapikhhbjlnaaGreatDoor.Soft
/- THE PLAIN MATHEMATICS of floats that are added by whole numbers: what is packed. Own work of the verifier. -/
namespace Go.Proofs.YtaeapikhhbjlnaaGreatDoor.Soft

/-- The rung nearest to N, without the bound above. -/
def nr (N : Nat) : Nat := if N < 9007199254740992 then N else (N.log2 - 52) * 4503599627370496 + rne N (N.log2 - 52)
theorem nrung_small {N : Nat} (h : N < 9007199254740992) : nrung N = N := by unfold nrung; rw [if_pos h]
theorem nrung_nr (N : Nat) : nrung N = min (nr N) 9218868437227405312 := by
  unfold nrung nr
  split
  · omega
  · rfl
theorem rne_eight (N D : Nat) : rne (8 * N) (D + 3) = rne N D := by
  have := rne_scale N 3 (D + 3) (by omega)
  rw [show D + 3 - 3 = D from by omega, show N * 2 ^ 3 = 8 * N from by omega] at this
  exact this
theorem log2_of (N k : Nat) (h1 : 2 ^ k ≤ N) (h2 : N < 2 ^ (k + 1)) : N.log2 = k := by
  have hN : N ≠ 0 := by have := pow_pos' k; omega
  apply Nat.le_antisymm
  · exact Nat.le_of_lt_succ ((Nat.log2_lt hN).2 h2)
  · exact (Nat.le_log2 hN).2 h1
/-- How great a number is whose eighths, shortened, have 56 bits. -/
theorem size_of_ss (N D : Nat) (h1 : 36028797018963968 ≤ ss (8 * N) D) (h2 : ss (8 * N) D < 72057594037927936) : 2 ^ (52 + D) ≤ N ∧ N < 2 ^ (52 + D + 1) := by
  have hp := pow_pos' D
  have hq : 36028797018963968 ≤ 8 * N / 2 ^ D ∧ 8 * N / 2 ^ D < 72057594037927936 := by
    rw [ss_val] at h1 h2
    split at h1
    · rename_i h; rw [if_pos h] at h2; exact ⟨h1, h2⟩
    · rename_i h; rw [if_neg h] at h2; constructor <;> omega
  obtain ⟨q1, q2⟩ := hq
  rw [Nat.le_div_iff_mul_le hp] at q1
  rw [Nat.div_lt_iff_lt_mul hp] at q2
  rw [Nat.pow_succ, Nat.pow_add]
  have e : (2 : Nat) ^ 52 = 4503599627370496 := by decide
  rw [e]
  generalize 2 ^ D = P at *
  omega
/-- A number's eighths shortened by D' bits, 56 of them left: to round these to whole ones is to round the number. -/
theorem pack_right (N D : Nat) (h1 : 36028797018963968 ≤ ss (8 * N) D) (h2 : ss (8 * N) D < 72057594037927936) : D * 4503599627370496 + rne (ss (8 * N) D) 3 = nr N := by
  obtain ⟨a, b⟩ := size_of_ss N D h1 h2
  have hl := log2_of N (52 + D) a (by rw [show 52 + D + 1 = 52 + D + 1 from rfl]; exact b)
  have hr : rne (ss (8 * N) D) 3 = rne N D := by
    have := rne_ss (8 * N) D (D + 3) (by omega)
    rw [show D + 3 - D = 3 from by omega, rne_eight] at this
    exact this
  rw [hr]
  unfold nr
  by_cases hs : N < 9007199254740992
  · rw [if_pos hs]
    have hD : D = 0 := by
      rcases Nat.eq_zero_or_pos D with h | h
      · exact h
      · exfalso
        have : 2 ^ 53 ≤ 2 ^ (52 + D) := Nat.pow_le_pow_right (by decide) (by omega)
        have e : (2 : Nat) ^ 53 = 9007199254740992 := by decide
        omega
    subst hD
    rw [rne_zero]; omega
  · rw [if_neg hs, hl, show 52 + D - 52 = D from by omega]
/-- The same where one more bit was put behind. -/
theorem pack_left1 (N D : Nat) (h1 : 18014398509481984 ≤ ss (8 * N) (D + 1)) (h2 : ss (8 * N) (D + 1) < 36028797018963968) : D * 4503599627370496 + rne (ss (8 * N) (D + 1) * 2) 3 = nr N := by
  have hp := pow_pos' D
  have hr : rne (ss (8 * N) (D + 1) * 2) 3 = rne N D := by
    have e1 := rne_scale (ss (8 * N) (D + 1)) 1 3 (by omega)
    rw [show 3 - 1 = 2 from rfl, Nat.pow_one] at e1
    have e2 := rne_ss (8 * N) (D + 1) (D + 3) (by omega)
    rw [show D + 3 - (D + 1) = 2 from by omega, rne_eight] at e2
    rw [e1, e2]
  have hq : 18014398509481984 ≤ 8 * N / 2 ^ (D + 1) ∧ 8 * N / 2 ^ (D + 1) < 36028797018963968 := by
    rw [ss_val] at h1 h2
    split at h1
    · rename_i h; rw [if_pos h] at h2; exact ⟨h1, h2⟩
    · rename_i h; rw [if_neg h] at h2; constructor <;> omega
  obtain ⟨q1, q2⟩ := hq
  rw [Nat.le_div_iff_mul_le (pow_pos' (D + 1))] at q1
  rw [Nat.div_lt_iff_lt_mul (pow_pos' (D + 1))] at q2
  rw [Nat.pow_succ] at q1 q2
  have a : 2 ^ (52 + D) ≤ N := by
    rw [Nat.pow_add, show (2 : Nat) ^ 52 = 4503599627370496 from by decide]
    generalize 2 ^ D = P at *
    omega
  have b : N < 2 ^ (52 + D + 1) := by
    rw [Nat.pow_succ, Nat.pow_add, show (2 : Nat) ^ 52 = 4503599627370496 from by decide]
    generalize 2 ^ D = P at *
    omega
  have hl := log2_of N (52 + D) a b
  rw [hr]
  unfold nr
  by_cases hs : N < 9007199254740992
  · rw [if_pos hs]
    have hD : D = 0 := by
      rcases Nat.eq_zero_or_pos D with h | h
      · exact h
      · exfalso
        have : 2 ^ 53 ≤ 2 ^ (52 + D) := Nat.pow_le_pow_right (by decide) (by omega)
        have e : (2 : Nat) ^ 53 = 9007199254740992 := by decide
        omega
    subst hD
    rw [rne_zero]; omega
  · rw [if_neg hs, hl, show 52 + D - 52 = D from by omega]
/-- Where nothing was cut off, any number of bits may be put behind. -/
theorem ss_exact (N D M : Nat) (h : 8 * N = M * 2 ^ D) (l : Nat) (hl : l ≤ D) : M * 2 ^ l = ss (8 * N) (D - l) := by
  have hp := pow_pos' (D - l)
  have e : 8 * N = 2 ^ (D - l) * (M * 2 ^ l) := by
    rw [h, Nat.mul_left_comm, ← Nat.pow_add, show D - l + l = D from by omega]
  rw [ss_val, e, Nat.mul_mod_right, if_pos rfl, Nat.mul_div_cancel_left _ hp]
/-- The least floats: nothing is cut off. -/
theorem pack_least (N : Nat) (h : 8 * N < 72057594037927936) : rne (8 * N) 3 = nr N := by
  have := rne_eight N 0
  rw [Nat.zero_add, rne_zero] at this
  rw [this]
  unfold nr
  rw [if_pos (by omega)]
end Go.Proofs.YtaeapikhhbjlnaaGreatDoor.Soft
/- THE PLAIN MATHEMATICS of floats that are added by whole numbers: what is laid one over the other. Own work of the verifier. -/
namespace Go.Proofs.YtaeapikhhbjlnaaGreatDoor.Soft

theorem ss_scale (x c k : Nat) : ss (x * 2 ^ c) (c + k) = ss x k := by
  have hp := pow_pos' c
  rw [ss_val, ss_val, Nat.add_comm c k, Nat.pow_add, Nat.mul_div_mul_right _ _ hp, Nat.mul_mod_mul_right]
  by_cases h : x % 2 ^ k = 0
  · rw [if_pos h, if_pos (by rw [h]; simp)]
  · rw [if_neg h, if_neg (Nat.mul_ne_zero h (by omega))]
theorem align_add (ma mb k : Nat) : 8 * ma + ss (8 * mb) k = ss (8 * (ma * 2 ^ k + mb)) k := by
  have hp := pow_pos' k
  have e : 8 * (ma * 2 ^ k + mb) = 2 ^ k * (8 * ma) + 8 * mb := by rw [Nat.mul_add, ← Nat.mul_assoc, Nat.mul_comm (8 * ma)]
  rw [ss_val, ss_val, e, Nat.mul_add_div hp, Nat.mul_add_mod]
  split <;> omega
theorem align_sub (ma mb k : Nat) (h : mb ≤ ma * 2 ^ k) : 8 * ma - ss (8 * mb) k = ss (8 * (ma * 2 ^ k - mb)) k := by
  have hp := pow_pos' k
  have hY := Nat.div_add_mod (8 * mb) (2 ^ k)
  have hr := Nat.mod_lt (8 * mb) hp
  have e : 8 * (ma * 2 ^ k - mb) = 2 ^ k * (8 * ma) - 8 * mb := by
    rw [Nat.mul_sub, ← Nat.mul_assoc, Nat.mul_comm (8 * ma)]
  have hle : 8 * mb ≤ 2 ^ k * (8 * ma) := by
    have : 8 * mb ≤ 8 * (ma * 2 ^ k) := Nat.mul_le_mul_left _ h
    rw [← Nat.mul_assoc, Nat.mul_comm (8 * ma)] at this; exact this
  rw [ss_val, ss_val, e]
  have hev : 8 * ma % 2 = 0 := by omega
  generalize 8 * ma = m at *
  generalize hq : 8 * mb / 2 ^ k = q at *
  generalize hr' : 8 * mb % 2 ^ k = r at *
  generalize 8 * mb = Y at *
  generalize 2 ^ k = P at *
  have hqm : q ≤ m := by
    rcases Nat.lt_or_ge m q with c | c
    · exfalso
      have : P * (m + 1) ≤ P * q := Nat.mul_le_mul_left _ c
      rw [Nat.mul_add, Nat.mul_one] at this
      omega
    · exact c
  by_cases h0 : r = 0
  · have d : P * m - Y = P * (m - q) := by rw [Nat.mul_sub]; omega
    rw [if_pos h0, d, Nat.mul_mod_right, if_pos rfl, Nat.mul_div_cancel_left _ hp]
  · have hlt : q < m := by
      rcases Nat.lt_or_eq_of_le hqm with c | c
      · exact c
      · exfalso; subst c; omega
    have d : P * m - Y = P * (m - q - 1) + (P - r) := by
      have : P * m = P * (m - q - 1) + P * q + P := by
        rw [← Nat.mul_add, ← Nat.mul_succ]; congr 1; omega
      omega
    rw [if_neg h0, d, Nat.mul_add_mod, Nat.mod_eq_of_lt (show P - r < P by omega), if_neg (by omega), Nat.mul_add_div hp, Nat.div_eq_of_lt (show P - r < P by omega), Nat.add_zero]
    omega
/-- Where the second number was cut, what comes is great. -/
theorem cut_great (ma mb k : Nat) (hb : mb < 9007199254740992) (h : ss (8 * mb) k * 2 ^ k ≠ 8 * mb) (ha : 4503599627370496 ≤ ma) : 18014398509481984 ≤ 8 * ma - ss (8 * mb) k := by
  have hk : 4 ≤ k := by
    rcases Nat.lt_or_ge k 4 with c | c
    · exfalso; apply h
      rw [ss_val]
      have : k = 0 ∨ k = 1 ∨ k = 2 ∨ k = 3 := by omega
      rcases this with rfl | rfl | rfl | rfl
      · rw [Nat.pow_zero, if_pos (Nat.mod_one _)]; omega
      · rw [if_pos (by omega)]; omega
      · rw [if_pos (by omega)]; omega
      · rw [if_pos (by omega)]; omega
    · exact c
  have h16 : 16 ≤ 2 ^ k := by
    have : 2 ^ 4 ≤ 2 ^ k := Nat.pow_le_pow_right (by decide) hk
    omega
  have hd : 8 * mb / 2 ^ k ≤ 4503599627370496 := by
    have : 8 * mb / 2 ^ k ≤ 8 * mb / 16 := Nat.div_le_div_left h16 (by decide)
    omega
  have : ss (8 * mb) k ≤ 4503599627370497 := by
    rw [ss_val]; split <;> omega
  omega
/-- What the second loop leaves: nothing was cut off; or something was, and one bit at most was put behind. -/
def Left (N D M : Nat) : Prop := M = ss (8 * N) D ∨ 36028797018963968 ≤ M ∧ M = ss (8 * N) (D + 1) * 2
theorem pack_fin (N D M : Nat) (h : Left N D M) (h2 : M < 72057594037927936) (h1 : 36028797018963968 ≤ M ∨ D = 0) : D * 4503599627370496 + rne M 3 = nr N := by
  rcases h with h | ⟨h, k⟩
  · subst h
    rcases Nat.lt_or_ge (ss (8 * N) D) 36028797018963968 with c | c
    · have hD : D = 0 := by omega
      subst hD
      rw [ss_zero] at c ⊢
      rw [pack_least N (by omega)]; omega
    · exact pack_right N D c h2
  · rw [k]
    exact pack_left1 N D (by omega) (by omega)
/-- A round of the second loop. -/
theorem left_step (N D M : Nat) (h : M = ss (8 * N) (D + 1)) (hx : 8 * N = M * 2 ^ (D + 1) ∨ 18014398509481984 ≤ M) (hM : M < 36028797018963968) : Left N D (M * 2) := by
  rcases hx with hx | hx
  · left
    have := ss_exact N (D + 1) M hx 1 (by omega)
    rw [Nat.pow_one, show D + 1 - 1 = D from by omega] at this
    exact this
  · right
    exact ⟨by omega, by rw [h]⟩
end Go.Proofs.YtaeapikhhbjlnaaGreatDoor.Soft
/- THE ORDER of floats of 64 bits, by their words (no Go in sight). Own work of the verifier. -/
namespace Go.Proofs.YtaeapikhhbjlnaaGreatDoor


/-- A positive float, in units of the least one. -/
def uV (a : Nat) : Nat := if a < 4503599627370496 then a else (4503599627370496 + a % 4503599627370496) * 2 ^ (a / 4503599627370496 - 1)
theorem uV_succ (a : Nat) : uV a < uV (a + 1) := by
  unfold uV
  by_cases h1 : a + 1 < 4503599627370496
  · rw [if_pos (by omega), if_pos h1]; omega
  · by_cases h2 : a < 4503599627370496
    · obtain rfl : a = 4503599627370495 := by omega
      decide
    · rw [if_neg h2, if_neg h1]
      have hp : 0 < 2 ^ (a / 4503599627370496 - 1) := Nat.pow_pos (by decide)
      by_cases h3 : (a + 1) % 4503599627370496 = 0
      · have e1 : (a + 1) / 4503599627370496 - 1 = (a / 4503599627370496 - 1) + 1 := by omega
        rw [h3, e1, Nat.pow_succ]
        have e2 : a % 4503599627370496 = 4503599627370495 := by omega
        rw [e2]
        generalize 2 ^ (a / 4503599627370496 - 1) = p at *
        omega
      · have e1 : (a + 1) / 4503599627370496 = a / 4503599627370496 := by omega
        have e2 : (a + 1) % 4503599627370496 = a % 4503599627370496 + 1 := by omega
        rw [e1, e2]
        exact Nat.mul_lt_mul_of_pos_right (by omega) hp
theorem uV_mono {a b : Nat} (h : a < b) : uV a < uV b := by
  induction b with
  | zero => omega
  | succ b ih =>
    rcases Nat.lt_or_eq_of_le (Nat.le_of_lt_succ h) with k | k
    · exact Nat.lt_trans (ih k) (uV_succ b)
    · rw [k]; exact uV_succ b

def magOf (a : Nat) : Nat := if a < 4503599627370496 then a else 4503599627370496 + a % 4503599627370496
def upOf (a : Nat) : Nat := if a < 4503599627370496 then 0 else a / 4503599627370496 - 1
theorem uV_eq (a : Nat) : magOf a * 2 ^ upOf a = uV a := by
  unfold magOf upOf uV; split <;> simp
theorem fmt : Ieee.double.signWeight = 9223372036854775808 ∧ Ieee.double.binade = 4503599627370496 ∧ Ieee.double.infRung = 9218868437227405312 ∧ Ieee.double.leastPlace = -1074 := by decide
/-- What a positive float stands for. -/
theorem read_pos (a : Nat) (h : a < 9218868437227405312) : Ieee.double.read a = .number false (magOf a) (-1074 + (upOf a : Int)) := by
  obtain ⟨f1, f2, f3, f4⟩ := fmt
  have e1 : (a / 9223372036854775808 % 2 == 1) = false := by rw [beq_eq_false_iff_ne]; omega
  have e2 : a % 9223372036854775808 = a := by omega
  unfold Ieee.Format.read magOf upOf
  simp only [f1, f2, f3, f4, e1, e2]
  by_cases hl : a < 4503599627370496
  · rw [if_pos hl, if_pos hl, if_pos hl]; rfl
  · rw [if_neg hl, if_neg hl, if_neg hl, if_pos h]



/-- A float by its sign and its size; what it stands for, in units of the least one. -/
def sw (s : Bool) (a : Nat) : Nat := if s then 9223372036854775808 + a else a
def sv (s : Bool) (a : Nat) : Int := if s then -(uV a : Int) else (uV a : Int)
theorem read_sw (s : Bool) (a : Nat) (h : a < 9218868437227405312) : Ieee.double.read (sw s a) = .number s (magOf a) (-1074 + (upOf a : Int)) := by
  cases s with
  | false => exact read_pos a h
  | true =>
    obtain ⟨f1, f2, f3, f4⟩ := fmt
    show Ieee.double.read (9223372036854775808 + a) = _
    have e1 : ((9223372036854775808 + a) / 9223372036854775808 % 2 == 1) = true := by rw [beq_iff_eq]; omega
    have e2 : (9223372036854775808 + a) % 9223372036854775808 = a := by omega
    unfold Ieee.Format.read magOf upOf
    simp only [f1, f2, f3, f4, e1, e2]
    by_cases hl : a < 4503599627370496
    · rw [if_pos hl, if_pos hl, if_pos hl]; rfl
    · rw [if_neg hl, if_neg hl, if_neg hl, if_pos h]
theorem cmpI_mul (x y : Int) (p : Nat) (hp : 0 < p) : compare (x * (p : Int)) (y * (p : Int)) = compare x y := by
  have hp' : (0 : Int) < p := by omega
  rcases Int.lt_trichotomy x y with h | h | h
  · rw [Int.compare_eq_lt.2 h, Int.compare_eq_lt.2 (Int.mul_lt_mul_of_pos_right h hp')]
  · subst h; simp
  · rw [Int.compare_eq_gt.2 h, Int.compare_eq_gt.2 (Int.mul_lt_mul_of_pos_right h hp')]
theorem sv_signed (s : Bool) (a x c : Nat) (h : upOf a = x + c) : sv s a = Ieee.signed s (magOf a) x * ((2 ^ c : Nat) : Int) := by
  unfold sv Ieee.signed
  rw [← uV_eq a, h, Nat.pow_add, ← Nat.mul_assoc, Nat.shiftLeft_eq]
  cases s with
  | false => simp only [Bool.false_eq_true, if_false]; rw [Int.natCast_mul (magOf a * 2 ^ x)]
  | true => simp only [if_true]; rw [Int.natCast_mul (magOf a * 2 ^ x), Int.neg_mul]
theorem order_sw (s t : Bool) (a b : Nat) (ha : a < 9218868437227405312) (hb : b < 9218868437227405312) : Ieee.double.order (sw s a) (sw t b) = some (compare (sv s a) (sv t b)) := by
  unfold Ieee.Format.order
  rw [read_sw s a ha, read_sw t b hb]
  simp only [Ieee.Datum.order]
  congr 1
  have hx : ∃ c : Nat, upOf a = (-1074 + (upOf a : Int) - min (-1074 + (upOf a : Int)) (-1074 + (upOf b : Int))).toNat + c ∧ upOf b = (-1074 + (upOf b : Int) - min (-1074 + (upOf a : Int)) (-1074 + (upOf b : Int))).toNat + c := by
    refine ⟨min (upOf a) (upOf b), ?_, ?_⟩ <;> omega
  obtain ⟨c, h1, h2⟩ := hx
  rw [sv_signed s a _ c h1, sv_signed t b _ c h2, cmpI_mul _ _ _ (Nat.pow_pos (by decide))]

/-- Where a float stands, by its sign and its size. -/
def sr (s : Bool) (a : Nat) : Int := if s then -(a : Int) else (a : Int)
theorem cmp_congr {x y x' y' : Int} (h1 : x < y ↔ x' < y') (h2 : y < x ↔ y' < x') : compare x y = compare x' y' := by
  rcases Int.lt_trichotomy x y with h | h | h
  · rw [Int.compare_eq_lt.2 h, Int.compare_eq_lt.2 (h1.1 h)]
  · have e : x' = y' := by
      rcases Int.lt_trichotomy x' y' with k | k | k
      · have := h1.2 k; omega
      · exact k
      · have := h2.2 k; omega
    rw [h, e]; simp
  · rw [Int.compare_eq_gt.2 h, Int.compare_eq_gt.2 (h2.1 h)]
theorem uV_zero : uV 0 = 0 := by decide
theorem uV_lt_iff (a b : Nat) : uV a < uV b ↔ a < b := by
  constructor
  · intro h
    rcases Nat.lt_trichotomy a b with k | k | k
    · exact k
    · subst k; omega
    · have := uV_mono k; omega
  · exact uV_mono
theorem cmp_sv (s t : Bool) (a b : Nat) : compare (sv s a) (sv t b) = compare (sr s a) (sr t b) := by
  have h1 := uV_lt_iff a b
  have h2 := uV_lt_iff b a
  have h3 := uV_lt_iff 0 a
  have h4 := uV_lt_iff 0 b
  rw [uV_zero] at h3 h4
  apply cmp_congr
  · cases s <;> cases t <;> simp only [sv, sr, Bool.false_eq_true, if_false, if_true] <;> omega
  · cases s <;> cases t <;> simp only [sv, sr, Bool.false_eq_true, if_false, if_true] <;> omega
theorem read_inf (s : Bool) : Ieee.double.read (sw s 9218868437227405312) = .infinity s := by cases s <;> decide
/-- How two floats stand that are no NaNs. -/
theorem order_all (s t : Bool) (a b : Nat) (ha : a ≤ 9218868437227405312) (hb : b ≤ 9218868437227405312) : Ieee.double.order (sw s a) (sw t b) = some (compare (sr s a) (sr t b)) := by
  rcases Nat.lt_or_eq_of_le ha with ha | ha
  · rcases Nat.lt_or_eq_of_le hb with hb | hb
    · rw [order_sw s t a b ha hb, cmp_sv]
    · subst hb
      unfold Ieee.Format.order
      rw [read_sw s a ha, read_inf t]
      simp only [Ieee.Datum.order]
      cases t
      · rw [if_neg (by decide)]; congr 1; symm; rw [Int.compare_eq_lt]; unfold sr; cases s <;> simp <;> omega
      · rw [if_pos rfl]; congr 1; symm; rw [Int.compare_eq_gt]; unfold sr; cases s <;> simp <;> omega
  · subst ha
    rcases Nat.lt_or_eq_of_le hb with hb | hb
    · unfold Ieee.Format.order
      rw [read_sw t b hb, read_inf s]
      simp only [Ieee.Datum.order]
      cases s
      · rw [if_neg (by decide)]; congr 1; symm; rw [Int.compare_eq_gt]; unfold sr; cases t <;> simp <;> omega
      · rw [if_pos rfl]; congr 1; symm; rw [Int.compare_eq_lt]; unfold sr; cases t <;> simp <;> omega
    · subst hb
      unfold Ieee.Format.order
      rw [read_inf s, read_inf t]
      cases s <;> cases t <;> decide
theorem read_nan (s : Bool) (a : Nat) (h : 9218868437227405312 < a) (h2 : a < 9223372036854775808) : ∃ f, Ieee.double.read (sw s a) = .nan s f := by
  obtain ⟨f1, f2, f3, f4⟩ := fmt
  have e1 : ((sw s a) / 9223372036854775808 % 2 == 1) = s := by
    unfold sw; cases s
    · rw [if_neg (by decide), beq_eq_false_iff_ne]; omega
    · rw [if_pos rfl, beq_iff_eq]; omega
  have e2 : sw s a % 9223372036854775808 = a := by unfold sw; cases s <;> simp <;> omega
  unfold Ieee.Format.read
  simp only [f1, f2, f3, f4, e1, e2]
  rw [if_neg (by omega), if_neg (by omega), if_neg (by omega)]
  exact ⟨_, rfl⟩
theorem order_nan1 (s : Bool) (a y : Nat) (h : 9218868437227405312 < a) (h2 : a < 9223372036854775808) : Ieee.double.order (sw s a) y = none := by
  obtain ⟨f, e⟩ := read_nan s a h h2
  unfold Ieee.Format.order
  rw [e]; rfl
theorem order_nan2 (s : Bool) (a x : Nat) (h : 9218868437227405312 < a) (h2 : a < 9223372036854775808) : Ieee.double.order x (sw s a) = none := by
  obtain ⟨f, e⟩ := read_nan s a h h2
  unfold Ieee.Format.order
  rw [e]
  cases Ieee.double.read x <;> rfl
/-- A word by its sign and its size. -/
theorem sw_of (x : Nat) (h : x < 18446744073709551616) : ∃ s a, x = sw s a ∧ a < 9223372036854775808 := by
  by_cases k : x < 9223372036854775808
  · exact ⟨false, x, rfl, k⟩
  · exact ⟨true, x - 9223372036854775808, by unfold sw; rw [if_pos rfl]; omega, by omega⟩
end Go.Proofs.YtaeapikhhbjlnaaGreatDoor
/- THE MODEL's SUMS of floats, by whole numbers of the least units. Own work of the verifier. -/
namespace Go.Proofs.YtaeapikhhbjlnaaGreatDoor.Soft

theorem word_sw (neg : Bool) (r : Nat) : Ieee.double.word neg r = sw neg r := by
  unfold Ieee.Format.word sw
  rw [show Ieee.double.signWeight = 9223372036854775808 from by decide]
/-- The sum of two finite floats. -/
def addW (s t : Bool) (a b : Nat) : Nat := if sv s a + sv t b = 0 then sw (s && t) 0 else sw (decide (sv s a + sv t b < 0)) (nrung (sv s a + sv t b).natAbs)
theorem add_fin (s t : Bool) (a b : Nat) (ha : a < 9218868437227405312) (hb : b < 9218868437227405312) : Ieee.double.add (sw s a) (sw t b) = some (addW s t a b) := by
  unfold Ieee.Format.add
  rw [read_sw s a ha, read_sw t b hb]
  obtain ⟨c, h1, h2, hc⟩ : ∃ c : Nat, upOf a = (-1074 + (upOf a : Int) - min (-1074 + (upOf a : Int)) (-1074 + (upOf b : Int))).toNat + c ∧ upOf b = (-1074 + (upOf b : Int) - min (-1074 + (upOf a : Int)) (-1074 + (upOf b : Int))).toNat + c ∧ min (-1074 + (upOf a : Int)) (-1074 + (upOf b : Int)) = -1074 + (c : Int) :=
    ⟨min (upOf a) (upOf b), by omega, by omega, by omega⟩
  have e1 := sv_signed s a _ c h1
  have e2 := sv_signed t b _ c h2
  unfold Ieee.Datum.sum
  simp only
  rw [hc] at e1 e2 ⊢
  generalize Ieee.signed s (magOf a) (-1074 + (upOf a : Int) - (-1074 + (c : Int))).toNat = A at *
  generalize Ieee.signed t (magOf b) (-1074 + (upOf b : Int) - (-1074 + (c : Int))).toNat = B at *
  have hp : (0 : Int) < ((2 ^ c : Nat) : Int) := by have := pow_pos' c; omega
  have eT : sv s a + sv t b = (A + B) * ((2 ^ c : Nat) : Int) := by rw [e1, e2, Int.add_mul]
  unfold addW
  rw [eT]
  show some (Ieee.double.write _) = _
  congr 1
  by_cases hz : A + B = 0
  · rw [if_pos hz, hz, Int.zero_mul, if_pos rfl]
    show Ieee.double.nearest _ 0 _ = _
    unfold Ieee.Format.nearest
    rw [if_pos rfl, word_sw]
  · have hz' : (A + B) * ((2 ^ c : Nat) : Int) ≠ 0 := Int.mul_ne_zero hz (by omega)
    rw [if_neg hz, if_neg hz']
    show Ieee.double.nearest _ (A + B).natAbs _ = _
    have hn : (A + B).natAbs ≠ 0 := by omega
    rw [nearest_rung _ _ c hn, word_sw, Int.natAbs_mul, Int.natAbs_natCast]
    congr 1
    have : (A + B < 0) ↔ ((A + B) * ((2 ^ c : Nat) : Int) < 0) := by
      constructor
      · intro h; exact Int.mul_neg_of_neg_of_pos h hp
      · intro h
        by_cases k : A + B < 0
        · exact k
        · have := Int.mul_nonneg (show 0 ≤ A + B by omega) (Int.le_of_lt hp); omega
    exact decide_eq_decide.2 this
theorem add_comm' (s t : Bool) (a b : Nat) : addW s t a b = addW t s b a := by
  unfold addW
  rw [Int.add_comm, Bool.and_comm]
end Go.Proofs.YtaeapikhhbjlnaaGreatDoor.Soft
/- SUMS of floats by whole numbers: the document's way. Own work of the verifier. -/
namespace Go.Proofs.YtaeapikhhbjlnaaGreatDoor.Soft

theorem up_mono {a b : Nat} (h : b ≤ a) : upOf b ≤ upOf a := by
  unfold upOf
  split <;> split <;> omega
theorem mag_lt (a : Nat) : magOf a < 9007199254740992 := by unfold magOf; split <;> omega
theorem mag_norm {a : Nat} (h : 0 < upOf a) : 4503599627370496 ≤ magOf a := by
  unfold upOf at h; unfold magOf
  split at h
  · omega
  · rw [if_neg (by assumption)]; omega
theorem uV_up {a b : Nat} (h : upOf b ≤ upOf a) : uV a = magOf a * 2 ^ (upOf a - upOf b) * 2 ^ upOf b := by
  rw [← uV_eq a, Nat.mul_assoc, ← Nat.pow_add, show upOf a - upOf b + upOf b = upOf a from by omega]
theorem sum_bits (a b : Nat) (h : b ≤ a) : 8 * magOf a + ss (8 * magOf b) (upOf a - upOf b) = ss (8 * (uV a + uV b)) (upOf a) := by
  have hu := up_mono h
  rw [align_add, uV_up hu, ← uV_eq b, ← Nat.add_mul, ← Nat.mul_assoc]
  have := ss_scale (8 * (magOf a * 2 ^ (upOf a - upOf b) + magOf b)) (upOf b) (upOf a - upOf b)
  rw [show upOf b + (upOf a - upOf b) = upOf a from by omega] at this
  exact this.symm
theorem uV_le {a b : Nat} (h : b ≤ a) : uV b ≤ uV a := by
  rcases Nat.lt_or_eq_of_le h with k | k
  · exact Nat.le_of_lt (uV_mono k)
  · rw [k]; exact Nat.le_refl _
theorem aligned_le {a b : Nat} (h : b ≤ a) : magOf b ≤ magOf a * 2 ^ (upOf a - upOf b) := by
  have hu := up_mono h
  have := uV_le h
  rw [uV_up hu, ← uV_eq b] at this
  exact Nat.le_of_mul_le_mul_right this (pow_pos' _)
theorem dif_bits (a b : Nat) (h : b ≤ a) : 8 * magOf a - ss (8 * magOf b) (upOf a - upOf b) = ss (8 * (uV a - uV b)) (upOf a) := by
  have hu := up_mono h
  rw [align_sub _ _ _ (aligned_le h), uV_up hu, ← uV_eq b, ← Nat.sub_mul, ← Nat.mul_assoc]
  have := ss_scale (8 * (magOf a * 2 ^ (upOf a - upOf b) - magOf b)) (upOf b) (upOf a - upOf b)
  rw [show upOf b + (upOf a - upOf b) = upOf a from by omega] at this
  exact this.symm
/-- Nothing was cut off, or what is left is great: of a difference. -/
theorem dif_left (a b : Nat) (h : b ≤ a) : 8 * (uV a - uV b) = (8 * magOf a - ss (8 * magOf b) (upOf a - upOf b)) * 2 ^ upOf a ∨ 18014398509481984 ≤ 8 * magOf a - ss (8 * magOf b) (upOf a - upOf b) := by
  have hu := up_mono h
  by_cases hx : ss (8 * magOf b) (upOf a - upOf b) * 2 ^ (upOf a - upOf b) = 8 * magOf b
  · left
    have e : 2 ^ upOf a = 2 ^ (upOf a - upOf b) * 2 ^ upOf b := by rw [← Nat.pow_add, show upOf a - upOf b + upOf b = upOf a from by omega]
    rw [Nat.sub_mul, e, ← Nat.mul_assoc (ss _ _), hx, Nat.mul_sub, uV_up hu, ← uV_eq b]
    simp only [Nat.mul_assoc]
  · right
    have h0 : 0 < upOf a := by
      rcases Nat.eq_zero_or_pos (upOf a) with k | k
      · exfalso; apply hx
        have : upOf a - upOf b = 0 := by omega
        rw [this, ss_zero, Nat.pow_zero, Nat.mul_one]
      · exact k
    exact cut_great _ _ _ (mag_lt b) hx (mag_norm h0)
/-- .. of a sum. -/
theorem sum_left (a b : Nat) (h : b ≤ a) : 8 * (uV a + uV b) = (8 * magOf a + ss (8 * magOf b) (upOf a - upOf b)) * 2 ^ upOf a ∨ 18014398509481984 ≤ 8 * magOf a + ss (8 * magOf b) (upOf a - upOf b) := by
  have hu := up_mono h
  by_cases hx : ss (8 * magOf b) (upOf a - upOf b) * 2 ^ (upOf a - upOf b) = 8 * magOf b
  · left
    have e : 2 ^ upOf a = 2 ^ (upOf a - upOf b) * 2 ^ upOf b := by rw [← Nat.pow_add, show upOf a - upOf b + upOf b = upOf a from by omega]
    rw [Nat.add_mul, e, ← Nat.mul_assoc (ss _ _), hx, Nat.mul_add, uV_up hu, ← uV_eq b]
    simp only [Nat.mul_assoc]
  · right
    have h0 : 0 < upOf a := by
      rcases Nat.eq_zero_or_pos (upOf a) with k | k
      · exfalso; apply hx
        have : upOf a - upOf b = 0 := by omega
        rw [this, ss_zero, Nat.pow_zero, Nat.mul_one]
      · exact k
    have := mag_norm h0
    omega
theorem ss_le (N k : Nat) : ss N k ≤ N := by
  have hp := pow_pos' k
  have hd : N / 2 ^ k ≤ N := Nat.div_le_self _ _
  rw [ss_val]
  split
  · exact hd
  · rename_i h
    have hN : 0 < N := by
      rcases Nat.eq_zero_or_pos N with e | e
      · rw [e] at h; simp at h
      · exact e
    rcases Nat.eq_zero_or_pos k with e | e
    · rw [e, Nat.pow_zero, Nat.mod_one] at h; exact absurd rfl h
    · have : 2 ^ 1 ≤ 2 ^ k := Nat.pow_le_pow_right (by decide) e
      have : N / 2 ^ k ≤ N / 2 := Nat.div_le_div_left (by omega) (by decide)
      omega
end Go.Proofs.YtaeapikhhbjlnaaGreatDoor.Soft
