/- THE PLAIN MATHEMATICS of floats that are added by whole numbers (no Go in sight). Own work of the verifier. -/
import Derived.Laws.FloatArith
import Derived.Test.YtmejmohambhaaaaGreatDoorOrdMath
import Derived.Test.YtmejmohambhaaaaGreatDoorL3
import Derived.Test.YtmejmohambhaaaaGreatDoorL24
import Derived.Test.YtmejmohambhaaaaGreatDoorPB1
import Derived.Test.YtmejmohambhaaaaGreatDoorPB2
namespace Go.Proofs.YtmejmohambhaaaaGreatDoor.Soft

/-- A number less its last j bits, to the nearest, of two as near the even one. -/
def rne (N j : Nat) : Nat := N / 2 ^ j + (if 2 ^ j < 2 * (N % 2 ^ j) ∨ 2 ^ j = 2 * (N % 2 ^ j) ∧ N / 2 ^ j % 2 = 1 then 1 else 0)
/-- A number less its last i bits, whose last bit tells whether anything was cut off. -/
def ss (N i : Nat) : Nat := N / 2 ^ i ||| (if N % 2 ^ i = 0 then 0 else 1)
theorem or_one (a : Nat) : a ||| 1 = a / 2 * 2 + 1 := by
  apply Nat.eq_of_testBit_eq
  intro i
  rw [Nat.testBit_or]
  cases i with
  | zero => simp [Nat.testBit_zero]
  | succ i =>
    rw [Nat.testBit_succ, Nat.testBit_succ, Nat.testBit_succ, show (a / 2 * 2 + 1) / 2 = a / 2 from by omega, show 1 / 2 = 0 from rfl]
    simp
theorem ss_val (N i : Nat) : ss N i = if N % 2 ^ i = 0 then N / 2 ^ i else N / 2 ^ i / 2 * 2 + 1 := by
  unfold ss; split
  · simp
  · exact or_one _
theorem ss_zero (N : Nat) : ss N 0 = N := by rw [ss_val]; simp [Nat.mod_one]
theorem pow_pos' (j : Nat) : 0 < 2 ^ j := Nat.pow_pos (by decide)
/-- To round a number whose last bit tells what was cut off is to round the number. -/
theorem rne_ss (N i j : Nat) (h : i + 2 ≤ j) : rne (ss N i) (j - i) = rne N j := by
  obtain ⟨k, rfl⟩ : ∃ k, j = i + (k + 2) := ⟨j - i - 2, by omega⟩
  rw [show i + (k + 2) - i = k + 2 from by omega]
  have e1 : (2 : Nat) ^ (i + (k + 2)) = 2 ^ i * (4 * 2 ^ k) := by rw [Nat.pow_add, Nat.pow_add]; congr 1; omega
  have e2 : (2 : Nat) ^ (k + 2) = 4 * 2 ^ k := by rw [Nat.pow_add]; omega
  have hp := pow_pos' i
  have hq := pow_pos' k
  unfold rne
  rw [ss_val, e1, e2]
  -- N = 2^i A + r
  have hN := Nat.div_add_mod N (2 ^ i)
  have hr := Nat.mod_lt N hp
  have hd : N / (2 ^ i * (4 * 2 ^ k)) = N / 2 ^ i / (4 * 2 ^ k) := (Nat.div_div_eq_div_mul _ _ _).symm
  rw [hd]
  clear hd
  have hm : N % (2 ^ i * (4 * 2 ^ k)) = 2 ^ i * (N / 2 ^ i % (4 * 2 ^ k)) + N % 2 ^ i := by
    rw [Nat.mod_mul]; omega
  rw [hm]
  generalize N / 2 ^ i = A at *
  generalize N % 2 ^ i = r at *
  generalize 2 ^ i = P at *
  generalize 2 ^ k = Q at *
  have hA := Nat.div_add_mod A (4 * Q)
  have ha := Nat.mod_lt A (show 0 < 4 * Q by omega)
  generalize hα : A % (4 * Q) = α at *
  generalize hβ : A / (4 * Q) = q at *
  by_cases h0 : r = 0
  · rw [if_pos h0, hα, hβ, h0, Nat.add_zero]
    have c1 : P * (4 * Q) < 2 * (P * α) ↔ 4 * Q < 2 * α := by
      rw [show 2 * (P * α) = P * (2 * α) from by rw [Nat.mul_left_comm]]
      exact Nat.mul_lt_mul_left hp
    have c2 : P * (4 * Q) = 2 * (P * α) ↔ 4 * Q = 2 * α := by
      rw [show 2 * (P * α) = P * (2 * α) from by rw [Nat.mul_left_comm]]
      exact Nat.mul_right_inj (by omega)
    simp only [c1, c2]
  · rw [if_neg h0]
    have f1 : (A / 2 * 2 + 1) / (4 * Q) = q := by
      rw [← hβ]
      rcases Nat.mod_two_eq_zero_or_one A with m | m
      · rw [show A / 2 * 2 + 1 = A + 1 from by omega]
        have : α % 2 = 0 := by
          have : A % 2 = α % 2 := by rw [← hα, Nat.mod_mod_of_dvd _ (by exact ⟨2 * Q, by omega⟩)]
          omega
        have k1 : A + 1 = 4 * Q * q + (α + 1) := by omega
        rw [k1, Nat.mul_add_div (by omega), Nat.div_eq_of_lt (by omega), ← hβ]; rfl
      · rw [show A / 2 * 2 + 1 = A from by omega]
    have f2 : (A / 2 * 2 + 1) % (4 * Q) = α / 2 * 2 + 1 := by
      have k0 := Nat.div_add_mod (A / 2 * 2 + 1) (4 * Q)
      rw [f1] at k0
      have : A % 2 = α % 2 := by rw [← hα, Nat.mod_mod_of_dvd _ (by exact ⟨2 * Q, by omega⟩)]
      omega
    rw [f1, f2]
    congr 1
    have hr0 : 0 < r := by omega
    have c1 : (4 * Q < 2 * (α / 2 * 2 + 1) ∨ 4 * Q = 2 * (α / 2 * 2 + 1) ∧ q % 2 = 1) ↔ 2 * Q ≤ α := by constructor <;> intro h <;> omega
    have c2 : (P * (4 * Q) < 2 * (P * α + r) ∨ P * (4 * Q) = 2 * (P * α + r) ∧ q % 2 = 1) ↔ 2 * Q ≤ α := by
      constructor
      · intro h
        rcases Nat.lt_or_ge α (2 * Q) with k | k
        · exfalso
          have : P * (α + 1) ≤ P * (2 * Q) := Nat.mul_le_mul_left _ k
          rw [Nat.mul_add, Nat.mul_one] at this
          have e : P * (4 * Q) = 2 * (P * (2 * Q)) := by rw [Nat.mul_left_comm 2 P]; congr 1; omega
          omega
        · exact k
      · intro h
        left
        have : P * (2 * Q) ≤ P * α := Nat.mul_le_mul_left _ h
        have e : P * (4 * Q) = 2 * (P * (2 * Q)) := by rw [Nat.mul_left_comm 2 P]; congr 1; omega
        omega
    simp only [c1, c2]
theorem ss_ss (N i k : Nat) : ss (ss N i) k = ss N (i + k) := by
  rw [ss_val (ss N i) k, ss_val N (i + k), ss_val N i, Nat.pow_add]
  have hp := pow_pos' i
  have hN := Nat.div_add_mod N (2 ^ i)
  have hr := Nat.mod_lt N hp
  have hd : N / (2 ^ i * 2 ^ k) = N / 2 ^ i / 2 ^ k := (Nat.div_div_eq_div_mul _ _ _).symm
  have hm : N % (2 ^ i * 2 ^ k) = 2 ^ i * (N / 2 ^ i % 2 ^ k) + N % 2 ^ i := by rw [Nat.mod_mul]; omega
  rw [hd, hm]
  cases k with
  | zero =>
    simp only [Nat.pow_zero, Nat.mod_one, Nat.div_one, Nat.mul_zero, Nat.zero_add, if_true]
  | succ k =>
    have e : (2 : Nat) ^ (k + 1) = 2 * 2 ^ k := by rw [Nat.pow_succ]; omega
    have hq := pow_pos' k
    rw [e]
    generalize N / 2 ^ i = A at *
    generalize N % 2 ^ i = r at *
    generalize 2 ^ i = P at *
    generalize 2 ^ k = Q at *
    by_cases h0 : r = 0
    · subst h0
      rw [if_pos rfl]
      by_cases hz : A % (2 * Q) = 0
      · rw [if_pos hz, if_pos (by rw [hz]; simp)]
      · have h3 : ¬ P * (A % (2 * Q)) + 0 = 0 := by rw [Nat.add_zero]; exact Nat.mul_ne_zero (by omega) hz
        rw [if_neg hz, if_neg h3]
    · have f1 : (A / 2 * 2 + 1) / (2 * Q) = A / (2 * Q) := by
        rw [← Nat.div_div_eq_div_mul, ← Nat.div_div_eq_div_mul]
        congr 1; omega
      have f2 : ¬ (A / 2 * 2 + 1) % (2 * Q) = 0 := by
        intro h
        have : (A / 2 * 2 + 1) % 2 = 0 := by
          have := Nat.mod_mod_of_dvd (A / 2 * 2 + 1) (show 2 ∣ 2 * Q from ⟨Q, rfl⟩)
          rw [h] at this; omega
        omega
      have f3 : ¬ P * (A % (2 * Q)) + r = 0 := by omega
      rw [if_neg h0, if_neg f2, if_neg f3, f1]
/-- The rung nearest to a whole number of the least units. -/
def nrung (N : Nat) : Nat := if N < 9007199254740992 then N else min ((N.log2 - 52) * 4503599627370496 + rne N (N.log2 - 52)) 9218868437227405312
theorem cut_even (neg : Bool) (n d : Nat) : Ieee.Toward.even.cut neg n d = rne n d := by
  unfold Ieee.Toward.cut rne
  simp only [Nat.one_shiftLeft]
  by_cases h : d ≤ n.log2 + 2
  · rw [Nat.min_eq_left h]
    congr 1
    by_cases c : 2 ^ d < 2 * (n % 2 ^ d) ∨ 2 ^ d = 2 * (n % 2 ^ d) ∧ n / 2 ^ d % 2 = 1
    · rw [if_pos c]
      have : (decide (2 ^ d < 2 * (n % 2 ^ d)) || (2 ^ d == 2 * (n % 2 ^ d) && n / 2 ^ d % 2 == 1)) = true := by simpa using c
      rw [this]; rfl
    · rw [if_neg c]
      have : (decide (2 ^ d < 2 * (n % 2 ^ d)) || (2 ^ d == 2 * (n % 2 ^ d) && n / 2 ^ d % 2 == 1)) = false := by
        rw [Bool.eq_false_iff]; intro k; exact c (by simpa using k)
      rw [this]; rfl
  · rw [Nat.min_eq_right (by omega)]
    have hn : n < 2 ^ (n.log2 + 1) := Nat.lt_log2_self
    have e1 : (2 : Nat) ^ (n.log2 + 2) = 2 * 2 ^ (n.log2 + 1) := by rw [Nat.pow_succ]; omega
    have e2 : 2 ^ (n.log2 + 2) ≤ 2 ^ d := Nat.pow_le_pow_right (by decide) (by omega)
    have m1 : n % 2 ^ (n.log2 + 2) = n := Nat.mod_eq_of_lt (by omega)
    have m2 : n % 2 ^ d = n := Nat.mod_eq_of_lt (by omega)
    have d1 : n / 2 ^ (n.log2 + 2) = 0 := Nat.div_eq_of_lt (by omega)
    have d2 : n / 2 ^ d = 0 := Nat.div_eq_of_lt (by omega)
    rw [m1, m2, d1, d2]
    have c1 : ¬ (2 ^ d < 2 * n ∨ 2 ^ d = 2 * n ∧ 0 % 2 = 1) := by omega
    rw [if_neg c1]
    have : (decide (2 ^ (n.log2 + 2) < 2 * n) || (2 ^ (n.log2 + 2) == 2 * n && (0 % 2 == 1))) = false := by
      rw [Bool.eq_false_iff]; intro k
      simp at k
      omega
    rw [this]; rfl
theorem log2_mul_pow (n c : Nat) (h : n ≠ 0) : (n * 2 ^ c).log2 = n.log2 + c := by
  have hp := pow_pos' c
  have h1 : 2 ^ n.log2 ≤ n := Nat.log2_self_le h
  have h2 : n < 2 ^ (n.log2 + 1) := Nat.lt_log2_self
  have h0 : n * 2 ^ c ≠ 0 := Nat.mul_ne_zero h (by omega)
  apply Nat.le_antisymm
  · apply Nat.le_of_lt_succ
    rw [Nat.log2_lt h0, show (n.log2 + c).succ = n.log2 + 1 + c from by omega, Nat.pow_add]
    exact Nat.mul_lt_mul_of_pos_right h2 hp
  · rw [Nat.le_log2 h0, Nat.pow_add]
    exact Nat.mul_le_mul_right _ h1
theorem rne_zero (N : Nat) : rne N 0 = N := by unfold rne; simp [Nat.mod_one]
theorem rne_mul (m c d : Nat) (h : d ≤ c) : rne (m * 2 ^ c) d = m * 2 ^ (c - d) := by
  have e : m * 2 ^ c = 2 ^ d * (m * 2 ^ (c - d)) := by
    rw [Nat.mul_left_comm, ← Nat.pow_add, show d + (c - d) = c from by omega]
  unfold rne
  rw [e, Nat.mul_div_cancel_left _ (pow_pos' d), Nat.mul_mod_right]
  have := pow_pos' d
  rw [if_neg (by omega)]; rfl
theorem rne_scale (m c d : Nat) (h : c ≤ d) : rne (m * 2 ^ c) d = rne m (d - c) := by
  obtain ⟨k, rfl⟩ : ∃ k, d = c + k := ⟨d - c, by omega⟩
  rw [show c + k - c = k from by omega]
  unfold rne
  have hp := pow_pos' c
  have e1 : m * 2 ^ c / 2 ^ (c + k) = m / 2 ^ k := by rw [Nat.add_comm, Nat.pow_add, Nat.mul_div_mul_right _ _ hp]
  have e2 : m * 2 ^ c % 2 ^ (c + k) = m % 2 ^ k * 2 ^ c := by rw [Nat.add_comm, Nat.pow_add, Nat.mul_mod_mul_right]
  rw [e1, e2, Nat.add_comm c k, Nat.pow_add]
  congr 1
  have c1 : 2 ^ k * 2 ^ c < 2 * (m % 2 ^ k * 2 ^ c) ↔ 2 ^ k < 2 * (m % 2 ^ k) := by rw [← Nat.mul_assoc]; exact Nat.mul_lt_mul_right hp
  have c2 : 2 ^ k * 2 ^ c = 2 * (m % 2 ^ k * 2 ^ c) ↔ 2 ^ k = 2 * (m % 2 ^ k) := by rw [← Nat.mul_assoc]; exact Nat.mul_left_inj (by omega)
  simp only [c1, c2]
/-- What the model's floats round to. -/
theorem nearest_rung (neg : Bool) (mag c : Nat) (h : mag ≠ 0) : Ieee.double.nearest neg mag (-1074 + (c : Int)) = Ieee.double.word neg (nrung (mag * 2 ^ c)) := by
  unfold Ieee.Format.nearest
  rw [if_neg h]
  simp only [cut_even, Nat.shiftLeft_eq]
  have f1 : Ieee.double.binade = 4503599627370496 := by decide
  have f2 : Ieee.double.infRung = 9218868437227405312 := by decide
  have f3 : Ieee.double.leastPlace = -1074 := by decide
  have f4 : Ieee.double.fractionBits = 52 := rfl
  rw [f1, f2, f3, f4]
  congr 1
  have hN : mag * 2 ^ c ≠ 0 := Nat.mul_ne_zero h (by have := pow_pos' c; omega)
  have hl := log2_mul_pow mag c h
  unfold nrung
  by_cases hs : mag * 2 ^ c < 9007199254740992
  · have hlt : (mag * 2 ^ c).log2 < 53 := (Nat.log2_lt hN).2 hs
    rw [if_pos hs, show max (-1074 + (c : Int) + (mag.log2 : Int) - ((52 : Nat) : Int)) (-1074) = -1074 from by omega]
    rw [show (-1074 + (c : Int) - -1074).toNat = c from by omega, show (-1074 - (-1074 + (c : Int))).toNat = 0 from by omega, show ((-1074 : Int) - -1074).toNat = 0 from by decide, rne_zero]
    omega
  · have hge : 53 ≤ (mag * 2 ^ c).log2 := by rw [Nat.le_log2 hN]; omega
    rw [if_neg hs, hl]
    rw [hl] at hge
    rw [show max (-1074 + (c : Int) + (mag.log2 : Int) - ((52 : Nat) : Int)) (-1074) = -1074 + ((mag.log2 + c - 52 : Nat) : Int) from by omega]
    generalize hd : mag.log2 + c - 52 = d
    rw [show (-1074 + (d : Int) - -1074).toNat = d from by omega, show (-1074 + (c : Int) - (-1074 + (d : Int))).toNat = c - d from by omega, show (-1074 + (d : Int) - (-1074 + (c : Int))).toNat = d - c from by omega]
    congr 2
    rcases Nat.le_total d c with k | k
    · rw [show d - c = 0 from by omega, rne_zero, rne_mul _ _ _ k]
    · rw [show c - d = 0 from by omega, Nat.pow_zero, Nat.mul_one, rne_scale _ _ _ k]
end Go.Proofs.YtmejmohambhaaaaGreatDoor.Soft
/- THE PLAIN MATHEMATICS of floats that are added by whole numbers: what is packed. Own work of the verifier. -/
namespace Go.Proofs.YtmejmohambhaaaaGreatDoor.Soft

/-- The rung nearest to N, without the bound above. -/
def nr (N : Nat) : Nat := if N < 9007199254740992 then N else (N.log2 - 52) * 4503599627370496 + rne N (N.log2 - 52)
theorem nrung_small {N : Nat} (h : N < 9007199254740992) : nrung N = N := by unfold nrung; rw [if_pos h]
theorem nrung_nr (N : Nat) : nrung N = min (nr N) 9218868437227405312 := by
  unfold nrung nr
  split
  · omega
  · rfl
theorem rne_eight (N D : Nat) : rne (8 * N) (D + 3) = rne N D := by
  have := rne_scale N 3 (D + 3) (by omega)
  rw [show D + 3 - 3 = D from by omega, show N * 2 ^ 3 = 8 * N from by omega] at this
  exact this
theorem log2_of (N k : Nat) (h1 : 2 ^ k ≤ N) (h2 : N < 2 ^ (k + 1)) : N.log2 = k := by
  have hN : N ≠ 0 := by have := pow_pos' k; omega
  apply Nat.le_antisymm
  · exact Nat.le_of_lt_succ ((Nat.log2_lt hN).2 h2)
  · exact (Nat.le_log2 hN).2 h1
/-- How great a number is whose eighths, shortened, have 56 bits. -/
theorem size_of_ss (N D : Nat) (h1 : 36028797018963968 ≤ ss (8 * N) D) (h2 : ss (8 * N) D < 72057594037927936) : 2 ^ (52 + D) ≤ N ∧ N < 2 ^ (52 + D + 1) := by
  have hp := pow_pos' D
  have hq : 36028797018963968 ≤ 8 * N / 2 ^ D ∧ 8 * N / 2 ^ D < 72057594037927936 := by
    rw [ss_val] at h1 h2
    split at h1
    · rename_i h; rw [if_pos h] at h2; exact ⟨h1, h2⟩
    · rename_i h; rw [if_neg h] at h2; constructor <;> omega
  obtain ⟨q1, q2⟩ := hq
  rw [Nat.le_div_iff_mul_le hp] at q1
  rw [Nat.div_lt_iff_lt_mul hp] at q2
  rw [Nat.pow_succ, Nat.pow_add]
  have e : (2 : Nat) ^ 52 = 4503599627370496 := by decide
  rw [e]
  generalize 2 ^ D = P at *
  omega
/-- A number's eighths shortened by D' bits, 56 of them left: to round these to whole ones is to round the number. -/
theorem pack_right (N D : Nat) (h1 : 36028797018963968 ≤ ss (8 * N) D) (h2 : ss (8 * N) D < 72057594037927936) : D * 4503599627370496 + rne (ss (8 * N) D) 3 = nr N := by
  obtain ⟨a, b⟩ := size_of_ss N D h1 h2
  have hl := log2_of N (52 + D) a (by rw [show 52 + D + 1 = 52 + D + 1 from rfl]; exact b)
  have hr : rne (ss (8 * N) D) 3 = rne N D := by
    have := rne_ss (8 * N) D (D + 3) (by omega)
    rw [show D + 3 - D = 3 from by omega, rne_eight] at this
    exact this
  rw [hr]
  unfold nr
  by_cases hs : N < 9007199254740992
  · rw [if_pos hs]
    have hD : D = 0 := by
      rcases Nat.eq_zero_or_pos D with h | h
      · exact h
      · exfalso
        have : 2 ^ 53 ≤ 2 ^ (52 + D) := Nat.pow_le_pow_right (by decide) (by omega)
        have e : (2 : Nat) ^ 53 = 9007199254740992 := by decide
        omega
    subst hD
    rw [rne_zero]; omega
  · rw [if_neg hs, hl, show 52 + D - 52 = D from by omega]
/-- The same where one more bit was put behind. -/
theorem pack_left1 (N D : Nat) (h1 : 18014398509481984 ≤ ss (8 * N) (D + 1)) (h2 : ss (8 * N) (D + 1) < 36028797018963968) : D * 4503599627370496 + rne (ss (8 * N) (D + 1) * 2) 3 = nr N := by
  have hp := pow_pos' D
  have hr : rne (ss (8 * N) (D + 1) * 2) 3 = rne N D := by
    have e1 := rne_scale (ss (8 * N) (D + 1)) 1 3 (by omega)
    rw [show 3 - 1 = 2 from rfl, Nat.pow_one] at e1
    have e2 := rne_ss (8 * N) (D + 1) (D + 3) (by omega)
    rw [show D + 3 - (D + 1) = 2 from by omega, rne_eight] at e2
    rw [e1, e2]
  have hq : 18014398509481984 ≤ 8 * N / 2 ^ (D + 1) ∧ 8 * N / 2 ^ (D + 1) < 36028797018963968 := by
    rw [ss_val] at h1 h2
    split at h1
    · rename_i h; rw [if_pos h] at h2; exact ⟨h1, h2⟩
    · rename_i h; rw [if_neg h] at h2; constructor <;> omega
  obtain ⟨q1, q2⟩ := hq
  rw [Nat.le_div_iff_mul_le (pow_pos' (D + 1))] at q1
  rw [Nat.div_lt_iff_lt_mul (pow_pos' (D + 1))] at q2
  rw [Nat.pow_succ] at q1 q2
  have a : 2 ^ (52 + D) ≤ N := by
    rw [Nat.pow_add, show (2 : Nat) ^ 52 = 4503599627370496 from by decide]
    generalize 2 ^ D = P at *
    omega
  have b : N < 2 ^ (52 + D + 1) := by
    rw [Nat.pow_succ, Nat.pow_add, show (2 : Nat) ^ 52 = 4503599627370496 from by decide]
    generalize 2 ^ D = P at *
    omega
  have hl := log2_of N (52 + D) a b
  rw [hr]
  unfold nr
  by_cases hs : N < 9007199254740992
  · rw [if_pos hs]
    have hD : D = 0 := by
      rcases Nat.eq_zero_or_pos D with h | h
      · exact h
      · exfalso
        have : 2 ^ 53 ≤ 2 ^ (52 + D) := Nat.pow_le_pow_right (by decide) (by omega)
        have e : (2 : Nat) ^ 53 = 9007199254740992 := by decide
        omega
    subst hD
    rw [rne_zero]; omega
  · rw [if_neg hs, hl, show 52 + D - 52 = D from by omega]
/-- Where nothing was cut off, any number of bits may be put behind. -/
theorem ss_exact (N D M : Nat) (h : 8 * N = M * 2 ^ D) (l : Nat) (hl : l ≤ D) : M * 2 ^ l = ss (8 * N) (D - l) := by
  have hp := pow_pos' (D - l)
  have e : 8 * N = 2 ^ (D - l) * (M * 2 ^ l) := by
    rw [h, Nat.mul_left_comm, ← Nat.pow_add, show D - l + l = D from by omega]
  rw [ss_val, e, Nat.mul_mod_right, if_pos rfl, Nat.mul_div_cancel_left _ hp]
/-- The least floats: nothing is cut off. -/
theorem pack_least (N : Nat) (h : 8 * N < 72057594037927936) : rne (8 * N) 3 = nr N := by
  have := rne_eight N 0
  rw [Nat.zero_add, rne_zero] at this
  rw [this]
  unfold nr
  rw [if_pos (by omega)]
end Go.Proofs.YtmejmohambhaaaaGreatDoor.Soft
/- THE PLAIN MATHEMATICS of floats that are added by whole numbers: what is laid one over the other. Own work of the verifier. -/
namespace Go.Proofs.YtmejmohambhaaaaGreatDoor.Soft

theorem ss_scale (x c k : Nat) : ss (x * 2 ^ c) (c + k) = ss x k := by
  have hp := pow_pos' c
  rw [ss_val, ss_val, Nat.add_comm c k, Nat.pow_add, Nat.mul_div_mul_right _ _ hp, Nat.mul_mod_mul_right]
  by_cases h : x % 2 ^ k = 0
  · rw [if_pos h, if_pos (by rw [h]; simp)]
  · rw [if_neg h, if_neg (Nat.mul_ne_zero h (by omega))]
theorem align_add (ma mb k : Nat) : 8 * ma + ss (8 * mb) k = ss (8 * (ma * 2 ^ k + mb)) k := by
  have hp := pow_pos' k
  have e : 8 * (ma * 2 ^ k + mb) = 2 ^ k * (8 * ma) + 8 * mb := by rw [Nat.mul_add, ← Nat.mul_assoc, Nat.mul_comm (8 * ma)]
  rw [ss_val, ss_val, e, Nat.mul_add_div hp, Nat.mul_add_mod]
  split <;> omega
theorem align_sub (ma mb k : Nat) (h : mb ≤ ma * 2 ^ k) : 8 * ma - ss (8 * mb) k = ss (8 * (ma * 2 ^ k - mb)) k := by
  have hp := pow_pos' k
  have hY := Nat.div_add_mod (8 * mb) (2 ^ k)
  have hr := Nat.mod_lt (8 * mb) hp
  have e : 8 * (ma * 2 ^ k - mb) = 2 ^ k * (8 * ma) - 8 * mb := by
    rw [Nat.mul_sub, ← Nat.mul_assoc, Nat.mul_comm (8 * ma)]
  have hle : 8 * mb ≤ 2 ^ k * (8 * ma) := by
    have : 8 * mb ≤ 8 * (ma * 2 ^ k) := Nat.mul_le_mul_left _ h
    rw [← Nat.mul_assoc, Nat.mul_comm (8 * ma)] at this; exact this
  rw [ss_val, ss_val, e]
  have hev : 8 * ma % 2 = 0 := by omega
  generalize 8 * ma = m at *
  generalize hq : 8 * mb / 2 ^ k = q at *
  generalize hr' : 8 * mb % 2 ^ k = r at *
  generalize 8 * mb = Y at *
  generalize 2 ^ k = P at *
  have hqm : q ≤ m := by
    rcases Nat.lt_or_ge m q with c | c
    · exfalso
      have : P * (m + 1) ≤ P * q := Nat.mul_le_mul_left _ c
      rw [Nat.mul_add, Nat.mul_one] at this
      omega
    · exact c
  by_cases h0 : r = 0
  · have d : P * m - Y = P * (m - q) := by rw [Nat.mul_sub]; omega
    rw [if_pos h0, d, Nat.mul_mod_right, if_pos rfl, Nat.mul_div_cancel_left _ hp]
  · have hlt : q < m := by
      rcases Nat.lt_or_eq_of_le hqm with c | c
      · exact c
      · exfalso; subst c; omega
    have d : P * m - Y = P * (m - q - 1) + (P - r) := by
      have : P * m = P * (m - q - 1) + P * q + P := by
        rw [← Nat.mul_add, ← Nat.mul_succ]; congr 1; omega
      omega
    rw [if_neg h0, d, Nat.mul_add_mod, Nat.mod_eq_of_lt (show P - r < P by omega), if_neg (by omega), Nat.mul_add_div hp, Nat.div_eq_of_lt (show P - r < P by omega), Nat.add_zero]
    omega
/-- Where the second number was cut, what comes is great. -/
theorem cut_great (ma mb k : Nat) (hb : mb < 9007199254740992) (h : ss (8 * mb) k * 2 ^ k ≠ 8 * mb) (ha : 4503599627370496 ≤ ma) : 18014398509481984 ≤ 8 * ma - ss (8 * mb) k := by
  have hk : 4 ≤ k := by
    rcases Nat.lt_or_ge k 4 with c | c
    · exfalso; apply h
      rw [ss_val]
      have : k = 0 ∨ k = 1 ∨ k = 2 ∨ k = 3 := by omega
      rcases this with rfl | rfl | rfl | rfl
      · rw [Nat.pow_zero, if_pos (Nat.mod_one _)]; omega
      · rw [if_pos (by omega)]; omega
      · rw [if_pos (by omega)]; omega
      · rw [if_pos (by omega)]; omega
    · exact c
  have h16 : 16 ≤ 2 ^ k := by
    have : 2 ^ 4 ≤ 2 ^ k := Nat.pow_le_pow_right (by decide) hk
    omega
  have hd : 8 * mb / 2 ^ k ≤ 4503599627370496 := by
    have : 8 * mb / 2 ^ k ≤ 8 * mb / 16 := Nat.div_le_div_left h16 (by decide)
    omega
  have : ss (8 * mb) k ≤ 4503599627370497 := by
    rw [ss_val]; split <;> omega
  omega
/-- What the second loop leaves: nothing was cut off; or something was, and one bit at most was put behind. -/
def Left (N D M : Nat) : Prop := M = ss (8 * N) D ∨ 36028797018963968 ≤ M ∧ M = ss (8 * N) (D + 1) * 2
theorem pack_fin (N D M : Nat) (h : Left N D M) (h2 : M < 72057594037927936) (h1 : 36028797018963968 ≤ M ∨ D = 0) : D * 4503599627370496 + rne M 3 = nr N := by
  rcases h with h | ⟨h, k⟩
  · subst h
    rcases Nat.lt_or_ge (ss (8 * N) D) 36028797018963968 with c | c
    · have hD : D = 0 := by omega
      subst hD
      rw [ss_zero] at c ⊢
      rw [pack_least N (by omega)]; omega
    · exact pack_right N D c h2
  · rw [k]
    exact pack_left1 N D (by omega) (by omega)
/-- A round of the second loop. -/
theorem left_step (N D M : Nat) (h : M = ss (8 * N) (D + 1)) (hx : 8 * N = M * 2 ^ (D + 1) ∨ 18014398509481984 ≤ M) (hM : M < 36028797018963968) : Left N D (M * 2) := by
  rcases hx with hx | hx
  · left
    have := ss_exact N (D + 1) M hx 1 (by omega)
    rw [Nat.pow_one, show D + 1 - 1 = D from by omega] at this
    exact this
  · right
    exact ⟨by omega, by rw [h]⟩
end Go.Proofs.YtmejmohambhaaaaGreatDoor.Soft
/- THE MODEL's SUMS of floats, by whole numbers of the least units. Own work of the verifier. -/
namespace Go.Proofs.YtmejmohambhaaaaGreatDoor.Soft

theorem word_sw (neg : Bool) (r : Nat) : Ieee.double.word neg r = sw neg r := by
  unfold Ieee.Format.word sw
  rw [show Ieee.double.signWeight = 9223372036854775808 from by decide]
/-- The sum of two finite floats. -/
def addW (s t : Bool) (a b : Nat) : Nat := if sv s a + sv t b = 0 then sw (s && t) 0 else sw (decide (sv s a + sv t b < 0)) (nrung (sv s a + sv t b).natAbs)
theorem add_fin (s t : Bool) (a b : Nat) (ha : a < 9218868437227405312) (hb : b < 9218868437227405312) : Ieee.double.add (sw s a) (sw t b) = some (addW s t a b) := by
  unfold Ieee.Format.add
  rw [read_sw s a ha, read_sw t b hb]
  obtain ⟨c, h1, h2, hc⟩ : ∃ c : Nat, upOf a = (-1074 + (upOf a : Int) - min (-1074 + (upOf a : Int)) (-1074 + (upOf b : Int))).toNat + c ∧ upOf b = (-1074 + (upOf b : Int) - min (-1074 + (upOf a : Int)) (-1074 + (upOf b : Int))).toNat + c ∧ min (-1074 + (upOf a : Int)) (-1074 + (upOf b : Int)) = -1074 + (c : Int) :=
    ⟨min (upOf a) (upOf b), by omega, by omega, by omega⟩
  have e1 := sv_signed s a _ c h1
  have e2 := sv_signed t b _ c h2
  unfold Ieee.Datum.sum
  simp only
  rw [hc] at e1 e2 ⊢
  generalize Ieee.signed s (magOf a) (-1074 + (upOf a : Int) - (-1074 + (c : Int))).toNat = A at *
  generalize Ieee.signed t (magOf b) (-1074 + (upOf b : Int) - (-1074 + (c : Int))).toNat = B at *
  have hp : (0 : Int) < ((2 ^ c : Nat) : Int) := by have := pow_pos' c; omega
  have eT : sv s a + sv t b = (A + B) * ((2 ^ c : Nat) : Int) := by rw [e1, e2, Int.add_mul]
  unfold addW
  rw [eT]
  show some (Ieee.double.write _) = _
  congr 1
  by_cases hz : A + B = 0
  · rw [if_pos hz, hz, Int.zero_mul, if_pos rfl]
    show Ieee.double.nearest _ 0 _ = _
    unfold Ieee.Format.nearest
    rw [if_pos rfl, word_sw]
  · have hz' : (A + B) * ((2 ^ c : Nat) : Int) ≠ 0 := Int.mul_ne_zero hz (by omega)
    rw [if_neg hz, if_neg hz']
    show Ieee.double.nearest _ (A + B).natAbs _ = _
    have hn : (A + B).natAbs ≠ 0 := by omega
    rw [nearest_rung _ _ c hn, word_sw, Int.natAbs_mul, Int.natAbs_natCast]
    congr 1
    have : (A + B < 0) ↔ ((A + B) * ((2 ^ c : Nat) : Int) < 0) := by
      constructor
      · intro h; exact Int.mul_neg_of_neg_of_pos h hp
      · intro h
        by_cases k : A + B < 0
        · exact k
        · have := Int.mul_nonneg (show 0 ≤ A + B by omega) (Int.le_of_lt hp); omega
    exact decide_eq_decide.2 this
theorem add_comm' (s t : Bool) (a b : Nat) : addW s t a b = addW t s b a := by
  unfold addW
  rw [Int.add_comm, Bool.and_comm]
end Go.Proofs.YtmejmohambhaaaaGreatDoor.Soft
/- SUMS of floats by whole numbers: the document's way. Own work of the verifier. -/
namespace Go.Proofs.YtmejmohambhaaaaGreatDoor.Soft

theorem up_mono {a b : Nat} (h : b ≤ a) : upOf b ≤ upOf a := by
  unfold upOf
  split <;> split <;> omega
theorem mag_lt (a : Nat) : magOf a < 9007199254740992 := by unfold magOf; split <;> omega
theorem mag_norm {a : Nat} (h : 0 < upOf a) : 4503599627370496 ≤ magOf a := by
  unfold upOf at h; unfold magOf
  split at h
  · omega
  · rw [if_neg (by assumption)]; omega
theorem uV_up {a b : Nat} (h : upOf b ≤ upOf a) : uV a = magOf a * 2 ^ (upOf a - upOf b) * 2 ^ upOf b := by
  rw [← uV_eq a, Nat.mul_assoc, ← Nat.pow_add, show upOf a - upOf b + upOf b = upOf a from by omega]
theorem sum_bits (a b : Nat) (h : b ≤ a) : 8 * magOf a + ss (8 * magOf b) (upOf a - upOf b) = ss (8 * (uV a + uV b)) (upOf a) := by
  have hu := up_mono h
  rw [align_add, uV_up hu, ← uV_eq b, ← Nat.add_mul, ← Nat.mul_assoc]
  have := ss_scale (8 * (magOf a * 2 ^ (upOf a - upOf b) + magOf b)) (upOf b) (upOf a - upOf b)
  rw [show upOf b + (upOf a - upOf b) = upOf a from by omega] at this
  exact this.symm
theorem uV_le {a b : Nat} (h : b ≤ a) : uV b ≤ uV a := by
  rcases Nat.lt_or_eq_of_le h with k | k
  · exact Nat.le_of_lt (uV_mono k)
  · rw [k]; exact Nat.le_refl _
theorem aligned_le {a b : Nat} (h : b ≤ a) : magOf b ≤ magOf a * 2 ^ (upOf a - upOf b) := by
  have hu := up_mono h
  have := uV_le h
  rw [uV_up hu, ← uV_eq b] at this
  exact Nat.le_of_mul_le_mul_right this (pow_pos' _)
theorem dif_bits (a b : Nat) (h : b ≤ a) : 8 * magOf a - ss (8 * magOf b) (upOf a - upOf b) = ss (8 * (uV a - uV b)) (upOf a) := by
  have hu := up_mono h
  rw [align_sub _ _ _ (aligned_le h), uV_up hu, ← uV_eq b, ← Nat.sub_mul, ← Nat.mul_assoc]
  have := ss_scale (8 * (magOf a * 2 ^ (upOf a - upOf b) - magOf b)) (upOf b) (upOf a - upOf b)
  rw [show upOf b + (upOf a - upOf b) = upOf a from by omega] at this
  exact this.symm
/-- Nothing was cut off, or what is left is great: of a difference. -/
theorem dif_left (a b : Nat) (h : b ≤ a) : 8 * (uV a - uV b) = (8 * magOf a - ss (8 * magOf b) (upOf a - upOf b)) * 2 ^ upOf a ∨ 18014398509481984 ≤ 8 * magOf a - ss (8 * magOf b) (upOf a - upOf b) := by
  have hu := up_mono h
  by_cases hx : ss (8 * magOf b) (upOf a - upOf b) * 2 ^ (upOf a - upOf b) = 8 * magOf b
  · left
    have e : 2 ^ upOf a = 2 ^ (upOf a - upOf b) * 2 ^ upOf b := by rw [← Nat.pow_add, show upOf a - upOf b + upOf b = upOf a from by omega]
    rw [Nat.sub_mul, e, ← Nat.mul_assoc (ss _ _), hx, Nat.mul_sub, uV_up hu, ← uV_eq b]
    simp only [Nat.mul_assoc]
  · right
    have h0 : 0 < upOf a := by
      rcases Nat.eq_zero_or_pos (upOf a) with k | k
      · exfalso; apply hx
        have : upOf a - upOf b = 0 := by omega
        rw [this, ss_zero, Nat.pow_zero, Nat.mul_one]
      · exact k
    exact cut_great _ _ _ (mag_lt b) hx (mag_norm h0)
/-- .. of a sum. -/
theorem sum_left (a b : Nat) (h : b ≤ a) : 8 * (uV a + uV b) = (8 * magOf a + ss (8 * magOf b) (upOf a - upOf b)) * 2 ^ upOf a ∨ 18014398509481984 ≤ 8 * magOf a + ss (8 * magOf b) (upOf a - upOf b) := by
  have hu := up_mono h
  by_cases hx : ss (8 * magOf b) (upOf a - upOf b) * 2 ^ (upOf a - upOf b) = 8 * magOf b
  · left
    have e : 2 ^ upOf a = 2 ^ (upOf a - upOf b) * 2 ^ upOf b := by rw [← Nat.pow_add, show upOf a - upOf b + upOf b = upOf a from by omega]
    rw [Nat.add_mul, e, ← Nat.mul_assoc (ss _ _), hx, Nat.mul_add, uV_up hu, ← uV_eq b]
    simp only [Nat.mul_assoc]
  · right
    have h0 : 0 < upOf a := by
      rcases Nat.eq_zero_or_pos (upOf a) with k | k
      · exfalso; apply hx
        have : upOf a - upOf b = 0 := by omega
        rw [this, ss_zero, Nat.pow_zero, Nat.mul_one]
      · exact k
    have := mag_norm h0
    omega
theorem ss_le (N k : Nat) : ss N k ≤ N := by
  have hp := pow_pos' k
  have hd : N / 2 ^ k ≤ N := Nat.div_le_self _ _
  rw [ss_val]
  split
  · exact hd
  · rename_i h
    have hN : 0 < N := by
      rcases Nat.eq_zero_or_pos N with e | e
      · rw [e] at h; simp at h
      · exact e
    rcases Nat.eq_zero_or_pos k with e | e
    · rw [e, Nat.pow_zero, Nat.mod_one] at h; exact absurd rfl h
    · have : 2 ^ 1 ≤ 2 ^ k := Nat.pow_le_pow_right (by decide) e
      have : N / 2 ^ k ≤ N / 2 := Nat.div_le_div_left (by omega) (by decide)
      omega
end Go.Proofs.YtmejmohambhaaaaGreatDoor.Soft
/- SUMS of floats by their words, NaNs as one. Own work of the verifier. -/
namespace Go.Proofs.YtmejmohambhaaaaGreatDoor.Soft

/-- All NaNs are told as this one. -/
def aNaN : Nat := 9221120237041090560
def isn (x : Nat) : Bool := decide (9218868437227405312 < x % 9223372036854775808)
def one (x : Nat) : Nat := if isn x then aNaN else x
def neg (x : Nat) : Nat := if 9223372036854775808 ≤ x then x - 9223372036854775808 else x + 9223372036854775808
/-- The sum, by the model's words. -/
def fa (x y : Nat) : Nat := (Ieee.double.add x y).getD aNaN
theorem sw_lt (s : Bool) {a : Nat} (h : a < 9223372036854775808) : sw s a < 18446744073709551616 := by unfold sw; cases s <;> simp <;> omega
theorem sw_mod (s : Bool) {a : Nat} (h : a < 9223372036854775808) : sw s a % 9223372036854775808 = a := by unfold sw; cases s <;> simp <;> omega
theorem isn_sw (s : Bool) {a : Nat} (h : a < 9223372036854775808) : isn (sw s a) = decide (9218868437227405312 < a) := by unfold isn; rw [sw_mod s h]
theorem neg_sw (s : Bool) {a : Nat} (h : a < 9223372036854775808) : neg (sw s a) = sw (!s) a := by
  unfold neg sw; cases s
  · show (if 9223372036854775808 ≤ a then _ else _) = _; rw [if_neg (by omega), Nat.add_comm]; rfl
  · show (if 9223372036854775808 ≤ 9223372036854775808 + a then _ else _) = _; rw [if_pos (by omega)]; show 9223372036854775808 + a - 9223372036854775808 = a; omega
theorem neg_lt {x : Nat} (h : x < 18446744073709551616) : neg x < 18446744073709551616 := by unfold neg; split <;> omega
theorem isn_neg {x : Nat} (h : x < 18446744073709551616) : isn (neg x) = isn x := by
  obtain ⟨s, a, rfl, ha⟩ := sw_of x h
  rw [neg_sw s ha, isn_sw _ ha, isn_sw _ ha]
theorem aNaN_nan : isn aNaN = true := by decide
theorem one_of_nan {x : Nat} (h : isn x = true) : one x = aNaN := by unfold one; rw [if_pos h]
theorem one_of_not {x : Nat} (h : isn x = false) : one x = x := by unfold one; rw [if_neg (by simp [h])]
theorem isn_one (x : Nat) : isn (one x) = isn x := by
  unfold one; split
  · rename_i h; rw [h]; rfl
  · rfl
theorem one_one (x : Nat) : one (one x) = one x := by
  cases h : isn x
  · rw [one_of_not h, one_of_not h]
  · rw [one_of_nan h]; rfl
theorem read_isn {x : Nat} (h : x < 18446744073709551616) (hn : isn x = true) : ∃ s f, Ieee.double.read x = .nan s f := by
  obtain ⟨s, a, rfl, ha⟩ := sw_of x h
  rw [isn_sw s ha] at hn
  obtain ⟨f, hf⟩ := read_nan s a (of_decide_eq_true hn) ha
  exact ⟨s, f, hf⟩
theorem add_nan1 {x : Nat} (y : Nat) (h : x < 18446744073709551616) (hn : isn x = true) : Ieee.double.add x y = none := by
  obtain ⟨s, f, hf⟩ := read_isn h hn
  unfold Ieee.Format.add; rw [hf]; rfl
theorem add_nan2 (x : Nat) {y : Nat} (h : y < 18446744073709551616) (hn : isn y = true) : Ieee.double.add x y = none := by
  obtain ⟨s, f, hf⟩ := read_isn h hn
  unfold Ieee.Format.add; rw [hf]; cases Ieee.double.read x <;> rfl
theorem add_inf_fin (s t : Bool) {b : Nat} (hb : b < 9218868437227405312) : Ieee.double.add (sw s 9218868437227405312) (sw t b) = some (sw s 9218868437227405312) := by
  unfold Ieee.Format.add; rw [read_inf s, read_sw t b hb]
  show some (Ieee.double.write (.infinity s)) = _
  cases s <;> rfl
theorem add_fin_inf (s t : Bool) {b : Nat} (hb : b < 9218868437227405312) : Ieee.double.add (sw t b) (sw s 9218868437227405312) = some (sw s 9218868437227405312) := by
  unfold Ieee.Format.add; rw [read_inf s, read_sw t b hb]
  show some (Ieee.double.write (.infinity s)) = _
  cases s <;> rfl
theorem add_inf_inf (s t : Bool) : Ieee.double.add (sw s 9218868437227405312) (sw t 9218868437227405312) = if s = t then some (sw s 9218868437227405312) else none := by
  unfold Ieee.Format.add; rw [read_inf s, read_inf t]
  cases s <;> cases t <;> rfl
/-- A word is a NaN's, an infinity's or a finite float's. -/
theorem word_cases (x : Nat) (h : x < 18446744073709551616) : isn x = true ∨ (∃ s, x = sw s 9218868437227405312) ∨ ∃ s a, x = sw s a ∧ a < 9218868437227405312 := by
  obtain ⟨s, a, rfl, ha⟩ := sw_of x h
  rw [isn_sw s ha]
  rcases Nat.lt_trichotomy a 9218868437227405312 with k | k | k
  · exact .inr (.inr ⟨s, a, rfl, k⟩)
  · exact .inr (.inl ⟨s, by rw [k]⟩)
  · exact .inl (decide_eq_true k)
theorem add_sym (x y : Nat) (hx : x < 18446744073709551616) (hy : y < 18446744073709551616) : Ieee.double.add x y = Ieee.double.add y x := by
  rcases word_cases x hx with h | ⟨s, rfl⟩ | ⟨s, a, rfl, ha⟩
  · rw [add_nan1 y hx h, add_nan2 y hx h]
  · rcases word_cases y hy with k | ⟨t, rfl⟩ | ⟨t, b, rfl, hb⟩
    · rw [add_nan1 _ hy k, add_nan2 _ hy k]
    · rw [add_inf_inf, add_inf_inf]; cases s <;> cases t <;> rfl
    · rw [add_inf_fin s t hb, add_fin_inf s t hb]
  · rcases word_cases y hy with k | ⟨t, rfl⟩ | ⟨t, b, rfl, hb⟩
    · rw [add_nan1 _ hy k, add_nan2 _ hy k]
    · rw [add_inf_fin t s ha, add_fin_inf t s ha]
    · rw [add_fin s t a b ha hb, add_fin t s b a hb ha, add_comm']
theorem fa_sym (x y : Nat) (hx : x < 18446744073709551616) (hy : y < 18446744073709551616) : fa x y = fa y x := by unfold fa; rw [add_sym x y hx hy]
/-- A difference is a sum. -/
theorem sub_add (x y : Nat) (_hx : x < 18446744073709551616) (hy : y < 18446744073709551616) : Ieee.double.sub x y = Ieee.double.add x (neg y) := by
  unfold Ieee.Format.sub Ieee.Format.add
  rcases word_cases y hy with h | ⟨t, rfl⟩ | ⟨t, b, rfl, hb⟩
  · obtain ⟨s1, f1, h1⟩ := read_isn hy h
    obtain ⟨s2, f2, h2⟩ := read_isn (neg_lt hy) ((isn_neg hy).trans h)
    rw [h1, h2]; cases Ieee.double.read x <;> rfl
  · rw [neg_sw t (by omega), read_inf, read_inf]; rfl
  · rw [neg_sw t (by omega), read_sw t b hb, read_sw (!t) b hb]; rfl
theorem fa_one (x y : Nat) (hx : x < 18446744073709551616) (hy : y < 18446744073709551616) : fa (one x) (one y) = fa x y := by
  cases h : isn x
  · cases k : isn y
    · rw [one_of_not h, one_of_not k]
    · unfold fa; rw [one_of_nan k, add_nan2 _ (by decide) aNaN_nan, add_nan2 _ hy k]
  · unfold fa; rw [one_of_nan h, add_nan1 _ (by decide) aNaN_nan, add_nan1 _ hx h]
theorem fa_congr {x y x' y' : Nat} (hx : x < 18446744073709551616) (hy : y < 18446744073709551616) (hx' : x' < 18446744073709551616) (hy' : y' < 18446744073709551616) (e1 : one x = one x') (e2 : one y = one y') : fa x y = fa x' y' := by
  rw [← fa_one x y hx hy, ← fa_one x' y' hx' hy', e1, e2]
theorem fa_lt (x y : Nat) : fa x y < 18446744073709551616 := by
  unfold fa
  cases h : Ieee.double.add x y with
  | none => decide
  | some r => exact Ieee.double.add_lt h
theorem neg_one {x y : Nat} (hx : x < 18446744073709551616) (hy : y < 18446744073709551616) (h : one x = one y) : one (neg x) = one (neg y) := by
  cases k : isn x
  · have k2 : isn y = false := by rw [← isn_one y, ← h, isn_one, k]
    rw [one_of_not k, one_of_not k2] at h
    rw [h]
  · have k2 : isn y = true := by rw [← isn_one y, ← h, isn_one, k]
    rw [one_of_nan ((isn_neg hx).trans k), one_of_nan ((isn_neg hy).trans k2)]
end Go.Proofs.YtmejmohambhaaaaGreatDoor.Soft
/- x - x. Own work of the verifier. -/
namespace Go.Proofs.YtmejmohambhaaaaGreatDoor
open Soft

theorem sub_self (x : Nat) (hx : x < 18446744073709551616) (hf : x % 9223372036854775808 < 9218868437227405312) : Ieee.double.sub x x = some 0 := by
  obtain ⟨t, b, rfl, hb⟩ : ∃ t b, x = sw t b ∧ b < 9218868437227405312 := by
    by_cases c : x < 9223372036854775808
    · exact ⟨false, x, rfl, by omega⟩
    · exact ⟨true, x - 9223372036854775808, by unfold sw; rw [if_pos rfl]; omega, by omega⟩
  rw [sub_add _ _ hx hx, neg_sw t (by omega), add_fin t (!t) b b hb hb]
  have e : sv t b + sv (!t) b = 0 := by unfold sv; cases t <;> simp <;> omega
  unfold addW
  rw [if_pos e]
  cases t <;> rfl
theorem sub_inf (x : Nat) (hx : x < 18446744073709551616) (h : x % 9223372036854775808 = 9218868437227405312) : Ieee.double.sub x x = none := by
  have : x = 9218868437227405312 ∨ x = 18442240474082181120 := by omega
  rcases this with rfl | rfl
  · decide +kernel
  · decide +kernel
end Go.Proofs.YtmejmohambhaaaaGreatDoor
/- THE NUMBER THEORY OF THE TABLE OF POWERS OF TEN: its rows are the powers, rounded up; and no number of 58 bits times a row comes near to a multiple of 2^127 but where it is one. For each row a witness: two neighbouring fractions, on both sides of it, whose denominators together pass 2^58. Own work of the verifier. -/
namespace Go.Proofs.YtmejmohambhaaaaGreatDoor

/-- What a row stands for. -/
def pmOf (i : Nat) : Nat := tabHi i * 18446744073709551616 - tabLo i
/-- A power (a name of its own, so that nobody works it out unasked). -/
def pw (a b : Nat) : Nat := a ^ b
theorem pw_pos {a : Nat} (b : Nat) (h : 0 < a) : 0 < pw a b := Nat.pow_pos h
theorem pw_add (a b c : Nat) : pw a (b + c) = pw a b * pw a c := Nat.pow_add a b c
/-- The unit in which powers of ten and of two are whole numbers. -/
def unitS : Nat := pw 10 400 * pw 2 1200
theorem unitS_pos : 0 < unitS := Nat.mul_pos (pw_pos _ (by decide)) (pw_pos _ (by decide))
/-- The power of ten itself, scaled as its row is. -/
def eOf (i : Nat) : Nat := pw 10 (i + 52) * pw 2 (1327 - l2 ((i : Int) - 348)).toNat
set_option maxRecDepth 100000 in
def certs : List (Nat × Nat × Nat × Nat) := [
  (195214236189239133, 99725564335067240, 462869043636814454, 236457532457659323), (195214236189239133, 159560902936107584, 338096711320318817, 276347758191686219), (440261899204646850, 287883045977694431, 35720618782769921, 23357371051115727), (306528878106396278, 160349041820448085, 485131972020245883, 253778526024910993),
  (153264439053198139, 128279233456358468, 261569977155611541, 218928776773015433), (410237482158598698, 274688375576048329, 54152769051206701, 36259817326662786), (280601727093345673, 150309098414963883, 464390251209805399, 248758554322168892), (285520668012001757, 244710420750592404, 93123997287893884, 79813530547426555),
  (403239369893176061, 276482614185015932, 23280999321973471, 15962706109485311), (409283083489442506, 224501207597547483, 116404996609867355, 63850824437941244), (313071627808381862, 274763209496097975, 268953355240954913, 236043386007431977), (156535813904190931, 109905283798439190, 281043853341909955, 197323562518765979),
  (156535813904190931, 87924227038751352, 468706677105530642, 263266732797829493), (215349339694142799, 193534489148937887, 136631050438526258, 122790348863197155), (367584536187199175, 264278629434678619, 68315525219263129, 49116139545278862), (286265555922494281, 164650819228206082, 313921591009404963, 180557688704660765),
  (218156171327734546, 200762356969138235, 95765419681670417, 88129944958318989), (109078085663867273, 80304942787655294, 293952592036109679, 216412361310465625), (335554673230474854, 197632356100872757, 209835755088861511, 123587415049748419), (188806545852049469, 177922874480147838, 241379568944079574, 227465348478771919),
  (325040068612068833, 245042619969337276, 154748165162044628, 116662219487813519), (286353027321557676, 172701652077907117, 193435206452555785, 116662219487813519), (10664782019306236, 10291215656493455, 293952592036109679, 283656010216853504), (2666195504826559, 2058243131298691, 371290412192006087, 286627870772353324),
  (420098101265461639, 259445049648002121, 406767123741328844, 251212077122807357), (216714539394797217, 214142417738557508, 145872182640931919, 144140868253528603), (35421178376932649, 28000619794011562, 346969867413863473, 274281426610051425), (262037879649263359, 165713810232043694, 304503873531563416, 192569475760042417),
  (414289816415045067, 209598838489651922, 380629841914454270, 192569475760042417), (279968619322272415, 226628201219261427, 246308644821681618, 199381220851886219), (78407148455715803, 50775036317327327, 380550166687056636, 246437332751790457), (173544690127479962, 89907495604219953, 475687708358820795, 246437332751790457),
  (326176388734899479, 270369110940511390, 53842668291900213, 44630435738184211), (326176388734899479, 216295288752409112, 148847432548600136, 98704257926286489), (437811963146349581, 232258785757699183, 186059290685750170, 98704257926286489), (265420804244612333, 225288731776673942, 99863711234881546, 84764149964236007),
  (373165278558198113, 253393648139161529, 207608185548467326, 140973982689211181), (30876500117748562, 16773069642137903, 519020463871168315, 281947965378422362), (313544107141644141, 272522967300724018, 118176428423636368, 102715344366086203), (343088214247553233, 238561442713796455, 147720535529545460, 102715344366086203),
  (343088214247553233, 190849154171037164, 184650669411931825, 102715344366086203), (303478828038647881, 270105122751679078, 204455362516384501, 181971312946728117), (377746427180345416, 268964384084313839, 253967095277516191, 180830574279362878), (442840308867688899, 252250213057215838, 413497583759946028, 235536042030117837),
  (169732956463851196, 154692962039749103, 177406066772230143, 161686159980737468), (212166195579813995, 154692962039749103, 219839305888192942, 160287520392539795), (475455662477486752, 277328420000990247, 109919652944096471, 64115008157015918), (297159789048429220, 277328420000990247, 288215526373154003, 268981065051819617),
  (371449736310536525, 277328420000990247, 362505473635261308, 270650536041653743), (280823367901721198, 167732628792461449, 453131842044076635, 270650536041653743), (296771762997468617, 283613480350307574, 94128434619051428, 89954962940538463), (249707545687942903, 190908799104030674, 367368088961757188, 280863762044569137),
  (433391590168821497, 265072544101052194, 459210111202196485, 280863762044569137), (194104589180207634, 189950330159918035, 226377740471926369, 221532766046951921), (97052294590103817, 75980132063967214, 323313614704556380, 253115201933985807), (371985287446450546, 232975357340318475, 258709101942382007, 162030186424768094),
  (185992643723225273, 93190142936127390, 553776432994342381, 277465301381472493), (185992643723225273, 149104228697803824, 322861190156060829, 258827272794247015), (151775507115016384, 97338774138954421, 322861190156060829, 207061818235397612), (189719383893770480, 97338774138954421, 398748943713569021, 204584964243899858),
  (118574614933606550, 97338774138954421, 303889251766683781, 249464923479076236), (240875587083546803, 158189233875003147, 426190223916624034, 279890153347100599), (13890237562617393, 7297662880581139, 537646532412099151, 282469117232117916), (207844471873013498, 174715962111838035, 138393284059926533, 116334659067188923),
  (103922235936506749, 69886384844735214, 397944328118069707, 267612510556745453), (354855517963794977, 190908666036380438, 272477687104425593, 146590229365100229), (51486144287105865, 44318436671280209, 293072144819267939, 252271741652672450), (137625716563699316, 94772785001814699, 293072144819267939, 201817393322137960),
  (465104290523892084, 256226699659525067, 293072144819267939, 161453914657710368), (316186254872422728, 278700023936260291, 88398036094147459, 77917791794263281), (167444599812253141, 118074238222662683, 274545580658484154, 193596928954390441), (15085904741505532, 8510309498186985, 505333094748144001, 285070143930537062),
  (3771476185376383, 3404123799274794, 318577952433576061, 287547564003812351), (18857380926881915, 13616495197099176, 382305451984848751, 276054260714204245), (404587719781648532, 233715032414018427, 238296178309629163, 137654694679880050), (133719235708715751, 123591276670114387, 238296178309629163, 220247511487808080),
  (345871178368116561, 255739783562799235, 238296178309629163, 176198009190246464), (345871178368116561, 204591826850239388, 384338017479065594, 227345965902806311), (38425542407145941, 36367537559534493, 269185280369037047, 254768187539604370), (307455960136921393, 232791325305593339, 115328248101191688, 87321175067455367),
  (220959774061027627, 133840355204001451, 365120084187517237, 221161530271456818), (74439809498891411, 72143814136219014, 291860101906449129, 282858071339239255), (166014787350226546, 128715428404066865, 291860101906449129, 226286457071391404), (83007393675113273, 51486171361626746, 439124376903226367, 272371314377089197),
  (17740922352820818, 17606377030859605, 273109589552999821, 271038354646137128), (8870461176410409, 7042550812343842, 359002140943519624, 285023604641724023), (258289297587677677, 164051493275971203, 213936991705625632, 135881290026595835), (542667016968698673, 275738361029416474, 53484247926406408, 27176258005319167),
  (335415556253873842, 272688578014087523, 33427654954004005, 27176258005319167), (301133646264494493, 195854257230477173, 167138274770020025, 108705032021276668), (33498842873618617, 17429845041840101, 534201787987532572, 277951522708545763), (117023487808869497, 97421932642125395, 300599736867384903, 250248970233780772),
  (117023487808869497, 77937546113700316, 405005543036448503, 269733356762205851), (220563205715278991, 117515930097699525, 364554233329068494, 194234254357101739), (220563205715278991, 188025488156319240, 172705594401848061, 147227882318021929), (220563205715278991, 150420390525055392, 271022794431129824, 184832979949285777),
  (288318904323061447, 157302908409901469, 338778493038912280, 184832979949285777), (245971592693197412, 214718057465985195, 211736558149320175, 184832979949285777), (61492898173299353, 42943611493197039, 382260910840307992, 266952193371975679), (464522616749873116, 259519773841740923, 157058125883376351, 87745327868952767),
  (314624704913938927, 281239549834899469, 20463735847954036, 18292307526814029), (396479648305755071, 283527023953724468, 25579669809942545, 18292307526814029), (418863167826543392, 239626982974127991, 182253838958752039, 104265404360461369), (261789479891589620, 239626982974127991, 77538047002116191, 70973853787086994),
  (327236849864487025, 239626982974127991, 339327526893705811, 248480669408971988), (160595755674938816, 94080055902682397, 351418203922924597, 205867484675052788), (100372347296836760, 94080055902682397, 210896917707353133, 197675897216329105), (125465434121045950, 94080055902682397, 336362351828399083, 252220773675745681),
  (313663585302614875, 188160111805364794, 450478402686552929, 270232410095126587), (61314044152661462, 58849585064193559, 280722999307183673, 269439608094853613), (153285110381653655, 117699170128387118, 308975121073410857, 237244930379167275), (268850168245419783, 165148156204220573, 308975121073410857, 189795944303333820),
  (52165684750858293, 51270589622220281, 256809436322552564, 252402921263113831), (116368043831496434, 91497055950398991, 321011795403190705, 252402921263113831), (290920109578741085, 182994111900797982, 247781930575217678, 155859402075484927), (331296502720783801, 166713286005610149, 288158323717260394, 145005518145359705),
  (234021676077692005, 188421053865860593, 144079161858630197, 116004414516287764), (445557723600618558, 286990358315462383, 166564790413395649, 107286859482944777), (361236616520248113, 186142303042626209, 471587335546730132, 243005134889152899), (129216006176983304, 106534338457488843, 239566725203465323, 197514869411931547),
  (368782731380448627, 243239366295536312, 207262723659219497, 136705027838047469), (530302739101677757, 279818963802420124, 63251359899302466, 33375143443721219), (156294944737657864, 131952671587200781, 314423344485914029, 265453245362085657), (195368680922072330, 131952671587200781, 392570816854742961, 265143664924548838),
  (488421702305180825, 263905343174401562, 147443238196853398, 79666931652379379), (207350041603377063, 179257501878569498, 287979068547755279, 248962614244043507), (247664555075566171, 171288046449045202, 348450838756038941, 240993158814519211), (98635706617664893, 54574196106523279, 449237122436511711, 248558616943994576),
  (315073370175934308, 278923347036196687, 136968207263544151, 121253125220207142), (393841712719917885, 278923347036196687, 215736549807527728, 152787169583405051), (501709987623681749, 284253545462319370, 269670687259409660, 152787169583405051), (82310814274709837, 74615666786450445, 254777544799552238, 230958672380359657),
  (82310814274709837, 59692533429160356, 359627338136795216, 260804939094939835), (411554071373549185, 238770133716641424, 89906834534198804, 52160987818987967), (284445515904198546, 264041489919896293, 112383543167748505, 104321975637975934), (14919607392175384, 11079507728788885, 382882427132637917, 284333809806437116),
  (3729901848043846, 2215901545757777, 482129826014352721, 286429045654762096), (9324754620109615, 8863606183031108, 301898933864720192, 286968758521859889), (196696543527605043, 149575256007895501, 346769313954662011, 263696087283666570), (159178350920840801, 96836038551162187, 346769313954662011, 210956869826933256),
  (16345717350982549, 15910249165310661, 289174516723744986, 281470584284667005), (194886509313305364, 151755611848797367, 308044431871697983, 239870227036352090), (243608136641631705, 151755611848797367, 308044431871697983, 191896181629081672), (280346560090764777, 279426881829424151, 32218147615033139, 32112455824227444),
  (78141176926449479, 62307867530730319, 317373091928064653, 253065558358370414), (390705884632247395, 249231470122921276, 255160921066527491, 162767273226988657), (544208083024484958, 277720476542368375, 187388439283667539, 95628139823217878), (272104041512242479, 222176381233894700, 166209538726523804, 135712184337962081),
  (272104041512242479, 177741104987115760, 207761923408154755, 135712184337962081), (272104041512242479, 142192883989692608, 463780435394375303, 242356847330231537), (248144492276975876, 207475821715400387, 119797746176333015, 100163963340538929), (310180615346219845, 207475821715400387, 243869992314820953, 163121499358591298),
  (359913582619769014, 192593250786405763, 277025303830520399, 148238928429596674), (317372881425607183, 271726893996242644, 24267128130158973, 20776921214557517), (279547027430213323, 191473058815328141, 400882668081008188, 274580743673558209), (179326360409961276, 98262298317550871, 501103335101260235, 274580743673558209),
  (224157950512451595, 196524596635101742, 228135872499384958, 200012135275336393), (393270893893523632, 275831943017189369, 59022929118312921, 41397442511161139), (491588617366904540, 275831943017189369, 157340652591693829, 88284342612366785), (228572559558468423, 205204468927295941, 157340652591693829, 141254948179786856),
  (35615953483387297, 25579808299003634, 375543654737540924, 269719992210071895), (459737508470092178, 264151228522057673, 93885913684385231, 53943998442014379), (67991420275330429, 62505292655211566, 268710494348628292, 247028640095663299), (336701914623958721, 247627146200699892, 335888117935785365, 247028640095663299),
  (337515711312132077, 198580521844589188, 336498465451915382, 197982015739552595), (295707714595696828, 278371834245446819, 168249232725957691, 158385612591642076), (369634643244621035, 278371834245446819, 94322304077033484, 71034123224224297), (416795795283137777, 251111116686047174, 117902880096291855, 71034123224224297),
  (283121126438280369, 272919690733566890, 51065545673863151, 49225549176704581), (283121126438280369, 218335752586853512, 134612213701899031, 103809487323417959), (461808917841515888, 284908156156911325, 30178878666854181, 18618541876680073), (57726114730189486, 56981631231382265, 266346622794649877, 262911597476205114),
  (28863057365094743, 22792652492552906, 362804454653129891, 286500343780604715), (144315286825473715, 91170609970211624, 343252865607861474, 216848636203991285), (446601433465649656, 225710947181221505, 171626432803930737, 86739454481596514), (55825179183206207, 45142189436244301, 355705551370797822, 287635930926573403),
  (395964873350333594, 256152819704789605, 116838977434302559, 75584061959812401), (197982436675166797, 102461127881915842, 391088661923339796, 202398687860582723), (50105135597165924, 41489164733416129, 338545420612676973, 280329881520917059), (62631419496457405, 41489164733416129, 413703124008425859, 274050902896833002),
  (369609313862050436, 195873340672981439, 426061530241813847, 225790022412298362), (110377384508387208, 93590659012335325, 241256873310788629, 204565363321292228), (27594346127096802, 18718131802467065, 406048328868135887, 275435631013624027), (13797173063548401, 7487252720986826, 525321178414371482, 285073790432215731),
  (68985865317742005, 59898021767894608, 296767796116232152, 257673131008890083), (143177814346800043, 99453043616093703, 370959745145290190, 257673131008890083), (122026785233877517, 67809026137534427, 471835501266245181, 262194122189305958), (78300695729831559, 69617422609700777, 296931143250061349, 264002518661472308),
  (93807959744973227, 66723988254234617, 358960199310628021, 255322215595073828), (469039798724866135, 266895953016938468, 113192039763900312, 64409240769861689), (313400744049503206, 285333195133405833, 70745024852437695, 64409240769861689), (42977673586156954, 31302942718736491, 353725124262188475, 257636963079446756),
  (316540001286104338, 184442436300493579, 209095817320711953, 121836550863020597), (308504744777492897, 287616687967812442, 12706454169414946, 11846133085109523), (367085479726446794, 273784858527592585, 31766135423537365, 23692266170219046), (183542739863223397, 109513943411037034, 354729448353678508, 211655447456993643),
  (224794913064241139, 214604423203025813, 218616897377856996, 208706471710961473), (279449137408705388, 213424832904612945, 273271121722321245, 208706471710961473), (69862284352176347, 42684966580922589, 458145912033313714, 279921321291852235), (204715327316497087, 200125535227165087, 144596094444384648, 141354197420215625),
  (336745187971658357, 263356190711840973, 36149023611096162, 28270839484043125), (453260966109862151, 283583161860911071, 18074511805548081, 11308335793617250), (571094835588714709, 285844829019634521, 18074511805548081, 9046668634893800), (354674958267253183, 284035495292655761, 18074511805548081, 14474669815830080),
  (447862325785453499, 286930429255821777, 18074511805548081, 11579735852664064), (550272492730904339, 282032961392847197, 90372559027740405, 46318943410656256), (348943519559603905, 286152262321756858, 10291927557909812, 8439928496349319), (418414030575495136, 274497423737691809, 431278940022882401, 282937352234041128),
  (523017538219368920, 274497423737691809, 117468417091261049, 61651427544617817), (326885961387105575, 274497423737691809, 182845609368682164, 153541768818926869), (372597363729276116, 250306292753938821, 228557011710852705, 153541768818926869), (465746704661595145, 250306292753938821, 135407670778533676, 72772156504353731),
  (330339033883061469, 284054617999336144, 249799311178114282, 214799465504021803), (102719689147002164, 70661954098930097, 316339210504279213, 217613068711253315), (128399611433752705, 70661954098930097, 444738821938031918, 244752409067932749), (297506578700565949, 261962116221705877, 46984899767631627, 41371400348029022),
  (305353508618779809, 215097230220264157, 180092669152312648, 126860943870793415), (491234695468101319, 276828579075406919, 45023167288078162, 25372188774158683), (286017655286308667, 257890126520283129, 112557918220195405, 101488755096634732), (186373761909682649, 134436324892842931, 311845704973447441, 224942556724074930),
  (466851481117188892, 269401858927287889, 311845704973447441, 179954045379259944), (155005776143741451, 143116501676844712, 214279287626372332, 197843608088865533), (369285063770113783, 272768087812568196, 267849109532965415, 197843608088865533), (293208098092252507, 173259782415832959, 459621253388069554, 271595085107963255),
  (194152152594789551, 183562513766887965, 229810626694034777, 217276068086370604), (194152152594789551, 146850011013510372, 335801321516240859, 253988570839748197), (474988671748868177, 287412076540575578, 35412292230362827, 21427711965247565), (265882164141475137, 257413279789228987, 35412292230362827, 34284339144396104),
  (216972783014410799, 168049409048792551, 177061461151814135, 137137356577584416), (9977830465649166, 6182410494241627, 456260595736156537, 282705775057947703), (284935495658281102, 282480357565399661, 259990919494158187, 257750715588433153), (359769224150649847, 285335426797039348, 58761585832508818, 46604214722293329),
  (341478973114724173, 216663443107861063, 146903964581272045, 93208429444586658), (48643752133363032, 24691002732654881, 539944814372908097, 274069706847727108), (30402345083351895, 24691002732654881, 333208867806115211, 270612712374310182), (410127426597561674, 266465165975694013, 258115701180802199, 167701155045074489),
  (547850675555711927, 284756613139350152, 26525993941010681, 13787428822890993), (276224137079234057, 229717047368024402, 204427053392143731, 170008238975576173), (419818304453414709, 279307731322336688, 120162797617844447, 79945057268720115), (434650782353385051, 231340696961104619, 120162797617844447, 63956045814976092),
  (99392396900864799, 84641766881206579, 302636797386627838, 257723065876188999), (73429396004640239, 50025507082210095, 350103192495043517, 238516053360406126), (73429396004640239, 40020405665768076, 455986339619964456, 248521154776848145), (310148687570705638, 270459014370774979, 56998292452495557, 49704230955369629),
  (277031195476410859, 193263649549189957, 284991462262477785, 198816923821478516), (136525531041688698, 76194804965218271, 429477260090233409, 239690963440231931), (158566389163191614, 141593268355223735, 292951729048544711, 261593853560021856), (79283194581595807, 56637307342089494, 375604947004180646, 268319824080640989),
  (396415972907979035, 226549229368357976, 371392417786630486, 212248425373978781), (263399705018329740, 240850033362737171, 238376149896981191, 217968746971730459), (329249631272912175, 240850033362737171, 172526223642398756, 126204990904836933), (415512743094111553, 243162023052124510, 215657779552998445, 126204990904836933),
  (249818704426391385, 233914064294575154, 82847019333860084, 77572586294412031), (332665723760251469, 249189320471189748, 103558774167325105, 77572586294412031), (275388986362019878, 165028109541596255, 264394285732881801, 158439484906414793), (137694493181009939, 132022487633277004, 227221987280344797, 217862104087871833),
  (320152733411687307, 245571826795081138, 135992867165006113, 104312764926067699), (206116333267513952, 126480543091835143, 364065667453352823, 223404048629313694), (128822708292196220, 126480543091835143, 261007500819595847, 256262043333433796), (161028385365245275, 126480543091835143, 325418854965693957, 255601851903481094),
  (39416575282510467, 24767955474404867, 450392749283632172, 283010573097696769), (191431337885928977, 96230843378587141, 568642475131163573, 285851551616729096), (337124168247859469, 271150948571463391, 94302784311308649, 75848283295256782), (276418822263721764, 177860225801929391, 249310914606755003, 160417786327652173),
  (456625031304546326, 235050364543279373, 111101503474894121, 57190138741349982), (143459010870481342, 118154163229427631, 280808513038477763, 231276478796551706), (358647527176203355, 236308326458855262, 247998514672099888, 163403089456277261), (482646784512253299, 254407896949595114, 309998143340124860, 163403089456277261),
  (202573624338611042, 170845699668420639, 184924054836545033, 155960479244133883), (363328627343602328, 245138067705503597, 143105433502925277, 96553331631337681), (415601904010627023, 224325505928372303, 377043023841751136, 203512944151241009), (132819636129313671, 114705276503906474, 235651889901094460, 203512944151241009),
  (191732608604587286, 132466810033373381, 294564862376368075, 203512944151241009), (486297470980955361, 268783803347691512, 489780445715698934, 270708894988163887), (303500547521254154, 268398785019597037, 306983522255997727, 271478931644352837), (381117171768939479, 269630843669499357, 384600146503683052, 272094960969303997),
  (473784233660116669, 268152373289616573, 477267208394860242, 270123667129460285), (293938286828358185, 266181079449772861, 238633604197430121, 216098933703568228), (252459774855162137, 182895576112095509, 183328921566502057, 132813430365890876), (304307914821657197, 176365748337399187, 217894348210832097, 126283602591194554),
  (141352261584475461, 131076169520678423, 174687564905419547, 161988047548947580), (220362218206949213, 163473779030467939, 174687564905419547, 129590438039158064), (22837326650764833, 13553336396523950, 470974902239696117, 279510880673102053), (22837326650764833, 21685338234438320, 291504648068464469, 276800213393797263),
  (22837326650764833, 17348270587550656, 358671478422889378, 272463145746909599), (123923859581869594, 75310553854442707, 381508805073654211, 231849133067568204), (198941965238526733, 193440451419855005, 110867683716147252, 107801763997915823), (337526569883710798, 262554125133799827, 138584604645184065, 107801763997915823),
  (183852625090191066, 114411769481113567, 292258549438703797, 181872941824258953), (242175490215301731, 241129884085333457, 250415296117010330, 249334114167404339), (58483921078398283, 46585130800652515, 333618634900534410, 265742574331546103), (58483921078398283, 37268104640522012, 446265254164867154, 284376626651807109),
  (374743958394009062, 191040502036240665, 457068311396026709, 233008585510393282), (187371979197004531, 152832401628992532, 243434425650275457, 198560468170049633), (398351889925922670, 259936736716927963, 107701601211819997, 70278573959808433), (414579147386601329, 216420413022464678, 476543576722850657, 248767354430849205),
  (321632503382227337, 268640001455820620, 38727768335155830, 32346941408384527), (209225962110058456, 139802941990712775, 306045382947948031, 204496824807481829), (52306490527514614, 27960588398142555, 536403594716962489, 286736119665218771), (26153245263757307, 22368470718514044, 310897371019540140, 265905766950869437),
  (130766226318786535, 89473882874056176, 417716531183730026, 285813248862719945), (222486433001033831, 121785115975568363, 431344698592898844, 236110415520656341), (272997478472853982, 239094342092848495, 266183394768269573, 233126488948464187), (136498739236426991, 95637736837139398, 324211638829606455, 227158635804079879),
  (362567992810986107, 203226388615746459, 319925703371148848, 179324558732811133), (202605141125411683, 181702574798945428, 199953564606968030, 179324558732811133), (251267744017931864, 180275765159264851, 248616167499488211, 178373352306357415), (314084680022414830, 180275765159264851, 248616167499488211, 142698681845085932),
  (291191223150344631, 267416904548642359, 202829253755347813, 186269251539774686), (123505119226423111, 90737231217683409, 273115553418200399, 200653618852998290), (86102510678478789, 50606507447083751, 445320574775157977, 261735909976566134), (174056024029803082, 163681498378897479, 265711542726818383, 249873933938919908),
  (176369777370859962, 132685873251347459, 270339049408932143, 203380496247594878), (440924443427149905, 265371746502694918, 179261969047181062, 107889373149307443), (261662474379968843, 251971797365419960, 46623112059495953, 44896423807952453), (261662474379968843, 201577437892335968, 123694508669362152, 95290783281036445),
  (442450811214309151, 272681365195539780, 30923627167340538, 19058156656207289), (284558105619867814, 280595955984081513, 77309067918351345, 76232626624829156), (109794060364142626, 86612241846747965, 276751279227614099, 218318264652568659), (54897030182071313, 34644896738699186, 444841562249714339, 280734493980990981),
  (274485150910356565, 138579586954796744, 509213859382445604, 257087299880653475), (240650750316251509, 194396127986272111, 127303464845611401, 102834919952261390), (396291036529522937, 256097079957628945, 127303464845611401, 82267935961809112), (516404180378789971, 266974703906669802, 60056571924633517, 31048519970283323),
  (72057594037927936, 59604644775390625, 300282859623167585, 248388159762266584), (18014398509481984, 11920928955078125, 420550387546918885, 278296901744378836), (4503599627370496, 2384185791015625, 540002867037032313, 285875137495093469), (562949953421312, 476837158203125, 340128130443021661, 288099732773247752),
  (140737488355328, 95367431640625, 425277532739125969, 288179265565647258), (35184372088832, 19073486328125, 531691183141408277, 288230367926651532), (4398046511104, 3814697265625, 332302727705069161, 288226671440556006), (1099511627776, 762939453125, 415383234697043981, 288230019502458399),
  (274877906944, 152587890625, 519229529199845441, 288230289191474221), (34359738368, 30517578125, 324518552423899461, 288230375055231268), (8589934592, 6103515625, 405648190075872857, 288230374732643822), (2147483648, 1220703125, 507060239619801021, 288230375883700288),
  (268435456, 244140625, 316912649852960433, 288230375966086679), (67108864, 48828125, 396140812541442421, 288230376129971716), (16777216, 9765625, 495176015712493385, 288230376150746239), (2097152, 1953125, 309485009820884077, 288230376151282412),
  (524288, 390625, 386856262276550177, 288230376151614023), (131072, 78125, 483570327845815973, 288230376151690467), (16384, 15625, 302231454903656761, 288230376151711236), (4096, 3125, 377789318629570077, 288230376151710569),
  (1024, 625, 472236648286964369, 288230376151711651), (128, 125, 295147905179352789, 288230376151711708), (32, 25, 368934881474191017, 288230376151711732), (8, 5, 461168601842738789, 288230376151711743),
  (1, 1, 288230376151711745, 288230376151711744), (5, 4, 360287970189639679, 288230376151711743), (25, 16, 450359962737049586, 288230376151711735), (125, 64, 562949953421311959, 288230376151711723),
  (625, 512, 351843720888319823, 288230376151711599), (3125, 2048, 439804651110397612, 288230376151710179), (15625, 8192, 549755813887999403, 288230376151711431), (78125, 65536, 343597383679978441, 288230376151693659),
  (390625, 262144, 429496729599896954, 288230376151642591), (1953125, 1048576, 536870911998216426, 288230376150754195), (9765625, 8388608, 335544319993429397, 288230376146067639), (48828125, 33554432, 419430399986150318, 288230376142194315),
  (244140625, 134217728, 524287999776811017, 288230376029012303), (1220703125, 1073741824, 327679998965021299, 288230375241334851), (6103515625, 4294967296, 409599998825727981, 288230375325391271), (30517578125, 17179869184, 511999973766490589, 288230361383558843),
  (152587890625, 137438953472, 319999992906114058, 288230369762107327), (762939453125, 549755813888, 399999464168911327, 288229990044721139), (3814697265625, 2199023255552, 499997005019278613, 288228649662871959), (19073486328125, 17592186044416, 312497241441618811, 288227831830688235),
  (95367431640625, 70368744177664, 390571858273002359, 288191164478209327), (476837158203125, 281474976710656, 488101071562879496, 288124017575162531), (2384185791015625, 2251799813685248, 303245910312547437, 286407664585453703), (11920928955078125, 9007199254740992, 373238655007336078, 282011154322878491),
  (59604644775390625, 36028797018963968, 456897996881716832, 276177892680255903), (298023223876953125, 288230376151711744, 235926183936386479, 228173804227078227), (164535871923618224, 127303464845611401, 338365015919438057, 261797250687567169), (205669839904522780, 127303464845611401, 297231047938533501, 183977107580931455),
  (257087299880653475, 254606929691222802, 277159173909593488, 274485150910356565), (315379390719690167, 249869296215892826, 69289793477398372, 54897030182071313), (436636529305137318, 276751279227614099, 86612241846747965, 54897030182071313), (152465253249658312, 77309067918351345, 433061209233739825, 219588120728285252),
  (19058156656207289, 15461813583670269, 354781163829006670, 287832675377606461), (95290783281036445, 61847254334681076, 403154875784671936, 261662474379968843), (386661068789277319, 200765905279228351, 296868221173372413, 154142793219732398), (107889373149307443, 89630984523590531, 314964746706774950, 261662474379968843),
  (406760992495189756, 270339049408932143, 132685873251347459, 88184888685429981), (499747867877839816, 265711542726818383, 163681498378897479, 87028012014901541), (312342417423649885, 265711542726818383, 101213014894167502, 86102510678478789), (291390850070681699, 198310336322311755, 181474462435366818, 123505119226423111),
  (372538503079549372, 202829253755347813, 453686156088417045, 247010238452846222), (285397363690171864, 248616167499488211, 180275765159264851, 157042340011207415), (356746704612714830, 248616167499488211, 180275765159264851, 125633872008965932), (179324558732811133, 99976782303484015, 363405149597890856, 202605141125411683),
  (179324558732811133, 159962851685574424, 227128218498681785, 202605141125411683), (322796372641219277, 230355189033016723, 191275473674278796, 136498739236426991), (466252977896928374, 266183394768269573, 239094342092848495, 136498739236426991), (236110415520656341, 215672349296449422, 243570231951136726, 222486433001033831),
  (285813248862719945, 208858265591865013, 178947765748112352, 130766226318786535), (489590474136009877, 286214911828556605, 44736941437028088, 26153245263757307), (293866355349011992, 274871142079389419, 27960588398142555, 26153245263757307), (269190707624250883, 201432401892918803, 139802941990712775, 104612981055029228),
  (32346941408384527, 19363884167577915, 472586120094872186, 282904735047071507), (32346941408384527, 30982214668124664, 271106119003006721, 259668074045978009), (140557147919616866, 107701601211819997, 259936736716927963, 199175944962961335), (351392869799042165, 215403202423639994, 305664803257985064, 187371979197004531),
  (274976668984545899, 269696332199022178, 191040502036240665, 187371979197004531), (358912835932851133, 281616548160831860, 74536209281044024, 58483921078398283), (452083097534156163, 283777159607063771, 93170261601305030, 58483921078398283), (249334114167404339, 125207648058505165, 482259768170666914, 242175490215301731),
  (249334114167404339, 200332236893608264, 114411769481113567, 91926312545095533), (215603527995831646, 138584604645184065, 262554125133799827, 168763284941855399), (107801763997915823, 55433841858073626, 494682666837625833, 254375807096600359), (313077158426250994, 257584945491784617, 75310553854442707, 61961929790934797),
  (307159686922010911, 202173065862209522, 341856228097112223, 225010392512974355), (298485551628235583, 157170987359614651, 341856228097112223, 180008314010379484), (293064217069626003, 246906114445230475, 320170889862673903, 269743441095995308), (293064217069626003, 197524891556184380, 326947558060935878, 220362218206949213),
  (293064217069626003, 158019913244947504, 262152339041356846, 141352261584475461), (252567205182389108, 217894348210832097, 302649350928593741, 261101131516244647), (315709006477986385, 217894348210832097, 365791152224191018, 252459774855162137), (432197867407136456, 238633604197430121, 482280013153341089, 266285945512894153),
  (270123667129460285, 238633604197430121, 266181079449772861, 235150629462686548), (272094960969303997, 192300073251841526, 267166726369694717, 188817098517097953), (274559078269108637, 155233248495370650, 268398785019597037, 151750273760627077), (270708894988163887, 244890222857849467, 266858711707219137, 241407248123105894),
  (274559078269108637, 198698558074074432, 132466810033373381, 95866304302293643), (203512944151241009, 117825944950547230, 432923497159053957, 250645581079860901), (203512944151241009, 188521511920875568, 245138067705503597, 227080392089751455), (193106663262675362, 143105433502925277, 245138067705503597, 181664313671801164),
  (482766658156688405, 286210867005850554, 170845699668420639, 101286812169305521), (163403089456277261, 154999071670062430, 182009614986635706, 172648641172128439), (163403089456277261, 123999257336049944, 309213563461433263, 234648269840153411), (462552957593103412, 280808513038477763, 118154163229427631, 71729505435240671),
  (114380277482699964, 111101503474894121, 235050364543279373, 228312515652273163), (320835572655304346, 249310914606755003, 177860225801929391, 138209411131860882), (151696566590513564, 94302784311308649, 346999231866720173, 215713476279584059), (189620708238141955, 188605568622617298, 192461686757174282, 191431337885928977),
  (332546484046506503, 264612949924326553, 49535910948809734, 39416575282510467), (382082394995316237, 243223620165469616, 252961086183670286, 161028385365245275), (512524086666867592, 261007500819595847, 126480543091835143, 64411354146098110), (320327554166792245, 261007500819595847, 126480543091835143, 103058166633756976),
  (349884591721148837, 228072800288346710, 141259061869013439, 92079933123340597), (349884591721148837, 182458240230677368, 264044975266554008, 137694493181009939), (316878969812829586, 264394285732881801, 165028109541596255, 137694493181009939), (155145172588824062, 103558774167325105, 326761906765601779, 218112248963788287),
  (77572586294412031, 41423509666930042, 467828128589150308, 249818704426391385), (252409981809673866, 215657779552998445, 116957032147287577, 99927481770556554), (126204990904836933, 86263111821199378, 355495075820637409, 242986519451712797), (435937493943460918, 238376149896981191, 240850033362737171, 131699852509164870),
  (212248425373978781, 185696208893315243, 240850033362737171, 210719764014663792), (381594438764819977, 267085668083686130, 113274614684178988, 79283194581595807), (381594438764819977, 213668534466948904, 141593268355223735, 79283194581595807), (250797511984809049, 224688963527700362, 76194804965218271, 68262765520844349),
  (397633847642957032, 284991462262477785, 392080573370668473, 281011328869444322), (99408461910739258, 56998292452495557, 469275938192253495, 269070928690343933), (248521154776848145, 227993169809982228, 80040811331536152, 73429396004640239), (188490546278196031, 138336898245201639, 288541560442616221, 211766294249841878),
  (427006599638602157, 250710795594178718, 169283533762413158, 99392396900864799), (127912091629952184, 120162797617844447, 295296742776080711, 277406789985614749), (159890114537440230, 120162797617844447, 359252788591056803, 269990551035629578), (399725286343600575, 240325595235688894, 459434094736048804, 276224137079234057),
  (27574857645781986, 26525993941010681, 298544041962241145, 287188334748361304), (335402310090148978, 258115701180802199, 266465165975694013, 205063713298780837), (443449731502894349, 273012641694789238, 49382005465309762, 30402345083351895), (276538383636250525, 272404177639411421, 24691002732654881, 24321876066681516),
  (309871872552447721, 244191468847998109, 123455013663274405, 97287504266726064), (46604214722293329, 29380792916254409, 430858209427198709, 271626845401886620), (515501431176866306, 259990919494158187, 282480357565399661, 142467747829140551), (355209593311680088, 286637477820120715, 6182410494241627, 4988915232824583),
  (305186765626376967, 197017122083112467, 336098818097585102, 216972783014410799), (68568678288792208, 35412292230362827, 497403653800001715, 256884104877007463), (42855423930495130, 35412292230362827, 308839788505823143, 255200481989615502), (107138559826237825, 70824584460725654, 400838581853258569, 264976737055515205),
  (434552136172741208, 229810626694034777, 400838581853258569, 211981389644412164), (271595085107963255, 229810626694034777, 74924479723702663, 63397471398217730), (395687216177731066, 267849109532965415, 74924479723702663, 50717977118574184), (197843608088865533, 107139643813186166, 484076611442554957, 262145419956927617),
  (90506231831231999, 78419964414852995, 269401858927287889, 233425740558594446), (90506231831231999, 62735971531882396, 359378881616917861, 249109733441565045), (202977510193269464, 112557918220195405, 359378881616917861, 199287786753252036), (25372188774158683, 22511583644039081, 299935270409227008, 266118859027710509),
  (126860943870793415, 90046334576156324, 303333516569734899, 215307174042623485), (468819117961850987, 266215538769362042, 386076317265792943, 219230639001730415), (244752409067932749, 222369410969015959, 141323908197860194, 128399611433752705), (364564183323576533, 264979365930778131, 70661954098930097, 51359844573501082),
  (214799465504021803, 124899655589057141, 353309770494650485, 205439378294004328), (72772156504353731, 67703835389266838, 282296115994816449, 262635198493794631), (307083537637853738, 228557011710852705, 250306292753938821, 186298681864638058), (153541768818926869, 91422804684341082, 395453078656456749, 235463156702764493),
  (123302855089235634, 117468417091261049, 274497423737691809, 261508769109684460), (291377280730390447, 222071924735134833, 274497423737691809, 209207015287747568), (8439928496349319, 5145963778954906, 471025382687321888, 287191954212145033), (92637886821312512, 90372559027740405, 235714017982190941, 229949966851581967),
  (23159471705328128, 18074511805548081, 367988580224470225, 287191954212145033), (28949339631660160, 18074511805548081, 443256863266786641, 276747294064141037), (18093337269787600, 18074511805548081, 276798160384740721, 276510161891583314), (22616671587234500, 18074511805548081, 340124840828997321, 271816762568801278),
  (28270839484043125, 18074511805548081, 441899862971552571, 282521652555014114), (141354197420215625, 72298047222192324, 541605267874545799, 277013374538689411), (279921321291852235, 229072956016656857, 85369933161845178, 69862284352176347), (417412943421922946, 273271121722321245, 213424832904612945, 139724568704352694),
  (208706471710961473, 109308448688928498, 429208846406051626, 224794913064241139), (211655447456993643, 177364724176839254, 219027886822074068, 183542739863223397), (368553923208468769, 247075010710298127, 321169390868030677, 215308875286760762), (11846133085109523, 6353227084707473, 527848843595186792, 283091836438663005),
  (243673101726041194, 209095817320711953, 184442436300493579, 158270000643052169), (390062155283947548, 267769777089874567, 31302942718736491, 21488836793078477), (128818481539723378, 70745024852437695, 414151676673129211, 227445396877189298), (64409240769861689, 56596019881950156, 276154942954430180, 242655719197065511),
  (322046203849308445, 226384079527800624, 133447976508469234, 93807959744973227), (194385096051771531, 109315223760114895, 333619941271173085, 187615919489946454), (194385096051771531, 174904358016183832, 135618052275068854, 122026785233877517), (257673131008890083, 185479872572645095, 198906087232187406, 143177814346800043),
  (377469174544679299, 217369763375858081, 497265218080468515, 286355628693600086), (300048295874189383, 276457762270734142, 14974505441973652, 13797173063548401), (382408075805044469, 281873771296200278, 18718131802467065, 13797173063548401), (409130726642584456, 241256873310788629, 93590659012335325, 55188692254193604),
  (255706704151615285, 241256873310788629, 195873340672981439, 184804656931025218), (315540067630249131, 238167271752441632, 82978329466832258, 62631419496457405), (436192268841585731, 263387717216928087, 41489164733416129, 25052567798582962), (202398687860582723, 195544330961669898, 204922255763831684, 197982436675166797),
  (151168123919624802, 116838977434302559, 256152819704789605, 197982436675166797), (377920309799062005, 233677954868605118, 90284378872488602, 55825179183206207), (173478908963193028, 171626432803930737, 225710947181221505, 223300716732824828), (216848636203991285, 171626432803930737, 182341219940423248, 144315286825473715),
  (446048911228475057, 282422928104396546, 45585304985105812, 28863057365094743), (525823194952410228, 266346622794649877, 56981631231382265, 28863057365094743), (37237083753360146, 30178878666854181, 322145239910271471, 261083337587612125), (207618974646835918, 134612213701899031, 322145239910271471, 208866670070089700),
  (420596338263680633, 218158881729934911, 322145239910271471, 167093336056071760), (142068246448448594, 117902880096291855, 322145239910271471, 267349337689714816), (71034123224224297, 47161152038516742, 414675422042445044, 275312339167587551), (316771225183284152, 168249232725957691, 278371834245446819, 147853857297848414),
  (197982015739552595, 168249232725957691, 199179027949625781, 169266478586174386), (423433559797008624, 287874113333557361, 598506105036593, 406898344086678), (247028640095663299, 134355247174314146, 372039225406086431, 202346667449644575), (107887996884028758, 93885913684385231, 264151228522057673, 229868754235046089),
  (320879608808079163, 223387780852157759, 372039225406086431, 259003734335545056), (282509896359573712, 157340652591693829, 346459417107082797, 192956606075081126), (176568685224733570, 157340652591693829, 275831943017189369, 245794308683452270), (358626828039511647, 255658376065074737, 275831943017189369, 196635446946761816),
  (200012135275336393, 114067936249692479, 393049193270203484, 224157950512451595), (254374592394463805, 232113794486318321, 98262298317550871, 89663180204980638), (274580743673558209, 200441334040504094, 382946117630656282, 279547027430213323), (41553842429115034, 24267128130158973, 458719184927260297, 267888517298518970),
  (296477856859193348, 277025303830520399, 192593250786405763, 179956791309884507), (370597321073991685, 277025303830520399, 44354322356809089, 33155311515699446), (407803748396478245, 243869992314820953, 207475821715400387, 124072246138487938), (100163963340538929, 95838196941066412, 284385767979385216, 272104041512242479),
  (313453289325077841, 239932982460198617, 355482209974231520, 272104041512242479), (135712184337962081, 83104769363261902, 444352762467789400, 272104041512242479), (191256279646435756, 187388439283667539, 277720476542368375, 272104041512242479), (325534546453977314, 255160921066527491, 86464196895932619, 67772481782859952),
  (439989160950561371, 275898311353706545, 124615735061460638, 78141176926449479), (375764249302106483, 188500501467932097, 311539337653651595, 156282353852898958), (40140569780284305, 32218147615033139, 343651793477879039, 275826284256664844), (327984842223906813, 210601177215045301, 151755611848797367, 97443254656652682),
  (536034570929637581, 275352997169732885, 31820498330621322, 16345717350982549), (307792908378095443, 252973832437751406, 193672077102324374, 159178350920840801), (413271343291562071, 271732928741133527, 299150512015791002, 196696543527605043), (535149731646730913, 281496031613894706, 17727212366062216, 9324754620109615),
  (342404330550715384, 288174929916072729, 2215901545757777, 1864950924021923), (424634019138618727, 285904979083497921, 11079507728788885, 7459803696087692), (208643951275951868, 112383543167748505, 472685441195848161, 254606301119847778), (52160987818987967, 44953417267099402, 321057303976318947, 276693819572250979),
  (260804939094939835, 179813669068397608, 380190005953260547, 262124483343107445), (230958672380359657, 127388772399776119, 380190005953260547, 209699586674485956), (152787169583405051, 134835343629704830, 262932751757828638, 232039300364272089), (152787169583405051, 107868274903763864, 405059524488988323, 285973437816154021),
  (242506250440414284, 136968207263544151, 278923347036196687, 157536685087967154), (303132813050517855, 273936414527088302, 109148392213046558, 98635706617664893), (69705112365474009, 50393141840236385, 342576092898090404, 247664555075566171), (497925228488087014, 287979068547755279, 428220116122613005, 247664555075566171),
  (79666931652379379, 73721619098426699, 288809891391664987, 267256845009900728), (266381986674696114, 197202135932670631, 131952671587200781, 97684340461036165), (398953819136970533, 236275872117085097, 131952671587200781, 78147472368828932), (33375143443721219, 31625679949651233, 292636780055070496, 277297299504467893),
  (273410055676094938, 207262723659219497, 379944394133583781, 288022727519834062), (395029738823863094, 239566725203465323, 106534338457488843, 64608003088491652), (243005134889152899, 235793667773365066, 129279471196099519, 125442948746883047), (214573718965889554, 166564790413395649, 286990358315462383, 222778861800309279),
  (232008829032575528, 144079161858630197, 304425468382148357, 189050418968161101), (145005518145359705, 144079161858630197, 188421053865860593, 187217340862153604), (155859402075484927, 123890965287608839, 210128821726111037, 167029144291132246), (413308786575828671, 262827773487442488, 91497055950398991, 58184021915748217),
  (252402921263113831, 128404718161276282, 354944100507554393, 180570402912134575), (24647788099113247, 20062476413995537, 330296312408441146, 268850168245419783), (119545760250780157, 77845005345878601, 354944100507554393, 231130115727532256), (538879216189707226, 280722999307183673, 58849585064193559, 30657022076330731),
  (82072298289761793, 68407408691969027, 294247925320967795, 245256176610645848), (410361491448808965, 273629634767876108, 94080055902682397, 62732717060522975), (489431850335340607, 261083091355771513, 94080055902682397, 50186173648418380), (317654913447423179, 271120326085455189, 94080055902682397, 80297877837469408),
  (8853686434843997, 6045338514609393, 417278160904348003, 284919480262221274), (381574690548301979, 208432786947911001, 239626982974127991, 130894739945794810), (208530808720922738, 182253838958752039, 239626982974127991, 209431583913271696), (36584615053628058, 25579669809942545, 411573176641422671, 287768668487676443),
  (18292307526814029, 10231867923977018, 507602177089356851, 283929101142007873), (175490655737905534, 157058125883376351, 259519773841740923, 232261308374936558), (352839416358369757, 252623353593453349, 85887222986394078, 61492898173299353), (369665959898571554, 211736558149320175, 214718057465985195, 122985796346598706),
  (184832979949285777, 169389246519456140, 129772836870517161, 118929657803605307), (184832979949285777, 135511397215564912, 300840781050110784, 220563205715278991), (294455764636043858, 172705594401848061, 335253370474341169, 196634400058563526), (194234254357101739, 182277116664534247, 235031860195399050, 220563205715278991),
  (347670902875906167, 261014515422659000, 155875092227400632, 117023487808869497), (347670902875906167, 208811612338127200, 194843865284250790, 117023487808869497), (277951522708545763, 267100893993766286, 34859690083680202, 33498842873618617), (217410064042553336, 167138274770020025, 304559289251753841, 234135960517257259),
  (54352516010638334, 33427654954004005, 435746126046002525, 267990742988948936), (27176258005319167, 26742123963203204, 279714142005641278, 275245777336666633), (135881290026595835, 106968495852812816, 328102986551942406, 258289297587677677), (454044824137976231, 285946604588684720, 14085101624687684, 8870461176410409),
  (559683086323133861, 281980050729410230, 17606377030859605, 8870461176410409), (323857485738715943, 261065885289169820, 102972342723253492, 83007393675113273), (323857485738715943, 208852708231335856, 128715428404066865, 83007393675113273), (210714257203020241, 108710146203778859, 355001885475458269, 183149955702670270),
  (87321175067455367, 72080155063244805, 267680710408002902, 220959774061027627), (87321175067455367, 57664124050595844, 378261475543731311, 249791836086325549), (509340950456345821, 269082038609529317, 72735075119068986, 38425542407145941), (227345965902806311, 192169008739532797, 181837687797672465, 153702169628583764),
  (352396018380492928, 238296178309629163, 79541774372552771, 53787500029243699), (440495022975616160, 238296178309629163, 343838788157922467, 186007707009172457), (275309389359760100, 238296178309629163, 233715032414018427, 202293859890824266), (344136736699700125, 238296178309629163, 371369727093898477, 257153559236511078),
  (515623858555223549, 285633428426896861, 6808247598549588, 3771476185376383), (323341312413651559, 286587475996313787, 8510309498186985, 7542952370752766), (193596928954390441, 137272790329242077, 236148476445325366, 167444599812253141), (155835583588526562, 88398036094147459, 434535607524786853, 246491163530358823),
  (66681129655895669, 60519999557321897, 256226699659525067, 232552145261946042), (308862001642461221, 224259286537418281, 94772785001814699, 68812858281849658), (207953304981392241, 120793000266081037, 296590178323952659, 172279144553186902), (293180458730200458, 272477687104425593, 44318436671280209, 41188915429684692),
  (197726125712010239, 147011046090781479, 337498895401480667, 250933282027288228), (232669318134377846, 138393284059926533, 407385280246215881, 242315519996433282), (289766780112699055, 275768384987358272, 14595325761162278, 13890237562617393), (279890153347100599, 213095111958312017, 316378467750006294, 240875587083546803),
  (401591072819198051, 244601944299880506, 97338774138954421, 59287307466803275), (214492380209890874, 209029559819798541, 97338774138954421, 94859691946885240), (316784862331840803, 246973436598552637, 97338774138954421, 75887753557508192), (407931501492050839, 254426916939643051, 298208457395607648, 185992643723225273),
  (184275158445345103, 183891894635558554, 186380285872254780, 185992643723225273), (324060372849536188, 258709101942382007, 232975357340318475, 185992643723225273), (405075466061920235, 258709101942382007, 151960264127934428, 97052294590103817), (443065532093903842, 226377740471926369, 189950330159918035, 97052294590103817),
  (15791217943516943, 12909260516687494, 340650472879901072, 278480463968571569), (280863762044569137, 183684044480878594, 381817598208061348, 249707545687942903), (89954962940538463, 47064217309525714, 477271997760076685, 249707545687942903), (205835814498384588, 172308474142355437, 167732628792461449, 140411683950860599),
  (270650536041653743, 181252736817630654, 284006303960326751, 190196999492905871), (537962130103639234, 288215526373154003, 277328420000990247, 148579894524214610), (128230016314031836, 109919652944096471, 277328420000990247, 237727831238743376), (160287520392539795, 109919652944096471, 309385924079498206, 212166195579813995),
  (478065282001224039, 262272545004155741, 154692962039749103, 84866478231925598), (235536042030117837, 206748791879973014, 268964384084313839, 236091516987715885), (361661148558725756, 253967095277516191, 268964384084313839, 188873213590172708), (452076435698407195, 253967095277516191, 88133809804950961, 49511732761131690),
  (293564498537123367, 263869441829742529, 88133809804950961, 79218772417810704), (102715344366086203, 73860267764772730, 374407541061506707, 269227946482780503), (102715344366086203, 59088214211818184, 442330590235361833, 254455892929825957), (312299886124776179, 287446712988054100, 16773069642137903, 15438250058874281),
  (140973982689211181, 103804092774233663, 365813313589111877, 269361185783964450), (84764149964236007, 49931855617440773, 450577463553347884, 265420804244612333), (98704257926286489, 93029645342875085, 267109055662825388, 251752672460599411), (98704257926286489, 74423716274300068, 333886319578531735, 251752672460599411),
  (404260418155064023, 243852196805300059, 314999546678695601, 190009528513399846), (223152178690921055, 215370673167600852, 89907495604219953, 86772345063739981), (347987405386445111, 268682231799244121, 101550072634654654, 78407148455715803), (199381220851886219, 123154322410840809, 453256402438522854, 279968619322272415),
  (192569475760042417, 190314920957227135, 226628201219261427, 223974895457817932), (192569475760042417, 152251936765781708, 331427620464087388, 262037879649263359), (302282046404062987, 191195522895398061, 358283285992086111, 226616701272330710), (288281736507057206, 145872182640931919, 358283285992086111, 181293361017864568),
  (251212077122807357, 203383561870664422, 267678022173196885, 216714539394797217), (440996105619755149, 285627537526999006, 4116486262597382, 2666195504826559), (546729589120720098, 283287810016803443, 10291215656493455, 5332391009653118), (233324438975627038, 193435206452555785, 172701652077907117, 143176513660778838),
  (116662219487813519, 77374082581022314, 373423020450861033, 247665986031046519), (227465348478771919, 120689784472039787, 355845748960295676, 188806545852049469), (247174830099496838, 209835755088861511, 197632356100872757, 167777336615237427), (296717304098120919, 201515338849988476, 160609885575310588, 109078085663867273),
  (377022246885776213, 204843505345537690, 200762356969138235, 109078085663867273), (15906869476454683, 13828017543455341, 329301638456412164, 286265555922494281), (98232279090557724, 68315525219263129, 411627048070515205, 286265555922494281), (122790348863197155, 68315525219263129, 509859327161072929, 283664864913405928),
  (263266732797829493, 234353338552765321, 175848454077502704, 156535813904190931), (307228846317205169, 218789833623050443, 219810567596878380, 156535813904190931), (472086772014863954, 268953355240954913, 274763209496097975, 156535813904190931), (127701648875882488, 116404996609867355, 224501207597547483, 204641541744721253),
  (31925412218970622, 23280999321973471, 388221556951413109, 283103182573495179), (79813530547426555, 46561998643946942, 489420841501184808, 285520668012001757), (98449455907205009, 91894262058229863, 300618196829927766, 280601727093345673), (347208010229373901, 259271510130506050, 274688375576048329, 205118741079299349),
  (347208010229373901, 207417208104404840, 256558466912716936, 153264439053198139), (186858968408925816, 178603093913849605, 160349041820448085, 153264439053198139), (46714742102231454, 35720618782769921, 334597788079925885, 255851568385093346), (116786855255578635, 71441237565539842, 435908661127793803, 266655473754778975)]

def okC (i : Nat) (r : Nat × Nat × Nat × Nat) : Bool :=
  decide (r.2.1 * r.2.2.1 = r.1 * r.2.2.2 + 1) && decide (288230376151711744 ≤ r.2.1 + r.2.2.2) && decide (r.1 * 2 ^ 127 ≤ pmOf i * r.2.1) && decide (pmOf i * r.2.2.2 + 1152921504606846976 < r.2.2.1 * 2 ^ 127) &&
  (decide (r.1 * 2 ^ 127 + 1152921504606846976 < pmOf i * r.2.1) || decide (r.2.1 * eOf i = r.1 * 2 ^ 127 * unitS)) && decide (eOf i ≤ pmOf i * unitS) && decide (pmOf i * unitS < eOf i + unitS)
set_option maxRecDepth 100000 in
theorem certs_ok : (List.range 696).all (fun i => okC i (certs.getD i (0, 0, 0, 0))) = true := by decide +kernel
theorem cert_at (i : Nat) (hi : i < 696) : ∃ a b c d, b * c = a * d + 1 ∧ 288230376151711744 ≤ b + d ∧ a * 2 ^ 127 ≤ pmOf i * b ∧ pmOf i * d + 1152921504606846976 < c * 2 ^ 127 ∧
    (a * 2 ^ 127 + 1152921504606846976 < pmOf i * b ∨ b * eOf i = a * 2 ^ 127 * unitS) ∧ eOf i ≤ pmOf i * unitS ∧ pmOf i * unitS < eOf i + unitS := by
  have := List.all_eq_true.1 certs_ok i (List.mem_range.2 hi)
  simp only [okC, Bool.and_eq_true, Bool.or_eq_true, decide_eq_true_eq] at this
  obtain ⟨⟨⟨⟨⟨⟨h1, h2⟩, h3⟩, h4⟩, h5⟩, h6⟩, h7⟩ := this
  exact ⟨_, _, _, _, h1, h2, h3, h4, h5, h6, h7⟩
/-- Two neighbouring fractions a/b <= A/B < c/d: whatever has a denominator below b + d is a multiple of the lower one, or as far off as they are, at the least. -/
theorem farey (A B a b c d X Y : Nat) (h1 : b * c = a * d + 1) (hX0 : 1 ≤ X) (hX : X < b + d) (hlo : a * B ≤ A * b) (hhi : A * d < c * B) :
    (∃ i, X = i * b ∧ Y = i * a) ∨ (Y * B + (A * b - a * B) + (c * B - A * d) ≤ X * A) ∨ (X * A + (c * B - A * d) ≤ Y * B) := by
  have z1 : (b : Int) * c = a * d + 1 := by exact_mod_cast h1
  have zlo : (a : Int) * B ≤ A * b := by exact_mod_cast hlo
  have zhi : (A : Int) * d < c * B := by exact_mod_cast hhi
  obtain ⟨i, hi⟩ : ∃ i : Int, i = X * c - Y * d := ⟨_, rfl⟩
  obtain ⟨j, hj⟩ : ∃ j : Int, j = Y * b - X * a := ⟨_, rfl⟩
  have e1 : (X : Int) = i * b + j * d := by subst hi hj; grind
  have e2 : (Y : Int) = i * a + j * c := by subst hi hj; grind
  have e3 : (X : Int) * A - Y * B = i * (A * b - a * B) - j * (c * B - A * d) := by subst hi hj; grind
  have zX0 : (1 : Int) ≤ X := by omega
  have zX : (X : Int) < b + d := by omega
  clear hi hj
  rcases Int.lt_trichotomy j 0 with hneg | h0 | hpos
  · have hi1 : 1 ≤ i := by
      rcases Int.lt_or_le 0 i with h | h
      · omega
      · have p1 : i * (b : Int) ≤ 0 := Int.mul_nonpos_of_nonpos_of_nonneg h (by omega)
        have p2 : j * (d : Int) ≤ 0 := Int.mul_nonpos_of_nonpos_of_nonneg (by omega) (by omega)
        omega
    have q1 : 1 * ((A : Int) * b - a * B) ≤ i * (A * b - a * B) := Int.mul_le_mul_of_nonneg_right hi1 (by omega)
    have q2 : j * ((c : Int) * B - A * d) ≤ (-1) * (c * B - A * d) := Int.mul_le_mul_of_nonneg_right (by omega) (by omega)
    refine Or.inr (Or.inl ?_)
    have : (Y * B + (A * b - a * B) + (c * B - A * d) : Nat) ≤ ((X * A : Nat) : Int) := by
      push_cast [Int.ofNat_sub hlo, Int.ofNat_sub (Nat.le_of_lt hhi)]
      omega
    exact_mod_cast this
  · subst h0
    have hi0 : 0 ≤ i := by
      rcases Int.lt_or_le i 0 with h | h
      · have p1 : i * (b : Int) ≤ 0 := Int.mul_nonpos_of_nonpos_of_nonneg (by omega) (by omega)
        omega
      · exact h
    obtain ⟨n, rfl⟩ := Int.eq_ofNat_of_zero_le hi0
    refine Or.inl ⟨n, ?_, ?_⟩
    · have : (X : Int) = ((n * b : Nat) : Int) := by push_cast; omega
      exact_mod_cast this
    · have : (Y : Int) = ((n * a : Nat) : Int) := by push_cast; omega
      exact_mod_cast this
  · have hi1 : i ≤ 0 := by
      rcases Int.lt_or_le 0 i with h | h
      · have p1 : 1 * (b : Int) ≤ i * b := Int.mul_le_mul_of_nonneg_right (by omega) (by omega)
        have p2 : 1 * (d : Int) ≤ j * d := Int.mul_le_mul_of_nonneg_right (by omega) (by omega)
        omega
      · exact h
    have q1 : i * ((A : Int) * b - a * B) ≤ 0 := Int.mul_nonpos_of_nonpos_of_nonneg hi1 (by omega)
    have q2 : 1 * ((c : Int) * B - A * d) ≤ j * (c * B - A * d) := Int.mul_le_mul_of_nonneg_right (by omega) (by omega)
    refine Or.inr (Or.inr ?_)
    have : (X * A + (c * B - A * d) : Nat) ≤ ((Y * B : Nat) : Int) := by
      push_cast [Int.ofNat_sub (Nat.le_of_lt hhi)]
      omega
    exact_mod_cast this
end Go.Proofs.YtmejmohambhaaaaGreatDoor
/- THE LIBRARY's SCALING IS EXACT, up to the last bit, for every number whose last six bits are 0 and every row of the table. Own work of the verifier. -/
namespace Go.Proofs.YtmejmohambhaaaaGreatDoor

/-- x = 64 X times a row, held against a multiple of 2^(128+s). -/
theorem near_tri (i X y s : Nat) (hi : i < 696) (hX0 : 1 ≤ X) (hX : X < 288230376151711744) (hs : 5 ≤ s) :
    (64 * X * eOf i = y * 2 ^ (128 + s) * unitS ∧ y * 2 ^ (128 + s) ≤ 64 * X * pmOf i ∧ 64 * X * pmOf i < y * 2 ^ (128 + s) + 18446744073709551616) ∨
      y * 2 ^ (128 + s) + 73786976294838206464 < 64 * X * pmOf i ∨ 64 * X * pmOf i + 73786976294838206464 < y * 2 ^ (128 + s) := by
  obtain ⟨a, b, c, d, h1, h2, h3, h4, h5, h6, h7⟩ := cert_at i hi
  have eQ : y * 2 ^ (128 + s) = 64 * (y * 2 ^ (s - 5) * 2 ^ 127) := by
    rw [show 128 + s = (s - 5) + 127 + 6 from by omega, Nat.pow_add, Nat.pow_add]
    generalize 2 ^ (s - 5) = k
    generalize 2 ^ 127 = B
    rw [show (2 : Nat) ^ 6 = 64 from by decide]
    grind
  rw [eQ]
  generalize hY : y * 2 ^ (s - 5) = Y
  clear eQ hY
  have hS := unitS_pos
  generalize unitS = S at *
  generalize eOf i = E at *
  generalize pmOf i = A at *
  have hB : 0 < 2 ^ 127 := Nat.pow_pos (by decide)
  generalize 2 ^ 127 = B at *
  have hf := farey A B a b c d X Y h1 hX0 (by omega) h3 (by omega)
  have m1 : 64 * X * A = 64 * (X * A) := by rw [Nat.mul_assoc]
  have m2 : 64 * X * E = 64 * (X * E) := by rw [Nat.mul_assoc]
  rw [m1, m2]
  rcases hf with ⟨k, rfl, rfl⟩ | hf | hf
  · have hk : 1 ≤ k := by
      rcases Nat.eq_zero_or_pos k with h | h
      · subst h; omega
      · exact h
    rcases h5 with h5 | h5
    · refine Or.inr (Or.inl ?_)
      have := Nat.mul_le_mul_left k (Nat.succ_le_of_lt h5)
      have e1 : k * (A * b) = k * b * A := by grind
      have e2 : k * (a * B + 1152921504606846976 + 1) = k * a * B + k * 1152921504606846977 := by grind
      have e3 : 1 * 1152921504606846977 ≤ k * 1152921504606846977 := Nat.mul_le_mul_right _ hk
      rw [show (a * B + 1152921504606846976).succ = a * B + 1152921504606846976 + 1 from rfl, e2, e1] at this
      omega
    · refine Or.inl ?_
      have e0 : k * b * E = k * a * B * S := by
        have : k * (b * E) = k * (a * B * S) := by rw [h5]
        grind
      have e1 : k * b * E ≤ k * b * (A * S) := Nat.mul_le_mul_left _ h6
      have e2 : k * b * (A * S) + 1 ≤ k * b * (E + S) := Nat.mul_lt_mul_of_pos_left h7 (by omega)
      have e3 : k * b * (A * S) = k * b * A * S := by rw [Nat.mul_assoc (k * b) A S]
      have e4 : k * b * (E + S) = k * b * E + k * b * S := Nat.mul_add _ _ _
      refine ⟨by rw [e0]; grind, ?_, ?_⟩
      · have : k * a * B * S ≤ k * b * A * S := by omega
        have := Nat.le_of_mul_le_mul_right this hS
        omega
      · have : k * b * A * S < (k * a * B + k * b) * S := by rw [Nat.add_mul]; omega
        have := Nat.lt_of_mul_lt_mul_right this
        omega
  · refine Or.inr (Or.inl ?_)
    omega
  · refine Or.inr (Or.inr ?_)
    omega
theorem or_bit (y : Nat) : y ||| 1 = y / 2 * 2 + 1 := by
  apply Nat.eq_of_testBit_eq
  intro i
  rw [Nat.testBit_or]
  cases i with
  | zero => simp [Nat.testBit_zero]
  | succ i =>
    rw [Nat.testBit_succ, Nat.testBit_succ, Nat.testBit_succ, show (y / 2 * 2 + 1) / 2 = y / 2 from by omega, show 1 / 2 = 0 from rfl]
    simp
/-- What an unrounded number u says of the number T / G: how it stands to every even number. -/
def Un (u T G : Nat) : Prop := ∀ n, (2 * n ≤ u ↔ 2 * n * G ≤ T) ∧ (u ≤ 2 * n ↔ T ≤ 2 * n * G)
theorem un_between (y T G : Nat) (h0 : y * G < T) (h1 : T < (y + 1) * G) : Un (y ||| 1) T G := by
  intro n
  rw [or_bit]
  have key : ∀ k, k ≤ y → k * G < T := fun k hk => Nat.lt_of_le_of_lt (Nat.mul_le_mul_right _ hk) h0
  have key2 : ∀ k, y + 1 ≤ k → T < k * G := fun k hk => Nat.lt_of_lt_of_le h1 (Nat.mul_le_mul_right _ hk)
  constructor
  · constructor
    · intro h
      exact Nat.le_of_lt (key _ (by omega))
    · intro h
      rcases Nat.lt_or_ge y (2 * n) with h' | h'
      · have := key2 _ h'
        omega
      · omega
  · constructor
    · intro h
      exact Nat.le_of_lt (key2 _ (by omega))
    · intro h
      rcases Nat.lt_or_ge y (2 * n) with h' | h'
      · omega
      · have := key _ h'
        omega
theorem un_exact (y T G : Nat) (hG : 0 < G) (h : T = y * G) : Un y T G := by
  intro n
  subst h
  exact ⟨⟨fun h => Nat.mul_le_mul_right _ h, fun h => Nat.le_of_mul_le_mul_right h hG⟩, ⟨fun h => Nat.mul_le_mul_right _ h, fun h => Nat.le_of_mul_le_mul_right h hG⟩⟩
/-- The library's scaling is exact, up to the last bit. -/
theorem usc_un (i X s : Nat) (hi : i < 696) (hX0 : 1 ≤ X) (hX : X < 288230376151711744) (hs0 : 5 ≤ s) :
    Un (usc (64 * X) (tabHi i) (tabLo i) s) (64 * X * eOf i) (2 ^ (128 + s) * unitS) := by
  obtain ⟨f1, f2⟩ := tab_fit i hi
  have f3 := tab_top i hi
  obtain ⟨_, _, _, _, _, _, _, _, _, g1, g2⟩ := cert_at i hi
  have tri := fun y => near_tri i X y s hi hX0 hX hs0
  have hpm : pmOf i = tabHi i * 18446744073709551616 - tabLo i := rfl
  have hS := unitS_pos
  have hxx : 64 * X < 18446744073709551616 := by omega
  have hx1 : 1 ≤ 64 * X := by omega
  unfold usc
  generalize tabHi i = hi' at *
  generalize tabLo i = lo at *
  generalize unitS = S at *
  generalize eOf i = E at *
  generalize pmOf i = A at *
  generalize 64 * X = x at *
  have hxh : x * hi' = x * hi' / 18446744073709551616 * 18446744073709551616 + x * hi' % 18446744073709551616 := by omega
  have hxl : x * lo = x * lo / 18446744073709551616 * 18446744073709551616 + x * lo % 18446744073709551616 := by omega
  have hM : x * hi' % 18446744073709551616 < 18446744073709551616 := Nat.mod_lt _ (by decide)
  have hr : x * lo % 18446744073709551616 < 18446744073709551616 := Nat.mod_lt _ (by decide)
  have hlm : x * lo ≤ 18446744073709551615 * 18446744073709551615 := Nat.mul_le_mul (by omega) (by omega)
  have hH : x * hi' / 18446744073709551616 < 18446744073709551616 := Nat.div_lt_of_lt_mul (Nat.mul_lt_mul'' hxx f1)
  have hxA : x * A = x * hi' * 18446744073709551616 - x * lo := by rw [hpm, Nat.mul_sub, ← Nat.mul_assoc]
  have hge : x * lo ≤ x * hi' * 18446744073709551616 := by
    have : lo ≤ hi' * 18446744073709551616 := by omega
    have := Nat.mul_le_mul_left x this
    rwa [← Nat.mul_assoc] at this
  -- from the row to the power itself
  have up : ∀ z, x * A < z → x * E < z * S := fun z hz => by
    have e1 : x * E ≤ x * (A * S) := Nat.mul_le_mul_left _ g1
    have e2 : x * A * S < z * S := Nat.mul_lt_mul_of_pos_right hz hS
    rw [← Nat.mul_assoc] at e1
    omega
  have dn : ∀ z, z + x < x * A → z * S < x * E := fun z hz => by
    have e2 : x * (A * S) + 1 ≤ x * (E + S) := Nat.mul_lt_mul_of_pos_left g2 hx1
    have e3 : (z + x) * S < x * A * S := Nat.mul_lt_mul_of_pos_right hz hS
    rw [Nat.mul_add, ← Nat.mul_assoc] at e2
    rw [Nat.add_mul] at e3
    omega
  clear hpm g1 g2
  generalize x * lo / 18446744073709551616 = C at *
  generalize x * lo % 18446744073709551616 = r at *
  generalize x * hi' / 18446744073709551616 = H at *
  generalize x * hi' % 18446744073709551616 = M at *
  generalize x * hi' = xh at *
  generalize x * lo = xl at *
  have hP : 2 ^ (128 + s) = 2 ^ s * 340282366920938463463374607431768211456 := by rw [Nat.pow_add, Nat.mul_comm]
  have hp5 : 32 ≤ 2 ^ s := by have : 2 ^ 5 ≤ 2 ^ s := Nat.pow_le_pow_right (by decide) hs0; omega
  simp only [hP] at tri
  rw [hP]
  have hdm : H / 2 ^ s * 2 ^ s ≤ H := Nat.div_mul_le_self _ _
  have hdu : H < H / 2 ^ s * 2 ^ s + 2 ^ s := by have := Nat.lt_div_mul_add (a := H) (b := 2 ^ s) (by omega); omega
  generalize hP' : 2 ^ s = P at *
  -- strictly between two multiples
  have btw : ∀ y, y * (P * 340282366920938463463374607431768211456) + 18446744073709551616 < x * A + 0 → x * A < (y + 1) * (P * 340282366920938463463374607431768211456) → Un (y ||| 1) (x * E) (P * 340282366920938463463374607431768211456 * S) := by
    intro y a1 a2
    refine un_between _ _ _ ?_ ?_
    · rw [← Nat.mul_assoc]; exact dn _ (by omega)
    · rw [← Nat.mul_assoc]; exact up _ a2
  by_cases hE : H / P * P = H
  · rw [if_pos hE]
    obtain ⟨y, hy⟩ : ∃ y, y = H / P := ⟨_, rfl⟩
    have hyH : y * P = H := by rw [hy]; exact hE
    have q1 : y * (P * 340282366920938463463374607431768211456) = H * 340282366920938463463374607431768211456 := by rw [← Nat.mul_assoc, hyH]
    have q2 : (y + 1) * (P * 340282366920938463463374607431768211456) = H * 340282366920938463463374607431768211456 + P * 340282366920938463463374607431768211456 := by rw [Nat.add_mul, q1, Nat.one_mul]
    by_cases hMC : M < C
    · have hH1 : 1 ≤ H := by omega
      have hy1 : 1 ≤ y := by
        rcases Nat.eq_zero_or_pos y with h | h
        · subst h; omega
        · exact h
      rw [show b2n (decide (M < C)) = 1 from by rw [decide_eq_true hMC]; rfl, show b2n (decide (1 < (M + 18446744073709551616 - C) % 18446744073709551616)) = 1 from by rw [decide_eq_true (by omega)]; rfl,
        show (H + 18446744073709551616 - 1) % 18446744073709551616 = H - 1 from by omega]
      have q0 : (y - 1) * (P * 340282366920938463463374607431768211456) + P * 340282366920938463463374607431768211456 = H * 340282366920938463463374607431768211456 := by
        rw [← q1]
        obtain ⟨z, rfl⟩ : ∃ z, y = z + 1 := ⟨y - 1, by omega⟩
        rw [Nat.add_sub_cancel, Nat.add_mul, Nat.one_mul]
      have hd : (H - 1) / P = y - 1 := by
        obtain ⟨z, rfl⟩ : ∃ z, y = z + 1 := ⟨y - 1, by omega⟩
        rw [Nat.add_mul, Nat.one_mul] at hyH
        rw [Nat.div_eq_iff (by omega), Nat.add_sub_cancel]
        omega
      rw [hd]
      refine btw _ (by omega) ?_
      rw [show y - 1 + 1 = y from by omega, q1]
      omega
    · rw [show b2n (decide (M < C)) = 0 from by rw [decide_eq_false hMC]; rfl, show (M + 18446744073709551616 - C) % 18446744073709551616 = M - C from by omega, show (H + 18446744073709551616 - 0) % 18446744073709551616 = H from by omega, ← hy]
      rcases tri y with ⟨t1, t2, t3⟩ | t | t
      · rw [show b2n (decide (1 < M - C)) = 0 from by rw [decide_eq_false (by omega)]; rfl, Nat.or_zero]
        exact un_exact _ _ _ (Nat.mul_pos (Nat.mul_pos (by omega) (by decide)) hS) (by rw [t1, Nat.mul_assoc])
      · rw [show b2n (decide (1 < M - C)) = 1 from by rw [decide_eq_true (by omega)]; rfl]
        refine btw _ (by omega) ?_
        rw [q2]
        omega
      · omega
  · rw [if_neg hE]
    obtain ⟨y, hy⟩ : ∃ y, y = H / P := ⟨_, rfl⟩
    rw [← hy] at hdm hdu hE ⊢
    obtain ⟨h, hh⟩ : ∃ h, H = y * P + h := ⟨H - y * P, by omega⟩
    have q1 : y * (P * 340282366920938463463374607431768211456) = y * P * 340282366920938463463374607431768211456 := by rw [← Nat.mul_assoc]
    have q2 : (y + 1) * (P * 340282366920938463463374607431768211456) = y * P * 340282366920938463463374607431768211456 + P * 340282366920938463463374607431768211456 := by rw [Nat.add_mul, q1, Nat.one_mul]
    generalize y * P = yP at *
    exact btw _ (by omega) (by rw [q2]; omega)
theorem small_rows : (List.range 28).all (fun k => decide (tabLo (348 + k) = 0) && decide (tabHi (348 + k) % 2 = 0) && decide (eOf (348 + k) = tabHi (348 + k) * 18446744073709551616 * unitS)) = true := by decide +kernel
set_option maxHeartbeats 1000000 in
/-- .. and for every number at all where the row is the power itself. -/
theorem usc_un0 (i x s : Nat) (hi0 : 348 ≤ i) (hi1 : i < 376) (_hx0 : 1 ≤ x) (hx : x < 18446744073709551616) (hs0 : 5 ≤ s) :
    Un (usc x (tabHi i) (tabLo i) s) (x * eOf i) (2 ^ (128 + s) * unitS) := by
  have hr := List.all_eq_true.1 small_rows (i - 348) (List.mem_range.2 (by omega))
  rw [show 348 + (i - 348) = i from by omega] at hr
  simp only [Bool.and_eq_true, decide_eq_true_eq] at hr
  obtain ⟨⟨r1, r2⟩, r3⟩ := hr
  have f1 := (tab_fit i (by omega)).1
  have hS := unitS_pos
  rw [r1, r3]
  unfold usc
  rw [Nat.mul_zero, Nat.zero_div]
  generalize tabHi i = hi at *
  generalize unitS = S at *
  have hE : x * (hi * 18446744073709551616 * S) = x * hi * 18446744073709551616 * S := by grind
  rw [hE]
  have hxh : x * hi = x * hi / 18446744073709551616 * 18446744073709551616 + x * hi % 18446744073709551616 := by omega
  have hM : x * hi % 18446744073709551616 < 18446744073709551616 := Nat.mod_lt _ (by decide)
  have hM2 : x * hi % 18446744073709551616 % 2 = 0 := by
    have : x * hi % 2 = 0 := by rw [Nat.mul_mod, r2, Nat.mul_zero]
    omega
  have hH : x * hi / 18446744073709551616 < 18446744073709551616 := Nat.div_lt_of_lt_mul (Nat.mul_lt_mul'' hx f1)
  generalize x * hi / 18446744073709551616 = H at *
  generalize x * hi % 18446744073709551616 = M at *
  generalize x * hi = xh at *
  have hP : 2 ^ (128 + s) = 2 ^ s * 340282366920938463463374607431768211456 := by rw [Nat.pow_add, Nat.mul_comm]
  have hp5 : 32 ≤ 2 ^ s := by have : 2 ^ 5 ≤ 2 ^ s := Nat.pow_le_pow_right (by decide) hs0; omega
  rw [hP]
  have hdm : H / 2 ^ s * 2 ^ s ≤ H := Nat.div_mul_le_self _ _
  have hdu : H < H / 2 ^ s * 2 ^ s + 2 ^ s := by have := Nat.lt_div_mul_add (a := H) (b := 2 ^ s) (by omega); omega
  generalize hP' : 2 ^ s = P at *
  have btw : ∀ y, y * (P * 340282366920938463463374607431768211456) < xh * 18446744073709551616 → xh * 18446744073709551616 < (y + 1) * (P * 340282366920938463463374607431768211456) → Un (y ||| 1) (xh * 18446744073709551616 * S) (P * 340282366920938463463374607431768211456 * S) := by
    intro y a1 a2
    refine un_between _ _ _ ?_ ?_
    · rw [← Nat.mul_assoc]; exact Nat.mul_lt_mul_of_pos_right a1 hS
    · rw [← Nat.mul_assoc]; exact Nat.mul_lt_mul_of_pos_right a2 hS
  obtain ⟨y, hy⟩ : ∃ y, y = H / P := ⟨_, rfl⟩
  rw [← hy] at hdm hdu ⊢
  have q1 : y * (P * 340282366920938463463374607431768211456) = y * P * 340282366920938463463374607431768211456 := by rw [← Nat.mul_assoc]
  have q2 : (y + 1) * (P * 340282366920938463463374607431768211456) = y * P * 340282366920938463463374607431768211456 + P * 340282366920938463463374607431768211456 := by rw [Nat.add_mul, q1, Nat.one_mul]
  by_cases hE' : y * P = H
  · rw [if_pos hE', show b2n (decide (M < 0)) = 0 from by rw [decide_eq_false (by omega)]; rfl, show (H + 18446744073709551616 - 0) % 18446744073709551616 = H from by omega, show (M + 18446744073709551616 - 0) % 18446744073709551616 = M from by omega, ← hy]
    rcases Nat.eq_zero_or_pos M with h0 | h0
    · rw [show b2n (decide (1 < M)) = 0 from by rw [decide_eq_false (by omega)]; rfl, Nat.or_zero]
      have hxy : xh * 18446744073709551616 = y * (P * 340282366920938463463374607431768211456) := by
        rw [q1]
        generalize y * P = yP at *
        omega
      exact un_exact _ _ _ (Nat.mul_pos (Nat.mul_pos (by omega) (by decide)) hS) (by rw [hxy, Nat.mul_assoc])
    · rw [show b2n (decide (1 < M)) = 1 from by rw [decide_eq_true (by omega)]; rfl]
      generalize y * P = yP at *
      exact btw _ (by rw [q1]; omega) (by rw [q2]; omega)
  · rw [if_neg hE']
    generalize y * P = yP at *
    exact btw _ (by rw [q1]; omega) (by rw [q2]; omega)
end Go.Proofs.YtmejmohambhaaaaGreatDoor
/- WHAT A NUMBER x * 2^e * 10^p IS WORTH, in whole numbers; the library's scaling held against it; and THE DIGITS THAT ARE PRINTED LIE WITHIN THE INTERVAL OF THE FLOAT. Own work of the verifier. -/
namespace Go.Proofs.YtmejmohambhaaaaGreatDoor

/-- x * 2^e * 10^p, in units of 2^-1200 * 10^-400. -/
def V (x : Nat) (e p : Int) : Nat := x * pw 2 (e + 1200).toNat * pw 10 (p + 400).toNat
theorem V_up (x : Nat) (e p : Int) (k j : Nat) (he : -1200 ≤ e) (hp : -400 ≤ p) : V x (e + k) (p + j) = V x e p * (pw 2 k * pw 10 j) := by
  unfold V
  rw [show (e + (k : Int) + 1200).toNat = (e + 1200).toNat + k from by omega, show (p + (j : Int) + 400).toNat = (p + 400).toNat + j from by omega, pw_add, pw_add]
  generalize pw 2 (e + 1200).toNat = a
  generalize pw 10 (p + 400).toNat = b
  grind
theorem V_le_up (x y : Nat) (e p e' p' : Int) (k j : Nat) (he : -1200 ≤ e) (hp : -400 ≤ p) (he' : -1200 ≤ e') (hp' : -400 ≤ p') : V x (e + k) (p + j) ≤ V y (e' + k) (p' + j) ↔ V x e p ≤ V y e' p' := by
  rw [V_up x e p k j he hp, V_up y e' p' k j he' hp']
  exact Nat.mul_le_mul_right_iff (Nat.mul_pos (pw_pos _ (by decide)) (pw_pos _ (by decide)))
/-- Both sides moved by powers of two and of ten, up or down. -/
theorem V_le_mv (x y : Nat) (e p e' p' : Int) (k j : Int) (he : -1200 ≤ e) (hp : -400 ≤ p) (he' : -1200 ≤ e') (hp' : -400 ≤ p') (h1 : -1200 ≤ e + k) (h2 : -400 ≤ p + j) (h3 : -1200 ≤ e' + k) (h4 : -400 ≤ p' + j) :
    V x (e + k) (p + j) ≤ V y (e' + k) (p' + j) ↔ V x e p ≤ V y e' p' := by
  obtain ⟨a, b, hk⟩ : ∃ a b : Nat, k = (a : Int) - b ∧ (a = 0 ∨ b = 0) := ⟨k.toNat, (-k).toNat, by omega, by omega⟩
  obtain ⟨c, d, hj⟩ : ∃ c d : Nat, j = (c : Int) - d ∧ (c = 0 ∨ d = 0) := ⟨j.toNat, (-j).toNat, by omega, by omega⟩
  have l := V_le_up x y (e + k) (p + j) (e' + k) (p' + j) b d h1 h2 h3 h4
  have r := V_le_up x y e p e' p' a c he hp he' hp'
  rw [show e + k + (b : Int) = e + a from by omega, show p + j + (d : Int) = p + c from by omega, show e' + k + (b : Int) = e' + a from by omega, show p' + j + (d : Int) = p' + c from by omega] at l
  exact l.symm.trans r
theorem V_two (x k : Nat) (e p : Int) (he : -1200 ≤ e) : V (x * 2 ^ k) e p = V x (e + k) p := by
  unfold V
  rw [show (e + (k : Int) + 1200).toNat = (e + 1200).toNat + k from by omega, pw_add]
  generalize pw 2 (e + 1200).toNat = a
  generalize pw 10 (p + 400).toNat = b
  show x * 2 ^ k * a * b = x * (a * 2 ^ k) * b
  grind
theorem V_ten (x : Nat) (e p : Int) (hp : -400 ≤ p) : V (x * 10) e p = V x e (p + 1) := by
  unfold V
  rw [show (p + 1 + 400).toNat = (p + 400).toNat + 1 from by omega, pw_add]
  generalize pw 2 (e + 1200).toNat = a
  generalize pw 10 (p + 400).toNat = b
  show x * 10 * a * b = x * a * (b * 10 ^ 1)
  grind
theorem V_mono {x y : Nat} (e p : Int) : V x e p ≤ V y e p ↔ x ≤ y := by
  unfold V
  rw [Nat.mul_assoc, Nat.mul_assoc]
  exact Nat.mul_le_mul_right_iff (Nat.mul_pos (pw_pos _ (by decide)) (pw_pos _ (by decide)))
/-- The library's scaling, against every even number. -/
theorem scl_of (x : Nat) (e p : Int) (hun : ∀ s : Nat, 5 ≤ s → Un (usc (x) (tabHi (p + 348).toNat) (tabLo (p + 348).toNat) s) (x * eOf (p + 348).toNat) (2 ^ (128 + s) * unitS)) (hs0 : 5 ≤ -(e + l2 p + 3)) (hs1 : -(e + l2 p + 3) ≤ 63) (hp0 : -348 ≤ p) (hp1 : p ≤ 347) (he : -1200 ≤ e) (n : Nat) :
    (2 * n ≤ scl (x) e p ↔ V (2 * n) (-2) 0 ≤ V (x) e p) ∧ (scl (x) e p ≤ 2 * n ↔ V (x) e p ≤ V (2 * n) (-2) 0) := by
  obtain ⟨i, hi⟩ : ∃ i : Nat, p = (i : Int) - 348 := ⟨(p + 348).toNat, by omega⟩
  obtain ⟨s, hs⟩ : ∃ s : Nat, -(e + l2 p + 3) = (s : Int) := ⟨(-(e + l2 p + 3)).toNat, by omega⟩
  have hl0 : -1200 ≤ l2 p := by unfold l2; omega
  have hl1 : l2 p ≤ 1200 := by unfold l2; omega
  have key := hun s (by omega) n
  rw [show (p + 348).toNat = i from by omega] at key
  have e1 : scl (x) e p = usc (x) (tabHi i) (tabLo i) s := by
    unfold scl
    rw [hs, show (p + 348).toNat = i from by omega, show ((s : Int) % 64).toNat = s from by omega]
  rw [e1]
  obtain ⟨k, hk⟩ : ∃ k : Nat, k = s + 130 := ⟨_, rfl⟩
  have e2 : V (x) e p * pw 2 k = x * eOf i := by
    unfold V eOf
    rw [show (p + 400).toNat = i + 52 from by omega, show (1327 - l2 ((i : Int) - 348)).toNat = (e + 1200).toNat + k from by rw [← hi]; omega, pw_add 2]
    generalize pw 2 (e + 1200).toNat = a
    generalize pw 10 (i + 52) = b
    generalize pw 2 k = c
    clear hun key
    grind
  have e3 : V (2 * n) (-2) 0 * pw 2 k = 2 * n * (2 ^ (128 + s) * unitS) := by
    unfold V unitS
    rw [show ((-2 : Int) + 1200).toNat = 1198 from by decide, show ((0 : Int) + 400).toNat = 400 from by decide, hk]
    have : pw 2 1198 * pw 2 (s + 130) = 2 ^ (128 + s) * pw 2 1200 := by
      rw [← pw_add]
      show _ = pw 2 (128 + s) * pw 2 1200
      rw [← pw_add]
      congr 1
      omega
    generalize pw 10 400 = b
    generalize 2 ^ (128 + s) = q at *
    generalize pw 2 (s + 130) = c at *
    generalize pw 2 1198 = f at *
    generalize pw 2 1200 = g at *
    clear hun key
    grind
  have hc : 0 < pw 2 k := pw_pos _ (by decide)
  rw [← e2, ← e3, Nat.mul_le_mul_right_iff hc, Nat.mul_le_mul_right_iff hc] at key
  exact key
theorem scl_un (X : Nat) (e p : Int) (hX0 : 1 ≤ X) (hX : X < 288230376151711744) (hs0 : 5 ≤ -(e + l2 p + 3)) (hs1 : -(e + l2 p + 3) ≤ 63) (hp0 : -348 ≤ p) (hp1 : p ≤ 347) (he : -1200 ≤ e) (n : Nat) :
    (2 * n ≤ scl (64 * X) e p ↔ V (2 * n) (-2) 0 ≤ V (64 * X) e p) ∧ (scl (64 * X) e p ≤ 2 * n ↔ V (64 * X) e p ≤ V (2 * n) (-2) 0) :=
  scl_of (64 * X) e p (fun s hs => usc_un _ X s (by omega) hX0 hX hs) hs0 hs1 hp0 hp1 he n
theorem scl_un0 (x : Nat) (e p : Int) (hx0 : 1 ≤ x) (hx : x < 18446744073709551616) (hs0 : 5 ≤ -(e + l2 p + 3)) (hs1 : -(e + l2 p + 3) ≤ 63) (hp0 : 0 ≤ p) (hp1 : p ≤ 27) (he : -1200 ≤ e) (n : Nat) :
    (2 * n ≤ scl x e p ↔ V (2 * n) (-2) 0 ≤ V x e p) ∧ (scl x e p ≤ 2 * n ↔ V x e p ≤ V (2 * n) (-2) 0) :=
  scl_of x e p (fun s hs => usc_un0 _ x s (by omega) (by omega) hx0 hx hs) hs0 hs1 (by omega) (by omega) he n
/-- Digits u that are not below the lower end as it is worked out are not below the lower end itself. -/
theorem low_in (X u odd : Nat) (e p : Int) (hX0 : 1 ≤ X) (hX : X < 288230376151711744) (hs0 : 5 ≤ -(e + l2 p + 3)) (hs1 : -(e + l2 p + 3) ≤ 63) (hp0 : -348 ≤ p) (hp1 : p ≤ 347) (he : -1200 ≤ e) (ho : odd ≤ 1)
    (hu : scl (64 * X) e p < 18446744073709551600) (h : dLow (scl (64 * X) e p) odd ≤ u) : V (64 * X) e 0 ≤ V u 0 (-p) ∧ (odd = 1 → ¬ V u 0 (-p) ≤ V (64 * X) e 0) := by
  rw [dLow_small _ _ hu ho] at h
  have k := scl_un X e p hX0 hX hs0 hs1 hp0 hp1 he (2 * u)
  have m1 := V_le_mv (64 * X) u e p 0 0 0 (-p) he (by omega) (by decide) (by decide) (by omega) (by omega) (by decide) (by omega)
  have m2 := V_le_mv u (64 * X) 0 0 e p 0 (-p) (by decide) (by decide) he (by omega) (by decide) (by omega) (by omega) (by omega)
  rw [show e + 0 = e from by omega, show p + -p = 0 from by omega, show (0 : Int) + 0 = 0 from by decide, show (0 : Int) + -p = -p from by omega] at m1 m2
  have q : V (2 * (2 * u)) (-2) 0 = V u 0 0 := by
    have := V_two u 2 (-2) 0 (by decide)
    rw [show u * 2 ^ 2 = 2 * (2 * u) from by omega] at this
    exact this
  rw [q] at k
  refine ⟨m1.2 (k.2.1 (by omega)), fun h1 hh => ?_⟩
  have := k.1.2 (m2.1 hh)
  omega
theorem high_in (X u odd : Nat) (e p : Int) (hX0 : 1 ≤ X) (hX : X < 288230376151711744) (hs0 : 5 ≤ -(e + l2 p + 3)) (hs1 : -(e + l2 p + 3) ≤ 63) (hp0 : -348 ≤ p) (hp1 : p ≤ 347) (he : -1200 ≤ e) (ho : odd ≤ 1)
    (hu : scl (64 * X) e p < 18446744073709551600) (hu1 : 1 ≤ scl (64 * X) e p) (h : u ≤ dHigh (scl (64 * X) e p) odd) : V u 0 (-p) ≤ V (64 * X) e 0 ∧ (odd = 1 → ¬ V (64 * X) e 0 ≤ V u 0 (-p)) := by
  rw [dHigh_small _ _ hu hu1 ho] at h
  have k := scl_un X e p hX0 hX hs0 hs1 hp0 hp1 he (2 * u)
  have m1 := V_le_mv (64 * X) u e p 0 0 0 (-p) he (by omega) (by decide) (by decide) (by omega) (by omega) (by decide) (by omega)
  have m2 := V_le_mv u (64 * X) 0 0 e p 0 (-p) (by decide) (by decide) he (by omega) (by decide) (by omega) (by omega) (by omega)
  rw [show e + 0 = e from by omega, show p + -p = 0 from by omega, show (0 : Int) + 0 = 0 from by decide, show (0 : Int) + -p = -p from by omega] at m1 m2
  have q : V (2 * (2 * u)) (-2) 0 = V u 0 0 := by
    have := V_two u 2 (-2) 0 (by decide)
    rw [show u * 2 ^ 2 = 2 * (2 * u) from by omega] at this
    exact this
  rw [q] at k
  refine ⟨m2.2 (k.1.1 (by omega)), fun h1 hh => ?_⟩
  have := k.2.2 (m1.1 hh)
  omega
theorem units_V (r : Nat × Int) (p : Int) (hp0 : -400 ≤ -p) (hr : r.2 = -p ∨ r.2 = -p + 1) : V (inUnits r p) 0 (-p) = V r.1 0 r.2 := by
  unfold inUnits
  rcases hr with h | h
  · rw [if_pos h, h]
  · rw [if_neg (by omega), h, V_ten _ _ _ hp0]
/-- A NUMBER LIES WITHIN THE INTERVAL OF THE FLOAT M * 2^E: 'w' is worth it; at a power of two the lower end is nearer. -/
def Within (w M : Nat) (E : Int) : Prop :=
  V (2 * M - 1) (E - 1) 0 ≤ w ∧ w ≤ V (2 * M + 1) (E - 1) 0 ∧ (M % 2 = 1 → ¬ w ≤ V (2 * M - 1) (E - 1) 0 ∧ ¬ V (2 * M + 1) (E - 1) 0 ≤ w) ∧ (M = 4503599627370496 → -1074 < E → V (4 * M - 1) (E - 2) 0 ≤ w)
theorem pick_within (M z odd : Nat) (e p : Int) (hM0 : 1 ≤ M) (hz : 7 ≤ z) (hodd : odd = M % 2) (hx0 : 4611686018427387904 ≤ M * 2 ^ z - 2 ^ (z - 1)) (hx : M * 2 ^ z + 2 ^ (z - 1) < 18446744073709551616) (hE : okE e p = true)
    (hs0 : 5 ≤ -(e + l2 p + 3)) (hs1 : -(e + l2 p + 3) ≤ 63) (he : -1200 ≤ e) (hM : M = 4503599627370496 → e + (z : Int) ≤ -1074)
    (h : dLow (scl (M * 2 ^ z - 2 ^ (z - 1)) e p) odd ≤ inUnits (pick (M * 2 ^ z) (M * 2 ^ z - 2 ^ (z - 1)) (M * 2 ^ z + 2 ^ (z - 1)) odd e p) p ∧ inUnits (pick (M * 2 ^ z) (M * 2 ^ z - 2 ^ (z - 1)) (M * 2 ^ z + 2 ^ (z - 1)) odd e p) p ≤ dHigh (scl (M * 2 ^ z + 2 ^ (z - 1)) e p) odd) :
    Within (V (pick (M * 2 ^ z) (M * 2 ^ z - 2 ^ (z - 1)) (M * 2 ^ z + 2 ^ (z - 1)) odd e p).1 0 (pick (M * 2 ^ z) (M * 2 ^ z - 2 ^ (z - 1)) (M * 2 ^ z + 2 ^ (z - 1)) odd e p).2) M (e + z) := by
  have hE' := hE
  unfold okE at hE'
  simp only [Bool.and_eq_true, decide_eq_true_eq] at hE'
  obtain ⟨⟨⟨_, _⟩, hp0⟩, hp1⟩ := hE'
  have hg : 0 < 2 ^ (z - 1) := Nat.pow_pos (by decide)
  have u1 := scl_between _ e p hx0 (by omega) hE
  have u3 := scl_between (M * 2 ^ z + 2 ^ (z - 1)) e p (by omega) hx hE
  rw [← units_V _ p (by omega) (pick_two _ _ _ _ e p)]
  generalize inUnits (pick (M * 2 ^ z) (M * 2 ^ z - 2 ^ (z - 1)) (M * 2 ^ z + 2 ^ (z - 1)) odd e p) p = u at *
  have hz1 : 2 ^ z = 64 * (2 * 2 ^ (z - 7)) := by
    rw [show 64 * (2 * 2 ^ (z - 7)) = 2 ^ (z - 7) * 2 ^ 7 from by omega, ← Nat.pow_add]
    congr 1
    omega
  have hz2 : 2 ^ (z - 1) = 64 * 2 ^ (z - 7) := by
    rw [show 64 * 2 ^ (z - 7) = 2 ^ (z - 7) * 2 ^ 6 from by omega, ← Nat.pow_add]
    congr 1
    omega
  have hT : 0 < 2 ^ (z - 7) := Nat.pow_pos (by decide)
  have f1 : M * 2 ^ z - 2 ^ (z - 1) = (2 * M - 1) * 2 ^ (z - 1) := by
    rw [hz1, hz2]
    generalize 2 ^ (z - 7) = T
    rw [Nat.sub_mul, Nat.one_mul]
    congr 1
    grind
  have f2 : M * 2 ^ z + 2 ^ (z - 1) = (2 * M + 1) * 2 ^ (z - 1) := by
    rw [hz1, hz2]
    generalize 2 ^ (z - 7) = T
    grind
  have g1 : (2 * M - 1) * 2 ^ (z - 1) = 64 * ((2 * M - 1) * 2 ^ (z - 7)) := by rw [hz2]; grind
  have g2 : (2 * M + 1) * 2 ^ (z - 1) = 64 * ((2 * M + 1) * 2 ^ (z - 7)) := by rw [hz2]; grind
  have p1 : 1 * 1 ≤ (2 * M - 1) * 2 ^ (z - 7) := Nat.mul_le_mul (by omega) hT
  have p2 : 1 * 1 ≤ (2 * M + 1) * 2 ^ (z - 7) := Nat.mul_le_mul (by omega) hT
  rw [f1, g1] at h hx0 u1
  rw [f2, g2] at h hx u3
  have a := low_in _ u odd e p (by omega) (by omega) hs0 hs1 hp0 hp1 he (by omega) (by omega) h.1
  have b := high_in _ u odd e p (by omega) (by omega) hs0 hs1 hp0 hp1 he (by omega) (by omega) (by omega) h.2
  rw [← g1, V_two _ _ _ _ he, show e + ((z - 1 : Nat) : Int) = e + (z : Int) - 1 from by omega] at a
  rw [← g2, V_two _ _ _ _ he, show e + ((z - 1 : Nat) : Int) = e + (z : Int) - 1 from by omega] at b
  exact ⟨a.1, b.1, fun ho => ⟨a.2 (by omega), b.2 (by omega)⟩, fun hM' h' => absurd (hM hM') (by omega)⟩
end Go.Proofs.YtmejmohambhaaaaGreatDoor
/- WHAT THE LIBRARY READS BY ITS SCALING: digits within the interval of a float are read as that float. Own work of the verifier. -/
namespace Go.Proofs.YtmejmohambhaaaaGreatDoor

def twoB (i : Nat) : Bool := decide (V 1 (l2 ((i : Int) - 348)) 0 ≤ V 1 0 ((i : Int) - 348)) && decide (V 2048 0 ((i : Int) - 348) ≤ V 2047 (l2 ((i : Int) - 348) + 1) 0)
theorem twoB_ok : (List.range 696).all twoB = true := by decide +kernel
/-- A power of ten between two powers of two, and well below the upper one. -/
theorem ten_two (p : Int) (h0 : -348 ≤ p) (h1 : p ≤ 347) : V 1 (l2 p) 0 ≤ V 1 0 p ∧ V 2048 0 p ≤ V 2047 (l2 p + 1) 0 := by
  have := List.all_eq_true.1 twoB_ok (p + 348).toNat (List.mem_range.2 (by omega))
  unfold twoB at this
  rw [show (((p + 348).toNat : Nat) : Int) - 348 = p from by omega, Bool.and_eq_true, decide_eq_true_eq, decide_eq_true_eq] at this
  exact this
theorem V_mul (x y : Nat) (e p : Int) : V (x * y) e p = x * V y e p := by
  unfold V
  rw [Nat.mul_assoc x y, Nat.mul_assoc x]
/-- Numbers of the same power of ten, held against each other by their powers of two. -/
theorem V_lt_exp {e e' p : Int} (he : -1200 ≤ e) (he' : -1200 ≤ e') {x y : Nat} {k j : Nat} (hx : 2 ^ k ≤ x) (hy : y < 2 ^ j) (h : V x e p ≤ V y e' p) : e + k < e' + j := by
  rcases Int.lt_or_le (e + k) (e' + j) with h' | h'
  · exact h'
  · exfalso
    have a : V (2 ^ k) e p ≤ V x e p := (V_mono _ _).2 hx
    have b : V y e' p < V (2 ^ j) e' p := Nat.lt_of_not_le fun c => absurd ((V_mono _ _).1 c) (by omega)
    rw [show 2 ^ k = 1 * 2 ^ k from by omega, V_two 1 k e p he] at a
    rw [show 2 ^ j = 1 * 2 ^ j from by omega, V_two 1 j e' p he'] at b
    have c : V 1 (e' + j) p ≤ V 1 (e + k) p := by
      have := V_two 1 (e + k - (e' + j)).toNat (e' + j) p (by omega)
      rw [show e' + (j : Int) + (((e + k - (e' + j)).toNat : Nat) : Int) = e + k from by omega] at this
      rw [← this]
      exact (V_mono _ _).2 (by have : 0 < 2 ^ (e + k - (e' + j)).toNat := Nat.pow_pos (by decide); omega)
    omega
/-- A finite float that is not 0, as a whole number and a power of two. -/
def Flt (M : Nat) (E : Int) : Prop := 1 ≤ M ∧ M < 9007199254740992 ∧ -1074 ≤ E ∧ E ≤ 971 ∧ (M < 4503599627370496 → E = -1074)
def rUp (u : Nat) : Nat := (u + 1 + u / 4 % 2) / 4
def cut1 (u : Nat) : Nat := u / 2 ||| u % 2
theorem cut1_val (u : Nat) : cut1 u = if u % 2 = 1 then u / 4 * 2 + 1 else u / 2 := by
  unfold cut1
  have h2 : u % 2 = 0 ∨ u % 2 = 1 := by omega
  rcases h2 with h | h
  · rw [h, if_neg (by decide), Nat.or_zero]
  · rw [h, if_pos rfl, or_bit]; omega
/-- The scale that parseFloat64 takes. -/
def eP (b : Nat) (p : Int) : Int := min 1074 (53 - (b : Int) - l2 p)
theorem parse_scale (d b M : Nat) (p E : Int) (hd64 : d < 18446744073709551616) (hb1 : 1 ≤ b) (hb2 : 2 ^ (b - 1) ≤ d) (hb3 : d < 2 ^ b) (hp0 : -345 ≤ p) (hp1 : p ≤ 310) (hF : Flt M E) (hW : Within (V d 0 p) M E) :
    (eP b p = -E ∨ eP b p = -E + 1 ∧ 4503599627370496 ≤ M ∧ -1074 < E) ∧ 5 ≤ -(eP b p - (64 - (b : Int)) + l2 p + 3) ∧ -(eP b p - (64 - (b : Int)) + l2 p + 3) ≤ 63 ∧ b ≤ 64 := by
  obtain ⟨hM0, hM1, hE0, hE1, hsub⟩ := hF
  obtain ⟨w1, w2, _, w4⟩ := hW
  obtain ⟨t1, t2⟩ := ten_two p (by omega) (by omega)
  have hl0 : -1150 ≤ l2 p := by unfold l2; omega
  have hl1 : l2 p ≤ 1040 := by unfold l2; omega
  have hb : b ≤ 64 := by
    have : 2 ^ (b - 1) < 2 ^ 64 := Nat.lt_of_le_of_lt hb2 (by rw [show (2 : Nat) ^ 64 = 18446744073709551616 from by decide]; exact hd64)
    have := (Nat.pow_lt_pow_iff_right (by decide : 1 < 2)).1 this
    omega
  obtain ⟨e0, he0⟩ : ∃ e0 : Int, e0 = 53 - (b : Int) - l2 p := ⟨_, rfl⟩
  -- the size of d * 10^p
  have lo : V 1 (52 - e0) 0 ≤ V d 0 p := by
    have a1 : V (2 ^ (b - 1) * 1) 0 p ≤ V d 0 p := by rw [Nat.mul_one]; exact (V_mono _ _).2 hb2
    have a2 : V (2 ^ (b - 1) * 1) (l2 p) 0 ≤ V (2 ^ (b - 1) * 1) 0 p := by rw [V_mul, V_mul]; exact Nat.mul_le_mul_left _ t1
    have a3 := V_two 1 (b - 1) (l2 p) 0 (by omega)
    rw [Nat.one_mul, show l2 p + ((b - 1 : Nat) : Int) = 52 - e0 from by omega] at a3
    rw [Nat.mul_one, a3] at a2
    rw [Nat.mul_one] at a1
    exact Nat.le_trans a2 a1
  have up : 2048 * V d 0 p ≤ V 2047 (54 - e0) 0 := by
    have a1 : V (2048 * d) 0 p ≤ V (2 ^ b * 2048) 0 p := (V_mono _ _).2 (by omega)
    have a2 : V (2 ^ b * 2048) 0 p ≤ V (2 ^ b * 2047) (l2 p + 1) 0 := by rw [V_mul, V_mul]; exact Nat.mul_le_mul_left _ t2
    have a3 := V_two 2047 b (l2 p + 1) 0 (by omega)
    rw [Nat.mul_comm, show l2 p + 1 + (b : Int) = 54 - e0 from by omega] at a3
    rw [a3] at a2
    rw [V_mul] at a1
    exact Nat.le_trans a1 a2
  have up' : V d 0 p ≤ V 2047 (43 - e0) 0 := by
    have := V_two 2047 11 (43 - e0) 0 (by omega)
    rw [show 43 - e0 + ((11 : Nat) : Int) = 54 - e0 from by omega, show 2047 * 2 ^ 11 = 2048 * 2047 from by decide, V_mul] at this
    rw [← this] at up
    exact Nat.le_of_mul_le_mul_left up (by decide)
  clear up t1 t2
  -- how the scales stand
  have k1 : 52 - e0 < E + 53 := by
    have := V_lt_exp (k := 0) (j := 54) (by omega) (by omega) (show 2 ^ 0 ≤ 1 from by decide) (show 2 * M + 1 < 2 ^ 54 from by rw [show (2 : Nat) ^ 54 = 18014398509481984 from by decide]; omega) (Nat.le_trans lo w2)
    omega
  have k2 : e0 < 1129 + 0 := by
    have : V (2 * M - 1) (E - 1) 0 ≤ V 2047 (43 - e0) 0 := Nat.le_trans w1 up'
    have := V_lt_exp (k := 0) (j := 11) (by omega) (by omega) (show 2 ^ 0 ≤ 2 * M - 1 from by omega) (show 2047 < 2 ^ 11 from by decide) this
    omega
  have he : eP b p = min 1074 e0 := by unfold eP; rw [← he0]
  have hs : -(eP b p - (64 - (b : Int)) + l2 p + 3) = 8 + (e0 - eP b p) := by omega
  by_cases hM : M < 4503599627370496
  · have hE := hsub hM
    subst hE
    have k3 : 52 - e0 < -1022 := by
      have := V_lt_exp (k := 0) (j := 53) (by omega) (by omega) (show 2 ^ 0 ≤ 1 from by decide) (show 2 * M + 1 < 2 ^ 53 from by rw [show (2 : Nat) ^ 53 = 9007199254740992 from by decide]; omega) (Nat.le_trans lo w2)
      omega
    rw [hs]
    omega
  · by_cases hE : E = -1074
    · rw [hs]
      omega
    · have k4 : e0 ≤ -E + 1 := by
        rcases Int.lt_or_le (-E + 1) e0 with h | h
        · exfalso
          have a1 : V 18014398509481983 (E - 2) 0 ≤ V d 0 p := by
            by_cases h2 : M = 4503599627370496
            · have := w4 h2 (by omega)
              rw [h2] at this
              exact this
            · have := V_two (2 * M - 1) 1 (E - 2) 0 (by omega)
              rw [show E - 2 + ((1 : Nat) : Int) = E - 1 from by omega] at this
              rw [← this] at w1
              exact Nat.le_trans ((V_mono _ _).2 (by omega)) w1
          have a2 : V 2047 (43 - e0) 0 ≤ V 2047 (E + 41) 0 := by
            have := V_two 2047 (E + e0 - 2).toNat (43 - e0) 0 (by omega)
            rw [show 43 - e0 + (((E + e0 - 2).toNat : Nat) : Int) = E + 41 from by omega] at this
            rw [← this]
            exact (V_mono _ _).2 (by have : 0 < 2 ^ (E + e0 - 2).toNat := Nat.pow_pos (by decide); omega)
          have a3 := V_two 2047 43 (E - 2) 0 (by omega)
          rw [show E - 2 + ((43 : Nat) : Int) = E + 41 from by omega] at a3
          have a4 : V 18014398509481983 (E - 2) 0 ≤ V (2047 * 2 ^ 43) (E - 2) 0 := by rw [a3]; exact Nat.le_trans a1 (Nat.le_trans up' a2)
          exact absurd ((V_mono _ _).1 a4) (by decide)
        · exact h
      rw [hs]
      omega
/-- THE READING: the number that is rounded is the float's. -/
theorem parse_math (d b M : Nat) (p E : Int) (hd64 : d < 18446744073709551616) (hdp : d < 144115188075855872 ∨ 0 ≤ p ∧ p ≤ 27) (hb1 : 1 ≤ b) (hb2 : 2 ^ (b - 1) ≤ d) (hb3 : d < 2 ^ b) (hp0 : -345 ≤ p) (hp1 : p ≤ 310) (hF : Flt M E) (hW : Within (V d 0 p) M E) :
    (scl (d * 2 ^ (64 - b)) (eP b p - (64 - (b : Int))) p < 36028797018963966 → rUp (scl (d * 2 ^ (64 - b)) (eP b p - (64 - (b : Int))) p) = M ∧ eP b p = -E) ∧
    (36028797018963966 ≤ scl (d * 2 ^ (64 - b)) (eP b p - (64 - (b : Int))) p → rUp (cut1 (scl (d * 2 ^ (64 - b)) (eP b p - (64 - (b : Int))) p)) = M ∧ eP b p - 1 = -E) := by
  obtain ⟨hsc, hs0, hs1, hb⟩ := parse_scale d b M p E hd64 hb1 hb2 hb3 hp0 hp1 hF hW
  have hF' := hF
  have hW' := hW
  obtain ⟨hM0, hM1, hE0, hE1, hsub⟩ := hF'
  obtain ⟨w1, w2, w3, w4⟩ := hW'
  have hl0 : -1150 ≤ l2 p := by unfold l2; omega
  have hl1 : l2 p ≤ 1040 := by unfold l2; omega
  have h1 : 0 < 2 ^ (b - 1) := Nat.pow_pos (by decide)
  have sc : ∀ n, (2 * n ≤ scl (d * 2 ^ (64 - b)) (eP b p - (64 - (b : Int))) p ↔ V (2 * n) (-2) 0 ≤ V (d * 2 ^ (64 - b)) (eP b p - (64 - (b : Int))) p) ∧ (scl (d * 2 ^ (64 - b)) (eP b p - (64 - (b : Int))) p ≤ 2 * n ↔ V (d * 2 ^ (64 - b)) (eP b p - (64 - (b : Int))) p ≤ V (2 * n) (-2) 0) := by
    intro n
    rcases hdp with hd17 | ⟨hq0, hq1⟩
    · have hb57 : b ≤ 57 := by
        have : 2 ^ (b - 1) < 2 ^ 57 := Nat.lt_of_le_of_lt hb2 (by rw [show (2 : Nat) ^ 57 = 144115188075855872 from by decide]; exact hd17)
        have := (Nat.pow_lt_pow_iff_right (by decide : 1 < 2)).1 this
        omega
      have hx : d * 2 ^ (64 - b) = 64 * (d * 2 ^ (58 - b)) := by
        rw [show 64 - b = 58 - b + 6 from by omega, Nat.pow_add, show (2 : Nat) ^ 6 = 64 from by decide]
        generalize 2 ^ (58 - b) = T
        clear hsc hW hF
        grind
      have hX0 : 1 ≤ d * 2 ^ (58 - b) := Nat.mul_pos (by omega) (Nat.pow_pos (by decide))
      have hX : d * 2 ^ (58 - b) < 288230376151711744 := by
        have := Nat.mul_lt_mul_of_pos_right hb3 (show 0 < 2 ^ (58 - b) from Nat.pow_pos (by decide))
        rw [← Nat.pow_add, show b + (58 - b) = 58 from by omega] at this
        exact this
      rw [hx]
      exact scl_un _ (eP b p - (64 - (b : Int))) p hX0 hX hs0 hs1 (by omega) (by omega) (by unfold eP; omega) n
    · have hX0 : 1 ≤ d * 2 ^ (64 - b) := Nat.mul_pos (by omega) (Nat.pow_pos (by decide))
      have hX : d * 2 ^ (64 - b) < 18446744073709551616 := by
        have := Nat.mul_lt_mul_of_pos_right hb3 (show 0 < 2 ^ (64 - b) from Nat.pow_pos (by decide))
        rw [← Nat.pow_add, show b + (64 - b) = 64 from by omega] at this
        exact this
      exact scl_un0 _ (eP b p - (64 - (b : Int))) p hX0 hX hs0 hs1 hq0 hq1 (by unfold eP; omega) n
  have key : ∀ n, (2 * n ≤ scl (d * 2 ^ (64 - b)) (eP b p - (64 - (b : Int))) p ↔ V (2 * n) (-2 - eP b p) 0 ≤ V d 0 p) ∧ (scl (d * 2 ^ (64 - b)) (eP b p - (64 - (b : Int))) p ≤ 2 * n ↔ V d 0 p ≤ V (2 * n) (-2 - eP b p) 0) := by
    intro n
    have k := sc n
    rw [V_two _ _ _ _ (by omega), show eP b p - (64 - (b : Int)) + ((64 - b : Nat) : Int) = eP b p from by omega] at k
    have m1 := V_le_mv (2 * n) d (-2) 0 (eP b p) p (-(eP b p)) 0 (by decide) (by decide) (by omega) (by omega) (by omega) (by decide) (by omega) (by omega)
    have m2 := V_le_mv d (2 * n) (eP b p) p (-2) 0 (-(eP b p)) 0 (by omega) (by omega) (by decide) (by decide) (by omega) (by omega) (by omega) (by decide)
    rw [show (-2 : Int) + -(eP b p) = -2 - eP b p from by omega, show eP b p + -(eP b p) = 0 from by omega, show p + 0 = p from by omega, show (0 : Int) + 0 = 0 from by decide] at m1 m2
    rw [← m1, ← m2] at k
    exact k
  generalize scl (d * 2 ^ (64 - b)) (eP b p - (64 - (b : Int))) p = u at *
  have endV : ∀ (x k : Nat), -1200 ≤ E - 1 - (k : Int) → V (x * 2 ^ k) (E - 1 - k) 0 = V x (E - 1) 0 := fun x k hk => by
    have := V_two x k (E - 1 - (k : Int)) 0 hk
    rwa [show E - 1 - (k : Int) + (k : Int) = E - 1 from by omega] at this
  rcases hsc with hA | ⟨hB, hMB, hEB⟩
  · rw [hA, show (-2 : Int) - -E = E - 1 - ((1 : Nat) : Int) from by omega] at key
    have a := key (2 * M - 1)
    have b' := key (2 * M + 1)
    rw [show 2 * (2 * M - 1) = (2 * M - 1) * 2 ^ 1 from by omega, endV _ 1 (by omega)] at a
    rw [show 2 * (2 * M + 1) = (2 * M + 1) * 2 ^ 1 from by omega, endV _ 1 (by omega)] at b'
    have a1 : (2 * M - 1) * 2 ^ 1 ≤ u := a.1.2 w1
    have b1 : u ≤ (2 * M + 1) * 2 ^ 1 := b'.2.2 w2
    have o1 : M % 2 = 1 → ¬ u ≤ (2 * M - 1) * 2 ^ 1 := fun h c => (w3 h).1 (a.2.1 c)
    have o2 : M % 2 = 1 → ¬ (2 * M + 1) * 2 ^ 1 ≤ u := fun h c => (w3 h).2 (b'.1.1 c)
    clear key sc a b' w1 w2 w3 w4 endV hb2 hb3
    unfold rUp
    refine ⟨fun _ => ⟨?_, hA⟩, fun h => ?_⟩ <;> omega
  · rw [hB, show (-2 : Int) - (-E + 1) = E - 1 - ((2 : Nat) : Int) from by omega] at key
    have a := key (4 * M - 2)
    have b' := key (4 * M + 2)
    rw [show 2 * (4 * M - 2) = (2 * M - 1) * 2 ^ 2 from by omega, endV _ 2 (by omega)] at a
    rw [show 2 * (4 * M + 2) = (2 * M + 1) * 2 ^ 2 from by omega, endV _ 2 (by omega)] at b'
    have a1 : (2 * M - 1) * 2 ^ 2 ≤ u := a.1.2 w1
    have b1 : u ≤ (2 * M + 1) * 2 ^ 2 := b'.2.2 w2
    have o1 : M % 2 = 1 → ¬ u ≤ (2 * M - 1) * 2 ^ 2 := fun h c => (w3 h).1 (a.2.1 c)
    have o2 : M % 2 = 1 → ¬ (2 * M + 1) * 2 ^ 2 ≤ u := fun h c => (w3 h).2 (b'.1.1 c)
    have c1 : M = 4503599627370496 → 36028797018963966 ≤ u := fun h => by
      have c := key 18014398509481983
      have c2 := V_two 18014398509481983 1 (E - 1 - ((2 : Nat) : Int)) 0 (by omega)
      rw [show E - 1 - ((2 : Nat) : Int) + ((1 : Nat) : Int) = E - 2 from by omega] at c2
      have c3 := w4 h hEB
      rw [h] at c3
      rw [show 2 * 18014398509481983 = 18014398509481983 * 2 ^ 1 from by decide, c2] at c
      exact c.1.2 c3
    clear key sc a b' w1 w2 w3 w4 endV hb2 hb3
    rw [cut1_val]
    unfold rUp
    refine ⟨fun h => ?_, fun h => ⟨?_, by omega⟩⟩
    · omega
    · split <;> omega
end Go.Proofs.YtmejmohambhaaaaGreatDoor
/- WHAT IS PRINTED LIES WITHIN THE INTERVAL OF THE FLOAT, for every float that is finite and not 0. Own work of the verifier. -/
namespace Go.Proofs.YtmejmohambhaaaaGreatDoor

theorem s_norm (e : Int) (h0 : -1085 ≤ e) (h1 : e ≤ 1000) : 5 ≤ -(e + l2 (-(l10 (e + 11))) + 3) ∧ -(e + l2 (-(l10 (e + 11))) + 3) ≤ 63 := by
  have h : (List.range 2086).all (fun i => decide (5 ≤ -((i : Int) - 1085 + l2 (-(l10 ((i : Int) - 1085 + 11))) + 3)) && decide (-((i : Int) - 1085 + l2 (-(l10 ((i : Int) - 1085 + 11))) + 3) ≤ 63)) = true := by decide +kernel
  have := List.all_eq_true.1 h (e + 1085).toNat (List.mem_range.2 (by omega))
  rw [show (((e + 1085).toNat : Nat) : Int) - 1085 = e from by omega] at this
  simpa using this
theorem s_sub (e : Int) (h0 : -1137 ≤ e) (h1 : e ≤ -1086) : 5 ≤ -(e + l2 (-(l10 (-1074))) + 3) ∧ -(e + l2 (-(l10 (-1074))) + 3) ≤ 63 := by
  rw [show l2 (-(l10 (-1074))) = 1076 from by decide]
  omega
theorem norm_in (f : Nat) (e : Int) (hf0 : 4503599627370496 ≤ f) (hf1 : f < 9007199254740992) (hf : f ≠ 4503599627370496 ∨ e = -1085) (he0 : -1085 ≤ e) (he1 : e ≤ 1000) :
    Within (V (shortF (f * 2048) e).1 0 (shortF (f * 2048) e).2) f (e + 11) := by
  rw [short_norm f e hf he0]
  obtain ⟨s0, s1⟩ := s_norm e he0 he1
  have w := pick_within f 11 (f % 2) e (-(l10 (e + 11))) (by omega) (by decide) rfl (by omega) (by omega) (ok_norm e he0 he1).1 s0 s1 (by omega) (fun h => by omega)
  refine w ?_
  rw [show f * 2 ^ 11 - 2 ^ (11 - 1) = f * 2048 - 1024 from by omega, show f * 2 ^ 11 + 2 ^ (11 - 1) = f * 2048 + 1024 from by omega, show f * 2 ^ 11 = f * 2048 from by omega]
  by_cases h11 : e = -11
  · subst h11
    have k := pick_eleven f (f % 2) hf0 hf1 (by omega)
    rw [show -(l10 (-11 + 11)) = 0 from by decide]
    omega
  · have k := pick_sym (f * 2048) 1024 (f % 2) e (-(l10 (e + 11))) (by omega) (by omega) (by omega) (by omega) (ok_norm e he0 he1).1 (wide_norm e he0 he1 h11)
    exact ⟨k.1, k.2.1⟩
theorem sub_in (f z : Nat) (hf : 1 ≤ f) (hz0 : 12 ≤ z) (hz1 : z ≤ 63) (h0 : 9223372036854775808 ≤ f * 2 ^ z) (h1 : f * 2 ^ z + 2 ^ (z - 1) < 18446744073709551616) (hx : f < 4503599627370496) :
    Within (V (shortF (f * 2 ^ z) (-1074 - (z : Int))).1 0 (shortF (f * 2 ^ z) (-1074 - (z : Int))).2) f (-1074) := by
  rw [short_low f z hz0]
  obtain ⟨s0, s1⟩ := s_sub (-1074 - (z : Int)) (by omega) (by omega)
  have hg : 2 ^ (z - 1) ≤ 2 ^ 62 := Nat.pow_le_pow_right (by decide) (by omega)
  have h62 : (2 : Nat) ^ 62 = 4611686018427387904 := by decide
  have w := pick_within f z (f % 2) (-1074 - (z : Int)) (-(l10 (-1074))) hf (by omega) rfl (by omega) h1 (ok_sub _ (by omega) (by omega)) s0 s1 (by omega) (fun h => by omega)
  rw [show -1074 - (z : Int) + (z : Int) = -1074 from by omega] at w
  refine w ?_
  have k := pick_sym (f * 2 ^ z) (2 ^ (z - 1)) (f % 2) (-1074 - (z : Int)) (-(l10 (-1074))) (by omega) (by omega) h1 (by omega) (ok_sub _ (by omega) (by omega)) (by
    have := wide_sub (-1074 - (z : Int)) (by omega) (by omega)
    rw [show (-1075 - (-1074 - (z : Int))).toNat = z - 1 from by omega] at this
    exact this)
  exact ⟨k.1, k.2.1⟩
def inTwo (r : Nat × Int) (e : Int) : Bool := decide (V 18014398509481983 (e + 9) 0 ≤ V r.1 0 r.2) && decide (V r.1 0 r.2 ≤ V 9007199254740993 (e + 10) 0)
theorem two_ok (e : Int) (h0 : -1084 ≤ e) (h1 : e ≤ 960) : inTwo (shortF 9223372036854775808 e) e = true := by
  have h : (List.range 2045).all (fun i => inTwo (shortF 9223372036854775808 ((i : Int) - 1084)) ((i : Int) - 1084)) = true := by decide +kernel
  have := List.all_eq_true.1 h (e + 1084).toNat (List.mem_range.2 (by omega))
  rw [show (((e + 1084).toNat : Nat) : Int) - 1084 = e from by omega] at this
  exact this
theorem two_in (e : Int) (h0 : -1084 ≤ e) (h1 : e ≤ 960) : Within (V (shortF 9223372036854775808 e).1 0 (shortF 9223372036854775808 e).2) 4503599627370496 (e + 11) := by
  have h := two_ok e h0 h1
  unfold inTwo at h
  rw [Bool.and_eq_true, decide_eq_true_eq, decide_eq_true_eq] at h
  obtain ⟨a, b⟩ := h
  have c : V 9007199254740991 (e + 11 - 1) 0 ≤ V 18014398509481983 (e + 9) 0 := by
    have := V_two 9007199254740991 1 (e + 9) 0 (by omega)
    rw [show e + 9 + ((1 : Nat) : Int) = e + 11 - 1 from by omega] at this
    rw [← this]
    exact (V_mono _ _).2 (by decide)
  refine ⟨Nat.le_trans c a, ?_, fun h => absurd h (by decide), fun _ _ => ?_⟩
  · rw [show e + 11 - 1 = e + 10 from by omega]
    exact b
  · rw [show e + 11 - 2 = e + 9 from by omega]
    exact a
/-- The whole number that a float's word without its sign tells, and its power of two. -/
def mOf (a : Nat) : Nat := if a < 4503599627370496 then a else 4503599627370496 + a % 4503599627370496
def xOf (a : Nat) : Int := if a < 4503599627370496 then -1074 else (a / 4503599627370496 : Nat) - 1075
theorem sd_in (a : Nat) (h0 : 1 ≤ a) (h1 : a < 9218868437227405312) : Within (V (sd a).1 0 (sd a).2) (mOf a) (xOf a) := by
  unfold mOf xOf
  by_cases h : a < 4503599627370496
  · rw [if_pos h, if_pos h, sd_low a h]
    obtain ⟨z, hz, hz', z0, z1, z2, z3, _, z5⟩ := sub_bits a h0 h
    rw [hz]
    exact sub_in a z h0 z0 z1 z2 z5 h
  · rw [if_neg h, if_neg h, sd_norm a (by omega) h1]
    have hq : a / 4503599627370496 < 2047 := by omega
    have hq1 : 1 ≤ a / 4503599627370496 := by omega
    have hr : a % 4503599627370496 < 4503599627370496 := Nat.mod_lt _ (by decide)
    generalize a / 4503599627370496 = q at *
    generalize a % 4503599627370496 = r at *
    rw [show ((q : Nat) : Int) - 1075 = (q : Int) - 1086 + 11 from by omega]
    by_cases hn : r = 0 ∧ q ≠ 1
    · rw [hn.1]
      exact two_in _ (by omega) (by omega)
    · exact norm_in _ _ (by omega) (by omega) (by omega) (by omega) (by omega)
end Go.Proofs.YtmejmohambhaaaaGreatDoor
/- WHAT FLOATS CAN HOLD EXACTLY (as in wip/pair/SoftMath10 and 12). Own work of the verifier. -/
namespace Go.Proofs.YtmejmohambhaaaaGreatDoor.Soft

/-- A whole number of units that a float of 53 bits can hold. -/
def Rep (N : Nat) : Prop := ∃ m k, N = m * 2 ^ k ∧ m < 9007199254740992
theorem rep_small {N : Nat} (h : N < 9007199254740992) : Rep N := ⟨N, 0, by simp, h⟩
theorem rep_uV (a : Nat) : Rep (uV a) := ⟨magOf a, upOf a, (uV_eq a).symm, mag_lt a⟩
theorem two_pow_52 : (2 : Nat) ^ 52 = 4503599627370496 := by decide
theorem two_pow_53 : (2 : Nat) ^ 53 = 9007199254740992 := by decide
/-- Above all finite floats. -/
def TOP : Nat := uV 9218868437227405312
theorem top_uV : uV 9218868437227405312 = TOP := rfl
theorem top_le {D : Nat} (h : 2046 ≤ D) : TOP ≤ 2 ^ (52 + D) := by
  unfold TOP uV
  rw [if_neg (by decide)]
  have hE : 9218868437227405312 / 4503599627370496 - 1 = 2046 := by decide
  have hF : 4503599627370496 + 9218868437227405312 % 4503599627370496 = 4503599627370496 := by decide
  rw [hF]
  generalize 9218868437227405312 / 4503599627370496 - 1 = E at *
  rw [Nat.pow_add, two_pow_52]
  exact Nat.mul_le_mul_left _ (Nat.pow_le_pow_right (by decide) (by omega))
/-- Such a number is hit by rounding. -/
theorem nr_rep {N : Nat} (h : Rep N) : uV (nr N) = N ∧ (N < TOP → nr N < 9218868437227405312) := by
  by_cases hs : N < 9007199254740992
  · have e : nr N = N := by unfold nr; rw [if_pos hs]
    rw [e]
    refine ⟨?_, fun _ => by omega⟩
    unfold uV
    by_cases h1 : N < 4503599627370496
    · rw [if_pos h1]
    · rw [if_neg h1, show N / 4503599627370496 - 1 = 0 from by omega]; omega
  · obtain ⟨m, k, rfl, hm⟩ := h
    have hN : m * 2 ^ k ≠ 0 := by omega
    have hlo := Nat.log2_self_le hN
    have hhi := Nat.lt_log2_self (n := m * 2 ^ k)
    have hL : 53 ≤ (m * 2 ^ k).log2 := (Nat.le_log2 hN).2 (by rw [two_pow_53]; omega)
    obtain ⟨D, hD⟩ : ∃ D, (m * 2 ^ k).log2 = 52 + D := ⟨(m * 2 ^ k).log2 - 52, by omega⟩
    have hDk : D ≤ k := by
      rcases Nat.lt_or_ge k D with c | c
      · exfalso
        have h1 : m * 2 ^ k < 2 ^ 53 * 2 ^ k := Nat.mul_lt_mul_of_pos_right (by rw [two_pow_53]; exact hm) (pow_pos' k)
        rw [← Nat.pow_add] at h1
        have h2 : 2 ^ (53 + k) ≤ 2 ^ (52 + D) := Nat.pow_le_pow_right (by decide) (by omega)
        rw [hD] at hlo
        omega
      · exact c
    have hq : m * 2 ^ k = m * 2 ^ (k - D) * 2 ^ D := by rw [Nat.mul_assoc, ← Nat.pow_add, show k - D + D = k from by omega]
    have e1 : rne (m * 2 ^ k) D = m * 2 ^ (k - D) := rne_mul m k D hDk
    have hp := pow_pos' D
    rw [hD] at hlo hhi
    rw [hq] at hlo hhi
    have hlo' : 4503599627370496 ≤ m * 2 ^ (k - D) := by
      rw [Nat.pow_add, two_pow_52] at hlo
      exact Nat.le_of_mul_le_mul_right hlo hp
    have hhi' : m * 2 ^ (k - D) < 9007199254740992 := by
      rw [show 52 + D + 1 = 53 + D from by omega, Nat.pow_add, two_pow_53] at hhi
      exact Nat.lt_of_mul_lt_mul_right hhi
    have e2 : nr (m * 2 ^ k) = D * 4503599627370496 + m * 2 ^ (k - D) := by
      unfold nr; rw [if_neg hs, hD, show 52 + D - 52 = D from by omega, e1]
    rw [e2]
    generalize m * 2 ^ (k - D) = q at *
    refine ⟨?_, ?_⟩
    · unfold uV
      rw [if_neg (by omega), show (D * 4503599627370496 + q) / 4503599627370496 - 1 = D from by omega, show 4503599627370496 + (D * 4503599627370496 + q) % 4503599627370496 = q from by omega, hq]
    · intro hlt
      have : D < 2046 := by
        rcases Nat.lt_or_ge D 2046 with c | c
        · exact c
        · exfalso
          have h1 := top_le c
          rw [← hq] at hlo
          omega
      omega
theorem nrung_rep {N : Nat} (h : Rep N) (hN : N < TOP) : uV (nrung N) = N ∧ nrung N < 9218868437227405312 := by
  obtain ⟨h1, h2⟩ := nr_rep h
  have h3 := h2 hN
  rw [nrung_nr, Nat.min_eq_left (by omega)]
  exact ⟨h1, h3⟩
theorem top_ge {D : Nat} (h : D ≤ 2046) : 2 ^ (52 + D) ≤ TOP := by
  unfold TOP uV
  rw [if_neg (by decide)]
  have hE : 9218868437227405312 / 4503599627370496 - 1 = 2046 := by decide
  have hF : 4503599627370496 + 9218868437227405312 % 4503599627370496 = 4503599627370496 := by decide
  rw [hF]
  generalize 9218868437227405312 / 4503599627370496 - 1 = E at *
  rw [Nat.pow_add, two_pow_52]
  exact Nat.mul_le_mul_left _ (Nat.pow_le_pow_right (by decide) (by omega))
def KU : Nat := 1074
theorem KU_eq : KU = 1074 := rfl
/-- One, in units. -/
def UN : Nat := 2 ^ KU
theorem UN_pos : 0 < UN := pow_pos' KU
theorem UN_eq : UN = 2 ^ KU := rfl
theorem rep_pow {m K : Nat} (h : m ≤ 9007199254740992) (hK : K ≤ 2000) : Rep (m * 2 ^ K) ∧ m * 2 ^ K < TOP := by
  constructor
  · rcases Nat.lt_or_eq_of_le h with c | c
    · exact ⟨m, K, rfl, c⟩
    · refine ⟨4503599627370496, K + 1, ?_, by decide⟩
      rw [c, Nat.pow_succ]
      generalize 2 ^ K = q
      omega
  · have h1 : m * 2 ^ K ≤ 2 ^ 53 * 2 ^ K := Nat.mul_le_mul_right _ (by rw [two_pow_53]; exact h)
    rw [← Nat.pow_add] at h1
    have h3 : 2 ^ (53 + K) < 2 ^ (52 + (K + 2)) := Nat.pow_lt_pow_right (by decide) (by omega)
    have h4 := top_ge (D := K + 2) (by omega)
    omega
theorem rep_unit {m : Nat} (h : m ≤ 9007199254740992) : Rep (m * UN) ∧ m * UN < TOP := by
  rw [UN_eq]
  exact rep_pow h (by rw [KU_eq]; decide)
/-- Rounding goes no lower than a float that is not above. -/
theorem nrung_ge {a N : Nat} (ha : a ≤ 9218868437227405312) (h : uV a ≤ N) : a ≤ nrung N := by
  have e := uV_eq a
  have hm := mag_lt a
  have ea : a = upOf a * 4503599627370496 + magOf a := by
    unfold upOf magOf
    split <;> omega
  unfold nrung
  split
  · rename_i hs
    have : upOf a = 0 := by
      rcases Nat.eq_zero_or_pos (upOf a) with c | c
      · exact c
      · exfalso
        have h1 := mag_norm c
        have h2 : 2 ^ 1 ≤ 2 ^ upOf a := Nat.pow_le_pow_right (by decide) c
        have := Nat.mul_le_mul h1 h2
        omega
    rw [this, Nat.pow_zero] at e
    rw [this] at ea
    omega
  · rename_i hs
    have hN : N ≠ 0 := by omega
    have hhi := Nat.lt_log2_self (n := N)
    have hlo := Nat.log2_self_le hN
    have hL : 53 ≤ N.log2 := (Nat.le_log2 hN).2 (by rw [two_pow_53]; omega)
    obtain ⟨D, hD⟩ : ∃ D, N.log2 = 52 + D := ⟨N.log2 - 52, by omega⟩
    rw [hD, show 52 + D - 52 = D from by omega]
    rw [hD] at hhi hlo
    have hr : N / 2 ^ D ≤ rne N D := by unfold rne; omega
    have hq : 4503599627370496 ≤ N / 2 ^ D := by
      rw [Nat.le_div_iff_mul_le (pow_pos' D)]
      rw [Nat.pow_add, two_pow_52] at hlo
      exact hlo
    refine Nat.le_min.2 ⟨?_, ha⟩
    rcases Nat.lt_trichotomy (upOf a) D with c | c | c
    · have : (upOf a + 1) * 4503599627370496 ≤ D * 4503599627370496 := Nat.mul_le_mul_right _ c
      omega
    · have : magOf a ≤ N / 2 ^ D := by
        rw [Nat.le_div_iff_mul_le (pow_pos' D), ← c, e]
        exact h
      rw [c] at ea
      omega
    · exfalso
      have h1 := mag_norm (show 0 < upOf a by omega)
      have h2 : 2 ^ (D + 1) ≤ 2 ^ upOf a := Nat.pow_le_pow_right (by decide) c
      have h3 := Nat.mul_le_mul h1 h2
      rw [e] at h3
      rw [show 52 + D + 1 = D + 1 + 52 from by omega, Nat.pow_add 2 (D + 1) 52, two_pow_52, Nat.mul_comm] at hhi
      omega
end Go.Proofs.YtmejmohambhaaaaGreatDoor.Soft
/- THE MODEL's ROUNDING: a number within the interval of a float is rounded to that float. Own work of the verifier. -/
namespace Go.Proofs.YtmejmohambhaaaaGreatDoor
open Soft

theorem rne_of (N M P : Nat) (j : Nat) (hP : P = 2 ^ j) (hj : 1 ≤ j) (h1 : (2 * M - 1) * P ≤ 2 * N) (h2 : 2 * N ≤ (2 * M + 1) * P) (hM : 1 ≤ M) (h3 : M % 2 = 1 → ¬ 2 * N ≤ (2 * M - 1) * P ∧ ¬ (2 * M + 1) * P ≤ 2 * N) : rne N j = M := by
  unfold rne
  rw [← hP]
  have hp : 0 < P := by rw [hP]; exact Nat.pow_pos (by decide)
  have hpe : P % 2 = 0 := by rw [hP, show j = j - 1 + 1 from by omega, Nat.pow_succ]; omega
  have hN := Nat.div_add_mod N P
  have hr := Nat.mod_lt N hp
  generalize hq : N / P = q at *
  generalize N % P = r at *
  have e1 : (2 * M - 1) * P + P = 2 * (P * M) := by
    obtain ⟨m, rfl⟩ : ∃ m, M = m + 1 := ⟨M - 1, by omega⟩
    rw [show 2 * (m + 1) - 1 = 2 * m + 1 from by omega]
    grind
  have e2 : (2 * M + 1) * P = 2 * (P * M) + P := by grind
  have d1 : P * q + r = N := hN
  -- q is M or M - 1
  have hqM : q = M ∨ q + 1 = M := by
    rcases Nat.lt_trichotomy q M with h | h | h
    · rcases Nat.lt_or_ge (q + 1) M with h' | h'
      · exfalso
        have := Nat.mul_le_mul_left P (show q + 2 ≤ M from h')
        rw [Nat.mul_add] at this
        omega
      · omega
    · exact Or.inl h
    · exfalso
      have := Nat.mul_le_mul_left P (show M + 1 ≤ q from h)
      rw [Nat.mul_add] at this
      omega
  rcases hqM with h | h
  · subst h
    rw [if_neg]
    · rfl
    · intro c
      rcases c with c | ⟨c, c'⟩
      · omega
      · have := (h3 c').2
        omega
  · subst h
    have mq : P * (q + 1) = P * q + P := Nat.mul_succ P q
    rw [if_pos]
    rcases Nat.lt_or_ge P (2 * r) with c | c
    · exact Or.inl c
    · refine Or.inr ⟨by omega, ?_⟩
      rcases Nat.mod_two_eq_zero_or_one q with c' | c'
      · exfalso
        have := (h3 (by omega)).1
        omega
      · exact c'
theorem nrung_of (N M k : Nat) (hM1 : 1 ≤ M) (hM2 : M < 9007199254740992) (hk : M < 4503599627370496 → k = 0) (h1 : (2 * M - 1) * 2 ^ k ≤ 2 * N) (h2 : 2 * N ≤ (2 * M + 1) * 2 ^ k)
    (h3 : M % 2 = 1 → ¬ 2 * N ≤ (2 * M - 1) * 2 ^ k ∧ ¬ (2 * M + 1) * 2 ^ k ≤ 2 * N) (h4 : M = 4503599627370496 → 0 < k → (4 * M - 1) * 2 ^ k ≤ 4 * N) (hinf : k * 4503599627370496 + M < 9218868437227405312) : nrung N = k * 4503599627370496 + M := by
  unfold nrung
  rcases Nat.eq_zero_or_pos k with hk0 | hk0
  · subst hk0
    rw [Nat.pow_zero, Nat.mul_one] at h1 h2
    rw [if_pos (by omega)]
    omega
  · have hMn : 4503599627370496 ≤ M := by
      rcases Nat.lt_or_ge M 4503599627370496 with h | h
      · have := hk h; omega
      · exact h
    have hP2 : 2 ≤ 2 ^ k := by
      have : 2 ^ 1 ≤ 2 ^ k := Nat.pow_le_pow_right (by decide) hk0
      omega
    have hbig : ¬ N < 9007199254740992 := by
      intro c
      by_cases h : M = 4503599627370496
      · have := h4 h hk0
        have := Nat.mul_le_mul (show 18014398509481983 ≤ 4 * M - 1 from by omega) hP2
        omega
      · have := Nat.mul_le_mul (show 9007199254740993 ≤ 2 * M - 1 from by omega) hP2
        omega
    rw [if_neg hbig]
    have hup : N < 2 ^ (k + 53) := by
      have := Nat.mul_le_mul_right (2 ^ k) (show 2 * M + 1 ≤ 18014398509481983 from by omega)
      rw [Nat.pow_add, show (2 : Nat) ^ 53 = 9007199254740992 from by decide]
      generalize 2 ^ k = P at *
      omega
    have hlo : 2 ^ (k + 51) ≤ N := by
      have := Nat.mul_le_mul_right (2 ^ k) (show 4503599627370496 ≤ 2 * M - 1 from by omega)
      rw [Nat.pow_add, show (2 : Nat) ^ 51 = 2251799813685248 from by decide]
      generalize 2 ^ k = P at *
      omega
    by_cases hb : 2 ^ (k + 52) ≤ N
    · rw [log2_of N (k + 52) hb (by rw [show k + 52 + 1 = k + 53 from by omega]; exact hup), show k + 52 - 52 = k from by omega, rne_of N M (2 ^ k) k rfl hk0 h1 h2 hM1 h3]
      omega
    · have hbin : M = 4503599627370496 := by
        rcases Nat.lt_or_ge 4503599627370496 M with h | h
        · exfalso
          apply hb
          have := Nat.mul_le_mul_right (2 ^ k) (show 9007199254740992 ≤ 2 * M - 1 from by omega)
          rw [Nat.pow_add, show (2 : Nat) ^ 52 = 4503599627370496 from by decide]
          generalize 2 ^ k = P at *
          omega
        · omega
      have h4' := h4 hbin hk0
      subst hbin
      rw [Nat.pow_add, show (2 : Nat) ^ 52 = 4503599627370496 from by decide] at hb
      rw [log2_of N (k + 51) hlo (by rw [show k + 51 + 1 = k + 52 from by omega, Nat.pow_add, show (2 : Nat) ^ 52 = 4503599627370496 from by decide]; omega), show k + 51 - 52 = k - 1 from by omega]
      have hp : 2 ^ k = 2 * 2 ^ (k - 1) := by rw [show k = k - 1 + 1 from by omega, Nat.pow_succ]; simp; omega
      rw [hp] at h4' hb
      have hone : 0 < 2 ^ (k - 1) := Nat.pow_pos (by decide)
      have hr : rne N (k - 1) = 9007199254740992 := by
        rcases Nat.eq_zero_or_pos (k - 1) with hz | hz
        · rw [hz, Nat.pow_zero] at h4' hb
          omega
        · refine rne_of N 9007199254740992 (2 ^ (k - 1)) (k - 1) rfl hz ?_ ?_ (by decide) (fun h => absurd h (by decide))
          · generalize 2 ^ (k - 1) = P at *
            omega
          · generalize 2 ^ (k - 1) = P at *
            omega
      rw [hr]
      have : (k - 1) * 4503599627370496 + 9007199254740992 = k * 4503599627370496 + 4503599627370496 := by
        obtain ⟨j, rfl⟩ : ∃ j, k = j + 1 := ⟨k - 1, by omega⟩
        rw [Nat.add_sub_cancel]
        omega
      rw [this]
      exact Nat.min_eq_left (by omega)
/-- THE MODEL's ROUNDING of mag * 2^place. -/
theorem nearest_within (neg : Bool) (mag M : Nat) (place E : Int) (hm : mag ≠ 0) (hp0 : -1074 ≤ place) (hF : Flt M E) (hW : Within (V mag place 0) M E) :
    Ieee.double.nearest neg mag place = Ieee.double.word neg ((E + 1074).toNat * 4503599627370496 + M) := by
  obtain ⟨hM0, hM1, hE0, hE1, hsub⟩ := hF
  have hinf : (E + 1074).toNat * 4503599627370496 + M < 9218868437227405312 := by omega
  obtain ⟨w1, w2, w3, w4⟩ := hW
  obtain ⟨c, hc⟩ : ∃ c : Nat, place = -1074 + (c : Int) := ⟨(place + 1074).toNat, by omega⟩
  obtain ⟨k, hk⟩ : ∃ k : Nat, E = -1074 + (k : Int) := ⟨(E + 1074).toNat, by omega⟩
  subst hc hk
  rw [nearest_rung neg mag c hm]
  have hN : V mag (-1074 + (c : Int)) 0 = V (mag * 2 ^ c) (-1074) 0 := (V_two mag c (-1074) 0 (by decide)).symm
  rw [hN] at w1 w2 w3 w4
  generalize mag * 2 ^ c = N at *
  have f1 : ∀ x, V x (-1074 + (k : Int) - 1) 0 = V (x * 2 ^ k) (-1075) 0 := fun x => by rw [V_two x k (-1075) 0 (by decide)]; congr 1; omega
  have f2 : ∀ x, V x (-1074 + (k : Int) - 2) 0 = V (x * 2 ^ k) (-1076) 0 := fun x => by rw [V_two x k (-1076) 0 (by decide)]; congr 1; omega
  have g1 : V N (-1074) 0 = V (2 * N) (-1075) 0 := by have := V_two N 1 (-1075) 0 (by decide); rw [show N * 2 ^ 1 = 2 * N from by omega] at this; exact this.symm
  have g2 : V N (-1074) 0 = V (4 * N) (-1076) 0 := by have := V_two N 2 (-1076) 0 (by decide); rw [show N * 2 ^ 2 = 4 * N from by omega] at this; exact this.symm
  rw [show (-1074 + (k : Int) + 1074).toNat = k from by omega] at hinf ⊢
  rw [nrung_of N M k hM0 hM1 (fun h => by have := hsub h; omega) (by rw [f1, g1, V_mono] at w1; exact w1) (by rw [f1, g1, V_mono] at w2; exact w2) (fun h => by
      have := w3 h
      rw [f1, f1, g1, V_mono, V_mono] at this
      exact this) (fun h h' => by
      have := w4 h (by omega)
      rw [f2, g2, V_mono] at this
      exact this) hinf]
end Go.Proofs.YtmejmohambhaaaaGreatDoor
/- THE EXACT WAY: a whole number times or through a power of ten, in floats, is rounded once. Own work of the verifier. -/
namespace Go.Proofs.YtmejmohambhaaaaGreatDoor
open Soft

theorem unit_V (d : Nat) : V (d * UN) (-1074) 0 = V d 0 0 := by
  rw [UN_eq, V_two d KU (-1074) 0 (by decide), KU_eq]
  rfl
theorem rung_V (a d : Nat) (hd : uV a = d * UN) : V (magOf a) (-1074 + (upOf a : Int)) 0 = V d 0 0 := by
  rw [← V_two _ _ _ _ (by decide), uV_eq, hd, unit_V]
theorem int_rung (d : Nat) (h : d ≤ 9007199254740992) : uV (nrung (d * UN)) = d * UN ∧ nrung (d * UN) < 9218868437227405312 := nrung_rep (rep_unit h).1 (rep_unit h).2
theorem up_ge {a d : Nat} (hd : uV a = d * UN) (h1 : 1 ≤ d) : 1022 ≤ upOf a ∧ 4503599627370496 ≤ magOf a := by
  have e := uV_eq a
  have hm := mag_lt a
  have h2 : 2 ^ KU ≤ magOf a * 2 ^ upOf a := by
    rw [e, hd, ← UN_eq]
    exact Nat.le_mul_of_pos_left _ h1
  have h3 : magOf a * 2 ^ upOf a < 2 ^ 53 * 2 ^ upOf a := Nat.mul_lt_mul_of_pos_right (by rw [two_pow_53]; exact hm) (pow_pos' _)
  rw [← Nat.pow_add] at h3
  have h4 := (Nat.pow_lt_pow_iff_right (by decide : 1 < 2)).1 (Nat.lt_of_le_of_lt h2 h3)
  rw [KU_eq] at h4
  exact ⟨by omega, mag_norm (by omega)⟩
theorem up_le {a d g : Nat} (hd : uV a = d * UN) (h1 : 1 ≤ d) (hg : d < 2 ^ g) : upOf a + 52 < g + 1074 := by
  have e := uV_eq a
  have hm := (up_ge hd h1).2
  have h2 : 2 ^ 52 * 2 ^ upOf a ≤ magOf a * 2 ^ upOf a := Nat.mul_le_mul_right _ (by rw [two_pow_52]; exact hm)
  have h3 : d * UN < 2 ^ g * 2 ^ KU := by rw [UN_eq]; exact Nat.mul_lt_mul_of_pos_right hg (pow_pos' _)
  rw [← Nat.pow_add] at h2 h3
  have h4 := (Nat.pow_lt_pow_iff_right (by decide : 1 < 2)).1 (Nat.lt_of_le_of_lt h2 (by rw [e, hd]; exact h3))
  rw [KU_eq] at h4
  omega
theorem flat_of {m d : Nat} {i : Int} (h : V m i 0 = V d 0 0) : m * pw 2 (i + 1200).toNat = d * pw 2 1200 := by
  unfold V at h
  exact Nat.eq_of_mul_eq_mul_right (pw_pos _ (by decide)) h
theorem mul_flat {ma mb d t : Nat} {i j : Int} (hi : -600 ≤ i) (hj : -600 ≤ j) (h1 : ma * pw 2 (i + 1200).toNat = d * pw 2 1200) (h2 : mb * pw 2 (j + 1200).toNat = t * pw 2 1200) : ma * mb * pw 2 (i + j + 1200).toNat = d * t * pw 2 1200 := by
  have e : pw 2 (i + 1200).toNat * pw 2 (j + 1200).toNat = pw 2 (i + j + 1200).toNat * pw 2 1200 := by
    rw [← pw_add, ← pw_add]; congr 1; omega
  have hp : 0 < pw 2 1200 := pw_pos _ (by decide)
  generalize pw 2 (i + 1200).toNat = A at *
  generalize pw 2 (j + 1200).toNat = B at *
  generalize pw 2 (i + j + 1200).toNat = C at *
  generalize pw 2 1200 = U at *
  apply Nat.eq_of_mul_eq_mul_right hp
  have : ma * A * (mb * B) = d * U * (t * U) := by rw [h1, h2]
  grind
theorem rungOf {M : Nat} {E : Int} (hF : Flt M E) : (E + 1074).toNat * 4503599627370496 + M < 9218868437227405312 := by
  obtain ⟨hM0, hM1, hE0, hE1, hsub⟩ := hF
  omega
/-- A product. -/
theorem mul_within (s : Bool) (a b d k M : Nat) (E : Int) (ha : a < 9218868437227405312) (hb : b < 9218868437227405312) (hda : uV a = d * UN) (hdb : uV b = 10 ^ k * UN) (h1 : 1 ≤ d) (hF : Flt M E) (hW : Within (V d 0 (k : Int)) M E) :
    Ieee.double.mul (sw s a) (sw false b) = some (sw s ((E + 1074).toNat * 4503599627370496 + M)) := by
  unfold Ieee.Format.mul
  rw [read_sw s a ha, read_sw false b hb]
  show some (Ieee.double.nearest (s ^^ false) (magOf a * magOf b) (-1074 + (upOf a : Int) + (-1074 + (upOf b : Int)))) = _
  have u1 := up_ge hda h1
  have u2 := up_ge hdb (Nat.pow_pos (by decide))
  have f := mul_flat (by omega) (by omega) (flat_of (rung_V a d hda)) (flat_of (rung_V b _ hdb))
  have hV : V (magOf a * magOf b) (-1074 + (upOf a : Int) + (-1074 + (upOf b : Int))) 0 = V d 0 (k : Int) := by
    unfold V
    rw [f, show ((k : Int) + 400).toNat = 400 + k from by omega, pw_add, show ((0 : Int) + 1200).toNat = 1200 from by decide, show ((0 : Int) + 400).toNat = 400 from by decide]
    show d * 10 ^ k * pw 2 1200 * pw 10 400 = d * pw 2 1200 * (pw 10 400 * 10 ^ k)
    generalize pw 2 1200 = A
    generalize pw 10 400 = B
    generalize 10 ^ k = C
    grind
  rw [nearest_within (s ^^ false) _ M _ E (Nat.mul_ne_zero (by omega) (by omega)) (by omega) hF (by rw [hV]; exact hW), word_sw]
  cases s <;> rfl
/-- A quotient with a last bit for what is left over, against whole numbers. -/
theorem quot_cmp (t n v : Nat) (hn : 0 < n) : (t * n ≤ 2 * v → t ≤ 2 * (v / n) + (v % n != 0).toNat) ∧ (2 * v ≤ t * n → 2 * (v / n) + (v % n != 0).toNat ≤ t) ∧
    (t % 2 = 0 → ¬ 2 * v ≤ t * n → ¬ 2 * (v / n) + (v % n != 0).toNat ≤ t) ∧ (t % 2 = 0 → ¬ t * n ≤ 2 * v → ¬ t ≤ 2 * (v / n) + (v % n != 0).toNat) := by
  have hv := Nat.div_add_mod v n
  have hr := Nat.mod_lt v hn
  generalize v / n = q at *
  generalize v % n = r at *
  subst hv
  have hst : (r != 0).toNat = if r = 0 then 0 else 1 := by
    by_cases h : r = 0
    · subst h; rfl
    · rw [if_neg h, show (r != 0) = true from by simpa using h]; rfl
  rw [hst]
  -- t against 2 q
  have key : ∀ x y : Nat, x < y → x * n + n ≤ y * n := fun x y h => by
    have := Nat.mul_le_mul_right n (show x + 1 ≤ y from h)
    rw [Nat.add_mul, Nat.one_mul] at this
    exact this
  have hq : 2 * q * n = 2 * (n * q) := by grind
  have hq1 : (2 * q + 1) * n = 2 * (n * q) + n := by grind
  have hq2 : (2 * q + 2) * n = 2 * (n * q) + 2 * n := by grind
  refine ⟨fun h => ?_, fun h => ?_, fun ht h c => ?_, fun ht h c => ?_⟩
  · by_cases h0 : r = 0
    · rw [if_pos h0]
      rcases Nat.lt_or_ge (2 * q) t with c | c
      · have := key _ _ c; omega
      · omega
    · rw [if_neg h0]
      rcases Nat.lt_or_ge (2 * q + 1) t with c | c
      · have := key _ _ c; omega
      · omega
  · by_cases h0 : r = 0
    · rw [if_pos h0]
      rcases Nat.lt_or_ge t (2 * q) with c | c
      · have := key _ _ c; omega
      · omega
    · rw [if_neg h0]
      rcases Nat.lt_or_ge t (2 * q + 1) with c | c
      · rcases Nat.lt_or_ge t (2 * q) with c' | c'
        · have := key _ _ c'; omega
        · have : t = 2 * q := by omega
          subst this
          omega
      · omega
  · by_cases h0 : r = 0
    · rw [if_pos h0] at c
      have := Nat.mul_le_mul_right n (show 2 * q ≤ t from by omega)
      omega
    · rw [if_neg h0] at c
      have := Nat.mul_le_mul_right n (show 2 * q + 2 ≤ t from by omega)
      omega
  · by_cases h0 : r = 0
    · rw [if_pos h0] at c
      have := Nat.mul_le_mul_right n (show t ≤ 2 * q from by omega)
      omega
    · rw [if_neg h0] at c
      have := Nat.mul_le_mul_right n (show t ≤ 2 * q from by omega)
      omega
theorem div_flat {m n d t v : Nat} {i j : Int} {k more : Nat} (hi : -600 ≤ i) (hj : -300 ≤ j) (hj1 : j ≤ 100) (hmore : more ≤ 200) (hk : k ≤ 400) (h1 : m * pw 2 (i + 1200).toNat = d * pw 2 1200) (h2 : n * pw 2 (j + 1200).toNat = 10 ^ k * pw 2 1200) (hv : v = m * 2 ^ more) :
    (V t (i - j - more - 1) 0 ≤ V d 0 (-(k : Int)) ↔ t * n ≤ 2 * v) ∧ (V d 0 (-(k : Int)) ≤ V t (i - j - more - 1) 0 ↔ 2 * v ≤ t * n) := by
  obtain ⟨P, hP⟩ : ∃ P, P = pw 10 (-(k : Int) + 400).toNat * pw 2 (i + 1200).toNat * pw 2 (i - j - more - 1 + 1200).toNat := ⟨_, rfl⟩
  have q10 : pw 10 ((0 : Int) + 400).toNat = pw 10 (-(k : Int) + 400).toNat * 10 ^ k := by
    rw [show ((0 : Int) + 400).toNat = (-(k : Int) + 400).toNat + k from by omega, pw_add]; rfl
  have hA : 0 < pw 10 (-(k : Int) + 400).toNat := pw_pos _ (by decide)
  have hB : 0 < pw 2 1200 := pw_pos _ (by decide)
  have hC : 0 < pw 2 (i + 1200).toNat := pw_pos _ (by decide)
  have ex : pw 2 (i - j - more - 1 + 1200).toNat * pw 2 (j + 1200).toNat * (2 ^ more * 2) = pw 2 (i + 1200).toNat * pw 2 1200 := by
    show pw 2 (i - j - more - 1 + 1200).toNat * pw 2 (j + 1200).toNat * (pw 2 more * pw 2 1) = _
    rw [← pw_add, ← pw_add, ← pw_add, ← pw_add]
    congr 1
    omega
  -- both sides times one and the same
  have l : V t (i - j - more - 1) 0 * pw 2 1200 * (2 ^ more * 2) = pw 10 (-(k : Int) + 400).toNat * pw 2 (i + 1200).toNat * pw 2 1200 * (t * n) := by
    unfold V
    rw [q10]
    generalize pw 2 (i - j - more - 1 + 1200).toNat = X at *
    generalize pw 10 (-(k : Int) + 400).toNat = A at *
    generalize pw 2 (i + 1200).toNat = C at *
    generalize pw 2 (j + 1200).toNat = D at *
    generalize pw 2 1200 = U at *
    generalize 10 ^ k = T at *
    generalize 2 ^ more = O at *
    have : t * X * (A * T) * U * (O * 2) = t * A * X * (O * 2) * (T * U) := by grind
    rw [this, ← h2]
    have : t * A * X * (O * 2) * (n * D) = t * A * n * (X * D * (O * 2)) := by grind
    rw [this, ex]
    grind
  have r : V d 0 (-(k : Int)) * pw 2 1200 * (2 ^ more * 2) = pw 10 (-(k : Int) + 400).toNat * pw 2 (i + 1200).toNat * pw 2 1200 * (2 * v) := by
    unfold V
    rw [hv, show ((0 : Int) + 1200).toNat = 1200 from by decide, ← h1]
    generalize pw 10 (-(k : Int) + 400).toNat = A at *
    generalize pw 2 (i + 1200).toNat = C at *
    generalize pw 2 1200 = U at *
    generalize 2 ^ more = O at *
    grind
  have hO : 0 < 2 ^ more * 2 := Nat.mul_pos (Nat.pow_pos (by decide)) (by decide)
  have hK : 0 < pw 10 (-(k : Int) + 400).toNat * pw 2 (i + 1200).toNat * pw 2 1200 := Nat.mul_pos (Nat.mul_pos hA hC) hB
  constructor
  · rw [← Nat.mul_le_mul_right_iff hB, ← Nat.mul_le_mul_right_iff hO, l, r, Nat.mul_le_mul_left_iff hK]
  · rw [← Nat.mul_le_mul_right_iff hB, ← Nat.mul_le_mul_right_iff hO, l, r, Nat.mul_le_mul_left_iff hK]
set_option maxHeartbeats 1000000 in
/-- A quotient. -/
theorem div_within (s : Bool) (a b d k M : Nat) (E : Int) (ha : a < 9218868437227405312) (hb : b < 9218868437227405312) (hda : uV a = d * UN) (hdb : uV b = 10 ^ k * UN) (h1 : 1 ≤ d) (hd : d < 2 ^ 53) (hk : k ≤ 22) (hF : Flt M E) (hW : Within (V d 0 (-(k : Int))) M E) :
    Ieee.double.div (sw s a) (sw false b) = some (sw s ((E + 1074).toNat * 4503599627370496 + M)) := by
  unfold Ieee.Format.div
  rw [read_sw s a ha, read_sw false b hb]
  have u1 := up_ge hda h1
  have u2 := up_ge hdb (Nat.pow_pos (by decide))
  have v1 := up_le hda h1 hd
  have v2 := up_le (g := 74) hdb (Nat.pow_pos (by decide)) (by
    have : 10 ^ k ≤ 10 ^ 22 := Nat.pow_le_pow_right (by decide) hk
    omega)
  have hn : magOf b ≠ 0 := by omega
  have hn1 := mag_lt b
  have hm1 := mag_lt a
  have lm : (magOf a).log2 = 52 := log2_of _ 52 (by rw [two_pow_52]; exact u1.2) (by rw [two_pow_53]; exact hm1)
  have ln : (magOf b).log2 = 52 := log2_of _ 52 (by rw [two_pow_52]; exact u2.2) (by rw [two_pow_53]; exact hn1)
  unfold Ieee.Datum.quotient
  simp only [lm, ln]
  rw [if_neg hn]
  obtain ⟨v, hv⟩ : ∃ v, v = magOf a * 2 ^ 54 := ⟨_, rfl⟩
  have hs : magOf a <<< (Ieee.double.fractionBits + 2 + 52 - 52) = v := by rw [Nat.shiftLeft_eq, hv]; rfl
  have hx : ((Ieee.double.fractionBits + 2 + 52 - 52 : Nat) : Int) = ((54 : Nat) : Int) := by decide
  rw [hs, hx]
  show some (Ieee.double.nearest (s ^^ false) (2 * (v / magOf b) + (v % magOf b != 0).toNat) (-1074 + (upOf a : Int) - (-1074 + (upOf b : Int)) - ((54 : Nat) : Int) - 1)) = _
  obtain ⟨pl, hpl⟩ : ∃ pl : Int, pl = -1074 + (upOf a : Int) - (-1074 + (upOf b : Int)) - ((54 : Nat) : Int) - 1 := ⟨_, rfl⟩
  have D := fun t => div_flat (t := t) (k := k) (more := 54) (by omega) (by omega) (by omega) (by decide) (by omega) (flat_of (rung_V a d hda)) (flat_of (rung_V b _ hdb)) hv
  rw [← hpl] at D ⊢
  have Q := fun t => quot_cmp t (magOf b) v (by omega)
  have hbig : 18014398509481984 * magOf b ≤ 2 * v := by rw [hv]; omega
  have hU := (Q 18014398509481984).1 hbig
  generalize 2 * (v / magOf b) + (v % magOf b != 0).toNat = U at *
  have hF' := hF
  obtain ⟨hM0, hM1, hE0, hE1, hsub⟩ := hF'
  obtain ⟨w1, w2, w3, w4⟩ := hW
  have hg : pl + 54 < E - 1 + 54 := by
    have := V_lt_exp (k := 54) (j := 54) (by omega) (by omega) (show 2 ^ 54 ≤ 18014398509481984 from by decide) (show 2 * M + 1 < 2 ^ 54 from by rw [show (2 : Nat) ^ 54 = 18014398509481984 from by decide]; omega) (Nat.le_trans ((D _).1.2 hbig) w2)
    omega
  obtain ⟨g, hg'⟩ : ∃ g : Nat, E - 2 = pl + (g : Int) := ⟨(E - 2 - pl).toNat, by omega⟩
  have eS : ∀ x, V x (E - 1) 0 = V (x * 2 ^ (g + 1)) pl 0 := fun x => by rw [V_two _ _ _ _ (by omega), show E - 1 = pl + ((g + 1 : Nat) : Int) from by omega]
  have eT : ∀ x, V x (E - 2) 0 = V (x * 2 ^ g) pl 0 := fun x => by rw [V_two _ _ _ _ (by omega), hg']
  have ev : ∀ x, x * 2 ^ (g + 1) % 2 = 0 := fun x => by rw [Nat.pow_succ, ← Nat.mul_assoc]; omega
  have hW' : Within (V U pl 0) M E := by
    refine ⟨?_, ?_, fun ho => ⟨?_, ?_⟩, fun hM hE => ?_⟩
    · rw [eS] at w1 ⊢
      exact (V_mono _ _).2 ((Q _).1 ((D _).1.1 w1))
    · rw [eS] at w2 ⊢
      exact (V_mono _ _).2 ((Q _).2.1 ((D _).2.1 w2))
    · have := (w3 ho).1
      rw [eS] at this ⊢
      rw [V_mono]
      exact (Q _).2.2.1 (ev _) (fun c => this ((D _).2.2 c))
    · have := (w3 ho).2
      rw [eS] at this ⊢
      rw [V_mono]
      exact (Q _).2.2.2 (ev _) (fun c => this ((D _).1.2 c))
    · have := w4 hM hE
      rw [eT] at this ⊢
      exact (V_mono _ _).2 ((Q _).1 ((D _).1.1 this))
  rw [nearest_within (s ^^ false) _ M _ E (by omega) (by omega) hF hW', word_sw]
  cases s <;> rfl
end Go.Proofs.YtmejmohambhaaaaGreatDoor
