/- THE PLAIN MATHEMATICS of floats of 64 bits (no Go in sight). Own work of the verifier. -/
import Derived.Test.YtbobhjgndgaoaaaDoorArith
import Derived.Laws.FloatArith
namespace Go.Proofs.YtbobhjgndgaoaaaDoor

/-- A positive float, in units of the least one. -/
def uV (a : Nat) : Nat := if a < 4503599627370496 then a else (4503599627370496 + a % 4503599627370496) * 2 ^ (a / 4503599627370496 - 1)
theorem uV_succ (a : Nat) : uV a < uV (a + 1) := by
  unfold uV
  by_cases h1 : a + 1 < 4503599627370496
  · rw [if_pos (by omega), if_pos h1]; omega
  · by_cases h2 : a < 4503599627370496
    · obtain rfl : a = 4503599627370495 := by omega
      decide
    · rw [if_neg h2, if_neg h1]
      have hp : 0 < 2 ^ (a / 4503599627370496 - 1) := Nat.pow_pos (by decide)
      by_cases h3 : (a + 1) % 4503599627370496 = 0
      · have e1 : (a + 1) / 4503599627370496 - 1 = (a / 4503599627370496 - 1) + 1 := by omega
        rw [h3, e1, Nat.pow_succ]
        have e2 : a % 4503599627370496 = 4503599627370495 := by omega
        rw [e2]
        generalize 2 ^ (a / 4503599627370496 - 1) = p at *
        omega
      · have e1 : (a + 1) / 4503599627370496 = a / 4503599627370496 := by omega
        have e2 : (a + 1) % 4503599627370496 = a % 4503599627370496 + 1 := by omega
        rw [e1, e2]
        exact Nat.mul_lt_mul_of_pos_right (by omega) hp
theorem uV_mono {a b : Nat} (h : a < b) : uV a < uV b := by
  induction b with
  | zero => omega
  | succ b ih =>
    rcases Nat.lt_or_eq_of_le (Nat.le_of_lt_succ h) with k | k
    · exact Nat.lt_trans (ih k) (uV_succ b)
    · rw [k]; exact uV_succ b

def magOf (a : Nat) : Nat := if a < 4503599627370496 then a else 4503599627370496 + a % 4503599627370496
def upOf (a : Nat) : Nat := if a < 4503599627370496 then 0 else a / 4503599627370496 - 1
theorem uV_eq (a : Nat) : magOf a * 2 ^ upOf a = uV a := by
  unfold magOf upOf uV; split <;> simp
theorem fmt : Ieee.double.signWeight = 9223372036854775808 ∧ Ieee.double.binade = 4503599627370496 ∧ Ieee.double.infRung = 9218868437227405312 ∧ Ieee.double.leastPlace = -1074 := by decide
/-- What a positive float stands for. -/
theorem read_pos (a : Nat) (h : a < 9218868437227405312) : Ieee.double.read a = .number false (magOf a) (-1074 + (upOf a : Int)) := by
  obtain ⟨f1, f2, f3, f4⟩ := fmt
  have e1 : (a / 9223372036854775808 % 2 == 1) = false := by rw [beq_eq_false_iff_ne]; omega
  have e2 : a % 9223372036854775808 = a := by omega
  unfold Ieee.Format.read magOf upOf
  simp only [f1, f2, f3, f4, e1, e2]
  by_cases hl : a < 4503599627370496
  · rw [if_pos hl, if_pos hl, if_pos hl]; rfl
  · rw [if_neg hl, if_neg hl, if_neg hl, if_pos h]

theorem cmp_nat (x y : Nat) : compare ((x : Nat) : Int) ((y : Nat) : Int) = compare x y := by
  rcases Nat.lt_trichotomy x y with h | h | h
  · rw [Nat.compare_eq_lt.2 h]; exact Int.compare_eq_lt.2 (by omega)
  · subst h; simp
  · rw [Nat.compare_eq_gt.2 h]; exact Int.compare_eq_gt.2 (by omega)
theorem cmp_mul (x y p : Nat) (hp : 0 < p) : compare (x * p) (y * p) = compare x y := by
  rcases Nat.lt_trichotomy x y with h | h | h
  · rw [Nat.compare_eq_lt.2 h, Nat.compare_eq_lt.2 (Nat.mul_lt_mul_of_pos_right h hp)]
  · subst h; simp
  · rw [Nat.compare_eq_gt.2 h, Nat.compare_eq_gt.2 (Nat.mul_lt_mul_of_pos_right h hp)]
theorem cmp_uV (a b : Nat) : compare (uV a) (uV b) = compare a b := by
  rcases Nat.lt_trichotomy a b with h | h | h
  · rw [Nat.compare_eq_lt.2 h, Nat.compare_eq_lt.2 (uV_mono h)]
  · subst h; simp
  · rw [Nat.compare_eq_gt.2 h, Nat.compare_eq_gt.2 (uV_mono h)]
/-- Positive floats stand as their bits do. -/
theorem order_pos (a b : Nat) (ha : a < 9218868437227405312) (hb : b < 9218868437227405312) : Ieee.double.order a b = some (compare a b) := by
  unfold Ieee.Format.order
  rw [read_pos a ha, read_pos b hb]
  simp only [Ieee.Datum.order, Ieee.signed]
  congr 1
  rw [if_neg (by decide), if_neg (by decide), cmp_nat]
  have s1 : ∀ (m k : Nat), m <<< k = m * 2 ^ k := fun m k => Nat.shiftLeft_eq m k
  rw [s1, s1, ← cmp_uV a b, ← uV_eq a, ← uV_eq b]
  have hx : ∃ c : Nat, upOf a = (-1074 + (upOf a : Int) - min (-1074 + (upOf a : Int)) (-1074 + (upOf b : Int))).toNat + c ∧ upOf b = (-1074 + (upOf b : Int) - min (-1074 + (upOf a : Int)) (-1074 + (upOf b : Int))).toNat + c := by
    refine ⟨min (upOf a) (upOf b), ?_, ?_⟩ <;> omega
  obtain ⟨c, h1, h2⟩ := hx
  generalize (-1074 + (upOf a : Int) - min (-1074 + (upOf a : Int)) (-1074 + (upOf b : Int))).toNat = x at *
  generalize (-1074 + (upOf b : Int) - min (-1074 + (upOf a : Int)) (-1074 + (upOf b : Int))).toNat = y at *
  rw [h1, h2, Nat.pow_add, Nat.pow_add, ← Nat.mul_assoc, ← Nat.mul_assoc, cmp_mul _ _ _ (Nat.pow_pos (by decide))]

/-! ### The float nearest to a whole number -/
/-- What a number's last bits ask for. -/
def rb (N d : Nat) : Nat := if 2 ^ d < 2 * (N % 2 ^ d) ∨ 2 ^ d = 2 * (N % 2 ^ d) ∧ N / 2 ^ d % 2 = 1 then 1 else 0
def fword (N : Nat) : Nat := Ieee.double.nearest false N 0
theorem fword_zero : fword 0 = 0 := by decide
theorem log2_lt_of {N k : Nat} (h : N < 2 ^ k) (hN : N ≠ 0) : N.log2 < k := (Nat.log2_lt hN).2 h
theorem fword_small (N : Nat) (hN : N ≠ 0) (h : N.log2 ≤ 52) : fword N = (N.log2 + 1022) * 4503599627370496 + N * 2 ^ (52 - N.log2) := by
  obtain ⟨f1, f2, f3, f4⟩ := fmt
  have hlt : N < 2 ^ (N.log2 + 1) := Nat.lt_log2_self
  unfold fword Ieee.Format.nearest
  rw [if_neg hN]
  simp only [f2, f3, f4]
  have e0 : (Ieee.double.fractionBits : Int) = 52 := rfl
  have e1 : max ((0 : Int) + (N.log2 : Int) - (Ieee.double.fractionBits : Int)) (-1074) = (N.log2 : Int) - 52 := by rw [e0]; omega
  rw [e1]
  have e2 : ((0 : Int) - ((N.log2 : Int) - 52)).toNat = 52 - N.log2 := by omega
  have e3 : ((N.log2 : Int) - 52 - 0).toNat = 0 := by omega
  have e4 : ((N.log2 : Int) - 52 - -1074).toNat = N.log2 + 1022 := by omega
  rw [e2, e3, e4]
  have hc : Ieee.Toward.even.cut false (N <<< (52 - N.log2)) 0 = N * 2 ^ (52 - N.log2) := by
    unfold Ieee.Toward.cut
    rw [Nat.shiftLeft_eq]
    simp [Nat.mod_one, Nat.shiftLeft_eq]
  rw [hc]
  have hk : N * 2 ^ (52 - N.log2) < 9007199254740992 := by
    calc N * 2 ^ (52 - N.log2) < 2 ^ (N.log2 + 1) * 2 ^ (52 - N.log2) := Nat.mul_lt_mul_of_pos_right hlt (Nat.pow_pos (by decide))
      _ = 9007199254740992 := by rw [← Nat.pow_add, show N.log2 + 1 + (52 - N.log2) = 53 from by omega]
  unfold Ieee.Format.word
  rw [if_neg (by decide), Nat.min_eq_left (by omega)]
theorem fword_big (N : Nat) (h : 52 < N.log2) (h2 : N.log2 ≤ 127) : fword N = (N.log2 + 1022) * 4503599627370496 + (N / 2 ^ (N.log2 - 52) + rb N (N.log2 - 52)) := by
  obtain ⟨f1, f2, f3, f4⟩ := fmt
  have hN : N ≠ 0 := by intro e; subst e; simp at h
  have hlt : N < 2 ^ (N.log2 + 1) := Nat.lt_log2_self
  unfold fword Ieee.Format.nearest
  rw [if_neg hN]
  simp only [f2, f3, f4]
  have e0 : (Ieee.double.fractionBits : Int) = 52 := rfl
  have e1 : max ((0 : Int) + (N.log2 : Int) - (Ieee.double.fractionBits : Int)) (-1074) = (N.log2 : Int) - 52 := by rw [e0]; omega
  rw [e1]
  have e2 : ((0 : Int) - ((N.log2 : Int) - 52)).toNat = 0 := by omega
  have e3 : ((N.log2 : Int) - 52 - 0).toNat = N.log2 - 52 := by omega
  have e4 : ((N.log2 : Int) - 52 - -1074).toNat = N.log2 + 1022 := by omega
  rw [e2, e3, e4]
  have hc : Ieee.Toward.even.cut false (N <<< 0) (N.log2 - 52) = N / 2 ^ (N.log2 - 52) + rb N (N.log2 - 52) := by
    unfold Ieee.Toward.cut rb
    rw [Nat.shiftLeft_zero, Nat.min_eq_left (by omega), Nat.shiftLeft_eq, Nat.one_mul]
    simp only
    by_cases c : 2 ^ (N.log2 - 52) < 2 * (N % 2 ^ (N.log2 - 52)) ∨ 2 ^ (N.log2 - 52) = 2 * (N % 2 ^ (N.log2 - 52)) ∧ N / 2 ^ (N.log2 - 52) % 2 = 1
    · rw [if_pos c]
      have : (decide (2 ^ (N.log2 - 52) < 2 * (N % 2 ^ (N.log2 - 52))) || (2 ^ (N.log2 - 52) == 2 * (N % 2 ^ (N.log2 - 52)) && N / 2 ^ (N.log2 - 52) % 2 == 1)) = true := by simpa using c
      rw [this]; rfl
    · rw [if_neg c]
      have : (decide (2 ^ (N.log2 - 52) < 2 * (N % 2 ^ (N.log2 - 52))) || (2 ^ (N.log2 - 52) == 2 * (N % 2 ^ (N.log2 - 52)) && N / 2 ^ (N.log2 - 52) % 2 == 1)) = false := by
        rw [← Bool.not_eq_true]; simpa using c
      rw [this]; rfl
  rw [hc]
  have hk : N / 2 ^ (N.log2 - 52) < 9007199254740992 := by
    rw [Nat.div_lt_iff_lt_mul (Nat.pow_pos (by decide))]
    calc N < 2 ^ (N.log2 + 1) := hlt
      _ = 9007199254740992 * 2 ^ (N.log2 - 52) := by rw [show (9007199254740992 : Nat) = 2 ^ 53 from by decide, ← Nat.pow_add, show 53 + (N.log2 - 52) = N.log2 + 1 from by omega]
  have hr : rb N (N.log2 - 52) ≤ 1 := by unfold rb; split <;> omega
  unfold Ieee.Format.word
  rw [if_neg (by decide), Nat.min_eq_left (by omega)]
/-- One times a normal float. -/
theorem mul_one_pos (y : Nat) (h1 : 4503599627370496 ≤ y) (h2 : y < 9218868437227405312) : Ieee.double.mul 4607182418800017408 y = some y := by
  obtain ⟨f1, f2, f3, f4⟩ := fmt
  unfold Ieee.Format.mul
  rw [read_pos _ (by decide), read_pos y h2]
  have hm : magOf 4607182418800017408 = 4503599627370496 := by decide
  have hu : upOf 4607182418800017408 = 1022 := by decide
  rw [hm, hu]
  simp only [Ieee.Datum.product, Option.map_some]
  congr 1
  show Ieee.double.nearest false (4503599627370496 * magOf y) (-1074 + ((1022 : Nat) : Int) + (-1074 + (upOf y : Int))) = y
  unfold Ieee.Format.nearest
  have hM1 : 4503599627370496 ≤ magOf y := by unfold magOf; rw [if_neg (by omega)]; omega
  have hM2 : magOf y < 9007199254740992 := by unfold magOf; rw [if_neg (by omega)]; omega
  have hY : upOf y * 4503599627370496 + magOf y = y := by unfold upOf magOf; rw [if_neg (by omega), if_neg (by omega)]; omega
  have hne : 4503599627370496 * magOf y ≠ 0 := by omega
  have hlog : (4503599627370496 * magOf y).log2 = 104 := by
    rw [Nat.log2_eq_iff hne]
    rw [show (2 : Nat) ^ 104 = 4503599627370496 * 4503599627370496 from by decide, show (2 : Nat) ^ (104 + 1) = 4503599627370496 * 9007199254740992 from by decide]
    exact ⟨Nat.mul_le_mul_left _ hM1, Nat.mul_lt_mul_of_pos_left hM2 (by decide)⟩
  rw [if_neg hne]
  simp only [f2, f3, f4, hlog]
  have e0 : (Ieee.double.fractionBits : Int) = 52 := rfl
  rw [show max ((-1074 : Int) + ((1022 : Nat) : Int) + (-1074 + (upOf y : Int)) + ((104 : Nat) : Int) - (Ieee.double.fractionBits : Int)) (-1074) = -1074 + (upOf y : Int) from by rw [e0]; omega]
  rw [show ((-1074 : Int) + ((1022 : Nat) : Int) + (-1074 + (upOf y : Int)) - (-1074 + (upOf y : Int))).toNat = 0 from by omega]
  rw [show ((-1074 : Int) + (upOf y : Int) - (-1074 + ((1022 : Nat) : Int) + (-1074 + (upOf y : Int)))).toNat = 52 from by omega]
  rw [show ((-1074 : Int) + (upOf y : Int) - -1074).toNat = upOf y from by omega]
  have hc : ∀ s, Ieee.Toward.even.cut s ((4503599627370496 * magOf y) <<< 0) 52 = magOf y := by
    intro s
    unfold Ieee.Toward.cut
    rw [Nat.shiftLeft_zero, hlog, show (1 : Nat) <<< min 52 (104 + 2) = 4503599627370496 from by decide]
    simp only [Nat.mul_mod_right, Nat.mul_zero]
    rw [Nat.mul_div_cancel_left _ (by decide)]
    simp
  rw [hc, hY]
  unfold Ieee.Format.word
  rw [if_neg (by decide), Nat.min_eq_left (by omega)]
end Go.Proofs.YtbobhjgndgaoaaaDoor
