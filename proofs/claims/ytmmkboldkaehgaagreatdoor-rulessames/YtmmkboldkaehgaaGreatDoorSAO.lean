/- THE ORDER of floats of 64 bits, by their words (no Go in sight). Own work of the verifier. -/
import Derived.Laws.FloatArith
namespace Go.Proofs.YtmmkboldkaehgaaGreatDoor


/-- A positive float, in units of the least one. -/
def uV (a : Nat) : Nat := if a < 4503599627370496 then a else (4503599627370496 + a % 4503599627370496) * 2 ^ (a / 4503599627370496 - 1)
theorem uV_succ (a : Nat) : uV a < uV (a + 1) := by
  unfold uV
  by_cases h1 : a + 1 < 4503599627370496
  · rw [if_pos (by omega), if_pos h1]; omega
  · by_cases h2 : a < 4503599627370496
    · obtain rfl : a = 4503599627370495 := by omega
      decide
    · rw [if_neg h2, if_neg h1]
      have hp : 0 < 2 ^ (a / 4503599627370496 - 1) := Nat.pow_pos (by decide)
      by_cases h3 : (a + 1) % 4503599627370496 = 0
      · have e1 : (a + 1) / 4503599627370496 - 1 = (a / 4503599627370496 - 1) + 1 := by omega
        rw [h3, e1, Nat.pow_succ]
        have e2 : a % 4503599627370496 = 4503599627370495 := by omega
        rw [e2]
        generalize 2 ^ (a / 4503599627370496 - 1) = p at *
        omega
      · have e1 : (a + 1) / 4503599627370496 = a / 4503599627370496 := by omega
        have e2 : (a + 1) % 4503599627370496 = a % 4503599627370496 + 1 := by omega
        rw [e1, e2]
        exact Nat.mul_lt_mul_of_pos_right (by omega) hp
theorem uV_mono {a b : Nat} (h : a < b) : uV a < uV b := by
  induction b with
  | zero => omega
  | succ b ih =>
    rcases Nat.lt_or_eq_of_le (Nat.le_of_lt_succ h) with k | k
    · exact Nat.lt_trans (ih k) (uV_succ b)
    · rw [k]; exact uV_succ b

def magOf (a : Nat) : Nat := if a < 4503599627370496 then a else 4503599627370496 + a % 4503599627370496
def upOf (a : Nat) : Nat := if a < 4503599627370496 then 0 else a / 4503599627370496 - 1
theorem uV_eq (a : Nat) : magOf a * 2 ^ upOf a = uV a := by
  unfold magOf upOf uV; split <;> simp
theorem fmt : Ieee.double.signWeight = 9223372036854775808 ∧ Ieee.double.binade = 4503599627370496 ∧ Ieee.double.infRung = 9218868437227405312 ∧ Ieee.double.leastPlace = -1074 := by decide
/-- What a positive float stands for. -/
theorem read_pos (a : Nat) (h : a < 9218868437227405312) : Ieee.double.read a = .number false (magOf a) (-1074 + (upOf a : Int)) := by
  obtain ⟨f1, f2, f3, f4⟩ := fmt
  have e1 : (a / 9223372036854775808 % 2 == 1) = false := by rw [beq_eq_false_iff_ne]; omega
  have e2 : a % 9223372036854775808 = a := by omega
  unfold Ieee.Format.read magOf upOf
  simp only [f1, f2, f3, f4, e1, e2]
  by_cases hl : a < 4503599627370496
  · rw [if_pos hl, if_pos hl, if_pos hl]; rfl
  · rw [if_neg hl, if_neg hl, if_neg hl, if_pos h]

theorem cmp_nat (x y : Nat) : compare ((x : Nat) : Int) ((y : Nat) : Int) = compare x y := by
  rcases Nat.lt_trichotomy x y with h | h | h
  · rw [Nat.compare_eq_lt.2 h]; exact Int.compare_eq_lt.2 (by omega)
  · subst h; simp
  · rw [Nat.compare_eq_gt.2 h]; exact Int.compare_eq_gt.2 (by omega)
theorem cmp_mul (x y p : Nat) (hp : 0 < p) : compare (x * p) (y * p) = compare x y := by
  rcases Nat.lt_trichotomy x y with h | h | h
  · rw [Nat.compare_eq_lt.2 h, Nat.compare_eq_lt.2 (Nat.mul_lt_mul_of_pos_right h hp)]
  · subst h; simp
  · rw [Nat.compare_eq_gt.2 h, Nat.compare_eq_gt.2 (Nat.mul_lt_mul_of_pos_right h hp)]
theorem cmp_uV (a b : Nat) : compare (uV a) (uV b) = compare a b := by
  rcases Nat.lt_trichotomy a b with h | h | h
  · rw [Nat.compare_eq_lt.2 h, Nat.compare_eq_lt.2 (uV_mono h)]
  · subst h; simp
  · rw [Nat.compare_eq_gt.2 h, Nat.compare_eq_gt.2 (uV_mono h)]
/-- Positive floats stand as their bits do. -/
theorem order_pos (a b : Nat) (ha : a < 9218868437227405312) (hb : b < 9218868437227405312) : Ieee.double.order a b = some (compare a b) := by
  unfold Ieee.Format.order
  rw [read_pos a ha, read_pos b hb]
  simp only [Ieee.Datum.order, Ieee.signed]
  congr 1
  rw [if_neg (by decide), if_neg (by decide), cmp_nat]
  have s1 : ∀ (m k : Nat), m <<< k = m * 2 ^ k := fun m k => Nat.shiftLeft_eq m k
  rw [s1, s1, ← cmp_uV a b, ← uV_eq a, ← uV_eq b]
  have hx : ∃ c : Nat, upOf a = (-1074 + (upOf a : Int) - min (-1074 + (upOf a : Int)) (-1074 + (upOf b : Int))).toNat + c ∧ upOf b = (-1074 + (upOf b : Int) - min (-1074 + (upOf a : Int)) (-1074 + (upOf b : Int))).toNat + c := by
    refine ⟨min (upOf a) (upOf b), ?_, ?_⟩ <;> omega
  obtain ⟨c, h1, h2⟩ := hx
  generalize (-1074 + (upOf a : Int) - min (-1074 + (upOf a : Int)) (-1074 + (upOf b : Int))).toNat = x at *
  generalize (-1074 + (upOf b : Int) - min (-1074 + (upOf a : Int)) (-1074 + (upOf b : Int))).toNat = y at *
  rw [h1, h2, Nat.pow_add, Nat.pow_add, ← Nat.mul_assoc, ← Nat.mul_assoc, cmp_mul _ _ _ (Nat.pow_pos (by decide))]


/-- A float by its sign and its size; what it stands for, in units of the least one. -/
def sw (s : Bool) (a : Nat) : Nat := if s then 9223372036854775808 + a else a
def sv (s : Bool) (a : Nat) : Int := if s then -(uV a : Int) else (uV a : Int)
theorem read_sw (s : Bool) (a : Nat) (h : a < 9218868437227405312) : Ieee.double.read (sw s a) = .number s (magOf a) (-1074 + (upOf a : Int)) := by
  cases s with
  | false => exact read_pos a h
  | true =>
    obtain ⟨f1, f2, f3, f4⟩ := fmt
    show Ieee.double.read (9223372036854775808 + a) = _
    have e1 : ((9223372036854775808 + a) / 9223372036854775808 % 2 == 1) = true := by rw [beq_iff_eq]; omega
    have e2 : (9223372036854775808 + a) % 9223372036854775808 = a := by omega
    unfold Ieee.Format.read magOf upOf
    simp only [f1, f2, f3, f4, e1, e2]
    by_cases hl : a < 4503599627370496
    · rw [if_pos hl, if_pos hl, if_pos hl]; rfl
    · rw [if_neg hl, if_neg hl, if_neg hl, if_pos h]
theorem cmpI_mul (x y : Int) (p : Nat) (hp : 0 < p) : compare (x * (p : Int)) (y * (p : Int)) = compare x y := by
  have hp' : (0 : Int) < p := by omega
  rcases Int.lt_trichotomy x y with h | h | h
  · rw [Int.compare_eq_lt.2 h, Int.compare_eq_lt.2 (Int.mul_lt_mul_of_pos_right h hp')]
  · subst h; simp
  · rw [Int.compare_eq_gt.2 h, Int.compare_eq_gt.2 (Int.mul_lt_mul_of_pos_right h hp')]
theorem sv_signed (s : Bool) (a x c : Nat) (h : upOf a = x + c) : sv s a = Ieee.signed s (magOf a) x * ((2 ^ c : Nat) : Int) := by
  unfold sv Ieee.signed
  rw [← uV_eq a, h, Nat.pow_add, ← Nat.mul_assoc, Nat.shiftLeft_eq]
  cases s with
  | false => simp only [Bool.false_eq_true, if_false]; rw [Int.natCast_mul (magOf a * 2 ^ x)]
  | true => simp only [if_true]; rw [Int.natCast_mul (magOf a * 2 ^ x), Int.neg_mul]
theorem order_sw (s t : Bool) (a b : Nat) (ha : a < 9218868437227405312) (hb : b < 9218868437227405312) : Ieee.double.order (sw s a) (sw t b) = some (compare (sv s a) (sv t b)) := by
  unfold Ieee.Format.order
  rw [read_sw s a ha, read_sw t b hb]
  simp only [Ieee.Datum.order]
  congr 1
  have hx : ∃ c : Nat, upOf a = (-1074 + (upOf a : Int) - min (-1074 + (upOf a : Int)) (-1074 + (upOf b : Int))).toNat + c ∧ upOf b = (-1074 + (upOf b : Int) - min (-1074 + (upOf a : Int)) (-1074 + (upOf b : Int))).toNat + c := by
    refine ⟨min (upOf a) (upOf b), ?_, ?_⟩ <;> omega
  obtain ⟨c, h1, h2⟩ := hx
  rw [sv_signed s a _ c h1, sv_signed t b _ c h2, cmpI_mul _ _ _ (Nat.pow_pos (by decide))]

/-- Where a float stands, by its sign and its size. -/
def sr (s : Bool) (a : Nat) : Int := if s then -(a : Int) else (a : Int)
theorem cmp_congr {x y x' y' : Int} (h1 : x < y ↔ x' < y') (h2 : y < x ↔ y' < x') : compare x y = compare x' y' := by
  rcases Int.lt_trichotomy x y with h | h | h
  · rw [Int.compare_eq_lt.2 h, Int.compare_eq_lt.2 (h1.1 h)]
  · have e : x' = y' := by
      rcases Int.lt_trichotomy x' y' with k | k | k
      · have := h1.2 k; omega
      · exact k
      · have := h2.2 k; omega
    rw [h, e]; simp
  · rw [Int.compare_eq_gt.2 h, Int.compare_eq_gt.2 (h2.1 h)]
theorem uV_zero : uV 0 = 0 := by decide
theorem uV_lt_iff (a b : Nat) : uV a < uV b ↔ a < b := by
  constructor
  · intro h
    rcases Nat.lt_trichotomy a b with k | k | k
    · exact k
    · subst k; omega
    · have := uV_mono k; omega
  · exact uV_mono
theorem cmp_sv (s t : Bool) (a b : Nat) : compare (sv s a) (sv t b) = compare (sr s a) (sr t b) := by
  have h1 := uV_lt_iff a b
  have h2 := uV_lt_iff b a
  have h3 := uV_lt_iff 0 a
  have h4 := uV_lt_iff 0 b
  rw [uV_zero] at h3 h4
  apply cmp_congr
  · cases s <;> cases t <;> simp only [sv, sr, Bool.false_eq_true, if_false, if_true] <;> omega
  · cases s <;> cases t <;> simp only [sv, sr, Bool.false_eq_true, if_false, if_true] <;> omega
theorem read_inf (s : Bool) : Ieee.double.read (sw s 9218868437227405312) = .infinity s := by cases s <;> decide
/-- How two floats stand that are no NaNs. -/
theorem order_all (s t : Bool) (a b : Nat) (ha : a ≤ 9218868437227405312) (hb : b ≤ 9218868437227405312) : Ieee.double.order (sw s a) (sw t b) = some (compare (sr s a) (sr t b)) := by
  rcases Nat.lt_or_eq_of_le ha with ha | ha
  · rcases Nat.lt_or_eq_of_le hb with hb | hb
    · rw [order_sw s t a b ha hb, cmp_sv]
    · subst hb
      unfold Ieee.Format.order
      rw [read_sw s a ha, read_inf t]
      simp only [Ieee.Datum.order]
      cases t
      · rw [if_neg (by decide)]; congr 1; symm; rw [Int.compare_eq_lt]; unfold sr; cases s <;> simp <;> omega
      · rw [if_pos rfl]; congr 1; symm; rw [Int.compare_eq_gt]; unfold sr; cases s <;> simp <;> omega
  · subst ha
    rcases Nat.lt_or_eq_of_le hb with hb | hb
    · unfold Ieee.Format.order
      rw [read_sw t b hb, read_inf s]
      simp only [Ieee.Datum.order]
      cases s
      · rw [if_neg (by decide)]; congr 1; symm; rw [Int.compare_eq_gt]; unfold sr; cases t <;> simp <;> omega
      · rw [if_pos rfl]; congr 1; symm; rw [Int.compare_eq_lt]; unfold sr; cases t <;> simp <;> omega
    · subst hb
      unfold Ieee.Format.order
      rw [read_inf s, read_inf t]
      cases s <;> cases t <;> decide
theorem read_nan (s : Bool) (a : Nat) (h : 9218868437227405312 < a) (h2 : a < 9223372036854775808) : ∃ f, Ieee.double.read (sw s a) = .nan s f := by
  obtain ⟨f1, f2, f3, f4⟩ := fmt
  have e1 : ((sw s a) / 9223372036854775808 % 2 == 1) = s := by
    unfold sw; cases s
    · rw [if_neg (by decide), beq_eq_false_iff_ne]; omega
    · rw [if_pos rfl, beq_iff_eq]; omega
  have e2 : sw s a % 9223372036854775808 = a := by unfold sw; cases s <;> simp <;> omega
  unfold Ieee.Format.read
  simp only [f1, f2, f3, f4, e1, e2]
  rw [if_neg (by omega), if_neg (by omega), if_neg (by omega)]
  exact ⟨_, rfl⟩
theorem order_nan1 (s : Bool) (a y : Nat) (h : 9218868437227405312 < a) (h2 : a < 9223372036854775808) : Ieee.double.order (sw s a) y = none := by
  obtain ⟨f, e⟩ := read_nan s a h h2
  unfold Ieee.Format.order
  rw [e]; rfl
theorem order_nan2 (s : Bool) (a x : Nat) (h : 9218868437227405312 < a) (h2 : a < 9223372036854775808) : Ieee.double.order x (sw s a) = none := by
  obtain ⟨f, e⟩ := read_nan s a h h2
  unfold Ieee.Format.order
  rw [e]
  cases Ieee.double.read x <;> rfl
/-- A word by its sign and its size. -/
theorem sw_of (x : Nat) (h : x < 18446744073709551616) : ∃ s a, x = sw s a ∧ a < 9223372036854775808 := by
  by_cases k : x < 9223372036854775808
  · exact ⟨false, x, rfl, k⟩
  · exact ⟨true, x - 9223372036854775808, by unfold sw; rw [if_pos rfl]; omega, by omega⟩
end Go.Proofs.YtmmkboldkaehgaaGreatDoor
