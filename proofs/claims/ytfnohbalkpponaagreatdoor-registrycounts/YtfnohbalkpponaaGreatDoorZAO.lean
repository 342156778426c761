/- THE PLAIN MATHEMATICS of floats that are added by whole numbers (no Go in sight). Own work of the verifier. -/
import Derived.Laws.FloatArith
namespace Go.Proofs.YtfnohbalkpponaaGreatDoor.Soft

/-- A number less its last j bits, to the nearest, of two as near the even one. -/
def rne (N j : Nat) : Nat := N / 2 ^ j + (if 2 ^ j < 2 * (N % 2 ^ j) ∨ 2 ^ j = 2 * (N % 2 ^ j) ∧ N / 2 ^ j % 2 = 1 then 1 else 0)
/-- A number less its last i bits, whose last bit tells whether anything was cut off. -/
def ss (N i : Nat) : Nat := N / 2 ^ i ||| (if N % 2 ^ i = 0 then 0 else 1)
theorem pow_pos' (j : Nat) : 0 < 2 ^ j := Nat.pow_pos (by decide)
/-- The rung nearest to a whole number of the least units. -/
def nrung (N : Nat) : Nat := if N < 9007199254740992 then N else min ((N.log2 - 52) * 4503599627370496 + rne N (N.log2 - 52)) 9218868437227405312
theorem cut_even (neg : Bool) (n d : Nat) : Ieee.Toward.even.cut neg n d = rne n d := by
  unfold Ieee.Toward.cut rne
  simp only [Nat.one_shiftLeft]
  by_cases h : d ≤ n.log2 + 2
  · rw [Nat.min_eq_left h]
    congr 1
    by_cases c : 2 ^ d < 2 * (n % 2 ^ d) ∨ 2 ^ d = 2 * (n % 2 ^ d) ∧ n / 2 ^ d % 2 = 1
    · rw [if_pos c]
      have : (decide (2 ^ d < 2 * (n % 2 ^ d)) || (2 ^ d == 2 * (n % 2 ^ d) && n / 2 ^ d % 2 == 1)) = true := by simpa using c
      rw [this]; rfl
    · rw [if_neg c]
      have : (decide (2 ^ d < 2 * (n % 2 ^ d)) || (2 ^ d == 2 * (n % 2 ^ d) && n / 2 ^ d % 2 == 1)) = false := by
        rw [Bool.eq_false_iff]; intro k; exact c (by simpa using k)
      rw [this]; rfl
  · rw [Nat.min_eq_right (by omega)]
    have hn : n < 2 ^ (n.log2 + 1) := Nat.lt_log2_self
    have e1 : (2 : Nat) ^ (n.log2 + 2) = 2 * 2 ^ (n.log2 + 1) := by rw [Nat.pow_succ]; omega
    have e2 : 2 ^ (n.log2 + 2) ≤ 2 ^ d := Nat.pow_le_pow_right (by decide) (by omega)
    have m1 : n % 2 ^ (n.log2 + 2) = n := Nat.mod_eq_of_lt (by omega)
    have m2 : n % 2 ^ d = n := Nat.mod_eq_of_lt (by omega)
    have d1 : n / 2 ^ (n.log2 + 2) = 0 := Nat.div_eq_of_lt (by omega)
    have d2 : n / 2 ^ d = 0 := Nat.div_eq_of_lt (by omega)
    rw [m1, m2, d1, d2]
    have c1 : ¬ (2 ^ d < 2 * n ∨ 2 ^ d = 2 * n ∧ 0 % 2 = 1) := by omega
    rw [if_neg c1]
    have : (decide (2 ^ (n.log2 + 2) < 2 * n) || (2 ^ (n.log2 + 2) == 2 * n && (0 % 2 == 1))) = false := by
      rw [Bool.eq_false_iff]; intro k
      simp at k
      omega
    rw [this]; rfl
theorem log2_mul_pow (n c : Nat) (h : n ≠ 0) : (n * 2 ^ c).log2 = n.log2 + c := by
  have hp := pow_pos' c
  have h1 : 2 ^ n.log2 ≤ n := Nat.log2_self_le h
  have h2 : n < 2 ^ (n.log2 + 1) := Nat.lt_log2_self
  have h0 : n * 2 ^ c ≠ 0 := Nat.mul_ne_zero h (by omega)
  apply Nat.le_antisymm
  · apply Nat.le_of_lt_succ
    rw [Nat.log2_lt h0, show (n.log2 + c).succ = n.log2 + 1 + c from by omega, Nat.pow_add]
    exact Nat.mul_lt_mul_of_pos_right h2 hp
  · rw [Nat.le_log2 h0, Nat.pow_add]
    exact Nat.mul_le_mul_right _ h1
theorem rne_zero (N : Nat) : rne N 0 = N := by unfold rne; simp [Nat.mod_one]
theorem rne_mul (m c d : Nat) (h : d ≤ c) : rne (m * 2 ^ c) d = m * 2 ^ (c - d) := by
  have e : m * 2 ^ c = 2 ^ d * (m * 2 ^ (c - d)) := by
    rw [Nat.mul_left_comm, ← Nat.pow_add, show d + (c - d) = c from by omega]
  unfold rne
  rw [e, Nat.mul_div_cancel_left _ (pow_pos' d), Nat.mul_mod_right]
  have := pow_pos' d
  rw [if_neg (by omega)]; rfl
theorem rne_scale (m c d : Nat) (h : c ≤ d) : rne (m * 2 ^ c) d = rne m (d - c) := by
  obtain ⟨k, rfl⟩ : ∃ k, d = c + k := ⟨d - c, by omega⟩
  rw [show c + k - c = k from by omega]
  unfold rne
  have hp := pow_pos' c
  have e1 : m * 2 ^ c / 2 ^ (c + k) = m / 2 ^ k := by rw [Nat.add_comm, Nat.pow_add, Nat.mul_div_mul_right _ _ hp]
  have e2 : m * 2 ^ c % 2 ^ (c + k) = m % 2 ^ k * 2 ^ c := by rw [Nat.add_comm, Nat.pow_add, Nat.mul_mod_mul_right]
  rw [e1, e2, Nat.add_comm c k, Nat.pow_add]
  congr 1
  have c1 : 2 ^ k * 2 ^ c < 2 * (m % 2 ^ k * 2 ^ c) ↔ 2 ^ k < 2 * (m % 2 ^ k) := by rw [← Nat.mul_assoc]; exact Nat.mul_lt_mul_right hp
  have c2 : 2 ^ k * 2 ^ c = 2 * (m % 2 ^ k * 2 ^ c) ↔ 2 ^ k = 2 * (m % 2 ^ k) := by rw [← Nat.mul_assoc]; exact Nat.mul_left_inj (by omega)
  simp only [c1, c2]
/-- What the model's floats round to. -/
theorem nearest_rung (neg : Bool) (mag c : Nat) (h : mag ≠ 0) : Ieee.double.nearest neg mag (-1074 + (c : Int)) = Ieee.double.word neg (nrung (mag * 2 ^ c)) := by
  unfold Ieee.Format.nearest
  rw [if_neg h]
  simp only [cut_even, Nat.shiftLeft_eq]
  have f1 : Ieee.double.binade = 4503599627370496 := by decide
  have f2 : Ieee.double.infRung = 9218868437227405312 := by decide
  have f3 : Ieee.double.leastPlace = -1074 := by decide
  have f4 : Ieee.double.fractionBits = 52 := rfl
  rw [f1, f2, f3, f4]
  congr 1
  have hN : mag * 2 ^ c ≠ 0 := Nat.mul_ne_zero h (by have := pow_pos' c; omega)
  have hl := log2_mul_pow mag c h
  unfold nrung
  by_cases hs : mag * 2 ^ c < 9007199254740992
  · have hlt : (mag * 2 ^ c).log2 < 53 := (Nat.log2_lt hN).2 hs
    rw [if_pos hs, show max (-1074 + (c : Int) + (mag.log2 : Int) - ((52 : Nat) : Int)) (-1074) = -1074 from by omega]
    rw [show (-1074 + (c : Int) - -1074).toNat = c from by omega, show (-1074 - (-1074 + (c : Int))).toNat = 0 from by omega, show ((-1074 : Int) - -1074).toNat = 0 from by decide, rne_zero]
    omega
  · have hge : 53 ≤ (mag * 2 ^ c).log2 := by rw [Nat.le_log2 hN]; omega
    rw [if_neg hs, hl]
    rw [hl] at hge
    rw [show max (-1074 + (c : Int) + (mag.log2 : Int) - ((52 : Nat) : Int)) (-1074) = -1074 + ((mag.log2 + c - 52 : Nat) : Int) from by omega]
    generalize hd : mag.log2 + c - 52 = d
    rw [show (-1074 + (d : Int) - -1074).toNat = d from by omega, show (-1074 + (c : Int) - (-1074 + (d : Int))).toNat = c - d from by omega, show (-1074 + (d : Int) - (-1074 + (c : Int))).toNat = d - c from by omega]
    congr 2
    rcases Nat.le_total d c with k | k
    · rw [show d - c = 0 from by omega, rne_zero, rne_mul _ _ _ k]
    · rw [show c - d = 0 from by omega, Nat.pow_zero, Nat.mul_one, rne_scale _ _ _ k]
end Go.Proofs.YtfnohbalkpponaaGreatDoor.Soft
/- THE PLAIN MATHEMATICS of floats that are added by whole numbers: what is packed. Own work of the verifier. -/
namespace Go.Proofs.YtfnohbalkpponaaGreatDoor.Soft

/-- The rung nearest to N, without the bound above. -/
def nr (N : Nat) : Nat := if N < 9007199254740992 then N else (N.log2 - 52) * 4503599627370496 + rne N (N.log2 - 52)
theorem nrung_small {N : Nat} (h : N < 9007199254740992) : nrung N = N := by unfold nrung; rw [if_pos h]
theorem nrung_nr (N : Nat) : nrung N = min (nr N) 9218868437227405312 := by
  unfold nrung nr
  split
  · omega
  · rfl
end Go.Proofs.YtfnohbalkpponaaGreatDoor.Soft
/- THE PLAIN MATHEMATICS of floats that are added by whole numbers: what is laid one over the other. Own work of the verifier. -/
namespace Go.Proofs.YtfnohbalkpponaaGreatDoor.Soft

/-- What the second loop leaves: nothing was cut off; or something was, and one bit at most was put behind. -/
def Left (N D M : Nat) : Prop := M = ss (8 * N) D ∨ 36028797018963968 ≤ M ∧ M = ss (8 * N) (D + 1) * 2
end Go.Proofs.YtfnohbalkpponaaGreatDoor.Soft
/- THE ORDER of floats of 64 bits, by their words (no Go in sight). Own work of the verifier. -/
namespace Go.Proofs.YtfnohbalkpponaaGreatDoor


/-- A positive float, in units of the least one. -/
def uV (a : Nat) : Nat := if a < 4503599627370496 then a else (4503599627370496 + a % 4503599627370496) * 2 ^ (a / 4503599627370496 - 1)
theorem uV_succ (a : Nat) : uV a < uV (a + 1) := by
  unfold uV
  by_cases h1 : a + 1 < 4503599627370496
  · rw [if_pos (by omega), if_pos h1]; omega
  · by_cases h2 : a < 4503599627370496
    · obtain rfl : a = 4503599627370495 := by omega
      decide
    · rw [if_neg h2, if_neg h1]
      have hp : 0 < 2 ^ (a / 4503599627370496 - 1) := Nat.pow_pos (by decide)
      by_cases h3 : (a + 1) % 4503599627370496 = 0
      · have e1 : (a + 1) / 4503599627370496 - 1 = (a / 4503599627370496 - 1) + 1 := by omega
        rw [h3, e1, Nat.pow_succ]
        have e2 : a % 4503599627370496 = 4503599627370495 := by omega
        rw [e2]
        generalize 2 ^ (a / 4503599627370496 - 1) = p at *
        omega
      · have e1 : (a + 1) / 4503599627370496 = a / 4503599627370496 := by omega
        have e2 : (a + 1) % 4503599627370496 = a % 4503599627370496 + 1 := by omega
        rw [e1, e2]
        exact Nat.mul_lt_mul_of_pos_right (by omega) hp
theorem uV_mono {a b : Nat} (h : a < b) : uV a < uV b := by
  induction b with
  | zero => omega
  | succ b ih =>
    rcases Nat.lt_or_eq_of_le (Nat.le_of_lt_succ h) with k | k
    · exact Nat.lt_trans (ih k) (uV_succ b)
    · rw [k]; exact uV_succ b

def magOf (a : Nat) : Nat := if a < 4503599627370496 then a else 4503599627370496 + a % 4503599627370496
def upOf (a : Nat) : Nat := if a < 4503599627370496 then 0 else a / 4503599627370496 - 1
theorem uV_eq (a : Nat) : magOf a * 2 ^ upOf a = uV a := by
  unfold magOf upOf uV; split <;> simp
theorem fmt : Ieee.double.signWeight = 9223372036854775808 ∧ Ieee.double.binade = 4503599627370496 ∧ Ieee.double.infRung = 9218868437227405312 ∧ Ieee.double.leastPlace = -1074 := by decide
/-- What a positive float stands for. -/
theorem read_pos (a : Nat) (h : a < 9218868437227405312) : Ieee.double.read a = .number false (magOf a) (-1074 + (upOf a : Int)) := by
  obtain ⟨f1, f2, f3, f4⟩ := fmt
  have e1 : (a / 9223372036854775808 % 2 == 1) = false := by rw [beq_eq_false_iff_ne]; omega
  have e2 : a % 9223372036854775808 = a := by omega
  unfold Ieee.Format.read magOf upOf
  simp only [f1, f2, f3, f4, e1, e2]
  by_cases hl : a < 4503599627370496
  · rw [if_pos hl, if_pos hl, if_pos hl]; rfl
  · rw [if_neg hl, if_neg hl, if_neg hl, if_pos h]



/-- A float by its sign and its size; what it stands for, in units of the least one. -/
def sw (s : Bool) (a : Nat) : Nat := if s then 9223372036854775808 + a else a
def sv (s : Bool) (a : Nat) : Int := if s then -(uV a : Int) else (uV a : Int)
theorem read_sw (s : Bool) (a : Nat) (h : a < 9218868437227405312) : Ieee.double.read (sw s a) = .number s (magOf a) (-1074 + (upOf a : Int)) := by
  cases s with
  | false => exact read_pos a h
  | true =>
    obtain ⟨f1, f2, f3, f4⟩ := fmt
    show Ieee.double.read (9223372036854775808 + a) = _
    have e1 : ((9223372036854775808 + a) / 9223372036854775808 % 2 == 1) = true := by rw [beq_iff_eq]; omega
    have e2 : (9223372036854775808 + a) % 9223372036854775808 = a := by omega
    unfold Ieee.Format.read magOf upOf
    simp only [f1, f2, f3, f4, e1, e2]
    by_cases hl : a < 4503599627370496
    · rw [if_pos hl, if_pos hl, if_pos hl]; rfl
    · rw [if_neg hl, if_neg hl, if_neg hl, if_pos h]
theorem cmpI_mul (x y : Int) (p : Nat) (hp : 0 < p) : compare (x * (p : Int)) (y * (p : Int)) = compare x y := by
  have hp' : (0 : Int) < p := by omega
  rcases Int.lt_trichotomy x y with h | h | h
  · rw [Int.compare_eq_lt.2 h, Int.compare_eq_lt.2 (Int.mul_lt_mul_of_pos_right h hp')]
  · subst h; simp
  · rw [Int.compare_eq_gt.2 h, Int.compare_eq_gt.2 (Int.mul_lt_mul_of_pos_right h hp')]
theorem sv_signed (s : Bool) (a x c : Nat) (h : upOf a = x + c) : sv s a = Ieee.signed s (magOf a) x * ((2 ^ c : Nat) : Int) := by
  unfold sv Ieee.signed
  rw [← uV_eq a, h, Nat.pow_add, ← Nat.mul_assoc, Nat.shiftLeft_eq]
  cases s with
  | false => simp only [Bool.false_eq_true, if_false]; rw [Int.natCast_mul (magOf a * 2 ^ x)]
  | true => simp only [if_true]; rw [Int.natCast_mul (magOf a * 2 ^ x), Int.neg_mul]
theorem order_sw (s t : Bool) (a b : Nat) (ha : a < 9218868437227405312) (hb : b < 9218868437227405312) : Ieee.double.order (sw s a) (sw t b) = some (compare (sv s a) (sv t b)) := by
  unfold Ieee.Format.order
  rw [read_sw s a ha, read_sw t b hb]
  simp only [Ieee.Datum.order]
  congr 1
  have hx : ∃ c : Nat, upOf a = (-1074 + (upOf a : Int) - min (-1074 + (upOf a : Int)) (-1074 + (upOf b : Int))).toNat + c ∧ upOf b = (-1074 + (upOf b : Int) - min (-1074 + (upOf a : Int)) (-1074 + (upOf b : Int))).toNat + c := by
    refine ⟨min (upOf a) (upOf b), ?_, ?_⟩ <;> omega
  obtain ⟨c, h1, h2⟩ := hx
  rw [sv_signed s a _ c h1, sv_signed t b _ c h2, cmpI_mul _ _ _ (Nat.pow_pos (by decide))]

/-- Where a float stands, by its sign and its size. -/
def sr (s : Bool) (a : Nat) : Int := if s then -(a : Int) else (a : Int)
theorem cmp_congr {x y x' y' : Int} (h1 : x < y ↔ x' < y') (h2 : y < x ↔ y' < x') : compare x y = compare x' y' := by
  rcases Int.lt_trichotomy x y with h | h | h
  · rw [Int.compare_eq_lt.2 h, Int.compare_eq_lt.2 (h1.1 h)]
  · have e : x' = y' := by
      rcases Int.lt_trichotomy x' y' with k | k | k
      · have := h1.2 k; omega
      · exact k
      · have := h2.2 k; omega
    rw [h, e]; simp
  · rw [Int.compare_eq_gt.2 h, Int.compare_eq_gt.2 (h2.1 h)]
theorem uV_zero : uV 0 = 0 := by decide
theorem uV_lt_iff (a b : Nat) : uV a < uV b ↔ a < b := by
  constructor
  · intro h
    rcases Nat.lt_trichotomy a b with k | k | k
    · exact k
    · subst k; omega
    · have := uV_mono k; omega
  · exact uV_mono
theorem cmp_sv (s t : Bool) (a b : Nat) : compare (sv s a) (sv t b) = compare (sr s a) (sr t b) := by
  have h1 := uV_lt_iff a b
  have h2 := uV_lt_iff b a
  have h3 := uV_lt_iff 0 a
  have h4 := uV_lt_iff 0 b
  rw [uV_zero] at h3 h4
  apply cmp_congr
  · cases s <;> cases t <;> simp only [sv, sr, Bool.false_eq_true, if_false, if_true] <;> omega
  · cases s <;> cases t <;> simp only [sv, sr, Bool.false_eq_true, if_false, if_true] <;> omega
theorem read_inf (s : Bool) : Ieee.double.read (sw s 9218868437227405312) = .infinity s := by cases s <;> decide
/-- How two floats stand that are no NaNs. -/
theorem order_all (s t : Bool) (a b : Nat) (ha : a ≤ 9218868437227405312) (hb : b ≤ 9218868437227405312) : Ieee.double.order (sw s a) (sw t b) = some (compare (sr s a) (sr t b)) := by
  rcases Nat.lt_or_eq_of_le ha with ha | ha
  · rcases Nat.lt_or_eq_of_le hb with hb | hb
    · rw [order_sw s t a b ha hb, cmp_sv]
    · subst hb
      unfold Ieee.Format.order
      rw [read_sw s a ha, read_inf t]
      simp only [Ieee.Datum.order]
      cases t
      · rw [if_neg (by decide)]; congr 1; symm; rw [Int.compare_eq_lt]; unfold sr; cases s <;> simp <;> omega
      · rw [if_pos rfl]; congr 1; symm; rw [Int.compare_eq_gt]; unfold sr; cases s <;> simp <;> omega
  · subst ha
    rcases Nat.lt_or_eq_of_le hb with hb | hb
    · unfold Ieee.Format.order
      rw [read_sw t b hb, read_inf s]
      simp only [Ieee.Datum.order]
      cases s
      · rw [if_neg (by decide)]; congr 1; symm; rw [Int.compare_eq_gt]; unfold sr; cases t <;> simp <;> omega
      · rw [if_pos rfl]; congr 1; symm; rw [Int.compare_eq_lt]; unfold sr; cases t <;> simp <;> omega
    · subst hb
      unfold Ieee.Format.order
      rw [read_inf s, read_inf t]
      cases s <;> cases t <;> decide
theorem read_nan (s : Bool) (a : Nat) (h : 9218868437227405312 < a) (h2 : a < 9223372036854775808) : ∃ f, Ieee.double.read (sw s a) = .nan s f := by
  obtain ⟨f1, f2, f3, f4⟩ := fmt
  have e1 : ((sw s a) / 9223372036854775808 % 2 == 1) = s := by
    unfold sw; cases s
    · rw [if_neg (by decide), beq_eq_false_iff_ne]; omega
    · rw [if_pos rfl, beq_iff_eq]; omega
  have e2 : sw s a % 9223372036854775808 = a := by unfold sw; cases s <;> simp <;> omega
  unfold Ieee.Format.read
  simp only [f1, f2, f3, f4, e1, e2]
  rw [if_neg (by omega), if_neg (by omega), if_neg (by omega)]
  exact ⟨_, rfl⟩
theorem order_nan1 (s : Bool) (a y : Nat) (h : 9218868437227405312 < a) (h2 : a < 9223372036854775808) : Ieee.double.order (sw s a) y = none := by
  obtain ⟨f, e⟩ := read_nan s a h h2
  unfold Ieee.Format.order
  rw [e]; rfl
theorem order_nan2 (s : Bool) (a x : Nat) (h : 9218868437227405312 < a) (h2 : a < 9223372036854775808) : Ieee.double.order x (sw s a) = none := by
  obtain ⟨f, e⟩ := read_nan s a h h2
  unfold Ieee.Format.order
  rw [e]
  cases Ieee.double.read x <;> rfl
/-- A word by its sign and its size. -/
theorem sw_of (x : Nat) (h : x < 18446744073709551616) : ∃ s a, x = sw s a ∧ a < 9223372036854775808 := by
  by_cases k : x < 9223372036854775808
  · exact ⟨false, x, rfl, k⟩
  · exact ⟨true, x - 9223372036854775808, by unfold sw; rw [if_pos rfl]; omega, by omega⟩
end Go.Proofs.YtfnohbalkpponaaGreatDoor
/- THE MODEL's SUMS of floats, by whole numbers of the least units. Own work of the verifier. -/
namespace Go.Proofs.YtfnohbalkpponaaGreatDoor.Soft

theorem word_sw (neg : Bool) (r : Nat) : Ieee.double.word neg r = sw neg r := by
  unfold Ieee.Format.word sw
  rw [show Ieee.double.signWeight = 9223372036854775808 from by decide]
/-- The sum of two finite floats. -/
def addW (s t : Bool) (a b : Nat) : Nat := if sv s a + sv t b = 0 then sw (s && t) 0 else sw (decide (sv s a + sv t b < 0)) (nrung (sv s a + sv t b).natAbs)
theorem add_fin (s t : Bool) (a b : Nat) (ha : a < 9218868437227405312) (hb : b < 9218868437227405312) : Ieee.double.add (sw s a) (sw t b) = some (addW s t a b) := by
  unfold Ieee.Format.add
  rw [read_sw s a ha, read_sw t b hb]
  obtain ⟨c, h1, h2, hc⟩ : ∃ c : Nat, upOf a = (-1074 + (upOf a : Int) - min (-1074 + (upOf a : Int)) (-1074 + (upOf b : Int))).toNat + c ∧ upOf b = (-1074 + (upOf b : Int) - min (-1074 + (upOf a : Int)) (-1074 + (upOf b : Int))).toNat + c ∧ min (-1074 + (upOf a : Int)) (-1074 + (upOf b : Int)) = -1074 + (c : Int) :=
    ⟨min (upOf a) (upOf b), by omega, by omega, by omega⟩
  have e1 := sv_signed s a _ c h1
  have e2 := sv_signed t b _ c h2
  unfold Ieee.Datum.sum
  simp only
  rw [hc] at e1 e2 ⊢
  generalize Ieee.signed s (magOf a) (-1074 + (upOf a : Int) - (-1074 + (c : Int))).toNat = A at *
  generalize Ieee.signed t (magOf b) (-1074 + (upOf b : Int) - (-1074 + (c : Int))).toNat = B at *
  have hp : (0 : Int) < ((2 ^ c : Nat) : Int) := by have := pow_pos' c; omega
  have eT : sv s a + sv t b = (A + B) * ((2 ^ c : Nat) : Int) := by rw [e1, e2, Int.add_mul]
  unfold addW
  rw [eT]
  show some (Ieee.double.write _) = _
  congr 1
  by_cases hz : A + B = 0
  · rw [if_pos hz, hz, Int.zero_mul, if_pos rfl]
    show Ieee.double.nearest _ 0 _ = _
    unfold Ieee.Format.nearest
    rw [if_pos rfl, word_sw]
  · have hz' : (A + B) * ((2 ^ c : Nat) : Int) ≠ 0 := Int.mul_ne_zero hz (by omega)
    rw [if_neg hz, if_neg hz']
    show Ieee.double.nearest _ (A + B).natAbs _ = _
    have hn : (A + B).natAbs ≠ 0 := by omega
    rw [nearest_rung _ _ c hn, word_sw, Int.natAbs_mul, Int.natAbs_natCast]
    congr 1
    have : (A + B < 0) ↔ ((A + B) * ((2 ^ c : Nat) : Int) < 0) := by
      constructor
      · intro h; exact Int.mul_neg_of_neg_of_pos h hp
      · intro h
        by_cases k : A + B < 0
        · exact k
        · have := Int.mul_nonneg (show 0 ≤ A + B by omega) (Int.le_of_lt hp); omega
    exact decide_eq_decide.2 this
end Go.Proofs.YtfnohbalkpponaaGreatDoor.Soft
/- SUMS of floats by whole numbers: the document's way. Own work of the verifier. -/
namespace Go.Proofs.YtfnohbalkpponaaGreatDoor.Soft

theorem up_mono {a b : Nat} (h : b ≤ a) : upOf b ≤ upOf a := by
  unfold upOf
  split <;> split <;> omega
theorem mag_lt (a : Nat) : magOf a < 9007199254740992 := by unfold magOf; split <;> omega
theorem mag_norm {a : Nat} (h : 0 < upOf a) : 4503599627370496 ≤ magOf a := by
  unfold upOf at h; unfold magOf
  split at h
  · omega
  · rw [if_neg (by assumption)]; omega
theorem uV_le {a b : Nat} (h : b ≤ a) : uV b ≤ uV a := by
  rcases Nat.lt_or_eq_of_le h with k | k
  · exact Nat.le_of_lt (uV_mono k)
  · rw [k]; exact Nat.le_refl _
end Go.Proofs.YtfnohbalkpponaaGreatDoor.Soft
