/- THE ORDER of the floats nearest to numbers. Own work of the verifier. -/
import Derived.Test.YtbobhjgndgaoaaaDoorF2
namespace Go.Proofs.YtbobhjgndgaoaaaDoor

/-- A float by its sign and its size; what it stands for, in units of the least one. -/
def sw (s : Bool) (a : Nat) : Nat := if s then 9223372036854775808 + a else a
def sv (s : Bool) (a : Nat) : Int := if s then -(uV a : Int) else (uV a : Int)
theorem read_sw (s : Bool) (a : Nat) (h : a < 9218868437227405312) : Ieee.double.read (sw s a) = .number s (magOf a) (-1074 + (upOf a : Int)) := by
  cases s with
  | false => exact read_pos a h
  | true =>
    obtain ⟨f1, f2, f3, f4⟩ := fmt
    show Ieee.double.read (9223372036854775808 + a) = _
    have e1 : ((9223372036854775808 + a) / 9223372036854775808 % 2 == 1) = true := by rw [beq_iff_eq]; omega
    have e2 : (9223372036854775808 + a) % 9223372036854775808 = a := by omega
    unfold Ieee.Format.read magOf upOf
    simp only [f1, f2, f3, f4, e1, e2]
    by_cases hl : a < 4503599627370496
    · rw [if_pos hl, if_pos hl, if_pos hl]; rfl
    · rw [if_neg hl, if_neg hl, if_neg hl, if_pos h]
theorem cmpI_mul (x y : Int) (p : Nat) (hp : 0 < p) : compare (x * (p : Int)) (y * (p : Int)) = compare x y := by
  have hp' : (0 : Int) < p := by omega
  rcases Int.lt_trichotomy x y with h | h | h
  · rw [Int.compare_eq_lt.2 h, Int.compare_eq_lt.2 (Int.mul_lt_mul_of_pos_right h hp')]
  · subst h; simp
  · rw [Int.compare_eq_gt.2 h, Int.compare_eq_gt.2 (Int.mul_lt_mul_of_pos_right h hp')]
theorem sv_signed (s : Bool) (a x c : Nat) (h : upOf a = x + c) : sv s a = Ieee.signed s (magOf a) x * ((2 ^ c : Nat) : Int) := by
  unfold sv Ieee.signed
  rw [← uV_eq a, h, Nat.pow_add, ← Nat.mul_assoc, Nat.shiftLeft_eq]
  cases s with
  | false => simp only [Bool.false_eq_true, if_false]; rw [Int.natCast_mul (magOf a * 2 ^ x)]
  | true => simp only [if_true]; rw [Int.natCast_mul (magOf a * 2 ^ x), Int.neg_mul]
theorem order_sw (s t : Bool) (a b : Nat) (ha : a < 9218868437227405312) (hb : b < 9218868437227405312) : Ieee.double.order (sw s a) (sw t b) = some (compare (sv s a) (sv t b)) := by
  unfold Ieee.Format.order
  rw [read_sw s a ha, read_sw t b hb]
  simp only [Ieee.Datum.order]
  congr 1
  have hx : ∃ c : Nat, upOf a = (-1074 + (upOf a : Int) - min (-1074 + (upOf a : Int)) (-1074 + (upOf b : Int))).toNat + c ∧ upOf b = (-1074 + (upOf b : Int) - min (-1074 + (upOf a : Int)) (-1074 + (upOf b : Int))).toNat + c := by
    refine ⟨min (upOf a) (upOf b), ?_, ?_⟩ <;> omega
  obtain ⟨c, h1, h2⟩ := hx
  rw [sv_signed s a _ c h1, sv_signed t b _ c h2, cmpI_mul _ _ _ (Nat.pow_pos (by decide))]

theorem rb_mono (N M d : Nat) (h : N ≤ M) : N / 2 ^ d + rb N d ≤ M / 2 ^ d + rb M d := by
  have hp : 0 < 2 ^ d := Nat.pow_pos (by decide)
  have hq : N / 2 ^ d ≤ M / 2 ^ d := Nat.div_le_div_right h
  have r1 : rb N d ≤ 1 := by unfold rb; split <;> omega
  rcases Nat.lt_or_eq_of_le hq with c | c
  · omega
  · have e1 := Nat.div_add_mod N (2 ^ d)
    have e2 := Nat.div_add_mod M (2 ^ d)
    rw [c] at e1 ⊢
    have hm : N % 2 ^ d ≤ M % 2 ^ d := by omega
    have : rb N d ≤ rb M d := by
      unfold rb
      rw [c]
      generalize N % 2 ^ d = r1 at *
      generalize M % 2 ^ d = r2 at *
      generalize 2 ^ d = p at *
      split
      · rw [if_pos (by omega)]; omega
      · omega
    omega
theorem fword_mono (N M : Nat) (h : N ≤ M) (h2 : M.log2 ≤ 127) : fword N ≤ fword M := by
  by_cases hN : N = 0
  · subst hN; rw [fword_zero]; omega
  · have hM : M ≠ 0 := by omega
    have hl : N.log2 ≤ M.log2 := by
      have a := Nat.log2_self_le hN
      rcases Nat.lt_or_ge M.log2 N.log2 with c | c
      · have b : M < 2 ^ (M.log2 + 1) := Nat.lt_log2_self
        have d : 2 ^ (M.log2 + 1) ≤ 2 ^ N.log2 := Nat.pow_le_pow_right (by decide) c
        omega
      · exact c
    rcases Nat.lt_or_eq_of_le hl with c | c
    · have a := (fword_bounds N hN (by omega)).2
      have b := (fword_bounds M hM h2).1
      omega
    · by_cases hs : M.log2 ≤ 52
      · rw [fword_small N hN (by omega), fword_small M hM hs, c]
        exact Nat.add_le_add_left (Nat.mul_le_mul_right _ h) _
      · rw [fword_big N (by omega) (by omega), fword_big M (by omega) h2, c]
        exact Nat.add_le_add_left (rb_mono N M _ h) _
theorem uV_le {a b : Nat} (h : a ≤ b) : uV a ≤ uV b := by
  rcases Nat.lt_or_eq_of_le h with c | c
  · exact Nat.le_of_lt (uV_mono c)
  · rw [c]; exact Nat.le_refl _
theorem mag_log {n : Int} (h : InR n) : (mag n).toNat.log2 ≤ 127 := by
  obtain ⟨_, _⟩ := h
  by_cases hz : (mag n).toNat = 0
  · rw [hz]; decide
  · have : (mag n).toNat.log2 < 128 := (Nat.log2_lt hz).2 (by rw [show (2 : Nat) ^ 128 = 340282366920938463463374607431768211456 from by decide]; unfold mag; split <;> omega)
    omega
theorem fword_fin {n : Int} (h : InR n) : fword (mag n).toNat < 9218868437227405312 := by
  have := fword_mono (mag n).toNat (mag n).toNat (Nat.le_refl _) (mag_log h)
  by_cases hz : (mag n).toNat = 0
  · rw [hz, fword_zero]; decide
  · have := (fword_bounds _ hz (mag_log h)).2
    have := mag_log h
    omega
theorem fbits_sw (n : Int) : fbits n = sw (decide (n < 0)) (fword (mag n).toNat) := by
  unfold fbits sw
  by_cases h : n < 0
  · rw [if_pos h, decide_eq_true h, if_pos rfl]
  · rw [if_neg h, decide_eq_false h, if_neg (by decide)]
theorem sv_mono {a b : Int} (ha : InR a) (hb : InR b) (h : a ≤ b) : sv (decide (a < 0)) (fword (mag a).toNat) ≤ sv (decide (b < 0)) (fword (mag b).toNat) := by
  unfold sv
  by_cases h1 : a < 0
  · rw [decide_eq_true h1]
    by_cases h2 : b < 0
    · rw [decide_eq_true h2]
      have := uV_le (fword_mono (mag b).toNat (mag a).toNat (by unfold mag; rw [if_pos h1, if_pos h2]; omega) (mag_log ha))
      simp only [if_true]
      omega
    · rw [decide_eq_false h2]
      simp only [if_true, Bool.false_eq_true, if_false]
      omega
  · have h2 : ¬ b < 0 := by omega
    rw [decide_eq_false h1, decide_eq_false h2]
    have := uV_le (fword_mono (mag a).toNat (mag b).toNat (by unfold mag; rw [if_neg h1, if_neg h2]; omega) (mag_log hb))
    simp only [Bool.false_eq_true, if_false]
    omega
/-- The floats stand as the numbers do. -/
theorem order_le {a b : Int} (ha : InR a) (hb : InR b) (h : a ≤ b) : (FloatKind.f64.format.order (fbits a) (fbits b) == some .gt) = false := by
  have e := order_sw (decide (a < 0)) (decide (b < 0)) _ _ (fword_fin ha) (fword_fin hb)
  rw [← fbits_sw, ← fbits_sw] at e
  have hs := sv_mono ha hb h
  generalize sv (decide (a < 0)) (fword (mag a).toNat) = x at *
  generalize sv (decide (b < 0)) (fword (mag b).toNat) = y at *
  show (Ieee.double.order (fbits a) (fbits b) == some .gt) = false
  rw [e]
  rcases Int.lt_or_eq_of_le hs with c | c
  · rw [Int.compare_eq_lt.2 c]; rfl
  · rw [Int.compare_eq_eq.2 c]; rfl
theorem order_ge {a b : Int} (ha : InR a) (hb : InR b) (h : b ≤ a) : (FloatKind.f64.format.order (fbits a) (fbits b) == some .lt) = false := by
  have e := order_sw (decide (a < 0)) (decide (b < 0)) _ _ (fword_fin ha) (fword_fin hb)
  rw [← fbits_sw, ← fbits_sw] at e
  have hs := sv_mono hb ha h
  generalize sv (decide (a < 0)) (fword (mag a).toNat) = x at *
  generalize sv (decide (b < 0)) (fword (mag b).toNat) = y at *
  show (Ieee.double.order (fbits a) (fbits b) == some .lt) = false
  rw [e]
  rcases Int.lt_or_eq_of_le hs with c | c
  · rw [Int.compare_eq_gt.2 c]; rfl
  · rw [Int.compare_eq_eq.2 c.symm]; rfl
theorem order_same {a : Int} (ha : InR a) : (FloatKind.f64.format.order (fbits a) (fbits a) != some .eq) = false := by
  have e := order_sw (decide (a < 0)) (decide (a < 0)) _ _ (fword_fin ha) (fword_fin ha)
  rw [← fbits_sw] at e
  show (Ieee.double.order (fbits a) (fbits a) != some .eq) = false
  rw [e, Int.compare_eq_eq.2 rfl]; rfl
theorem neg_sw (s : Bool) (a : Nat) (h : a < 9223372036854775808) : Op.negFloat .f64 (sw s a) = sw (!s) a := by
  cases s with
  | false => exact neg_word a h
  | true =>
    show Op.negFloat .f64 (9223372036854775808 + a) = a
    rw [← neg_word a h]
    show a ^^^ 2 ^ 63 ^^^ 2 ^ 63 = a
    rw [Nat.xor_assoc, Nat.xor_self, Nat.xor_zero]
/-- The float of a number, and that of its negative. -/
theorem order_neg {b : Int} (hb : InR b) (h : b ≠ -170141183460469231731687303715884105728) : (FloatKind.f64.format.order (fbits (rnd (-b))) (Op.negFloat .f64 (fbits b)) != some .eq) = false := by
  have hf := fword_fin hb
  have hr : rnd (-b) = -b := rnd_of (by obtain ⟨_, _⟩ := hb; constructor <;> omega)
  rw [hr]
  by_cases hz : b = 0
  · subst hz
    decide
  · have e : Op.negFloat .f64 (fbits b) = fbits (-b) := by
      rw [fbits_sw b, neg_sw _ _ (by omega), fbits_sw (-b)]
      have e1 : mag (-b) = mag b := by unfold mag; split <;> split <;> omega
      have e2 : (!decide (b < 0)) = decide (-b < 0) := by
        by_cases c : b < 0
        · rw [decide_eq_true c, decide_eq_false (by omega)]; rfl
        · rw [decide_eq_false c, decide_eq_true (by omega)]; rfl
      rw [e1, e2]
    rw [e]
    exact order_same (by obtain ⟨_, _⟩ := hb; constructor <;> omega)
end Go.Proofs.YtbobhjgndgaoaaaDoor
