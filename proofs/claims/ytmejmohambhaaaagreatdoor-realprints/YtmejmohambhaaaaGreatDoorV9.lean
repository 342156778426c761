/- THE VALUES RISE from float to float. Own work of the verifier. -/
import Derived.Test.YtmejmohambhaaaaGreatDoorV8
import Derived.Test.YtmejmohambhaaaaGreatDoorL26
namespace Go.Proofs.YtmejmohambhaaaaGreatDoor
open Go.RowKit

theorem lt_exp {a b : Nat} (h : 2 ^ a < 2 ^ b) : a < b := (Nat.pow_lt_pow_iff_right (by decide : 1 < 2)).1 h
theorem sd_low (a : Nat) (h1 : a < 4503599627370496) : sd a = shortF (a * 2 ^ (64 - Lib.bitLen a)) (-1074 - ((64 - Lib.bitLen a : Nat) : Int)) := by
  unfold sd
  rw [if_pos (by omega), Nat.mod_eq_of_lt h1]
theorem sd_norm (a : Nat) (h0 : 4503599627370496 ≤ a) (h1 : a < 9218868437227405312) : sd a = shortF ((4503599627370496 + a % 4503599627370496) * 2048) ((a / 4503599627370496 : Nat) - 1086) := by
  unfold sd
  rw [if_neg (by omega), show a / 4503599627370496 % 2048 = a / 4503599627370496 from by omega]
theorem rise_next (a : Nat) (h0 : 1 ≤ a) (h1 : a + 1 < 9218868437227405312) : ltV (sd a) (sd (a + 1)) = true := by
  by_cases c1 : a < 4503599627370496
  · obtain ⟨l1, l2, l3⟩ := len_bounds a (by omega) (by omega)
    have k52 : Lib.bitLen a ≤ 52 := by
      have : Lib.bitLen a - 1 < 52 := lt_exp (Nat.lt_of_le_of_lt l2 (by rw [show (2 : Nat) ^ 52 = 4503599627370496 from by decide]; exact c1))
      omega
    rw [sd_low a c1]
    by_cases c2 : a + 1 < 2 ^ Lib.bitLen a
    · have c3 : a + 1 < 4503599627370496 := by
        have : 2 ^ Lib.bitLen a ≤ 2 ^ 52 := Nat.pow_le_pow_right (by decide) k52
        rw [show (2 : Nat) ^ 52 = 4503599627370496 from by decide] at this
        omega
      obtain ⟨m1, m2, m3⟩ := len_bounds (a + 1) (by omega) (by omega)
      have e : Lib.bitLen (a + 1) = Lib.bitLen a := by
        have x1 := lt_exp (Nat.lt_of_le_of_lt m2 c2)
        have x2 := lt_exp (Nat.lt_of_le_of_lt l2 (Nat.lt_trans (Nat.lt_succ_self a) m3))
        omega
      rw [sd_low (a + 1) c3, e]
      refine rise_low a (64 - Lib.bitLen a) (by omega) (by omega) ?_ ?_
      · have := Nat.mul_le_mul_right (2 ^ (64 - Lib.bitLen a)) l2
        rw [← Nat.pow_add, show Lib.bitLen a - 1 + (64 - Lib.bitLen a) = 63 from by omega] at this
        exact this
      · have := Nat.mul_le_mul_right (2 ^ (64 - Lib.bitLen a)) (show a + 2 ≤ 2 ^ Lib.bitLen a from c2)
        rw [← Nat.pow_add, show Lib.bitLen a + (64 - Lib.bitLen a) = 64 from by omega] at this
        exact this
    · have c3 : a + 1 = 2 ^ Lib.bitLen a := by omega
      have h := rise_sub (Lib.bitLen a) (by omega) k52
      rw [show 2 ^ Lib.bitLen a - 1 = a from by omega] at h
      by_cases c4 : a + 1 < 4503599627370496
      · obtain ⟨m1, m2, m3⟩ := len_bounds (a + 1) (by omega) (by omega)
        have e : Lib.bitLen (a + 1) = Lib.bitLen a + 1 := by
          have x1 := lt_exp (show 2 ^ Lib.bitLen a < 2 ^ Lib.bitLen (a + 1) from by omega)
          have x2 : 2 ^ (Lib.bitLen (a + 1) - 1) < 2 ^ (Lib.bitLen a + 1) := by
            rw [Nat.pow_succ]
            have : 0 < 2 ^ Lib.bitLen a := Nat.pow_pos (by decide)
            omega
          have := lt_exp x2
          omega
        rw [sd_low (a + 1) c4, e, show 64 - (Lib.bitLen a + 1) = 63 - Lib.bitLen a from by omega, c3, ← Nat.pow_add, show Lib.bitLen a + (63 - Lib.bitLen a) = 63 from by omega]
        exact h
      · have e : Lib.bitLen a = 52 := by
          have x1 : ¬ Lib.bitLen a < 52 := fun k => by
            have : 2 ^ Lib.bitLen a ≤ 2 ^ 51 := Nat.pow_le_pow_right (by decide) (by omega)
            rw [show (2 : Nat) ^ 51 = 2251799813685248 from by decide] at this
            omega
          omega
        have e2 : a + 1 = 4503599627370496 := by omega
        rw [e2, sd_norm 4503599627370496 (by decide) (by decide)]
        rw [e] at h ⊢
        exact h
  · rw [sd_norm a (by omega) (by omega), sd_norm (a + 1) (by omega) h1]
    by_cases c2 : a % 4503599627370496 + 1 < 4503599627370496
    · rw [show (a + 1) / 4503599627370496 = a / 4503599627370496 from by omega, show (a + 1) % 4503599627370496 = a % 4503599627370496 + 1 from by omega]
      by_cases c3 : a % 4503599627370496 = 0 ∧ 2 ≤ a / 4503599627370496
      · have h := rise_from ((a / 4503599627370496 : Nat) - 1086) (by omega) (by omega)
        rw [c3.1]
        exact h
      · exact rise_in (4503599627370496 + a % 4503599627370496) _ (by omega) (by omega) (by omega) (by omega)
    · have h := rise_to ((a / 4503599627370496 : Nat) - 1085) (by omega) (by omega)
      rw [show (a + 1) / 4503599627370496 = a / 4503599627370496 + 1 from by omega, show (a + 1) % 4503599627370496 = 0 from by omega, show a % 4503599627370496 = 4503599627370495 from by omega, show (((a / 4503599627370496 + 1 : Nat) : Int) - 1086) = ((a / 4503599627370496 : Nat) : Int) - 1085 from by omega]
      rw [show (((a / 4503599627370496 : Nat) : Int) - 1085 - 1) = ((a / 4503599627370496 : Nat) : Int) - 1086 from by omega] at h
      exact h
/-- THE VALUES RISE with the words. -/
theorem rise_all {a b : Nat} (h0 : 1 ≤ a) (h : a < b) (h1 : b < 9218868437227405312) : ltV (sd a) (sd b) = true := by
  induction b with
  | zero => omega
  | succ b ih =>
    by_cases e : a = b
    · subst e; exact rise_next a h0 h1
    · have i := of_decide_eq_true (ih (by omega) (by omega))
      have j := of_decide_eq_true (rise_next b (by omega) h1)
      exact decide_eq_true (Nat.lt_trans i j)
end Go.Proofs.YtmejmohambhaaaaGreatDoor
