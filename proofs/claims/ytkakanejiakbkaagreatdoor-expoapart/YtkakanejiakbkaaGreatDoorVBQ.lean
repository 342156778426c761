/- NO MORE THAN 17 DIGITS, whatever the float. Own work of the verifier. -/
import Derived.Test.YtkakanejiakbkaaGreatDoorVBP
import Derived.Test.YtkakanejiakbkaaGreatDoorVBF
namespace Go.Proofs.YtkakanejiakbkaaGreatDoor.Rl
open Go.RowKit

theorem sym_17 (x g odd : Nat) (e p : Int) (hx0 : 4611686018427387904 ≤ x - g) (hg : g ≤ x) (hg1 : 1024 ≤ g) (hx : x + g < 18446744073709551616) (ho : odd ≤ 1) (hE : okE e p = true) (hW : okW g e p = true) :
    (pick x (x - g) (x + g) odd e p).1 < 100000000000000000 := by
  have hE' := hE
  unfold okE at hE'
  simp only [Bool.and_eq_true, decide_eq_true_eq] at hE'
  obtain ⟨⟨⟨s0, s1⟩, hp0⟩, hp1⟩ := hE'
  have u1 := scl_between (x - g) e p hx0 (by omega) hE
  have u2 := scl_between x e p (by omega) (by omega) hE
  have u3 := scl_between (x + g) e p (by omega) hx hE
  have hw := wide_ends x g e p hg hp0 hp1 hW
  have h1 := tab_fit (p + 348).toNat (by omega)
  have h2 := tab_top (p + 348).toNat (by omega)
  have hs := sym_ends x g (tabHi (p + 348).toNat) (tabLo (p + 348).toNat) hg (by omega)
  have hT : 0 < 2 ^ sOf e p := Nat.pow_pos (by decide)
  have f1 := scl_form (x - g) e p (by omega) hp0 hp1
  have f2 := scl_form x e p (by omega) hp0 hp1
  have f3 := scl_form (x + g) e p hx hp0 hp1
  have v1 := u1
  have v2 := u2
  have v3 := u3
  rw [f1] at v1
  rw [f2] at v2
  rw [f3] at v3
  apply pick_17 x g odd e p hx0 hg hg1 hx ho hE
  · rw [f1, f3]
    exact low_high _ _ _ odd (by omega) hw ho (by omega) (by omega) (by omega)
  · intro hlt
    rw [f1, f3] at hlt
    rw [f2, f3]
    exact (mid_between _ _ _ _ odd (by omega) hs.1 hs.2 ho (by omega) (by omega) (by omega) (by omega) (by omega) hlt).2
theorem two_17 (e : Int) (h0 : -1084 ≤ e) (h1 : e ≤ 960) : (shortF 9223372036854775808 e).1 < 100000000000000000 := by
  have h : (List.range 2045).all (fun i => decide ((shortF 9223372036854775808 ((i : Int) - 1084)).1 < 100000000000000000)) = true := by decide +kernel
  have := List.all_eq_true.1 h (e + 1084).toNat (List.mem_range.2 (by omega))
  rw [show (((e + 1084).toNat : Nat) : Int) - 1084 = e from by omega] at this
  exact of_decide_eq_true this
theorem norm_17 (f : Nat) (e : Int) (hf0 : 4503599627370496 ≤ f) (hf1 : f < 9007199254740992) (he0 : -1085 ≤ e) (he1 : e ≤ 960) : (shortF (f * 2048) e).1 < 100000000000000000 := by
  by_cases c : f = 4503599627370496 ∧ e ≠ -1085
  · obtain ⟨rfl, c2⟩ := c
    exact two_17 e (by omega) he1
  · rw [short_norm f e (by omega) he0]
    by_cases hz : e = -11
    · subst hz
      obtain ⟨a, b, _⟩ := pick_eleven f (f % 2) hf0 hf1 (by omega)
      rw [show -(l10 (-11 + 11)) = 0 from by decide]
      unfold pick
      rw [a, b]
      split
      · show f / 10 < _; omega
      · rw [if_neg (Nat.lt_irrefl _)]; show f < _; omega
    · exact sym_17 (f * 2048) 1024 (f % 2) e _ (by omega) (by omega) (by omega) (by omega) (by omega) (ok_norm e he0 (by omega)).1 (wide_norm e he0 (by omega) hz)
theorem low_17 (f z : Nat) (hz0 : 12 ≤ z) (hz1 : z ≤ 63) (h0 : 9223372036854775808 ≤ f * 2 ^ z) (h1 : (f + 1) * 2 ^ z ≤ 18446744073709551616) : (shortF (f * 2 ^ z) (-1074 - (z : Int))).1 < 100000000000000000 := by
  rw [short_low f z hz0]
  have hE := ok_sub (-1074 - (z : Int)) (by omega) (by omega)
  have hW := wide_sub (-1074 - (z : Int)) (by omega) (by omega)
  rw [show (-1075 - (-1074 - (z : Int))).toNat = z - 1 from by omega] at hW
  have hg : 2 ^ (z - 1) ≤ 4611686018427387904 := by
    have : 2 ^ (z - 1) ≤ 2 ^ 62 := Nat.pow_le_pow_right (by decide) (by omega)
    exact this
  have hg0 : 2 ^ 11 ≤ 2 ^ (z - 1) := Nat.pow_le_pow_right (by decide) (by omega)
  have e1 : (f + 1) * 2 ^ z = f * 2 ^ z + 2 ^ z := by rw [Nat.add_mul, Nat.one_mul]
  have e3 : 2 ^ z = 2 * 2 ^ (z - 1) := by rw [← Nat.pow_succ', show (z - 1).succ = z from by omega]
  rw [show (2 : Nat) ^ 11 = 2048 from by decide] at hg0
  exact sym_17 (f * 2 ^ z) (2 ^ (z - 1)) (f % 2) _ _ (by omega) (by omega) (by omega) (by omega) (by omega) hE hW
/-- EVERY FINITE FLOAT but 0. -/
theorem sd_17 (x : Nat) (h0 : x % 9223372036854775808 ≠ 0) (h1 : x % 9223372036854775808 < 9218868437227405312) : (sd x).1 < 100000000000000000 := by
  by_cases hs : x % 9223372036854775808 < 4503599627370496
  · obtain ⟨l1, l2, l3⟩ := len_bounds (x % 4503599627370496) (by omega) (by omega)
    have k52 : Lib.bitLen (x % 4503599627370496) ≤ 52 := by
      have : Lib.bitLen (x % 4503599627370496) - 1 < 52 := lt_exp (Nat.lt_of_le_of_lt l2 (by rw [show (2 : Nat) ^ 52 = 4503599627370496 from by decide]; omega))
      omega
    unfold sd
    rw [if_pos hs]
    refine low_17 (x % 4503599627370496) (64 - Lib.bitLen (x % 4503599627370496)) (by omega) (by omega) ?_ ?_
    · have := Nat.mul_le_mul_right (2 ^ (64 - Lib.bitLen (x % 4503599627370496))) l2
      rw [← Nat.pow_add, show Lib.bitLen (x % 4503599627370496) - 1 + (64 - Lib.bitLen (x % 4503599627370496)) = 63 from by omega] at this
      exact this
    · have := Nat.mul_le_mul_right (2 ^ (64 - Lib.bitLen (x % 4503599627370496))) (show x % 4503599627370496 + 1 ≤ 2 ^ Lib.bitLen (x % 4503599627370496) from l3)
      rw [← Nat.pow_add, show Lib.bitLen (x % 4503599627370496) + (64 - Lib.bitLen (x % 4503599627370496)) = 64 from by omega] at this
      exact this
  · unfold sd
    rw [if_neg hs]
    exact norm_17 (4503599627370496 + x % 4503599627370496) _ (by omega) (by omega) (by omega) (by omega)
end Go.Proofs.YtkakanejiakbkaaGreatDoor.Rl
/- THE LAW's OWN LOOP over a text. Own work of the verifier. -/
namespace Go.Proofs.YtkakanejiakbkaaGreatDoor.Rl
open Go.RowKit

end Go.Proofs.YtkakanejiakbkaaGreatDoor.Rl
