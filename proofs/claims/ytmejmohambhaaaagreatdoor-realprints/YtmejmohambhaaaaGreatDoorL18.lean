/- Compare, Same, May. Own work of the verifier. -/
import Derived.Test.YtmejmohambhaaaaGreatDoorL17
namespace Go.Proofs.YtmejmohambhaaaaGreatDoor
open Go.RowKit Go.Sort

theorem sign_bit (x : Nat) (h : x < 18446744073709551616) : bits .and .u64 (x : Int) 9223372036854775808 = ((x / 9223372036854775808 * 9223372036854775808 : Nat) : Int) := by
  have := u64_and_nat x 9223372036854775808 h (by decide)
  rw [show ((9223372036854775808 : Nat) : Int) = 9223372036854775808 from rfl] at this
  rw [this]
  congr 1
  apply Nat.eq_of_testBit_eq
  intro i
  rw [Nat.testBit_and, show (9223372036854775808 : Nat) = 2 ^ 63 from by decide, Nat.testBit_mul_two_pow, Nat.testBit_two_pow, Nat.testBit_div_two_pow]
  by_cases hi : 63 = i
  · subst hi; simp
  · rcases Nat.lt_or_ge i 63 with k | k
    · simp [hi, show ¬ 63 ≤ i from by omega]
    · have : x.testBit (i - 63 + 63) = false := Nat.testBit_lt_two_pow (Nat.lt_of_lt_of_le h (by rw [show (18446744073709551616 : Nat) = 2 ^ 64 from by decide]; exact Nat.pow_le_pow_right (by decide) (by omega)))
      simp [hi, this]
/-- One, with a float's sign. -/
def oneS (x : Nat) : Nat := x / 9223372036854775808 * 9223372036854775808 + 4607182418800017408
theorem one_or (x : Nat) (h : x < 18446744073709551616) : bits .or .u64 4607182418800017408 ((x / 9223372036854775808 * 9223372036854775808 : Nat) : Int) = ((oneS x : Nat) : Int) := by
  have := u64_or_nat 4607182418800017408 (x / 9223372036854775808 * 9223372036854775808) (by decide) (by omega)
  rw [show ((4607182418800017408 : Nat) : Int) = 4607182418800017408 from rfl] at this
  rw [this]
  unfold oneS
  congr 1
  rw [Nat.or_comm, nat_join 63 _ _ (by rw [show (2 : Nat) ^ 63 = 9223372036854775808 from by decide]; omega) (by decide)]
theorem one_not : bits .andNot .u64 4607182418800017408 9223372036854775808 = 4607182418800017408 := by decide +kernel
set_option maxHeartbeats 400000 in
theorem copysign_any (x : Nat) (h : x < 18446744073709551616) (w : World) : Calls Tryz.prog 27 #[.float .f64 4607182418800017408, .float .f64 x] w fun e w' => e = .returned (.float .f64 (oneS x)) ∧ w' = w := by
  have h1 := sign_bit x h
  have h2 := one_or x h
  have h3 := one_not
  generalize x / 9223372036854775808 * 9223372036854775808 = y at *
  generalize oneS x = z at *
  go_enter Tryz.func27, Tryz.ntmps27
  go_wp2_with (first | simp only [mf64bits] | simp only [mf64from])
  go_ret
  exact ⟨rfl, rfl⟩
/-- Where a float stands, as the document has it. -/
def rk (x : Nat) : Nat := if isN x then 0 else if 9223372036854775808 ≤ x then 18446744073709551615 - x else x + 9223372036854775808
def sg (a b : Nat) : Int := if a < b then -1 else if b < a then 1 else 0
theorem rk_nan {x : Nat} (h : isN x = true) : rk x = 0 := by unfold rk; rw [if_pos h]
theorem rk_num {x : Nat} (hx : x < 18446744073709551616) (h : isN x = false) : (rk x : Int) = if 9223372036854775808 ≤ x then 18446744073709551615 - (x : Int) else (x : Int) + 9223372036854775808 := by
  unfold rk; rw [if_neg (by rw [h]; decide)]; split <;> omega
theorem isN_oneS (x : Nat) (_hx : x < 18446744073709551616) : isN (oneS x) = false := by
  unfold isN oneS; apply decide_eq_false; omega
theorem oneS_lt (x : Nat) (hx : x < 18446744073709551616) : oneS x < 18446744073709551616 := by unfold oneS; omega
theorem nan_size {x : Nat} (h : isN x = false) : x % 9223372036854775808 ≤ 9218868437227405312 := by
  have := of_decide_eq_false h; omega
theorem cmp_rk_ne (x y : Nat) (hx : x < 18446744073709551616) (hy : y < 18446744073709551616) (h : isN x = true ∨ isN y = true ∨ ov x ≠ ov y) : cmpF x y = sg (rk x) (rk y) := by
  unfold cmpF sg
  cases hn : isN x <;> cases hm : isN y
  · have n1 := rk_num hx hn
    have n2 := rk_num hy hm
    have z1 := nan_size hn
    have z2 := nan_size hm
    have ho : ov x ≠ ov y := by rcases h with h | h | h; · rw [hn] at h; cases h
                                · rw [hm] at h; cases h
                                · exact h
    unfold ov at ho ⊢
    simp only [Bool.false_eq_true, if_false]
    generalize rk x = A at *
    generalize rk y = B at *
    split at n1 <;> split at n2 <;> split at ho <;> split at ho <;> split <;> split <;> (try split) <;> (try split) <;> omega
  · rw [rk_nan hm]
    have n1 := rk_num hx hn
    have z1 := nan_size hn
    simp only [Bool.false_eq_true, if_false, if_true]
    rw [if_neg (by omega), if_pos (by split at n1 <;> omega)]
  · rw [rk_nan hn]
    have n2 := rk_num hy hm
    have z2 := nan_size hm
    simp only [Bool.false_eq_true, if_false, if_true]
    rw [if_pos (by split at n2 <;> omega)]
  · rw [rk_nan hn, rk_nan hm]
    simp
theorem cmp_rk_eq (x y : Nat) (hx : x < 18446744073709551616) (hy : y < 18446744073709551616) (hn : isN x = false) (hm : isN y = false) (h : ov x = ov y) : cmpF (oneS x) (oneS y) = sg (rk x) (rk y) := by
  unfold cmpF sg
  rw [isN_oneS x hx, isN_oneS y hy]
  have n1 := rk_num hx hn
  have n2 := rk_num hy hm
  have z1 := nan_size hn
  have z2 := nan_size hm
  unfold ov oneS at *
  simp only [Bool.false_eq_true, if_false]
  generalize rk x = A at *
  generalize rk y = B at *
  split at n1 <;> split at n2 <;> split at h <;> split at h <;> split <;> split <;> (try split) <;> (try split) <;> (try split) <;> (try split) <;> omega
set_option maxHeartbeats 1000000 in
theorem compare_any (x y : Nat) (hx : x < 18446744073709551616) (hy : y < 18446744073709551616) (w : World) :
    Calls Tryz.prog 14 #[.float .f64 x, .float .f64 y] w fun e w' => e = .returned (.int .i64 (sg (rk x) (rk y))) ∧ w' = w := by
  by_cases h : isN x = true ∨ isN y = true ∨ ov x ≠ ov y
  · rw [← cmp_rk_ne x y hx hy h]
    have o1 : (FloatKind.f64.format.order x y == some .eq) = false := by
      cases hn : isN x
      · cases hm : isN y
        · rw [ord_num hx hy hn hm]
          rcases h with h | h | h
          · rw [hn] at h; cases h
          · rw [hm] at h; cases h
          · rcases Int.lt_trichotomy (ov x) (ov y) with k | k | k
            · rw [Int.compare_eq_lt.2 k]; decide
            · exact absurd k h
            · rw [Int.compare_eq_gt.2 k]; decide
        · rw [(ord_nan hy hm x).2]; decide
      · rw [(ord_nan hx hn y).1]; decide
    clear h
    go_enter Tryz.func14, Tryz.ntmps14
    go_wp2_with fail
    refine (cmpf_any x y hx hy w).mono ?_
    rintro e w ⟨rfl, rfl⟩
    go_wp2
    go_ret
    exact ⟨rfl, rfl⟩
  · have hn : isN x = false := by cases hh : isN x <;> simp_all
    have hm : isN y = false := by cases hh : isN y <;> simp_all
    have ho : ov x = ov y := Classical.byContradiction fun k => h (Or.inr (Or.inr k))
    rw [← cmp_rk_eq x y hx hy hn hm ho]
    have o1 : (FloatKind.f64.format.order x y == some .eq) = true := by rw [ord_num hx hy hn hm, ho]; simp
    clear h ho hn hm
    have HX : Hid _ := copysign_any x hx
    have HY : Hid _ := copysign_any y hy
    have HC : Hid _ := cmpf_any (oneS x) (oneS y) (oneS_lt x hx) (oneS_lt y hy)
    go_enter Tryz.func14, Tryz.ntmps14
    go_wp2_with (first
      | (go_at_call 27; (first | (with_reducible refine (HX.out _).mono ?_) | (with_reducible refine (HY.out _).mono ?_)); rintro e w ⟨rfl, rfl⟩)
      | (go_at_call 26; with_reducible refine (HC.out _).mono ?_; rintro e w ⟨rfl, rfl⟩)
      | fail)
    go_ret
    exact ⟨rfl, rfl⟩
end Go.Proofs.YtmejmohambhaaaaGreatDoor
