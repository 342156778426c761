/- exact: the law's own. Own work of the verifier. -/
import Derived.Test.YthhoklgfgandpaaE1
namespace Go.Proofs.Ythhoklgfgandpaa
open Go.RowKit

theorem rkN_exact (n num den : Nat) (h3 : 1 ≤ den) : n * num ≤ rkN n num den * den ∧ (rkN n num den = 1 ∨ ¬ n * num ≤ (rkN n num den - 1) * den) := by
  have hd := Nat.div_add_mod (n * num) den
  have hm := Nat.mod_lt (n * num) (show den > 0 by omega)
  unfold rkN
  generalize n * num / den = q at *
  generalize n * num % den = r at *
  rw [Nat.mul_comm] at hd
  by_cases h : 0 < r
  · rw [if_pos h, Nat.max_eq_left (by omega)]
    refine ⟨by rw [Nat.add_mul]; omega, Or.inr ?_⟩
    rw [Nat.add_sub_cancel]
    omega
  · rw [if_neg h]
    rcases Nat.eq_zero_or_pos q with e | e
    · subst e
      exact ⟨by simp; omega, Or.inl rfl⟩
    · rw [Nat.max_eq_left e]
      refine ⟨by omega, ?_⟩
      by_cases e1 : q = 1
      · exact Or.inl e1
      · right
        rw [Nat.sub_mul]
        have : den ≤ q * den := Nat.le_mul_of_pos_left _ e
        omega
theorem exact_many (r n num den : Int) (h : 2147483648 < n) (w : World) : Calls Try.prog 26 #[.int .u64 r, .int .u64 n, .int .u64 num, .int .u64 den] w fun e w' => e = .returned (.bool true) ∧ w' = w := by
  go_enter Try.func26, Try.ntmps26
  go_wp2_with fail
  go_ret
  exact ⟨rfl, rfl⟩
theorem exact_few (n num den r : Nat) (h1 : 1 ≤ n) (hn : n ≤ 2147483648) (h2 : num ≤ den) (h3 : 1 ≤ den) (h4 : den < 9223372036854775808) (hr : r = rkN n num den) (w : World) :
    Calls Try.prog 26 #[.int .u64 (r : Int), .int .u64 (n : Int), .int .u64 (num : Int), .int .u64 (den : Int)] w fun e w' => e = .returned (.bool true) ∧ w' = w := by
  obtain ⟨x1, x2⟩ := rkN_exact n num den h3
  have hle := (rkN_le (n := n) h1 h2 h3).1
  have hr1 : 1 ≤ r := by rw [hr]; unfold rkN; omega
  rw [← hr] at x1 x2 hle
  have HL : Hid (∀ W, _) := less_any n num r den hn (by omega) (by omega) (by omega)
  rw [decide_eq_true x1] at HL
  have c1 : ¬ (2147483648 : Int) < (n : Int) := by omega
  clear hr
  by_cases e : r = 1
  · have e1 : ((r : Int) == 1) = true := by rw [e]; rfl
    clear x1 x2 e
    go_enter Try.func26, Try.ntmps26
    go_wp2_with (go_at_call 47; with_reducible refine (HL.out _).mono ?_; rintro e w1 ⟨rfl, rfl⟩)
    go_ret
    exact ⟨rfl, rfl⟩
  · have x3 : ¬ n * num ≤ (r - 1) * den := by rcases x2 with h | h; exact absurd h e; exact h
    have HK : Hid (∀ W, _) := less_any n num (r - 1) den hn (by omega) (by omega) (by omega)
    rw [decide_eq_false x3] at HK
    have e1 : ((r : Int) == 1) = false := by rw [beq_eq_false_iff_ne]; omega
    have hw : IntKind.u64.wrap ((r : Int) - 1) = ((r - 1 : Nat) : Int) := by rw [IntKind.wrap_u64]; omega
    clear x1 x2 x3 e
    generalize r - 1 = s at *
    go_enter Try.func26, Try.ntmps26
    go_wp2_with (go_at_call 47; (first | (with_reducible refine (HL.out _).mono ?_) | (with_reducible refine (HK.out _).mono ?_)); rintro e w1 ⟨rfl, rfl⟩)
    go_ret
    exact ⟨rfl, rfl⟩
end Go.Proofs.Ythhoklgfgandpaa
