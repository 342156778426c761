/- THE LEAVES: words and signs. Own work of the verifier. -/
import Derived.Test.YtdlaloakochfeaaSoftMath6
import Derived.Test.YtdlaloakochfeaaRows
import Derived.WalkKit
import Derived.WalkSpells
import Derived.RowKit3
import Derived.Below
import Derived.Laws.Externs
import Derived.Outline
import Derived.Deep.QuietTactic
import Derived.Deep.Draws
import Derived.BigQuiet
import Derived.Laws.Bits64
import Derived.Laws.BitsAllLaws
import Derived.Laws.ComplexArith
import Derived.Deep.DeepCutAuto
import Derived.Deep.RegionHeld3
namespace Go.Proofs.Ytdlaloakochfeaa
open Go.RowKit Soft

theorem retI {k : IntKind} {A B : Int} (h : A = B) : Ending.returned (Value.int k A) = .returned (.int k B) := by rw [h]
theorem retII {k l : IntKind} {A B C D : Int} (h : A = B) (h2 : C = D) : Ending.returned (Value.tuple #[.int k A, .int l C]) = .returned (.tuple #[.int k B, .int l D]) := by rw [h, h2]
theorem retB {A B : Bool} (h : A = B) : Ending.returned (Value.bool A) = .returned (.bool B) := by rw [h]
theorem mf64bits (x : Nat) (w : World) : (callFunc 13 #[.float .f64 x]).run Try.prog w = .ok (.value (.int .u64 (x : Int))) w := by
  rw [run_callFunc_extern Try.func13 (by kernel_rfl) (by kernel_rfl) (by kernel_rfl) (e := Extern.MathFloatBits.float64bits) (by kernel_rfl)]
  rfl
theorem mf64from (x : Int) (w : World) : (callFunc 18 #[.int .u64 x]).run Try.prog w = .ok (.value (.float .f64 x.toNat)) w := by
  rw [run_callFunc_extern Try.func18 (by kernel_rfl) (by kernel_rfl) (by kernel_rfl) (e := Extern.MathFloatBits.float64frombits) (by kernel_rfl)]
  rfl
theorem clear_sign (x : Nat) (h : x < 18446744073709551616) : bits .andNot .u64 (x : Int) 9223372036854775808 = ((x % 9223372036854775808 : Nat) : Int) := by
  have := u64_andNot_nat x 9223372036854775808 (by omega) (by decide)
  rw [show ((9223372036854775808 : Nat) : Int) = 9223372036854775808 from rfl] at this
  rw [this, show 18446744073709551615 - 9223372036854775808 = 2 ^ 63 - 1 from by decide, Nat.and_two_pow_sub_one_eq_mod]
theorem or_sign (x : Nat) (h : x < 9223372036854775808) : bits .or .u64 (x : Int) 9223372036854775808 = ((9223372036854775808 + x : Nat) : Int) := by
  have := u64_or_nat x 9223372036854775808 (by omega) (by decide)
  rw [show ((9223372036854775808 : Nat) : Int) = 9223372036854775808 from rfl] at this
  rw [this, Nat.or_comm, nat_join 63 _ _ (by decide) (by rw [show (2 : Nat) ^ 63 = 9223372036854775808 from by decide]; exact h)]
theorem sign_bit (x : Nat) (h : x < 18446744073709551616) : bits .and .u64 (x : Int) 9223372036854775808 = ((x / 9223372036854775808 * 9223372036854775808 : Nat) : Int) := by
  have := u64_and_nat x 9223372036854775808 h (by decide)
  rw [show ((9223372036854775808 : Nat) : Int) = 9223372036854775808 from rfl] at this
  rw [this, show (9223372036854775808 : Nat) = 2 ^ 63 from by decide, nat_bit, Nat.mod_eq_of_lt (by rw [show (2 : Nat) ^ 63 = 9223372036854775808 from by decide]; omega)]
theorem flip_sign (x : Nat) (h : x < 18446744073709551616) : bits .xor .u64 (x : Int) 9223372036854775808 = ((neg x : Nat) : Int) := by
  have := u64_xor_nat x 9223372036854775808 h (by decide)
  rw [show ((9223372036854775808 : Nat) : Int) = 9223372036854775808 from rfl] at this
  rw [this]
  congr 1
  have e1 : x / 2 ^ 63 = x / 9223372036854775808 := rfl
  have key : (x ^^^ 9223372036854775808) % 2 ^ 63 = x % 2 ^ 63 ∧ (x ^^^ 9223372036854775808) / 2 ^ 63 = (x / 2 ^ 63) ^^^ 1 := by
    refine ⟨?_, ?_⟩
    · rw [Nat.xor_mod_two_pow]; simp
    · rw [Nat.xor_div_two_pow]
  obtain ⟨k1, k2⟩ := key
  have k3 : x / 2 ^ 63 = 0 ∨ x / 2 ^ 63 = 1 := by rw [e1]; omega
  have e63 : (2 : Nat) ^ 63 = 9223372036854775808 := by decide
  rw [e63] at k1 k2 k3
  unfold neg
  rcases k3 with k | k
  · rw [k] at k2; rw [if_neg (by omega)]; have : (0 ^^^ 1 : Nat) = 1 := by decide
    omega
  · rw [k] at k2; rw [if_pos (by omega)]; have : (1 ^^^ 1 : Nat) = 0 := by decide
    omega
theorem fr_field (x : Nat) (h : x < 18446744073709551616) : bits .and .u64 (x : Int) 4503599627370495 = ((x % 4503599627370496 : Nat) : Int) := by
  have := u64_and_nat x 4503599627370495 h (by decide)
  rw [show ((4503599627370495 : Nat) : Int) = 4503599627370495 from rfl] at this
  rw [this, show (4503599627370495 : Nat) = 2 ^ 52 - 1 from by decide, Nat.and_two_pow_sub_one_eq_mod]
theorem hid_bit (f : Nat) (h : f < 4503599627370496) : bits .or .u64 (f : Int) 4503599627370496 = ((4503599627370496 + f : Nat) : Int) := by
  have := u64_or_nat f 4503599627370496 (by omega) (by decide)
  rw [show ((4503599627370496 : Nat) : Int) = 4503599627370496 from rfl] at this
  rw [this, Nat.or_comm, nat_join 52 _ _ (by decide) (by rw [show (2 : Nat) ^ 52 = 4503599627370496 from by decide]; exact h)]
theorem exu_field (x : Nat) (h : x < 18446744073709551616) : bits .and .u64 ((x : Int) / 4503599627370496) 2047 = ((x / 4503599627370496 % 2048 : Nat) : Int) := by
  have e : ((x : Int) / 4503599627370496) = ((x / 4503599627370496 : Nat) : Int) := by omega
  have := u64_and_nat (x / 4503599627370496) 2047 (by omega) (by decide)
  rw [show ((2047 : Nat) : Int) = 2047 from rfl] at this
  rw [e, this, show (2047 : Nat) = 2 ^ 11 - 1 from by decide, Nat.and_two_pow_sub_one_eq_mod]
theorem and_one (n : Nat) (h : n < 18446744073709551616) : bits .and .u64 (n : Int) 1 = ((n % 2 : Nat) : Int) := by
  have := u64_and_nat n 1 h (by decide)
  rw [show ((1 : Nat) : Int) = 1 from rfl] at this
  rw [this, nat_mask1]
theorem and_seven (n : Nat) (h : n < 18446744073709551616) : bits .and .u64 (n : Int) 7 = ((n % 8 : Nat) : Int) := by
  have := u64_and_nat n 7 h (by decide)
  rw [show ((7 : Nat) : Int) = 7 from rfl] at this
  rw [this, nat_mask3]

theorem abs_any (x : Nat) (h : x < 18446744073709551616) (w : World) : Calls Try.prog 27 #[.float .f64 x] w fun e w' => e = .returned (.float .f64 (x % 9223372036854775808)) ∧ w' = w := by
  have hc := clear_sign x h
  generalize x % 9223372036854775808 = y at *
  go_enter Try.func27, Try.ntmps27
  go_wp2_with (first | simp only [mf64bits] | simp only [mf64from])
  go_ret
  exact ⟨rfl, rfl⟩
theorem may_any (x : Nat) (h : x < 18446744073709551616) (w : World) :
    Calls Try.prog 15 #[.int .u64 (x : Int)] w fun e w' => e = .returned (.bool (decide (x % 9223372036854775808 ≤ 8930638061075693568))) ∧ w' = w := by
  have hc := clear_sign x h
  generalize x % 9223372036854775808 = y at *
  go_enter Try.func15, Try.ntmps15
  go_wp2
  go_ret
  exact ⟨retB (decide_eq_decide.2 (by omega)), rfl⟩
theorem negative_any (x : Nat) (h : x < 18446744073709551616) (w : World) :
    Calls Try.prog 21 #[.int .u64 (x : Int)] w fun e w' => e = .returned (.int .u64 (neg x : Int)) ∧ w' = w := by
  have hc := flip_sign x h
  go_enter Try.func21, Try.ntmps21
  go_wp2
  go_ret
  exact ⟨rfl, rfl⟩
theorem parts_any (x : Nat) (h : x < 18446744073709551616) (w : World) :
    Calls Try.prog 28 #[.int .u64 (x : Int)] w fun e w' => e = .returned (.tuple #[.int .u64 (magOf (x % 9223372036854775808) : Nat), .int .i64 (-1074 + (upOf (x % 9223372036854775808) : Nat))]) ∧ w' = w := by
  have h1 := exu_field x h
  have h2 := fr_field x h
  have h3 := hid_bit (x % 4503599627370496) (by omega)
  by_cases k : x / 4503599627370496 % 2048 = 0
  · rw [k] at h1
    have e1 : magOf (x % 9223372036854775808) = x % 4503599627370496 := by unfold magOf; rw [if_pos (by omega)]; omega
    have e2 : upOf (x % 9223372036854775808) = 0 := by unfold upOf; rw [if_pos (by omega)]
    rw [e1, e2]
    clear e1 e2 k h3
    generalize x % 4503599627370496 = f at *
    go_enter Try.func28, Try.ntmps28
    go_wp2
    go_ret2
    exact ⟨rfl, rfl⟩
  · have e1 : magOf (x % 9223372036854775808) = 4503599627370496 + x % 4503599627370496 := by unfold magOf; rw [if_neg (by omega)]; omega
    have e2 : upOf (x % 9223372036854775808) = x / 4503599627370496 % 2048 - 1 := by unfold upOf; rw [if_neg (by omega)]; omega
    rw [e1, e2]
    have k2 : x / 4503599627370496 % 2048 < 2048 := by omega
    clear e1 e2
    generalize x % 4503599627370496 = f at *
    generalize x / 4503599627370496 % 2048 = E at *
    go_enter Try.func28, Try.ntmps28
    go_wp2
    go_ret2
    exact ⟨retII (by omega) (by omega), rfl⟩
end Go.Proofs.Ytdlaloakochfeaa
