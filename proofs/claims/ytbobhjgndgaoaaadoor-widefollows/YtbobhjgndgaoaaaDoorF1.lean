/- math.Ldexp AT A NORMAL FLOAT. Own work of the verifier. -/
import Derived.Test.YtbobhjgndgaoaaaDoorLeaf
import Derived.Test.YtbobhjgndgaoaaaDoorFloatMath
import Derived.Laws.BitsAllLaws
namespace Go.Proofs.YtbobhjgndgaoaaaDoor
open Go.RowKit

theorem f64bits (x : Nat) (w : World) : (callFunc 28 #[.float .f64 x]).run Tryd.prog w = .ok (.value (.int .u64 (x : Int))) w := by
  rw [run_callFunc_extern Tryd.func28 (by kernel_rfl) (by kernel_rfl) (by kernel_rfl) (e := Extern.MathFloatBits.float64bits) (by kernel_rfl)]
  rfl
theorem f64from (x : Int) (w : World) : (callFunc 68 #[.int .u64 x]).run Tryd.prog w = .ok (.value (.float .f64 x.toNat)) w := by
  rw [run_callFunc_extern Tryd.func68 (by kernel_rfl) (by kernel_rfl) (by kernel_rfl) (e := Extern.MathFloatBits.float64frombits) (by kernel_rfl)]
  rfl
theorem clear_sign (x : Nat) (h : x < 9223372036854775808) : bits .andNot .u64 (x : Int) 9223372036854775808 = (x : Int) := by
  have := u64_andNot_nat x 9223372036854775808 (by omega) (by decide)
  rw [show ((9223372036854775808 : Nat) : Int) = 9223372036854775808 from rfl] at this
  rw [this, show 18446744073709551615 - 9223372036854775808 = 2 ^ 63 - 1 from by decide, Nat.and_two_pow_sub_one_eq_mod]
  omega
theorem ord_gt {x y : Nat} (hx : x < 9218868437227405312) (hy : y < 9218868437227405312) (h : y < x) : FloatKind.f64.format.order x y = some .gt := by
  have := order_pos x y hx hy
  rw [Nat.compare_eq_gt.2 h] at this
  exact this
theorem ord_lt {x y : Nat} (hx : x < 9218868437227405312) (hy : y < 9218868437227405312) (h : x < y) : FloatKind.f64.format.order x y = some .lt := by
  have := order_pos x y hx hy
  rw [Nat.compare_eq_lt.2 h] at this
  exact this
theorem ord_eq {x : Nat} (hx : x < 9218868437227405312) : FloatKind.f64.format.order x x = some .eq := by
  have := order_pos x x hx hx
  rw [Nat.compare_eq_eq.2 rfl] at this
  exact this
theorem beq_gt_eq : (some Ordering.gt == some Ordering.eq) = false := by decide
set_option maxHeartbeats 400000 in
theorem abs_any (x : Nat) (h : x < 9223372036854775808) (w : World) : Calls Tryd.prog 77 #[.float .f64 x] w fun e w' => e = .returned (.float .f64 x) ∧ w' = w := by
  have hc := clear_sign x h
  go_enter Tryd.func77, Tryd.ntmps77
  go_wp2_with (first | simp only [f64bits] | simp only [f64from])
  go_ret
  exact ⟨rfl, rfl⟩
set_option maxHeartbeats 400000 in
theorem isinf_any (x : Nat) (h : x < 9218868437227405312) (w : World) : Calls Tryd.prog 63 #[.float .f64 x, .int .i64 0] w fun e w' => e = .returned (.bool false) ∧ w' = w := by
  have o1 : (FloatKind.f64.format.order x 9218868437227405311 == some .gt) = false := by
    rcases Nat.lt_or_eq_of_le (show x ≤ 9218868437227405311 by omega) with k | k
    · rw [ord_lt h (by decide) k]; decide
    · rw [k, ord_eq (by decide)]; decide
  go_enter Tryd.func63, Tryd.ntmps63
  go_wp2_with (go_at_call 77; refine (abs_any x (by omega) _).mono ?_; rintro e w' ⟨rfl, rfl⟩)
  go_ret
  exact ⟨rfl, rfl⟩
set_option maxHeartbeats 400000 in
theorem isnan_any (x : Nat) (h : x < 9218868437227405312) (w : World) : Calls Tryd.prog 64 #[.float .f64 x] w fun e w' => e = .returned (.bool false) ∧ w' = w := by
  have o1 : (FloatKind.f64.format.order x x != some .eq) = false := by rw [ord_eq h]; decide
  go_enter Tryd.func64, Tryd.ntmps64
  go_wp2
  go_ret
  exact ⟨rfl, rfl⟩
set_option maxHeartbeats 400000 in
theorem normalize_any (x : Nat) (hx : 4503599627370496 ≤ x) (h : x < 9218868437227405312) (w : World) : Calls Tryd.prog 65 #[.float .f64 x] w fun e w' => e = .returned (.tuple #[.float .f64 x, .int .i64 0]) ∧ w' = w := by
  have o1 : (FloatKind.f64.format.order x 4503599627370496 == some .lt) = false := by
    rcases Nat.lt_or_eq_of_le hx with k | k
    · rw [ord_gt h (by decide) k]; decide
    · rw [← k, ord_eq (by decide)]; decide
  go_enter Tryd.func65, Tryd.ntmps65
  go_wp2_with (go_at_call 77; refine (abs_any x (by omega) _).mono ?_; rintro e w' ⟨rfl, rfl⟩)
  go_ret2
  exact ⟨rfl, rfl⟩
theorem exp_field (x : Nat) (h : x < 9218868437227405312) : bits .and .i64 ((x : Int) / 4503599627370496) 2047 = ((x / 4503599627370496 : Nat) : Int) := by
  have e : ((x : Int) / 4503599627370496) = ((x / 4503599627370496 : Nat) : Int) := by omega
  rw [e]
  show IntKind.i64.wrap ((BitVec.ofInt 64 ((x / 4503599627370496 : Nat) : Int) &&& BitVec.ofInt 64 ((2047 : Nat) : Int)).toNat : Int) = _
  rw [BitVec.toNat_and, ofInt_u64 _ (by omega), ofInt_u64 _ (by decide), show (2047 : Nat) = 2 ^ 11 - 1 from by decide, Nat.and_two_pow_sub_one_eq_mod, IntKind.wrap_i64]
  omega
theorem frac_field (x : Nat) (h : x < 9218868437227405312) : bits .andNot .u64 (x : Int) 9218868437227405312 = ((x % 4503599627370496 : Nat) : Int) := by
  have := u64_andNot_nat x 9218868437227405312 (by omega) (by decide)
  rw [show ((9218868437227405312 : Nat) : Int) = 9218868437227405312 from rfl] at this
  rw [this]
  congr 1
  have e1 : 18446744073709551615 - 9218868437227405312 = 2 ^ 63 + (2 ^ 52 - 1) := by decide
  rw [e1]
  apply Nat.eq_of_testBit_eq
  intro i
  rw [Nat.testBit_and, show (4503599627370496 : Nat) = 2 ^ 52 from by decide, Nat.testBit_mod_two_pow]
  by_cases hi : i < 52
  · have : (2 ^ 63 + (2 ^ 52 - 1)).testBit i = true := by
      rw [show 2 ^ 63 + (2 ^ 52 - 1) = 2 ^ 63 ||| (2 ^ 52 - 1) from by decide, Nat.testBit_or, Nat.testBit_two_pow_sub_one]
      simp [hi]
    rw [this]; simp [hi]
  · by_cases hb : i < 63
    · have : (2 ^ 63 + (2 ^ 52 - 1)).testBit i = false := by
        rw [show 2 ^ 63 + (2 ^ 52 - 1) = 2 ^ 63 ||| (2 ^ 52 - 1) from by decide, Nat.testBit_or, Nat.testBit_two_pow_sub_one, Nat.testBit_two_pow_of_ne (by omega)]
        simp [hi]
      rw [this]; simp [hi]
    · have : x.testBit i = false := Nat.testBit_lt_two_pow (Nat.lt_of_lt_of_le (show x < 2 ^ 63 by omega) (Nat.pow_le_pow_right (by decide) (by omega)))
      rw [this]; simp
set_option maxHeartbeats 1000000 in
set_option maxRecDepth 100000 in
theorem ldexp_w (x j E f Y : Nat) (hx : 4503599627370496 ≤ x) (hx2 : x < 9218868437227405312) (hE1 : 1 ≤ E) (hj : E + j ≤ 2046) (w : World)
    (e1 : bits .and .i64 ((x : Int) / 4503599627370496) 2047 = (E : Int)) (e2 : bits .andNot .u64 (x : Int) 9218868437227405312 = (f : Int))
    (e3 : bits .or .u64 (f : Int) (((j : Int) + ((E : Int) - 1023) + 1023) * 4503599627370496) = (Y : Int)) (hm : floatBits .mul .f64 4607182418800017408 Y = some Y) :
    Calls Tryd.prog 54 #[.float .f64 x, .int .i64 j] w fun e w' => e = .returned (.float .f64 Y) ∧ w' = w := by
  have o1 : (FloatKind.f64.format.order x 0 == some .eq) = false := by rw [ord_gt hx2 (by decide) (by omega)]; decide
  have m1 : ∀ W, (binOp .mul 39 (.float .f64 4607182418800017408) (.float .f64 Y)).run Tryd.prog W = .ok (.float .f64 Y) W := fun W => run_float_arith W .mul 39 .f64 _ _ _ hm
  clear hm
  go_enter Tryd.func54, Tryd.ntmps54
  go_wp2_with (first
    | simp only [f64bits]
    | simp only [f64from]
    | (go_at_call 63; refine (isinf_any x hx2 _).mono ?_; rintro e w' ⟨rfl, rfl⟩)
    | (go_at_call 64; refine (isnan_any x hx2 _).mono ?_; rintro e w' ⟨rfl, rfl⟩)
    | (go_at_call 65; refine (normalize_any x hx hx2 _).mono ?_; rintro e w' ⟨rfl, rfl⟩))
  go_ret
  exact ⟨rfl, rfl⟩
theorem join_fields (f E : Nat) (hf : f < 4503599627370496) (hE : E ≤ 2046) : bits .or .u64 (f : Int) ((E : Int) * 4503599627370496) = ((E * 4503599627370496 + f : Nat) : Int) := by
  have := u64_or_nat f (E * 4503599627370496) (by omega) (by omega)
  rw [show ((E * 4503599627370496 : Nat) : Int) = (E : Int) * 4503599627370496 from by omega] at this
  rw [this, Nat.or_comm, nat_join 52 _ _ (by rw [show (2 : Nat) ^ 52 = 4503599627370496 from by decide]; omega) (by rw [show (2 : Nat) ^ 52 = 4503599627370496 from by decide]; exact hf)]
theorem ldexp_any (x j : Nat) (hx : 4503599627370496 ≤ x) (hx2 : x < 9218868437227405312) (hj : x / 4503599627370496 + j ≤ 2046) (w : World) :
    Calls Tryd.prog 54 #[.float .f64 x, .int .i64 j] w fun e w' => e = .returned (.float .f64 (x + j * 4503599627370496)) ∧ w' = w := by
  have hY := join_fields (x % 4503599627370496) (x / 4503599627370496 + j) (by omega) hj
  rw [show (x / 4503599627370496 + j) * 4503599627370496 + x % 4503599627370496 = x + j * 4503599627370496 from by omega] at hY
  refine ldexp_w x j (x / 4503599627370496) (x % 4503599627370496) _ hx hx2 (by omega) hj w (exp_field x hx2) (frac_field x hx2) ?_ (mul_one_pos _ (by omega) (by omega))
  rw [show ((j : Int) + (((x / 4503599627370496 : Nat) : Int) - 1023) + 1023) = ((x / 4503599627370496 + j : Nat) : Int) from by omega]
  exact hY
set_option maxHeartbeats 400000 in
theorem ldexp_zero (j : Int) (w : World) : Calls Tryd.prog 54 #[.float .f64 0, .int .i64 j] w fun e w' => e = .returned (.float .f64 0) ∧ w' = w := by
  have o1 : (FloatKind.f64.format.order 0 0 == some .eq) = true := by rw [ord_eq (by decide)]; decide
  go_enter Tryd.func54, Tryd.ntmps54
  go_wp2
  go_ret
  exact ⟨rfl, rfl⟩
set_option maxHeartbeats 400000 in
theorem Ldexp_of (x Y : Nat) (j : Int) (h : ∀ W, Calls Tryd.prog 54 #[.float .f64 x, .int .i64 j] W fun e w' => e = .returned (.float .f64 Y) ∧ w' = W) (w : World) :
    Calls Tryd.prog 44 #[.float .f64 x, .int .i64 j] w fun e w' => e = .returned (.float .f64 Y) ∧ w' = w := by
  have H : Hid _ := h
  clear h
  go_enter Tryd.func44, Tryd.ntmps44
  go_wp2_with fail
  refine (H.out _).mono ?_
  rintro e w' ⟨rfl, rfl⟩
  go_wp2
  go_ret
  exact ⟨rfl, rfl⟩
end Go.Proofs.YtbobhjgndgaoaaaDoor
