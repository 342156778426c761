/- PRODUCTS AND QUOTIENTS: the document's. Own work of the verifier. -/
import Derived.Test.YtbobhjgndgaoaaaDoorT8
import Derived.Test.YtbobhjgndgaoaaaDoorPartArith
namespace Go.Proofs.YtbobhjgndgaoaaaDoor
open Go.RowKit Go.Sort

set_option maxHeartbeats 1000000 in
set_option maxRecDepth 100000 in
theorem refmul_w (a b a1 a0 b1 b0 P0 P1 P2 P3 M0 M1 : Int) (ea1 : a / 4294967296 = a1) (ea0 : bits .and .u64 a 4294967295 = a0) (eb1 : b / 4294967296 = b1) (eb0 : bits .and .u64 b 4294967295 = b0)
    (e0 : a0 * b0 = P0) (e1 : a1 * b0 = P1) (e2 : a0 * b1 = P2) (e3 : a1 * b1 = P3)
    (m0 : bits .and .u64 P0 4294967295 = M0) (m1 : bits .and .u64 (P1 + P0 / 4294967296) 4294967295 = M1)
    (p00 : 0 ≤ P0) (p01 : P0 ≤ 18446744065119617025) (p10 : 0 ≤ P1) (p11 : P1 ≤ 18446744065119617025) (p20 : 0 ≤ P2) (p21 : P2 ≤ 18446744065119617025) (p30 : 0 ≤ P3) (p31 : P3 ≤ 18446744065119617025)
    (m10 : 0 ≤ M1) (m11 : M1 < 4294967296) (w : World) :
    Calls Tryd.prog 32 #[.int .u64 a, .int .u64 b] w fun e w' =>
      e = .returned (.tuple #[.int .u64 (P3 + (P1 + P0 / 4294967296) / 4294967296 + (P2 + M1) / 4294967296), .int .u64 (IntKind.u64.wrap (IntKind.u64.wrap ((P2 + M1) * 4294967296) + M0))]) ∧ w' = w := by
  go_enter Tryd.func32, Tryd.ntmps32
  go_wp2
  go_ret2
  exact ⟨rfl, rfl⟩
theorem refmul_any (x y : Int) (hx0 : 0 ≤ x) (hx : x < 18446744073709551616) (hy0 : 0 ≤ y) (hy : y < 18446744073709551616) (w : World) :
    Calls Tryd.prog 32 #[.int .u64 x, .int .u64 y] w fun e w' => e = .returned (.tuple #[.int .u64 (hiOf (x * y)), .int .u64 (loOf (x * y))]) ∧ w' = w := by
  have k0 := half_mul (x := x % 4294967296) (y := y % 4294967296) (by omega) (by omega) (by omega) (by omega)
  have k1 := half_mul (x := x / 4294967296) (y := y % 4294967296) (by omega) (by omega) (by omega) (by omega)
  have k2 := half_mul (x := x % 4294967296) (y := y / 4294967296) (by omega) (by omega) (by omega) (by omega)
  have k3 := half_mul (x := x / 4294967296) (y := y / 4294967296) (by omega) (by omega) (by omega) (by omega)
  have e := mul_halves (a := x) (b := y) (a1 := x / 4294967296) (a0 := x % 4294967296) (b1 := y / 4294967296) (b0 := y % 4294967296) (by omega) (by omega)
  refine (refmul_w x y _ _ _ _ _ _ _ _ _ _ rfl (low32 x hx0 hx) rfl (low32 y hy0 hy) rfl rfl rfl rfl (low32 _ k0.1 (by omega)) (low32 _ (by omega) (by omega)) k0.1 k0.2 k1.1 k1.2 k2.1 k2.2 k3.1 k3.2 (by omega) (by omega) w).mono ?_
  rintro e' w' ⟨rfl, rfl⟩
  refine ⟨?_, rfl⟩
  rw [e]
  generalize x / 4294967296 * (y / 4294967296) = p at *
  generalize x / 4294967296 * (y % 4294967296) = q at *
  generalize x % 4294967296 * (y / 4294967296) = r at *
  generalize x % 4294967296 * (y % 4294967296) = s at *
  have f1 : p + (q + s / 4294967296) / 4294967296 + (r + (q + s / 4294967296) % 4294967296) / 4294967296 = hiOf (p * 18446744073709551616 + (q + r) * 4294967296 + s) := by unfold hiOf; omega
  have f2 : IntKind.u64.wrap (IntKind.u64.wrap ((r + (q + s / 4294967296) % 4294967296) * 4294967296) + s % 4294967296) = loOf (p * 18446744073709551616 + (q + r) * 4294967296 + s) := by
    simp only [IntKind.wrap_u64]; unfold loOf; omega
  rw [f1, f2]

set_option maxHeartbeats 1000000 in
theorem div_any (hi lo y : Int) (h0 : 0 ≤ hi) (h1 : 0 ≤ lo) (h2 : lo < 18446744073709551616) (h3 : hi < y) (h4 : y < 18446744073709551616) (w : World) :
    Calls Tryd.prog 33 #[.int .u64 hi, .int .u64 lo, .int .u64 y] w fun e w' =>
      e = .returned (.tuple #[.int .u64 ((hi * 18446744073709551616 + lo) / y), .int .u64 ((hi * 18446744073709551616 + lo) % y), .int .i64 0]) ∧ Below w.heap.size w w' := by
  have hz : (y == 0) = false := by rw [beq_eq_false_iff_ne]; omega
  have HD : Hid _ := div64_any hi lo y h0 h1 h2 h3 h4
  generalize (hi * 18446744073709551616 + lo) / y = q at *
  generalize (hi * 18446744073709551616 + lo) % y = r at *
  go_enter Tryd.func33, Tryd.ntmps33
  go_wp2_with fail
  refine (HD.out _).mono ?_
  rintro e w1 ⟨rfl, k, rfl⟩
  go_wp2
  go_ret3
  exact ⟨rfl, Below.drewN' (Below.refl _ _) k⟩
set_option maxHeartbeats 400000 in
theorem div_zero (hi lo : Int) (w : World) :
    Calls Tryd.prog 33 #[.int .u64 hi, .int .u64 lo, .int .u64 0] w fun e w' => e = .returned (.tuple #[.int .u64 0, .int .u64 0, .int .i64 1]) ∧ Below w.heap.size w w' := by
  go_enter Tryd.func33, Tryd.ntmps33
  go_wp2
  go_ret3
  exact ⟨rfl, Below.refl _ _⟩
set_option maxHeartbeats 400000 in
theorem div_range (hi lo y : Int) (h0 : 0 < y) (h : y ≤ hi) (w : World) :
    Calls Tryd.prog 33 #[.int .u64 hi, .int .u64 lo, .int .u64 y] w fun e w' => e = .returned (.tuple #[.int .u64 0, .int .u64 0, .int .i64 2]) ∧ Below w.heap.size w w' := by
  have hz : (y == 0) = false := by rw [beq_eq_false_iff_ne]; omega
  go_enter Tryd.func33, Tryd.ntmps33
  go_wp2
  go_ret3
  exact ⟨rfl, Below.refl _ _⟩
set_option maxHeartbeats 400000 in
theorem refdiv_zero (hi lo : Int) (w : World) :
    Calls Tryd.prog 34 #[.int .u64 hi, .int .u64 lo, .int .u64 0] w fun e w' => e = .returned (.tuple #[.int .u64 0, .int .u64 0, .int .i64 1]) ∧ Below w.heap.size w w' := by
  go_enter Tryd.func34, Tryd.ntmps34
  go_wp2
  go_ret3
  exact ⟨rfl, Below.refl _ _⟩
set_option maxHeartbeats 400000 in
theorem refdiv_range (hi lo y : Int) (h0 : 0 < y) (h : y ≤ hi) (w : World) :
    Calls Tryd.prog 34 #[.int .u64 hi, .int .u64 lo, .int .u64 y] w fun e w' => e = .returned (.tuple #[.int .u64 0, .int .u64 0, .int .i64 2]) ∧ Below w.heap.size w w' := by
  have hz : (y == 0) = false := by rw [beq_eq_false_iff_ne]; omega
  go_enter Tryd.func34, Tryd.ntmps34
  go_wp2
  go_ret3
  exact ⟨rfl, Below.refl _ _⟩
end Go.Proofs.YtbobhjgndgaoaaaDoor
