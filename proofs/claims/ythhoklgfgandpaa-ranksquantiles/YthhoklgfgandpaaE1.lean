/- exact and less: the law's own. Own work of the verifier. -/
import Derived.Test.YthhoklgfgandpaaC5
namespace Go.Proofs.Ythhoklgfgandpaa
open Go.RowKit

theorem less_w (a b c d b0 b1 d0 d1 P Q R T P0 R0 : Int) (eb0 : bits .and .u64 b 4294967295 = b0) (eb1 : b / 4294967296 = b1) (ed0 : bits .and .u64 d 4294967295 = d0) (ed1 : d / 4294967296 = d1)
    (hP : a * b0 = P) (hQ : a * b1 = Q) (hR : c * d0 = R) (hT : c * d1 = T) (eP : bits .and .u64 P 4294967295 = P0) (eR : bits .and .u64 R 4294967295 = R0)
    (p0 : 0 ≤ P) (p1 : P < 9223372036854775808) (q0 : 0 ≤ Q) (q1 : Q < 9223372036854775808) (r0 : 0 ≤ R) (r1 : R < 9223372036854775808) (t0 : 0 ≤ T) (t1 : T < 9223372036854775808) (w : World) :
    Calls Try.prog 47 #[.int .u64 a, .int .u64 b, .int .u64 c, .int .u64 d] w fun e w' =>
      e = .returned (.bool (decide (Q + P / 4294967296 < T + R / 4294967296 ∨ Q + P / 4294967296 = T + R / 4294967296 ∧ P0 ≤ R0))) ∧ w' = w := by
  rcases Int.lt_trichotomy (Q + P / 4294967296) (T + R / 4294967296) with h | h | h
  · have d1 : decide (Q + P / 4294967296 < T + R / 4294967296) = true := decide_eq_true h
    have hr : decide (Q + P / 4294967296 < T + R / 4294967296 ∨ Q + P / 4294967296 = T + R / 4294967296 ∧ P0 ≤ R0) = true := decide_eq_true (Or.inl h)
    rw [hr]
    clear hr
    go_enter Try.func47, Try.ntmps47
    go_wp2_with fail
    go_ret
    exact ⟨rfl, rfl⟩
  · have c1 : ¬ Q + P / 4294967296 < T + R / 4294967296 := by omega
    have c2 : (Q + P / 4294967296 == T + R / 4294967296) = true := by rw [beq_iff_eq]; exact h
    have hr : decide (Q + P / 4294967296 < T + R / 4294967296 ∨ Q + P / 4294967296 = T + R / 4294967296 ∧ P0 ≤ R0) = decide (P0 ≤ R0) := decide_eq_decide.2 (by omega)
    rw [hr]
    clear hr h
    go_enter Try.func47, Try.ntmps47
    go_wp2_with fail
    go_ret
    exact ⟨rfl, rfl⟩
  · have c1 : ¬ Q + P / 4294967296 < T + R / 4294967296 := by omega
    have c2 : (Q + P / 4294967296 == T + R / 4294967296) = false := by rw [beq_eq_false_iff_ne]; omega
    have hr : decide (Q + P / 4294967296 < T + R / 4294967296 ∨ Q + P / 4294967296 = T + R / 4294967296 ∧ P0 ≤ R0) = false := decide_eq_false (by omega)
    rw [hr]
    clear hr h
    go_enter Try.func47, Try.ntmps47
    go_wp2_with fail
    go_ret
    exact ⟨rfl, rfl⟩
theorem half_lt {a x : Nat} (ha : a ≤ 2147483648) (hx : x < 4294967296) : a * x < 9223372036854775808 := by
  have : a * x ≤ 2147483648 * 4294967295 := Nat.mul_le_mul ha (by omega)
  omega
theorem less_any (a b c d : Nat) (ha : a ≤ 2147483648) (hc : c ≤ 2147483648) (hb : b < 18446744073709551616) (hd : d < 18446744073709551616) (w : World) :
    Calls Try.prog 47 #[.int .u64 (a : Int), .int .u64 (b : Int), .int .u64 (c : Int), .int .u64 (d : Int)] w fun e w' => e = .returned (.bool (decide (a * b ≤ c * d))) ∧ w' = w := by
  have k1 := half_lt (x := b % 4294967296) ha (by omega)
  have k2 := half_lt (x := b / 4294967296) ha (by omega)
  have k3 := half_lt (x := d % 4294967296) hc (by omega)
  have k4 := half_lt (x := d / 4294967296) hc (by omega)
  have e1 : (a : Int) * (((b % 4294967296 : Nat) : Int)) = ((a * (b % 4294967296) : Nat) : Int) := (Int.natCast_mul _ _).symm
  have e2 : (a : Int) * (((b / 4294967296 : Nat) : Int)) = ((a * (b / 4294967296) : Nat) : Int) := (Int.natCast_mul _ _).symm
  have e3 : (c : Int) * (((d % 4294967296 : Nat) : Int)) = ((c * (d % 4294967296) : Nat) : Int) := (Int.natCast_mul _ _).symm
  have e4 : (c : Int) * (((d / 4294967296 : Nat) : Int)) = ((c * (d / 4294967296) : Nat) : Int) := (Int.natCast_mul _ _).symm
  have s1 : a * b = a * (b / 4294967296) * 4294967296 + a * (b % 4294967296) := by
    have := Nat.div_add_mod b 4294967296
    conv => lhs; rw [← this, Nat.mul_add, Nat.mul_comm 4294967296, ← Nat.mul_assoc]
  have s2 : c * d = c * (d / 4294967296) * 4294967296 + c * (d % 4294967296) := by
    have := Nat.div_add_mod d 4294967296
    conv => lhs; rw [← this, Nat.mul_add, Nat.mul_comm 4294967296, ← Nat.mul_assoc]
  refine (less_w (a : Int) (b : Int) (c : Int) (d : Int) ((b % 4294967296 : Nat) : Int) ((b / 4294967296 : Nat) : Int) ((d % 4294967296 : Nat) : Int) ((d / 4294967296 : Nat) : Int) _ _ _ _ (((a * (b % 4294967296)) % 4294967296 : Nat) : Int) (((c * (d % 4294967296)) % 4294967296 : Nat) : Int)
    (by rw [low32m _ (by omega) (by omega)]; omega) (by omega) (by rw [low32m _ (by omega) (by omega)]; omega) (by omega) e1 e2 e3 e4 (by rw [low32m _ (by omega) (by omega)]; omega) (by rw [low32m _ (by omega) (by omega)]; omega) (by omega) (by omega) (by omega) (by omega) (by omega) (by omega) (by omega) (by omega) w).mono ?_
  rintro e w' ⟨rfl, rfl⟩
  refine ⟨retB (decide_eq_decide.2 ?_), rfl⟩
  rw [s1, s2]
  generalize a * (b / 4294967296) = Q at *
  generalize a * (b % 4294967296) = P at *
  generalize c * (d / 4294967296) = T at *
  generalize c * (d % 4294967296) = R at *
  omega
end Go.Proofs.Ythhoklgfgandpaa
