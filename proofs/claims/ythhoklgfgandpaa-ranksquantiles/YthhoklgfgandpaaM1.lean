/- PRODUCTS AND QUOTIENTS, the document's, once more. Own work of the verifier. -/
import Derived.Test.YthhoklgfgandpaaPartArith
import Derived.Test.YthhoklgfgandpaaRows
import Derived.WalkKit
import Derived.WalkSpells
import Derived.RowKit3
import Derived.Below
import Derived.Outline
import Derived.Deep.QuietTactic
import Derived.BigQuiet
import Derived.Laws.Bits64
import Derived.Laws.BitsAllLaws
import Derived.Laws.ShiftsVarLaws
import Derived.Handy
namespace Go.Proofs.Ythhoklgfgandpaa
open Go.RowKit

set_option maxHeartbeats 1000000 in
set_option maxRecDepth 100000 in
theorem refmul_w (a b a1 a0 b1 b0 P0 P1 P2 P3 M0 M1 : Int) (ea1 : a / 4294967296 = a1) (ea0 : bits .and .u64 a 4294967295 = a0) (eb1 : b / 4294967296 = b1) (eb0 : bits .and .u64 b 4294967295 = b0)
    (e0 : a0 * b0 = P0) (e1 : a1 * b0 = P1) (e2 : a0 * b1 = P2) (e3 : a1 * b1 = P3)
    (m0 : bits .and .u64 P0 4294967295 = M0) (m1 : bits .and .u64 (P1 + P0 / 4294967296) 4294967295 = M1)
    (p00 : 0 ≤ P0) (p01 : P0 ≤ 18446744065119617025) (p10 : 0 ≤ P1) (p11 : P1 ≤ 18446744065119617025) (p20 : 0 ≤ P2) (p21 : P2 ≤ 18446744065119617025) (p30 : 0 ≤ P3) (p31 : P3 ≤ 18446744065119617025)
    (m10 : 0 ≤ M1) (m11 : M1 < 4294967296) (w : World) :
    Calls Try.prog 42 #[.int .u64 a, .int .u64 b] w fun e w' =>
      e = .returned (.tuple #[.int .u64 (P3 + (P1 + P0 / 4294967296) / 4294967296 + (P2 + M1) / 4294967296), .int .u64 (IntKind.u64.wrap (IntKind.u64.wrap ((P2 + M1) * 4294967296) + M0))]) ∧ w' = w := by
  go_enter Try.func42, Try.ntmps42
  go_wp2
  go_ret2
  exact ⟨rfl, rfl⟩
theorem low32m (x : Int) (h0 : 0 ≤ x) (h1 : x < 18446744073709551616) : bits .and .u64 x 4294967295 = x % 4294967296 := by
  obtain ⟨n, rfl⟩ := Int.eq_ofNat_of_zero_le h0
  have := u64_and_nat n 4294967295 (by omega) (by decide)
  rw [show ((4294967295 : Nat) : Int) = 4294967295 from rfl] at this
  rw [this, nat_mask32]; omega
theorem refmul_any (x y : Int) (hx0 : 0 ≤ x) (hx : x < 18446744073709551616) (hy0 : 0 ≤ y) (hy : y < 18446744073709551616) (w : World) :
    Calls Try.prog 42 #[.int .u64 x, .int .u64 y] w fun e w' => e = .returned (.tuple #[.int .u64 (hiOf (x * y)), .int .u64 (loOf (x * y))]) ∧ w' = w := by
  have k0 := half_mul (x := x % 4294967296) (y := y % 4294967296) (by omega) (by omega) (by omega) (by omega)
  have k1 := half_mul (x := x / 4294967296) (y := y % 4294967296) (by omega) (by omega) (by omega) (by omega)
  have k2 := half_mul (x := x % 4294967296) (y := y / 4294967296) (by omega) (by omega) (by omega) (by omega)
  have k3 := half_mul (x := x / 4294967296) (y := y / 4294967296) (by omega) (by omega) (by omega) (by omega)
  have e := mul_halves (a := x) (b := y) (a1 := x / 4294967296) (a0 := x % 4294967296) (b1 := y / 4294967296) (b0 := y % 4294967296) (by omega) (by omega)
  refine (refmul_w x y _ _ _ _ _ _ _ _ _ _ rfl (low32m x hx0 hx) rfl (low32m y hy0 hy) rfl rfl rfl rfl (low32m _ k0.1 (by omega)) (low32m _ (by omega) (by omega)) k0.1 k0.2 k1.1 k1.2 k2.1 k2.2 k3.1 k3.2 (by omega) (by omega) w).mono ?_
  rintro e' w' ⟨rfl, rfl⟩
  refine ⟨?_, rfl⟩
  rw [e]
  generalize x / 4294967296 * (y / 4294967296) = p at *
  generalize x / 4294967296 * (y % 4294967296) = q at *
  generalize x % 4294967296 * (y / 4294967296) = r at *
  generalize x % 4294967296 * (y % 4294967296) = s at *
  have f1 : p + (q + s / 4294967296) / 4294967296 + (r + (q + s / 4294967296) % 4294967296) / 4294967296 = hiOf (p * 18446744073709551616 + (q + r) * 4294967296 + s) := by unfold hiOf; omega
  have f2 : IntKind.u64.wrap (IntKind.u64.wrap ((r + (q + s / 4294967296) % 4294967296) * 4294967296) + s % 4294967296) = loOf (p * 18446744073709551616 + (q + r) * 4294967296 + s) := by
    simp only [IntKind.wrap_u64]; unfold loOf; omega
  rw [f1, f2]
theorem bit_and (l j : Nat) (hl : l < 18446744073709551616) : bits .and .u64 ((l : Int) / 2 ^ j) 1 = ((l / 2 ^ j % 2 : Nat) : Int) := by
  have e : ((l : Int) / 2 ^ j) = ((l / 2 ^ j : Nat) : Int) := by push_cast; rfl
  have h := u64_and_nat (l / 2 ^ j) 1 (Nat.lt_of_le_of_lt (Nat.div_le_self _ _) hl) (by decide)
  rw [e, show (1 : Int) = ((1 : Nat) : Int) from rfl, h, nat_mask1]
theorem bit_or (r b : Nat) (hb : b < 2) : bits .or .u64 (IntKind.u64.wrap ((r : Int) * 2)) (b : Int) = IntKind.u64.wrap ((r : Int) * 2) + b := by
  have e : IntKind.u64.wrap ((r : Int) * 2) = ((r * 2 % 18446744073709551616 : Nat) : Int) := by rw [IntKind.wrap_u64]; omega
  rw [e, u64_or_nat _ _ (by omega) (by omega), nat_join 1 _ _ (by omega) (by omega)]
  omega
set_option maxHeartbeats 4000000 in
set_option maxRecDepth 100000 in
theorem refdiv_w (H l Y : Nat) (hl : l < 18446744073709551616) (hH : H < Y) (hY : Y < 18446744073709551616) (w : World) :
    Calls Try.prog 43 #[.int .u64 H, .int .u64 l, .int .u64 Y] w fun e w' =>
      e = .returned (.tuple #[.int .u64 (((H * 18446744073709551616 + l) / Y : Nat) : Int), .int .u64 (((H * 18446744073709551616 + l) % Y : Nat) : Int), .int .i64 0]) ∧ w' = w := by
  have hz : ((Y : Int) == 0) = false := by rw [beq_eq_false_iff_ne]; omega
  have hHY : ¬ (Y : Int) ≤ (H : Int) := by omega
  have u0 := upTo_0 H l hl
  have u64 := upTo_64 (H * 18446744073709551616 + l)
  have us := upTo_succ H l
  have ul := fun k hk => upTo_lt H l k Y hk hl hH
  obtain ⟨N, hN⟩ : ∃ N, N = H * 18446744073709551616 + l := ⟨_, rfl⟩
  rw [← hN] at u0 u64 ⊢
  simp only [← hN] at us ul
  have U0 : Hid _ := u0
  have U64 : Hid _ := u64
  have US : Hid _ := us
  have UL : Hid _ := ul
  clear hN u0 u64 us ul
  have l0 : (0 : Int) ≤ l := by omega
  go_enter Try.func43, Try.ntmps43
  go_wp2
  go_loop [9, 10, 11] (fun a b c => ∃ k : Nat, k ≤ 64 ∧ a = .int .u64 ((upTo N k % Y : Nat) : Int) ∧ b = .int .u64 ((upTo N k / Y : Nat) : Int) ∧ c = .int .i64 (63 - (k : Int))) (fun _ _ c => (intOf c + 1).toNat)
  case atStart => exact ⟨0, by omega, by rw [U0.out, Nat.mod_eq_of_lt hH], by rw [U0.out, Nat.div_eq_of_lt hH]; rfl, rfl⟩
  case round =>
    obtain ⟨k, hk, rfl, rfl, rfl⟩ := hrel
    by_cases hlt : k < 64
    · have s1 := US.out k hlt
      have q1 := UL.out k hk
      have q2 := UL.out (k + 1) (by omega)
      have pk : 2 ^ k ≤ 2 ^ 63 := Nat.pow_le_pow_right (by decide) (by omega)
      have r1 : upTo N k % Y < Y := Nat.mod_lt _ (by omega)
      rcases div_step (upTo N k) (l / 2 ^ (63 - k) % 2) Y (by omega) with ⟨d1, d2⟩ | d
      · rw [← s1] at d1 d2
        have hbt := bit_and l (63 - k) hl
        have hbl : l / 2 ^ (63 - k) % 2 < 2 := Nat.mod_lt _ (by decide)
        have hor := bit_or (upTo N k % Y) _ hbl
        have htn : (63 - (k : Int)).toNat = 63 - k := by omega
        have hq63 : upTo N k / Y < 9223372036854775808 := by have : (2 : Nat) ^ 63 = 9223372036854775808 := by decide
                                                             omega
        generalize l / 2 ^ (63 - k) % 2 = bt at *
        generalize upTo N k % Y = r at *
        generalize upTo N k / Y = q at *
        have HD1 : Hid _ := d1
        have HD2 : Hid _ := d2
        have hk0 : (0 : Int) ≤ 63 - k := by omega
        clear d1 d2 s1 q2 q1 pk
        by_cases c1 : 9223372036854775808 ≤ r
        · have t1 : ((r : Int) / 9223372036854775808 == 1) = true := by rw [beq_iff_eq]; omega
          have hc : Y ≤ 2 * r + bt := by omega
          rw [show IntKind.u64.wrap ((r : Int) * 2) + (bt : Int) = (r : Int) * 2 - 18446744073709551616 + bt from by rw [IntKind.wrap_u64]; omega] at hor
          have fin : IntKind.u64.wrap ((r : Int) * 2 - 18446744073709551616 + bt - Y) = ((2 * r + bt - Y : Nat) : Int) := by rw [IntKind.wrap_u64]; omega
          have FIN : Hid _ := fin
          clear fin
          go_wp2
          go_round
          case rel =>
            refine ⟨k + 1, by omega, ?_, ?_, by go_num⟩
            · rw [HD2.out, if_pos hc, ← FIN.out]
            · rw [HD1.out, if_pos hc]; go_num
          case measure => simp [intOf]; omega
        · have t1 : ((r : Int) / 9223372036854775808 == 1) = false := by rw [beq_eq_false_iff_ne]; omega
          rw [show IntKind.u64.wrap ((r : Int) * 2) = (r : Int) * 2 from by rw [IntKind.wrap_u64]; omega] at hor
          by_cases hc : Y ≤ 2 * r + bt
          · have hc' : (Y : Int) ≤ (r : Int) * 2 + bt := by omega
            have fin : (r : Int) * 2 + bt - Y = ((2 * r + bt - Y : Nat) : Int) := by omega
            have FIN : Hid _ := fin
            clear fin
            go_wp2
            go_round
            case rel =>
              refine ⟨k + 1, by omega, ?_, ?_, by go_num⟩
              · rw [HD2.out, if_pos hc, ← FIN.out]
              · rw [HD1.out, if_pos hc]; go_num
            case measure => simp [intOf]; omega
          · have hc' : ¬ (Y : Int) ≤ (r : Int) * 2 + bt := by omega
            go_wp2
            go_round
            case rel =>
              refine ⟨k + 1, by omega, ?_, ?_, by go_num⟩
              · rw [HD2.out, if_neg hc]; go_num
              · rw [HD1.out, if_neg hc]; go_num
            case measure => simp [intOf]; omega
      · omega
    · obtain rfl : k = 64 := by omega
      rw [U64.out]
      go_wp2
      go_ret3
      exact ⟨rfl, rfl⟩
theorem refdiv_any (hi lo y : Int) (h0 : 0 ≤ hi) (h1 : 0 ≤ lo) (h2 : lo < 18446744073709551616) (h3 : hi < y) (h4 : y < 18446744073709551616) (w : World) :
    Calls Try.prog 43 #[.int .u64 hi, .int .u64 lo, .int .u64 y] w fun e w' =>
      e = .returned (.tuple #[.int .u64 ((hi * 18446744073709551616 + lo) / y), .int .u64 ((hi * 18446744073709551616 + lo) % y), .int .i64 0]) ∧ Below w.heap.size w w' := by
  obtain ⟨H, rfl⟩ := Int.eq_ofNat_of_zero_le h0
  obtain ⟨l, rfl⟩ := Int.eq_ofNat_of_zero_le h1
  obtain ⟨Y, rfl⟩ := Int.eq_ofNat_of_zero_le (show 0 ≤ y by omega)
  refine (refdiv_w H l Y (by omega) (by omega) (by omega) w).mono ?_
  rintro e w' ⟨rfl, rfl⟩
  refine ⟨?_, Below.refl _ _⟩
  rw [Int.natCast_ediv, Int.natCast_emod, Int.natCast_add, Int.natCast_mul]
  rfl
end Go.Proofs.Ythhoklgfgandpaa
