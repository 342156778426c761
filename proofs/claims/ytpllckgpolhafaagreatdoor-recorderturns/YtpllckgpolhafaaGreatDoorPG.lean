/- THE LEAVES: words and signs. Own work of the verifier. -/
import Derived.Test.YtpllckgpolhafaaGreatDoorPF
import Derived.Test.YtpllckgpolhafaaGreatDoorRows
import Derived.WalkKit
import Derived.WalkSpells
import Derived.RowKit3
import Derived.Below
import Derived.Laws.Externs
import Derived.Outline
import Derived.Deep.QuietTactic
import Derived.Deep.Draws
import Derived.BigQuiet
import Derived.Laws.Bits64
import Derived.Laws.BitsAllLaws
import Derived.Laws.ComplexArith
import Derived.Deep.DeepCutAuto
import Derived.Deep.RegionHeld3
namespace Go.Proofs.YtpllckgpolhafaaGreatDoor.Pr
open Go.RowKit Soft

theorem retI {k : IntKind} {A B : Int} (h : A = B) : Ending.returned (Value.int k A) = .returned (.int k B) := by rw [h]
theorem retII {k l : IntKind} {A B C D : Int} (h : A = B) (h2 : C = D) : Ending.returned (Value.tuple #[.int k A, .int l C]) = .returned (.tuple #[.int k B, .int l D]) := by rw [h, h2]
theorem retB {A B : Bool} (h : A = B) : Ending.returned (Value.bool A) = .returned (.bool B) := by rw [h]
theorem mf64bits (x : Nat) (w : World) : (callFunc 44 #[.float .f64 x]).run Tryz.prog w = .ok (.value (.int .u64 (x : Int))) w := by
  rw [run_callFunc_extern Tryz.func44 (by kernel_rfl) (by kernel_rfl) (by kernel_rfl) (e := Extern.MathFloatBits.float64bits) (by kernel_rfl)]
  rfl
theorem mf64from (x : Int) (w : World) : (callFunc 115 #[.int .u64 x]).run Tryz.prog w = .ok (.value (.float .f64 x.toNat)) w := by
  rw [run_callFunc_extern Tryz.func115 (by kernel_rfl) (by kernel_rfl) (by kernel_rfl) (e := Extern.MathFloatBits.float64frombits) (by kernel_rfl)]
  rfl
theorem clear_sign (x : Nat) (h : x < 18446744073709551616) : bits .andNot .u64 (x : Int) 9223372036854775808 = ((x % 9223372036854775808 : Nat) : Int) := by
  have := u64_andNot_nat x 9223372036854775808 (by omega) (by decide)
  rw [show ((9223372036854775808 : Nat) : Int) = 9223372036854775808 from rfl] at this
  rw [this, show 18446744073709551615 - 9223372036854775808 = 2 ^ 63 - 1 from by decide, Nat.and_two_pow_sub_one_eq_mod]
theorem or_sign (x : Nat) (h : x < 9223372036854775808) : bits .or .u64 (x : Int) 9223372036854775808 = ((9223372036854775808 + x : Nat) : Int) := by
  have := u64_or_nat x 9223372036854775808 (by omega) (by decide)
  rw [show ((9223372036854775808 : Nat) : Int) = 9223372036854775808 from rfl] at this
  rw [this, Nat.or_comm, nat_join 63 _ _ (by decide) (by rw [show (2 : Nat) ^ 63 = 9223372036854775808 from by decide]; exact h)]
theorem sign_bit (x : Nat) (h : x < 18446744073709551616) : bits .and .u64 (x : Int) 9223372036854775808 = ((x / 9223372036854775808 * 9223372036854775808 : Nat) : Int) := by
  have := u64_and_nat x 9223372036854775808 h (by decide)
  rw [show ((9223372036854775808 : Nat) : Int) = 9223372036854775808 from rfl] at this
  rw [this, show (9223372036854775808 : Nat) = 2 ^ 63 from by decide, nat_bit, Nat.mod_eq_of_lt (by rw [show (2 : Nat) ^ 63 = 9223372036854775808 from by decide]; omega)]
theorem flip_sign (x : Nat) (h : x < 18446744073709551616) : bits .xor .u64 (x : Int) 9223372036854775808 = ((neg x : Nat) : Int) := by
  have := u64_xor_nat x 9223372036854775808 h (by decide)
  rw [show ((9223372036854775808 : Nat) : Int) = 9223372036854775808 from rfl] at this
  rw [this]
  congr 1
  have e1 : x / 2 ^ 63 = x / 9223372036854775808 := rfl
  have key : (x ^^^ 9223372036854775808) % 2 ^ 63 = x % 2 ^ 63 ∧ (x ^^^ 9223372036854775808) / 2 ^ 63 = (x / 2 ^ 63) ^^^ 1 := by
    refine ⟨?_, ?_⟩
    · rw [Nat.xor_mod_two_pow]; simp
    · rw [Nat.xor_div_two_pow]
  obtain ⟨k1, k2⟩ := key
  have k3 : x / 2 ^ 63 = 0 ∨ x / 2 ^ 63 = 1 := by rw [e1]; omega
  have e63 : (2 : Nat) ^ 63 = 9223372036854775808 := by decide
  rw [e63] at k1 k2 k3
  unfold neg
  rcases k3 with k | k
  · rw [k] at k2; rw [if_neg (by omega)]; have : (0 ^^^ 1 : Nat) = 1 := by decide
    omega
  · rw [k] at k2; rw [if_pos (by omega)]; have : (1 ^^^ 1 : Nat) = 0 := by decide
    omega
theorem fr_field (x : Nat) (h : x < 18446744073709551616) : bits .and .u64 (x : Int) 4503599627370495 = ((x % 4503599627370496 : Nat) : Int) := by
  have := u64_and_nat x 4503599627370495 h (by decide)
  rw [show ((4503599627370495 : Nat) : Int) = 4503599627370495 from rfl] at this
  rw [this, show (4503599627370495 : Nat) = 2 ^ 52 - 1 from by decide, Nat.and_two_pow_sub_one_eq_mod]
theorem hid_bit (f : Nat) (h : f < 4503599627370496) : bits .or .u64 (f : Int) 4503599627370496 = ((4503599627370496 + f : Nat) : Int) := by
  have := u64_or_nat f 4503599627370496 (by omega) (by decide)
  rw [show ((4503599627370496 : Nat) : Int) = 4503599627370496 from rfl] at this
  rw [this, Nat.or_comm, nat_join 52 _ _ (by decide) (by rw [show (2 : Nat) ^ 52 = 4503599627370496 from by decide]; exact h)]
theorem exu_field (x : Nat) (h : x < 18446744073709551616) : bits .and .u64 ((x : Int) / 4503599627370496) 2047 = ((x / 4503599627370496 % 2048 : Nat) : Int) := by
  have e : ((x : Int) / 4503599627370496) = ((x / 4503599627370496 : Nat) : Int) := by omega
  have := u64_and_nat (x / 4503599627370496) 2047 (by omega) (by decide)
  rw [show ((2047 : Nat) : Int) = 2047 from rfl] at this
  rw [e, this, show (2047 : Nat) = 2 ^ 11 - 1 from by decide, Nat.and_two_pow_sub_one_eq_mod]
theorem and_one (n : Nat) (h : n < 18446744073709551616) : bits .and .u64 (n : Int) 1 = ((n % 2 : Nat) : Int) := by
  have := u64_and_nat n 1 h (by decide)
  rw [show ((1 : Nat) : Int) = 1 from rfl] at this
  rw [this, nat_mask1]
theorem and_seven (n : Nat) (h : n < 18446744073709551616) : bits .and .u64 (n : Int) 7 = ((n % 8 : Nat) : Int) := by
  have := u64_and_nat n 7 h (by decide)
  rw [show ((7 : Nat) : Int) = 7 from rfl] at this
  rw [this, nat_mask3]

theorem abs_any (x : Nat) (h : x < 18446744073709551616) (w : World) : Calls Tryz.prog 95 #[.float .f64 x] w fun e w' => e = .returned (.float .f64 (x % 9223372036854775808)) ∧ w' = w := by
  have hc := clear_sign x h
  generalize x % 9223372036854775808 = y at *
  go_enter Tryz.func95, Tryz.ntmps95
  go_wp2_with (first | simp only [mf64bits] | simp only [mf64from])
  go_ret
  exact ⟨rfl, rfl⟩
theorem isNaN_any (x : Nat) (h : x < 18446744073709551616) (w : World) :
    Calls Tryz.prog 116 #[.int .u64 (x : Int)] w fun e w' => e = .returned (.bool (isn x)) ∧ w' = w := by
  have hc := clear_sign x h
  unfold isn
  generalize x % 9223372036854775808 = y at *
  go_enter Tryz.func116, Tryz.ntmps116
  go_wp2
  go_ret
  exact ⟨retB (decide_eq_decide.2 (by omega)), rfl⟩
theorem may_any (x : Nat) (h : x < 18446744073709551616) (w : World) :
    Calls Tryz.prog 178 #[.int .u64 (x : Int)] w fun e w' => e = .returned (.bool (decide (x % 9223372036854775808 ≤ 8930638061075693568))) ∧ w' = w := by
  have hc := clear_sign x h
  generalize x % 9223372036854775808 = y at *
  go_enter Tryz.func178, Tryz.ntmps178
  go_wp2
  go_ret
  exact ⟨retB (decide_eq_decide.2 (by omega)), rfl⟩
theorem negative_any (x : Nat) (h : x < 18446744073709551616) (w : World) :
    Calls Tryz.prog 118 #[.int .u64 (x : Int)] w fun e w' => e = .returned (.int .u64 (neg x : Int)) ∧ w' = w := by
  have hc := flip_sign x h
  go_enter Tryz.func118, Tryz.ntmps118
  go_wp2
  go_ret
  exact ⟨rfl, rfl⟩
theorem parts_any (x : Nat) (h : x < 18446744073709551616) (w : World) :
    Calls Tryz.prog 119 #[.int .u64 (x : Int)] w fun e w' => e = .returned (.tuple #[.int .u64 (magOf (x % 9223372036854775808) : Nat), .int .i64 (-1074 + (upOf (x % 9223372036854775808) : Nat))]) ∧ w' = w := by
  have h1 := exu_field x h
  have h2 := fr_field x h
  have h3 := hid_bit (x % 4503599627370496) (by omega)
  by_cases k : x / 4503599627370496 % 2048 = 0
  · rw [k] at h1
    have e1 : magOf (x % 9223372036854775808) = x % 4503599627370496 := by unfold magOf; rw [if_pos (by omega)]; omega
    have e2 : upOf (x % 9223372036854775808) = 0 := by unfold upOf; rw [if_pos (by omega)]
    rw [e1, e2]
    clear e1 e2 k h3
    generalize x % 4503599627370496 = f at *
    go_enter Tryz.func119, Tryz.ntmps119
    go_wp2
    go_ret2
    exact ⟨rfl, rfl⟩
  · have e1 : magOf (x % 9223372036854775808) = 4503599627370496 + x % 4503599627370496 := by unfold magOf; rw [if_neg (by omega)]; omega
    have e2 : upOf (x % 9223372036854775808) = x / 4503599627370496 % 2048 - 1 := by unfold upOf; rw [if_neg (by omega)]; omega
    rw [e1, e2]
    have k2 : x / 4503599627370496 % 2048 < 2048 := by omega
    clear e1 e2
    generalize x % 4503599627370496 = f at *
    generalize x / 4503599627370496 % 2048 = E at *
    go_enter Tryz.func119, Tryz.ntmps119
    go_wp2
    go_ret2
    exact ⟨retII (by omega) (by omega), rfl⟩
end Go.Proofs.YtpllckgpolhafaaGreatDoor.Pr
/- ROUNDING, step by step. Own work of the verifier. -/
namespace Go.Proofs.YtpllckgpolhafaaGreatDoor.Soft

theorem ss_one (M : Nat) : ss M 1 = M / 2 ||| M % 2 := by
  unfold ss
  rw [Nat.pow_one]
  congr 1
  split <;> omega
theorem ss_one_bounds (M : Nat) : M / 2 ≤ ss M 1 ∧ ss M 1 ≤ M / 2 + 1 := by
  rw [ss_val, Nat.pow_one]
  split <;> omega
/-- The first loop's state. -/
def Down (N D M : Nat) : Prop := M = ss (8 * N) D ∧ (8 * N = M * 2 ^ D ∨ 18014398509481984 ≤ M)
theorem down_step {N D M : Nat} (h : Down N D M) (hM : 72057594037927936 ≤ M) : Down N (D + 1) (ss M 1) := by
  obtain ⟨h1, _⟩ := h
  have b := ss_one_bounds M
  refine ⟨?_, .inr (by omega)⟩
  rw [h1, ss_ss]
/-- The second loop's state. -/
def Grow (N D M : Nat) : Prop := (M = ss (8 * N) D ∧ 8 * N = M * 2 ^ D) ∨ (18014398509481984 ≤ M ∧ M = ss (8 * N) D) ∨ (36028797018963968 ≤ M ∧ Left N D M)
theorem grow_of_down {N D M : Nat} (h : Down N D M) : Grow N D M := by
  obtain ⟨h1, h2 | h2⟩ := h
  · exact .inl ⟨h1, h2⟩
  · exact .inr (.inl ⟨h2, h1⟩)
theorem grow_step {N D M : Nat} (h : Grow N (D + 1) M) (hM : M < 36028797018963968) : Grow N D (M * 2) := by
  rcases h with ⟨h1, h2⟩ | ⟨h1, h2⟩ | ⟨h1, _⟩
  · left
    have e : 8 * N = M * 2 * 2 ^ D := by rw [h2, Nat.pow_succ, Nat.mul_assoc, Nat.mul_comm 2]
    refine ⟨?_, e⟩
    have := ss_exact N D (M * 2) e 0 (Nat.zero_le _)
    simpa using this
  · right; right
    exact ⟨by omega, left_step N D M h2 (.inr h1) hM⟩
  · omega
theorem grow_left {N D M : Nat} (h : Grow N D M) : Left N D M := by
  rcases h with ⟨h1, _⟩ | ⟨_, h2⟩ | ⟨_, h2⟩
  · exact .inl h1
  · exact .inl h2
  · exact h2
theorem rne3_cases (M : Nat) : ∃ c, rne M 3 = M / 8 + c ∧ (4 < M % 8 ∧ c = 1 ∨ M % 8 = 4 ∧ M / 8 % 2 = 1 ∧ c = 1 ∨ M % 8 = 4 ∧ M / 8 % 2 = 0 ∧ c = 0 ∨ M % 8 < 4 ∧ c = 0) := by
  unfold rne
  rw [show (2 : Nat) ^ 3 = 8 from by decide]
  refine ⟨_, rfl, ?_⟩
  by_cases h : 8 < 2 * (M % 8) ∨ 8 = 2 * (M % 8) ∧ M / 8 % 2 = 1
  · rw [if_pos h]; omega
  · rw [if_neg h]; omega
/-- What comes out. -/
theorem pack_out {N D M R : Nat} (h : Grow N D M) (h2 : M < 72057594037927936) (h1 : 36028797018963968 ≤ M ∨ D = 0) (hR : rne M 3 = R) :
    R = 9007199254740992 ∧ nrung N = (if 2047 ≤ D + 2 then 9218868437227405312 else (D + 2) * 4503599627370496 + 0) ∨
    4503599627370496 ≤ R ∧ R < 9007199254740992 ∧ nrung N = (if 2047 ≤ D + 1 then 9218868437227405312 else (D + 1) * 4503599627370496 + R % 4503599627370496) ∨
    R < 4503599627370496 ∧ D = 0 ∧ nrung N = R := by
  have p := pack_fin N D M (grow_left h) h2 h1
  rw [hR] at p
  obtain ⟨c, k1, k2⟩ := rne3_cases M
  rw [hR] at k1
  rw [nrung_nr, ← p]
  clear p h
  rcases Nat.lt_trichotomy R 9007199254740992 with k | k | k
  · by_cases k3 : R < 4503599627370496
    · right; right
      have hD : D = 0 := by rcases h1 with h1 | h1 <;> omega
      subst hD
      exact ⟨k3, rfl, by rw [Nat.zero_mul, Nat.zero_add, Nat.min_eq_left (by omega)]⟩
    · right; left
      refine ⟨by omega, k, ?_⟩
      have e : D * 4503599627370496 + R = (D + 1) * 4503599627370496 + R % 4503599627370496 := by omega
      rw [e]
      have hm : R % 4503599627370496 < 4503599627370496 := by omega
      generalize R % 4503599627370496 = f at hm ⊢
      clear e
      by_cases k4 : 2047 ≤ D + 1
      · rw [if_pos k4, Nat.min_eq_right (by omega)]
      · rw [if_neg k4, Nat.min_eq_left (by omega)]
  · left
    refine ⟨k, ?_⟩
    have e : D * 4503599627370496 + R = (D + 2) * 4503599627370496 := by omega
    rw [e]
    by_cases k4 : 2047 ≤ D + 2
    · rw [if_pos k4, Nat.min_eq_right (by omega)]
    · rw [if_neg k4, Nat.min_eq_left (by omega)]; omega
  · exfalso; omega
theorem ss_one_lt {M : Nat} (h : M < 144115188075855872) : ss M 1 < 72057594037927936 := by
  rw [ss_val, Nat.pow_one]
  split <;> omega
theorem nrung_le (N : Nat) : nrung N ≤ 9218868437227405312 := by rw [nrung_nr]; omega
end Go.Proofs.YtpllckgpolhafaaGreatDoor.Soft
/- THE DOCUMENT's ROUNDING. Own work of the verifier. -/
namespace Go.Proofs.YtpllckgpolhafaaGreatDoor.Pr
open Go.RowKit Soft

theorem half_w (M : Nat) (h : M < 18446744073709551616) : bits .or .u64 ((M : Int) / 2) ((M % 2 : Nat) : Int) = (ss M 1 : Nat) := by
  have := u64_or_nat (M / 2) (M % 2) (by omega) (by omega)
  rw [show ((M : Int) / 2) = ((M / 2 : Nat) : Int) from by omega, this, ss_one]
theorem join_w (E f : Nat) (hE : E < 4096) (hf : f < 4503599627370496) : bits .or .u64 ((E : Int) * 4503599627370496) (f : Int) = ((E * 4503599627370496 + f : Nat) : Int) := by
  have := u64_or_nat (E * 4503599627370496) f (by omega) (by omega)
  rw [show ((E : Int) * 4503599627370496) = ((E * 4503599627370496 : Nat) : Int) from by omega, this, nat_join 52 _ _ (by rw [show (2 : Nat) ^ 52 = 4503599627370496 from by decide]; omega) (by rw [show (2 : Nat) ^ 52 = 4503599627370496 from by decide]; exact hf)]
theorem sw_t (V : Nat) : ((sw true V : Nat) : Int) = 9223372036854775808 + (V : Int) := by unfold sw; rw [if_pos rfl]; omega
theorem sw_f (V : Nat) : ((sw false V : Nat) : Int) = (V : Int) := rfl
set_option maxHeartbeats 4000000 in
set_option maxRecDepth 100000 in
theorem packed_any (ng : Bool) (N D M : Nat) (hM : M < 144115188075855872) (hd : Down N D M) (hD : D ≤ 2900) (w : World) :
    Calls Tryz.prog 120 #[.bool ng, .int .u64 (M : Int), .int .i64 (-1074 + (D : Int))] w fun e w' => e = .returned (.int .u64 (sw ng (nrung N) : Nat)) ∧ w' = w := by
  have HB : Hid (nrung N ≤ 9218868437227405312) := nrung_le N
  go_enter Tryz.func120, Tryz.ntmps120
  go_wp2_with fail
  go_loop [1, 2] (fun a b => ∃ d m : Nat, d ≤ 2901 ∧ m < 144115188075855872 ∧ (d ≤ 2900 ∨ m < 72057594037927936) ∧ a = .int .u64 (m : Int) ∧ b = .int .i64 (-1074 + (d : Int)) ∧ Hid (Down N d m)) (fun a _ => (intOf a).toNat)
  case atStart => exact ⟨D, M, by omega, hM, .inl hD, rfl, rfl, hd⟩
  case round =>
    obtain ⟨d, m, hd1, hm1, hdm, rfl, rfl, hdn⟩ := hrel
    by_cases hlt : 72057594037927936 ≤ m
    · have hc : (72057594037927936 : Int) ≤ (m : Int) := by omega
      have a1 := and_one m (by omega)
      have a2 := half_w m (by omega)
      have hs : Hid (Down N (d + 1) (ss m 1)) := down_step hdn.out hlt
      have hb : Hid (ss m 1 < 72057594037927936) := ss_one_lt hm1
      have hb2 : Hid (ss m 1 ≤ m / 2 + 1) := (ss_one_bounds m).2
      generalize ss m 1 = m' at *
      generalize m % 2 = r at *
      go_wp2
      go_round
      case rel => exact ⟨d + 1, m', by omega, by have := hb.out; omega, .inr hb.out, rfl, by go_num, hs⟩
      case measure => have := hb.out; simp [intOf]; omega
    · have hc : ¬ (72057594037927936 : Int) ≤ (m : Int) := by omega
      go_wp2
      go_loop [1, 2] (fun a b => ∃ d m : Nat, d ≤ 2901 ∧ m < 72057594037927936 ∧ a = .int .u64 (m : Int) ∧ b = .int .i64 (-1074 + (d : Int)) ∧ Hid (Grow N d m)) (fun _ b => (intOf b + 1074).toNat)
      case atStart => exact ⟨d, m, hd1, by omega, rfl, rfl, grow_of_down hdn.out⟩
      case round =>
        clear hdn hlt hc hdm hm1 hd1
        obtain ⟨d, m, hd1, hm1, rfl, rfl, hdn⟩ := hrel
        by_cases hlt : m < 36028797018963968 ∧ 0 < d
        · obtain ⟨h1, h2⟩ := hlt
          have hc : (m : Int) < 36028797018963968 := by omega
          have hc2 : (-1074 : Int) < -1074 + (d : Int) := by omega
          have hs : Hid (Grow N (d - 1) (m * 2)) := by
            obtain ⟨d', rfl⟩ : ∃ d', d = d' + 1 := ⟨d - 1, by omega⟩
            exact grow_step hdn.out h1
          go_wp2
          go_round
          case rel => exact ⟨d - 1, m * 2, by omega, by omega, by go_num, by go_num, hs⟩
          case measure => simp [intOf]; omega
        · have hend : 36028797018963968 ≤ m ∨ d = 0 := by omega
          have HO : Hid _ := fun R => pack_out (R := R) hdn.out hm1 hend
          have a7 := and_seven m (by omega)
          have aq := and_one (m / 8) (by omega)
          obtain ⟨c, k1, k2⟩ := rne3_cases m
          have HR : Hid (m / 8 + c ≤ 9007199254740992) := by unfold Hid; omega
          have hq : (m : Int) / 8 = ((m / 8 : Nat) : Int) := by omega
          have hx : ((m : Int) < 36028797018963968 ∧ ¬ (-1074 : Int) < -1074 + (d : Int)) ∨ ¬ (m : Int) < 36028797018963968 := by omega
          have HO2 := HO.out _ k1
          clear HO k1 hdn hlt hend
          generalize m / 8 = q at *
          generalize m % 8 = r at *
          have hr : (4 : Int) < (r : Int) ∧ c = 1 ∨ (r = 4 ∧ q % 2 = 1 ∧ c = 1) ∨ (r = 4 ∧ q % 2 = 0 ∧ c = 0) ∨ (¬ (4 : Int) < (r : Int) ∧ ((r : Int) == 4) = false ∧ c = 0) := by
            rcases k2 with k | k | k | k
            · left; omega
            · right; left; omega
            · right; right; left; omega
            · right; right; right; refine ⟨by omega, ?_, by omega⟩; rw [beq_eq_false_iff_ne]; omega
          clear k2
          have hR : ∃ R : Nat, Hid (R = q + c) ∧ (c = 1 ∧ (q : Int) + 1 = (R : Int) ∨ c = 0 ∧ q = R) := by
            refine ⟨q + c, rfl, ?_⟩
            rcases hr with ⟨_, rfl⟩ | ⟨_, _, rfl⟩ | ⟨_, _, rfl⟩ | ⟨_, _, rfl⟩
            · left; omega
            · left; omega
            · right; omega
            · right; omega
          obtain ⟨R, eR, hR⟩ := hR
          rw [← eR.out] at HO2 HR
          have hinf : bits .or .u64 9218868437227405312 9223372036854775808 = 18442240474082181120 := by decide +kernel
          rcases HO2 with ⟨o1, o2⟩ | ⟨o1, o1', o2⟩ | ⟨o1, o0, o2⟩
          · have HV : Hid _ := o2
            clear o2
            have hj : bits .or .u64 (((d + 2 : Nat) : Int) * 4503599627370496) 0 = (((d + 2) * 4503599627370496 + 0 : Nat) : Int) := join_w (d + 2) 0 (by omega) (by omega)
            have hf : bits .and .u64 4503599627370496 4503599627370495 = 0 := by decide +kernel
            have hE : (-1074 : Int) + (d : Int) + 1 + 1075 = ((d + 2 : Nat) : Int) := by omega
            have hE2 : d + 2 < 4096 := by omega
            have hs : d + 2 < 2047 → bits .or .u64 (((d + 2) * 4503599627370496 + 0 : Nat) : Int) 9223372036854775808 = ((9223372036854775808 + ((d + 2) * 4503599627370496 + 0) : Nat) : Int) := fun k => or_sign _ (by omega)
            have HV2 := HV
            clear HV
            generalize d + 2 = E at *
            have ho : (2047 : Int) ≤ (E : Int) ∧ 2047 ≤ E ∨ ¬ (2047 : Int) ≤ (E : Int) ∧ E < 2047 := by omega
            generalize E * 4503599627370496 + 0 = V at *
            subst o1
            rcases ho with ⟨ho, ho'⟩ | ⟨ho, ho'⟩
            all_goals
              first
                | (have hs2 := hs ho'; clear hs; have HV : Hid (nrung N = V) := (by unfold Hid; rw [HV2.out, if_neg (by omega)]))
                | (clear hs; have HV : Hid (nrung N = 9218868437227405312) := (by unfold Hid; rw [HV2.out, if_pos ho']))
              clear HV2
              rcases hr with ⟨r1, rfl⟩ | ⟨rfl, r2, rfl⟩ | ⟨rfl, r2, rfl⟩ | ⟨r1, r2, rfl⟩
              all_goals
                rcases hR with ⟨c1, hR⟩ | ⟨c1, hR⟩
                all_goals
                  first
                    | (exfalso; revert c1; decide)
                    | skip
                all_goals
                  try subst hR
                  try rw [r2] at aq
                  clear c1
                  rcases hx with ⟨x1, x2⟩ | x1
                  all_goals
                    cases ng
                    all_goals
                      go_wp2
                      all_goals
                        go_ret
                        refine ⟨retI ?_, rfl⟩
                        rw [HV.out]
                        first | exact (sw_t _).symm | exact (sw_f _).symm | decide +kernel
          · have HV : Hid _ := o2
            clear o2
            have hj := join_w (d + 1) (R % 4503599627370496) (by omega) (by omega)
            have hf := fr_field R (by omega)
            have hE : (-1074 : Int) + (d : Int) + 1075 = ((d + 1 : Nat) : Int) := by omega
            have hE2 : d + 1 < 4096 := by omega
            have hs : d + 1 < 2047 → bits .or .u64 (((d + 1) * 4503599627370496 + R % 4503599627370496 : Nat) : Int) 9223372036854775808 = ((9223372036854775808 + ((d + 1) * 4503599627370496 + R % 4503599627370496) : Nat) : Int) := fun k => or_sign _ (by omega)
            have HV2 := HV
            clear HV
            have hb1 : (4503599627370496 : Int) ≤ (R : Int) := by omega
            have hb2 : ((R : Int) == 9007199254740992) = false := by rw [beq_eq_false_iff_ne]; omega
            generalize (d + 1) * 4503599627370496 + R % 4503599627370496 = V at *
            generalize R % 4503599627370496 = f at *
            generalize d + 1 = E at *
            have ho : (2047 : Int) ≤ (E : Int) ∧ 2047 ≤ E ∨ ¬ (2047 : Int) ≤ (E : Int) ∧ E < 2047 := by omega
            rcases ho with ⟨ho, ho'⟩ | ⟨ho, ho'⟩
            all_goals
              first
                | (have hs2 := hs ho'; clear hs; have HV : Hid (nrung N = V) := (by unfold Hid; rw [HV2.out, if_neg (by omega)]))
                | (clear hs; have HV : Hid (nrung N = 9218868437227405312) := (by unfold Hid; rw [HV2.out, if_pos ho']))
              clear HV2
              rcases hr with ⟨r1, rfl⟩ | ⟨rfl, r2, rfl⟩ | ⟨rfl, r2, rfl⟩ | ⟨r1, r2, rfl⟩
              all_goals
                rcases hR with ⟨c1, hR⟩ | ⟨c1, hR⟩
                all_goals
                  first
                    | (exfalso; revert c1; decide)
                    | skip
                all_goals
                  try subst hR
                  try rw [r2] at aq
                  clear c1
                  rcases hx with ⟨x1, x2⟩ | x1
                  all_goals
                    cases ng
                    all_goals
                      go_wp2
                      all_goals
                        go_ret
                        refine ⟨retI ?_, rfl⟩
                        rw [HV.out]
                        first | exact (sw_t _).symm | exact (sw_f _).symm | decide +kernel
          · have HV : Hid _ := o2
            have hb1 : ¬ (4503599627370496 : Int) ≤ (R : Int) := by omega
            have hb2 : ((R : Int) == 9007199254740992) = false := by rw [beq_eq_false_iff_ne]; omega
            have hs := or_sign R (by omega)
            have hE : (-1074 : Int) + (d : Int) + 1075 = 1 := by omega
            clear o2
            rcases hr with ⟨r1, rfl⟩ | ⟨rfl, r2, rfl⟩ | ⟨rfl, r2, rfl⟩ | ⟨r1, r2, rfl⟩
            all_goals
              rcases hR with ⟨c1, hR⟩ | ⟨c1, hR⟩
              all_goals
                first
                  | (exfalso; revert c1; decide)
                  | skip
              all_goals
                try subst hR
                try rw [r2] at aq
                clear c1
                rcases hx with ⟨x1, x2⟩ | x1
                all_goals
                  cases ng
                  all_goals
                    go_wp2
                    all_goals
                      go_ret
                      refine ⟨retI ?_, rfl⟩
                      rw [HV.out]
                      first | exact (sw_t _).symm | exact (sw_f _).symm | decide +kernel
end Go.Proofs.YtpllckgpolhafaaGreatDoor.Pr
/- THE SUM OF TWO FLOATS, the document's way. Own work of the verifier. -/
namespace Go.Proofs.YtpllckgpolhafaaGreatDoor.Soft

theorem ss_small {n : Nat} (h : n ≤ 1) (j : Nat) : ss n j = n := by
  rcases Nat.eq_zero_or_pos j with rfl | hj
  · exact ss_zero n
  · have h2 : 2 ^ 1 ≤ 2 ^ j := Nat.pow_le_pow_right (by decide) hj
    rw [ss_val]
    rcases Nat.eq_zero_or_pos n with rfl | hn
    · simp
    · obtain rfl : n = 1 := by omega
      have : 1 % 2 ^ j = 1 := Nat.mod_eq_of_lt (by omega)
      rw [this, if_neg (by decide)]
      have : 1 / 2 ^ j = 0 := Nat.div_eq_of_lt (by omega)
      rw [this]
theorem ss_rest (N k j : Nat) (h : ss N k ≤ 1) (hj : k ≤ j) : ss N j = ss N k := by
  have := ss_ss N k (j - k)
  rw [show k + (j - k) = j from by omega] at this
  rw [← this, ss_small h]
theorem nrung_zero : nrung 0 = 0 := by decide
theorem uV_pos {a : Nat} (h : 0 < a) : 0 < uV a := by have := uV_mono h; omega
theorem fa_same (s : Bool) (a b : Nat) (hb : b ≤ a) (ha : a < 9218868437227405312) : fa (sw s a) (sw s b) = sw s (nrung (uV a + uV b)) := by
  unfold fa
  rw [add_fin s s a b ha (by omega)]
  show addW s s a b = _
  unfold addW sv
  cases s
  · simp only [Bool.false_eq_true, if_false]
    by_cases h : (uV a : Int) + (uV b : Int) = 0
    · rw [if_pos h, show uV a + uV b = 0 from by omega, nrung_zero]; rfl
    · rw [if_neg h, decide_eq_false (by omega), show ((uV a : Int) + (uV b : Int)).natAbs = uV a + uV b from by omega]
  · simp only [if_true]
    by_cases h : -(uV a : Int) + -(uV b : Int) = 0
    · rw [if_pos h, show uV a + uV b = 0 from by omega, nrung_zero]; rfl
    · rw [if_neg h, decide_eq_true (by omega), show (-(uV a : Int) + -(uV b : Int)).natAbs = uV a + uV b from by omega]
theorem fa_diff (s : Bool) (a b : Nat) (hb : b ≤ a) (ha : a < 9218868437227405312) : fa (sw s a) (sw (!s) b) = if uV a = uV b then 0 else sw s (nrung (uV a - uV b)) := by
  have hu := uV_le hb
  unfold fa
  rw [add_fin s (!s) a b ha (by omega)]
  show addW s (!s) a b = _
  unfold addW sv
  cases s
  · simp only [Bool.false_eq_true, if_false, Bool.not_false, if_true]
    by_cases h : (uV a : Int) + -(uV b : Int) = 0
    · rw [if_pos h, if_pos (by omega)]; rfl
    · rw [if_neg h, if_neg (by omega), decide_eq_false (by omega), show ((uV a : Int) + -(uV b : Int)).natAbs = uV a - uV b from by omega]
  · simp only [if_true, Bool.not_true, Bool.false_eq_true, if_false]
    by_cases h : -(uV a : Int) + (uV b : Int) = 0
    · rw [if_pos h, if_pos (by omega)]; rfl
    · rw [if_neg h, if_neg (by omega), decide_eq_true (by omega), show (-(uV a : Int) + (uV b : Int)).natAbs = uV a - uV b from by omega]
theorem ss_eq_zero {N k : Nat} : ss N k = 0 ↔ N = 0 := by
  rw [ss_val]
  constructor
  · intro h
    split at h
    · rename_i h2
      have := Nat.div_add_mod N (2 ^ k)
      rw [h, h2] at this; omega
    · omega
  · rintro rfl; simp
/-- The two ways of a sum, by parts. -/
theorem sum_down (a b : Nat) (h : b ≤ a) : Down (uV a + uV b) (upOf a) (8 * magOf a + ss (8 * magOf b) (upOf a - upOf b)) := ⟨sum_bits a b h, sum_left a b h⟩
theorem dif_down (a b : Nat) (h : b ≤ a) : Down (uV a - uV b) (upOf a) (8 * magOf a - ss (8 * magOf b) (upOf a - upOf b)) := ⟨dif_bits a b h, dif_left a b h⟩
theorem dif_zero (a b : Nat) (h : b ≤ a) : 8 * magOf a - ss (8 * magOf b) (upOf a - upOf b) = 0 ↔ uV a = uV b := by
  rw [dif_bits a b h, ss_eq_zero]
  have := uV_le h
  omega
theorem ss_mag_lt (b k : Nat) : ss (8 * magOf b) k < 72057594037927936 := by
  have := ss_le (8 * magOf b) k
  have := mag_lt b
  omega
theorem up_le {a : Nat} (h : a < 9218868437227405312) : upOf a ≤ 2045 := by unfold upOf; split <;> omega
theorem dif_ge (a b : Nat) (h : b ≤ a) : ss (8 * magOf b) (upOf a - upOf b) ≤ 8 * magOf a := by
  by_cases hx : upOf a = 0
  · rw [hx, Nat.zero_sub, ss_zero]
    have := aligned_le h
    rw [hx, Nat.zero_sub, Nat.pow_zero, Nat.mul_one] at this
    omega
  · have h1 := mag_norm (show 0 < upOf a by omega)
    by_cases hy : upOf a - upOf b = 0
    · rw [hy, ss_zero]
      have := aligned_le h
      rw [hy, Nat.pow_zero, Nat.mul_one] at this
      omega
    · have : ss (8 * magOf b) (upOf a - upOf b) ≤ 4 * magOf b + 1 := by
        have e := ss_ss (8 * magOf b) 1 (upOf a - upOf b - 1)
        rw [show 1 + (upOf a - upOf b - 1) = upOf a - upOf b from by omega] at e
        rw [← e]
        have := ss_le (ss (8 * magOf b) 1) (upOf a - upOf b - 1)
        have := (ss_one_bounds (8 * magOf b)).2
        omega
      have := mag_lt b
      omega
end Go.Proofs.YtpllckgpolhafaaGreatDoor.Soft
/- THE DOCUMENT's SUM OF TWO FLOATS. Own work of the verifier. -/
namespace Go.Proofs.YtpllckgpolhafaaGreatDoor.Pr
open Go.RowKit Soft

set_option maxHeartbeats 4000000 in
set_option maxRecDepth 100000 in
theorem refadd_nan (x y : Nat) (hx : x < 18446744073709551616) (hy : y < 18446744073709551616) (h : isn x = true ∨ isn y = true) (w : World) :
    Calls Tryz.prog 97 #[.int .u64 (x : Int), .int .u64 (y : Int)] w fun e w' => e = .returned (.int .u64 (fa x y : Nat)) ∧ w' = w := by
  have HX : Hid _ := isNaN_any x hx
  have HY : Hid _ := isNaN_any y hy
  have HF : Hid (fa x y = aNaN) := by
    unfold Hid fa
    rcases h with h | h
    · rw [add_nan1 y hx h]; rfl
    · rw [add_nan2 x hy h]; rfl
  generalize isn x = n1 at *
  generalize isn y = n2 at *
  cases n1 <;> cases n2
  · exact absurd h (by decide)
  all_goals
    go_enter Tryz.func97, Tryz.ntmps97
    go_wp2_with (go_at_call 116; (first | (with_reducible refine (HX.out _).mono ?_) | (with_reducible refine (HY.out _).mono ?_)); rintro e w' ⟨rfl, rfl⟩)
    go_ret
    exact ⟨retI (by rw [HF.out]; rfl), rfl⟩
theorem sign_sw (s : Bool) (A : Nat) (h : A < 9223372036854775808) : bits .and .u64 ((sw s A : Nat) : Int) 9223372036854775808 = if s then 9223372036854775808 else 0 := by
  rw [sign_bit _ (sw_lt s h)]
  cases s
  · rw [if_neg (by decide)]; show ((A / 9223372036854775808 * 9223372036854775808 : Nat) : Int) = 0; omega
  · rw [if_pos rfl]; show (((9223372036854775808 + A) / 9223372036854775808 * 9223372036854775808 : Nat) : Int) = _; omega
theorem clear_sw (s : Bool) (A : Nat) (h : A < 9223372036854775808) : bits .andNot .u64 ((sw s A : Nat) : Int) 9223372036854775808 = (A : Int) := by
  rw [clear_sign _ (sw_lt s h), sw_mod s h]
set_option maxHeartbeats 4000000 in
set_option maxRecDepth 100000 in
theorem refadd_infGe (s t : Bool) (A B : Nat) (hA : A = 9218868437227405312) (hB : B ≤ 9218868437227405312) (w : World) :
    Calls Tryz.prog 97 #[.int .u64 ((sw s A : Nat) : Int), .int .u64 ((sw t B : Nat) : Int)] w fun e w' => e = .returned (.int .u64 (fa (sw s A) (sw t B) : Nat)) ∧ w' = w := by
  have HX : Hid _ := isNaN_any (sw s A) (sw_lt s (by omega))
  have HY : Hid _ := isNaN_any (sw t B) (sw_lt t (by omega))
  have HN : Hid _ := negative_any (sw s A) (sw_lt s (by omega))
  rw [isn_sw s (by omega), decide_eq_false (by omega)] at HX
  rw [isn_sw t (by omega), decide_eq_false (by omega)] at HY
  have c1 := clear_sw s A (by omega)
  have c2 := clear_sw t B (by omega)
  have hz : (((sw t B : Nat) : Int) == ((neg (sw s A) : Nat) : Int)) = true ∧ fa (sw s A) (sw t B) = aNaN ∨ (((sw t B : Nat) : Int) == ((neg (sw s A) : Nat) : Int)) = false ∧ fa (sw s A) (sw t B) = sw s A := by
    rw [neg_sw s (by omega)]
    by_cases hb : B = 9218868437227405312
    · subst hb
      rw [hA]
      unfold fa
      rw [add_inf_inf]
      cases s <;> cases t <;> simp <;> decide +kernel
    · right
      refine ⟨?_, ?_⟩
      · rw [beq_eq_false_iff_ne]
        have e1 := sw_mod t (show B < 9223372036854775808 by omega)
        have e2 := sw_mod (!s) (show A < 9223372036854775808 by omega)
        generalize sw t B = u1 at *
        generalize sw (!s) A = u2 at *
        omega
      · unfold fa; rw [hA, add_inf_fin s t (show B < 9218868437227405312 by omega)]; rfl
  have hi : ((A : Int) == 9218868437227405312) = true := by rw [beq_iff_eq]; omega
  have hc : ¬ (A : Int) < (B : Int) := by omega
  clear hA hB
  generalize neg (sw s A) = nx at *
  generalize fa (sw s A) (sw t B) = V at *
  generalize sw s A = x at *
  generalize sw t B = y at *
  rcases hz with ⟨z1, z2⟩ | ⟨z1, z2⟩
  all_goals
    have HZ : Hid _ := z2
    clear z2
    go_enter Tryz.func97, Tryz.ntmps97
    go_wp2_with (first | (go_at_call 116; (first | (with_reducible refine (HX.out _).mono ?_) | (with_reducible refine (HY.out _).mono ?_)); rintro e w' ⟨rfl, rfl⟩) | (go_at_call 118; with_reducible refine (HN.out _).mono ?_; rintro e w' ⟨rfl, rfl⟩))
    go_ret
    exact ⟨retI (by rw [HZ.out] <;> rfl), rfl⟩
set_option maxHeartbeats 4000000 in
set_option maxRecDepth 100000 in
theorem refadd_finGe (s t : Bool) (A B : Nat) (hA : A < 9218868437227405312) (hB : B ≤ A) (w : World) :
    Calls Tryz.prog 97 #[.int .u64 ((sw s A : Nat) : Int), .int .u64 ((sw t B : Nat) : Int)] w fun e w' => e = .returned (.int .u64 (fa (sw s A) (sw t B) : Nat)) ∧ w' = w := by
  have HX : Hid _ := isNaN_any (sw s A) (sw_lt s (by omega))
  have HY : Hid _ := isNaN_any (sw t B) (sw_lt t (by omega))
  have HPX : Hid _ := parts_any (sw s A) (sw_lt s (by omega))
  have HPY : Hid _ := parts_any (sw t B) (sw_lt t (by omega))
  rw [sw_mod s (by omega)] at HPX
  rw [sw_mod t (by omega)] at HPY
  rw [isn_sw s (by omega), decide_eq_false (by omega)] at HX
  rw [isn_sw t (by omega), decide_eq_false (by omega)] at HY
  have c1 := clear_sw s A (by omega)
  have c2 := clear_sw t B (by omega)
  have g1 := sign_sw s A (by omega)
  have g2 := sign_sw t B (by omega)
  have hi : ((A : Int) == 9218868437227405312) = false := by rw [beq_eq_false_iff_ne]; omega
  have hc : ¬ (A : Int) < (B : Int) := by omega
  have hle : B ≤ A := by omega
  have hua : upOf A ≤ 2045 := up_le hA
  have hub : upOf B ≤ upOf A := up_mono hle
  have hpa := mag_lt A
  have hpb := mag_lt B
  have h8p : (magOf A : Int) * 8 = ((8 * magOf A : Nat) : Int) := by omega
  have h8q : (magOf B : Int) * 8 = ((8 * magOf B : Nat) : Int) := by omega
  have HS : Hid (s = t → ∀ W, Calls Tryz.prog 120 #[.bool s, .int .u64 (((8 * magOf A : Nat) : Int) + (ss (8 * magOf B) (upOf A - upOf B) : Nat)), .int .i64 (-1074 + (upOf A : Int))] W fun e w' => e = .returned (.int .u64 (fa (sw s A) (sw t B) : Nat)) ∧ w' = W) := by
    rintro rfl W
    have hm := ss_mag_lt B (upOf A - upOf B)
    have h := packed_any s _ _ _ (by omega) (sum_down A B hle) (by omega) W
    rw [fa_same s A B hle hA]
    rw [Int.natCast_add] at h
    exact h
  have HD : Hid (s = !t → ∀ (N : Int), N = ((8 * magOf A : Nat) : Int) - (ss (8 * magOf B) (upOf A - upOf B) : Nat) → N ≠ 0 → ∀ W, Calls Tryz.prog 120 #[.bool s, .int .u64 N, .int .i64 (-1074 + (upOf A : Int))] W fun e w' => e = .returned (.int .u64 (fa (sw s A) (sw t B) : Nat)) ∧ w' = W) := by
    intro hst N hN h0 W
    obtain rfl : t = !s := by rw [hst]; simp
    have hm := ss_mag_lt B (upOf A - upOf B)
    have hg := dif_ge A B hle
    have h := packed_any s _ _ _ (by omega) (dif_down A B hle) (by omega) W
    rw [fa_diff s A B hle hA, if_neg (fun k => h0 (by have := (dif_zero A B hle).2 k; omega))]
    rw [show ((8 * magOf A - ss (8 * magOf B) (upOf A - upOf B) : Nat) : Int) = N from by omega] at h
    exact h
  have HE : Hid (s = !t → 8 * magOf A = ss (8 * magOf B) (upOf A - upOf B) → fa (sw s A) (sw t B) = 0) := by
    intro hst k
    obtain rfl : t = !s := by rw [hst]; simp
    rw [fa_diff s A B hle hA, if_pos ((dif_zero A B hle).1 (by omega))]
  have HG : Hid (ss (8 * magOf B) (upOf A - upOf B) ≤ 8 * magOf A) := dif_ge A B hle
  have HM : Hid (∀ k, ss (8 * magOf B) k < 72057594037927936) := ss_mag_lt B
  have HR : Hid (∀ k, k ≤ upOf A - upOf B → ss (8 * magOf B) k ≤ 1 → ss (8 * magOf B) (upOf A - upOf B) = ss (8 * magOf B) k) := fun k hk h => ss_rest _ _ _ h hk
  have HH : Hid (∀ k, ss (ss (8 * magOf B) k) 1 = ss (8 * magOf B) (k + 1)) := fun k => ss_ss _ _ _
  have hQ0 : ss (8 * magOf B) 0 = 8 * magOf B := ss_zero _
  have hP8 : 8 * magOf A < 72057594037927936 := by omega
  have hQ8 : 8 * magOf B < 72057594037927936 := by omega
  generalize fa (sw s A) (sw t B) = V at *
  generalize sw s A = x at *
  generalize sw t B = y at *
  generalize 8 * magOf A = P8 at *
  generalize 8 * magOf B = Q8 at *
  generalize magOf A = p at *
  generalize magOf B = q at *
  generalize upOf A = ua at *
  generalize upOf B = ub at *
  go_enter Tryz.func97, Tryz.ntmps97
  go_wp2_with (first | (go_at_call 116; (first | (with_reducible refine (HX.out _).mono ?_) | (with_reducible refine (HY.out _).mono ?_)); rintro e w' ⟨rfl, rfl⟩) | (go_at_call 119; (first | (with_reducible refine (HPX.out _).mono ?_) | (with_reducible refine (HPY.out _).mono ?_)); rintro e w' ⟨rfl, rfl⟩))
  go_loop [9, 11] (fun a b => ∃ k : Nat, k ≤ ua - ub ∧ a = .int .u64 (ss Q8 k : Nat) ∧ b = .int .i64 (-1074 + (ub : Int) + (k : Int))) (fun _ b => ((ua : Int) - 1074 - intOf b).toNat)
  case atStart => exact ⟨0, by omega, by rw [hQ0], by go_num⟩
  case round =>
    clear HX HY HPX HPY
    obtain ⟨k, hk, rfl, rfl⟩ := hrel
    have hmk : ss Q8 k < 72057594037927936 := HM.out k
    by_cases hlt : k < ua - ub ∧ 1 < ss Q8 k
    · obtain ⟨l1, l2⟩ := hlt
      have l3 : (-1074 : Int) + (ub : Int) + (k : Int) < -1074 + (ua : Int) := by omega
      have l4 : (1 : Int) < ((ss Q8 k : Nat) : Int) := by omega
      have a1 := and_one (ss Q8 k) (by omega)
      have a2 := half_w (ss Q8 k) (by omega)
      rw [HH.out k] at a2
      generalize ss Q8 k % 2 = r at *
      generalize ss Q8 k = m at *
      go_wp2_with fail
      go_round
      case rel => exact ⟨k + 1, by omega, rfl, by go_num⟩
      case measure => simp [intOf]; omega
    · have hK : ss Q8 (ua - ub) = ss Q8 k := by
        by_cases h1 : k = ua - ub
        · rw [h1]
        · exact HR.out k hk (by omega)
      have hx2 : (¬ (-1074 : Int) + (ub : Int) + (k : Int) < -1074 + (ua : Int)) ∨ ((-1074 : Int) + (ub : Int) + (k : Int) < -1074 + (ua : Int) ∧ ¬ (1 : Int) < ((ss Q8 k : Nat) : Int)) := by omega
      have hG2 := HG.out
      rw [hK] at HS HD HE hG2
      clear HR HH hK HM hQ0 HG hlt
      generalize ss Q8 k = m at *
      have hmm : Hid (((P8 : Int) == (m : Int)) = true ∧ P8 = m ∨ ((P8 : Int) == (m : Int)) = false ∧ (P8 : Int) - (m : Int) ≠ 0) := by
        unfold Hid
        by_cases h : P8 = m
        · left; exact ⟨by rw [beq_iff_eq]; omega, h⟩
        · right; exact ⟨by rw [beq_eq_false_iff_ne]; omega, by omega⟩
      cases s <;> cases t
      · have H := HS.out rfl
        rcases hx2 with y1 | ⟨y1, y2⟩
        all_goals
          go_wp2_with (go_at_call 120; with_reducible refine (H _).mono ?_; rintro e w' ⟨rfl, rfl⟩)
          go_ret
          exact ⟨rfl, rfl⟩
      · rcases hmm.out with ⟨m1, m2⟩ | ⟨m1, m2⟩
        · have H : Hid _ := HE.out rfl m2
          rcases hx2 with y1 | ⟨y1, y2⟩
          all_goals
            go_wp2_with fail
            go_ret
            exact ⟨retI (by rw [H.out]; rfl), rfl⟩
        · have H := HD.out rfl _ rfl m2
          rcases hx2 with y1 | ⟨y1, y2⟩
          all_goals
            go_wp2_with (go_at_call 120; with_reducible refine (H _).mono ?_; rintro e w' ⟨rfl, rfl⟩)
            go_ret
            exact ⟨rfl, rfl⟩
      · rcases hmm.out with ⟨m1, m2⟩ | ⟨m1, m2⟩
        · have H : Hid _ := HE.out rfl m2
          rcases hx2 with y1 | ⟨y1, y2⟩
          all_goals
            go_wp2_with fail
            go_ret
            exact ⟨retI (by rw [H.out]; rfl), rfl⟩
        · have H := HD.out rfl _ rfl m2
          rcases hx2 with y1 | ⟨y1, y2⟩
          all_goals
            go_wp2_with (go_at_call 120; with_reducible refine (H _).mono ?_; rintro e w' ⟨rfl, rfl⟩)
            go_ret
            exact ⟨rfl, rfl⟩
      · have H := HS.out rfl
        rcases hx2 with y1 | ⟨y1, y2⟩
        all_goals
          go_wp2_with (go_at_call 120; with_reducible refine (H _).mono ?_; rintro e w' ⟨rfl, rfl⟩)
          go_ret
          exact ⟨rfl, rfl⟩
set_option maxHeartbeats 4000000 in
set_option maxRecDepth 100000 in
theorem refadd_infLt (s t : Bool) (A B : Nat) (hA : A = 9218868437227405312) (hB : B < 9218868437227405312) (w : World) :
    Calls Tryz.prog 97 #[.int .u64 ((sw t B : Nat) : Int), .int .u64 ((sw s A : Nat) : Int)] w fun e w' => e = .returned (.int .u64 (fa (sw s A) (sw t B) : Nat)) ∧ w' = w := by
  have HX : Hid _ := isNaN_any (sw s A) (sw_lt s (by omega))
  have HY : Hid _ := isNaN_any (sw t B) (sw_lt t (by omega))
  have HN : Hid _ := negative_any (sw s A) (sw_lt s (by omega))
  rw [isn_sw s (by omega), decide_eq_false (by omega)] at HX
  rw [isn_sw t (by omega), decide_eq_false (by omega)] at HY
  have c1 := clear_sw s A (by omega)
  have c2 := clear_sw t B (by omega)
  have hz : (((sw t B : Nat) : Int) == ((neg (sw s A) : Nat) : Int)) = true ∧ fa (sw s A) (sw t B) = aNaN ∨ (((sw t B : Nat) : Int) == ((neg (sw s A) : Nat) : Int)) = false ∧ fa (sw s A) (sw t B) = sw s A := by
    rw [neg_sw s (by omega)]
    by_cases hb : B = 9218868437227405312
    · subst hb
      rw [hA]
      unfold fa
      rw [add_inf_inf]
      cases s <;> cases t <;> simp <;> decide +kernel
    · right
      refine ⟨?_, ?_⟩
      · rw [beq_eq_false_iff_ne]
        have e1 := sw_mod t (show B < 9223372036854775808 by omega)
        have e2 := sw_mod (!s) (show A < 9223372036854775808 by omega)
        generalize sw t B = u1 at *
        generalize sw (!s) A = u2 at *
        omega
      · unfold fa; rw [hA, add_inf_fin s t (show B < 9218868437227405312 by omega)]; rfl
  have hi : ((A : Int) == 9218868437227405312) = true := by rw [beq_iff_eq]; omega
  have hc : (B : Int) < (A : Int) := by omega
  clear hA hB
  generalize neg (sw s A) = nx at *
  generalize fa (sw s A) (sw t B) = V at *
  generalize sw s A = x at *
  generalize sw t B = y at *
  rcases hz with ⟨z1, z2⟩ | ⟨z1, z2⟩
  all_goals
    have HZ : Hid _ := z2
    clear z2
    go_enter Tryz.func97, Tryz.ntmps97
    go_wp2_with (first | (go_at_call 116; (first | (with_reducible refine (HX.out _).mono ?_) | (with_reducible refine (HY.out _).mono ?_)); rintro e w' ⟨rfl, rfl⟩) | (go_at_call 118; with_reducible refine (HN.out _).mono ?_; rintro e w' ⟨rfl, rfl⟩))
    go_ret
    exact ⟨retI (by rw [HZ.out] <;> rfl), rfl⟩
set_option maxHeartbeats 4000000 in
set_option maxRecDepth 100000 in
theorem refadd_finLt (s t : Bool) (A B : Nat) (hA : A < 9218868437227405312) (hB : B < A) (w : World) :
    Calls Tryz.prog 97 #[.int .u64 ((sw t B : Nat) : Int), .int .u64 ((sw s A : Nat) : Int)] w fun e w' => e = .returned (.int .u64 (fa (sw s A) (sw t B) : Nat)) ∧ w' = w := by
  have HX : Hid _ := isNaN_any (sw s A) (sw_lt s (by omega))
  have HY : Hid _ := isNaN_any (sw t B) (sw_lt t (by omega))
  have HPX : Hid _ := parts_any (sw s A) (sw_lt s (by omega))
  have HPY : Hid _ := parts_any (sw t B) (sw_lt t (by omega))
  rw [sw_mod s (by omega)] at HPX
  rw [sw_mod t (by omega)] at HPY
  rw [isn_sw s (by omega), decide_eq_false (by omega)] at HX
  rw [isn_sw t (by omega), decide_eq_false (by omega)] at HY
  have c1 := clear_sw s A (by omega)
  have c2 := clear_sw t B (by omega)
  have g1 := sign_sw s A (by omega)
  have g2 := sign_sw t B (by omega)
  have hi : ((A : Int) == 9218868437227405312) = false := by rw [beq_eq_false_iff_ne]; omega
  have hc : (B : Int) < (A : Int) := by omega
  have hle : B ≤ A := by omega
  have hua : upOf A ≤ 2045 := up_le hA
  have hub : upOf B ≤ upOf A := up_mono hle
  have hpa := mag_lt A
  have hpb := mag_lt B
  have h8p : (magOf A : Int) * 8 = ((8 * magOf A : Nat) : Int) := by omega
  have h8q : (magOf B : Int) * 8 = ((8 * magOf B : Nat) : Int) := by omega
  have HS : Hid (s = t → ∀ W, Calls Tryz.prog 120 #[.bool s, .int .u64 (((8 * magOf A : Nat) : Int) + (ss (8 * magOf B) (upOf A - upOf B) : Nat)), .int .i64 (-1074 + (upOf A : Int))] W fun e w' => e = .returned (.int .u64 (fa (sw s A) (sw t B) : Nat)) ∧ w' = W) := by
    rintro rfl W
    have hm := ss_mag_lt B (upOf A - upOf B)
    have h := packed_any s _ _ _ (by omega) (sum_down A B hle) (by omega) W
    rw [fa_same s A B hle hA]
    rw [Int.natCast_add] at h
    exact h
  have HD : Hid (s = !t → ∀ (N : Int), N = ((8 * magOf A : Nat) : Int) - (ss (8 * magOf B) (upOf A - upOf B) : Nat) → N ≠ 0 → ∀ W, Calls Tryz.prog 120 #[.bool s, .int .u64 N, .int .i64 (-1074 + (upOf A : Int))] W fun e w' => e = .returned (.int .u64 (fa (sw s A) (sw t B) : Nat)) ∧ w' = W) := by
    intro hst N hN h0 W
    obtain rfl : t = !s := by rw [hst]; simp
    have hm := ss_mag_lt B (upOf A - upOf B)
    have hg := dif_ge A B hle
    have h := packed_any s _ _ _ (by omega) (dif_down A B hle) (by omega) W
    rw [fa_diff s A B hle hA, if_neg (fun k => h0 (by have := (dif_zero A B hle).2 k; omega))]
    rw [show ((8 * magOf A - ss (8 * magOf B) (upOf A - upOf B) : Nat) : Int) = N from by omega] at h
    exact h
  have HE : Hid (s = !t → 8 * magOf A = ss (8 * magOf B) (upOf A - upOf B) → fa (sw s A) (sw t B) = 0) := by
    intro hst k
    obtain rfl : t = !s := by rw [hst]; simp
    rw [fa_diff s A B hle hA, if_pos ((dif_zero A B hle).1 (by omega))]
  have HG : Hid (ss (8 * magOf B) (upOf A - upOf B) ≤ 8 * magOf A) := dif_ge A B hle
  have HM : Hid (∀ k, ss (8 * magOf B) k < 72057594037927936) := ss_mag_lt B
  have HR : Hid (∀ k, k ≤ upOf A - upOf B → ss (8 * magOf B) k ≤ 1 → ss (8 * magOf B) (upOf A - upOf B) = ss (8 * magOf B) k) := fun k hk h => ss_rest _ _ _ h hk
  have HH : Hid (∀ k, ss (ss (8 * magOf B) k) 1 = ss (8 * magOf B) (k + 1)) := fun k => ss_ss _ _ _
  have hQ0 : ss (8 * magOf B) 0 = 8 * magOf B := ss_zero _
  have hP8 : 8 * magOf A < 72057594037927936 := by omega
  have hQ8 : 8 * magOf B < 72057594037927936 := by omega
  generalize fa (sw s A) (sw t B) = V at *
  generalize sw s A = x at *
  generalize sw t B = y at *
  generalize 8 * magOf A = P8 at *
  generalize 8 * magOf B = Q8 at *
  generalize magOf A = p at *
  generalize magOf B = q at *
  generalize upOf A = ua at *
  generalize upOf B = ub at *
  go_enter Tryz.func97, Tryz.ntmps97
  go_wp2_with (first | (go_at_call 116; (first | (with_reducible refine (HX.out _).mono ?_) | (with_reducible refine (HY.out _).mono ?_)); rintro e w' ⟨rfl, rfl⟩) | (go_at_call 119; (first | (with_reducible refine (HPX.out _).mono ?_) | (with_reducible refine (HPY.out _).mono ?_)); rintro e w' ⟨rfl, rfl⟩))
  go_loop [9, 11] (fun a b => ∃ k : Nat, k ≤ ua - ub ∧ a = .int .u64 (ss Q8 k : Nat) ∧ b = .int .i64 (-1074 + (ub : Int) + (k : Int))) (fun _ b => ((ua : Int) - 1074 - intOf b).toNat)
  case atStart => exact ⟨0, by omega, by rw [hQ0], by go_num⟩
  case round =>
    clear HX HY HPX HPY
    obtain ⟨k, hk, rfl, rfl⟩ := hrel
    have hmk : ss Q8 k < 72057594037927936 := HM.out k
    by_cases hlt : k < ua - ub ∧ 1 < ss Q8 k
    · obtain ⟨l1, l2⟩ := hlt
      have l3 : (-1074 : Int) + (ub : Int) + (k : Int) < -1074 + (ua : Int) := by omega
      have l4 : (1 : Int) < ((ss Q8 k : Nat) : Int) := by omega
      have a1 := and_one (ss Q8 k) (by omega)
      have a2 := half_w (ss Q8 k) (by omega)
      rw [HH.out k] at a2
      generalize ss Q8 k % 2 = r at *
      generalize ss Q8 k = m at *
      go_wp2_with fail
      go_round
      case rel => exact ⟨k + 1, by omega, rfl, by go_num⟩
      case measure => simp [intOf]; omega
    · have hK : ss Q8 (ua - ub) = ss Q8 k := by
        by_cases h1 : k = ua - ub
        · rw [h1]
        · exact HR.out k hk (by omega)
      have hx2 : (¬ (-1074 : Int) + (ub : Int) + (k : Int) < -1074 + (ua : Int)) ∨ ((-1074 : Int) + (ub : Int) + (k : Int) < -1074 + (ua : Int) ∧ ¬ (1 : Int) < ((ss Q8 k : Nat) : Int)) := by omega
      have hG2 := HG.out
      rw [hK] at HS HD HE hG2
      clear HR HH hK HM hQ0 HG hlt
      generalize ss Q8 k = m at *
      have hmm : Hid (((P8 : Int) == (m : Int)) = true ∧ P8 = m ∨ ((P8 : Int) == (m : Int)) = false ∧ (P8 : Int) - (m : Int) ≠ 0) := by
        unfold Hid
        by_cases h : P8 = m
        · left; exact ⟨by rw [beq_iff_eq]; omega, h⟩
        · right; exact ⟨by rw [beq_eq_false_iff_ne]; omega, by omega⟩
      cases s <;> cases t
      · have H := HS.out rfl
        rcases hx2 with y1 | ⟨y1, y2⟩
        all_goals
          go_wp2_with (go_at_call 120; with_reducible refine (H _).mono ?_; rintro e w' ⟨rfl, rfl⟩)
          go_ret
          exact ⟨rfl, rfl⟩
      · rcases hmm.out with ⟨m1, m2⟩ | ⟨m1, m2⟩
        · have H : Hid _ := HE.out rfl m2
          rcases hx2 with y1 | ⟨y1, y2⟩
          all_goals
            go_wp2_with fail
            go_ret
            exact ⟨retI (by rw [H.out]; rfl), rfl⟩
        · have H := HD.out rfl _ rfl m2
          rcases hx2 with y1 | ⟨y1, y2⟩
          all_goals
            go_wp2_with (go_at_call 120; with_reducible refine (H _).mono ?_; rintro e w' ⟨rfl, rfl⟩)
            go_ret
            exact ⟨rfl, rfl⟩
      · rcases hmm.out with ⟨m1, m2⟩ | ⟨m1, m2⟩
        · have H : Hid _ := HE.out rfl m2
          rcases hx2 with y1 | ⟨y1, y2⟩
          all_goals
            go_wp2_with fail
            go_ret
            exact ⟨retI (by rw [H.out]; rfl), rfl⟩
        · have H := HD.out rfl _ rfl m2
          rcases hx2 with y1 | ⟨y1, y2⟩
          all_goals
            go_wp2_with (go_at_call 120; with_reducible refine (H _).mono ?_; rintro e w' ⟨rfl, rfl⟩)
            go_ret
            exact ⟨rfl, rfl⟩
      · have H := HS.out rfl
        rcases hx2 with y1 | ⟨y1, y2⟩
        all_goals
          go_wp2_with (go_at_call 120; with_reducible refine (H _).mono ?_; rintro e w' ⟨rfl, rfl⟩)
          go_ret
          exact ⟨rfl, rfl⟩
theorem refadd_any (x y : Nat) (hx : x < 18446744073709551616) (hy : y < 18446744073709551616) (w : World) :
    Calls Tryz.prog 97 #[.int .u64 (x : Int), .int .u64 (y : Int)] w fun e w' => e = .returned (.int .u64 (fa x y : Nat)) ∧ w' = w := by
  cases h : isn x
  · cases k : isn y
    · obtain ⟨s, a, rfl, ha⟩ := sw_of x hx
      obtain ⟨t, b, rfl, hb⟩ := sw_of y hy
      rw [isn_sw s ha] at h
      rw [isn_sw t hb] at k
      have h := of_decide_eq_false h
      have k := of_decide_eq_false k
      by_cases hab : b ≤ a
      · by_cases hi : a = 9218868437227405312
        · exact refadd_infGe s t a b hi (by omega) w
        · exact refadd_finGe s t a b (by omega) hab w
      · rw [fa_sym _ _ hx hy]
        by_cases hi : b = 9218868437227405312
        · exact refadd_infLt t s b a hi (by omega) w
        · exact refadd_finLt t s b a (by omega) (by omega) w
    · exact refadd_nan x y hx hy (.inr k) w
  · exact refadd_nan x y hx hy (.inl h) w
end Go.Proofs.YtpllckgpolhafaaGreatDoor.Pr
/- LOSSES AND PAIRS, by words. Own work of the verifier. -/
namespace Go.Proofs.YtpllckgpolhafaaGreatDoor.Soft

def geq (x y : Nat) : Bool := !isn x && !isn y && decide (y % 9223372036854775808 ≤ x % 9223372036854775808)
/-- What rounding loses of a sum. -/
def fl (x y : Nat) : Nat := if geq x y then fa (fa x (neg (fa x y))) y else fa (fa y (neg (fa x y))) x
def putW (p : Nat × Nat) (x : Nat) : Nat × Nat := (fa p.1 x, fa p.2 (fl p.1 x))
def mergeW (p q : Nat × Nat) : Nat × Nat := (fa p.1 q.1, fa (fa p.2 q.2) (fl p.1 q.1))
def ofW (l : List Nat) : Nat × Nat := l.foldl putW (0, 0)
theorem add_not_nan {x y r : Nat} (hx : x < 18446744073709551616) (hy : y < 18446744073709551616) (h : Ieee.double.add x y = some r) : isn r = false := by
  rcases word_cases x hx with k | ⟨s, rfl⟩ | ⟨s, a, rfl, ha⟩
  · rw [add_nan1 y hx k] at h; cases h
  · rcases word_cases y hy with k | ⟨t, rfl⟩ | ⟨t, b, rfl, hb⟩
    · rw [add_nan2 _ hy k] at h; cases h
    · rw [add_inf_inf] at h
      split at h
      · cases h; rw [isn_sw s (by omega)]; decide
      · cases h
    · rw [add_inf_fin s t hb] at h; cases h; rw [isn_sw s (by omega)]; decide
  · rcases word_cases y hy with k | ⟨t, rfl⟩ | ⟨t, b, rfl, hb⟩
    · rw [add_nan2 _ hy k] at h; cases h
    · rw [add_fin_inf t s ha] at h; cases h; rw [isn_sw t (by omega)]; decide
    · rw [add_fin s t a b ha hb] at h
      cases h
      unfold addW
      split
      · rw [isn_sw _ (by omega)]; decide
      · rw [isn_sw _ (by have := nrung_le (sv s a + sv t b).natAbs; omega)]
        exact decide_eq_false (by have := nrung_le (sv s a + sv t b).natAbs; omega)
theorem fa_can (x y : Nat) (hx : x < 18446744073709551616) (hy : y < 18446744073709551616) : one (fa x y) = fa x y := by
  unfold fa
  cases h : Ieee.double.add x y with
  | none => decide
  | some r => exact one_of_not (add_not_nan hx hy h)
theorem geq_congr {x y x' y' : Nat} (e1 : one x = one x') (e2 : one y = one y') : geq x y = geq x' y' := by
  have k1 : isn x = isn x' := by rw [← isn_one x, e1, isn_one]
  have k2 : isn y = isn y' := by rw [← isn_one y, e2, isn_one]
  unfold geq
  rw [k1, k2]
  cases h1 : isn x'
  · cases h2 : isn y'
    · rw [one_of_not (k1.trans h1), one_of_not h1] at e1
      rw [one_of_not (k2.trans h2), one_of_not h2] at e2
      rw [e1, e2]
    · rfl
  · rfl
theorem fl_lt (x y : Nat) : fl x y < 18446744073709551616 := by unfold fl; split <;> exact fa_lt _ _
theorem fl_can (x y : Nat) (hx : x < 18446744073709551616) (hy : y < 18446744073709551616) : one (fl x y) = fl x y := by
  unfold fl; split
  · exact fa_can _ _ (fa_lt _ _) hy
  · exact fa_can _ _ (fa_lt _ _) hx
theorem fl_congr {x y x' y' : Nat} (hx : x < 18446744073709551616) (hy : y < 18446744073709551616) (hx' : x' < 18446744073709551616) (hy' : y' < 18446744073709551616) (e1 : one x = one x') (e2 : one y = one y') : fl x y = fl x' y' := by
  unfold fl
  rw [geq_congr e1 e2, fa_congr hx hy hx' hy' e1 e2]
  have hn := neg_lt (fa_lt x' y')
  rw [fa_congr hx hn hx' hn e1 rfl, fa_congr hy hn hy' hn e2 rfl]
  rw [fa_congr (fa_lt _ _) hy (fa_lt _ _) hy' rfl e2, fa_congr (fa_lt _ _) hx (fa_lt _ _) hx' rfl e1]
theorem order_geq (x y : Nat) (_hx : x < 18446744073709551616) (_hy : y < 18446744073709551616) :
    (Ieee.double.order (x % 9223372036854775808) (y % 9223372036854775808) == some .gt || Ieee.double.order (x % 9223372036854775808) (y % 9223372036854775808) == some .eq) = geq x y := by
  unfold geq isn
  have ha : x % 9223372036854775808 < 9223372036854775808 := by omega
  have hb : y % 9223372036854775808 < 9223372036854775808 := by omega
  generalize x % 9223372036854775808 = a at *
  generalize y % 9223372036854775808 = b at *
  by_cases h1 : 9218868437227405312 < a
  · have := order_nan1 false a b h1 ha
    rw [show sw false a = a from rfl] at this
    rw [this, decide_eq_true h1]; rfl
  · by_cases h2 : 9218868437227405312 < b
    · have := order_nan2 false b a h2 hb
      rw [show sw false b = b from rfl] at this
      rw [this, decide_eq_true h2]; simp
    · have := order_all false false a b (by omega) (by omega)
      rw [show sw false a = a from rfl, show sw false b = b from rfl, show sr false a = (a : Int) from rfl, show sr false b = (b : Int) from rfl] at this
      rw [this, decide_eq_false h1, decide_eq_false h2]
      rcases Int.lt_trichotomy (a : Int) (b : Int) with k | k | k
      · rw [Int.compare_eq_lt.2 k, decide_eq_false (by omega)]; rfl
      · rw [show compare (a : Int) (b : Int) = .eq from Int.compare_eq_eq.2 k, decide_eq_true (by omega)]; rfl
      · rw [Int.compare_eq_gt.2 k, decide_eq_true (by omega)]; rfl
end Go.Proofs.YtpllckgpolhafaaGreatDoor.Soft
/- THE DOCUMENT's LOSSES AND PAIRS: THE WALKS. Own work of the verifier. -/
namespace Go.Proofs.YtpllckgpolhafaaGreatDoor.Pr
open Go.RowKit Soft

theorem bel1 (w : World) (o1 : Obj) : Below w.heap.size w (w.alloc o1) := (Below.refl _ _).alloc (Nat.le_refl _) _
theorem bel2 (w : World) (o1 o2 : Obj) : Below w.heap.size w ((w.alloc o1).alloc o2) :=
  ((Below.refl _ _).alloc (Nat.le_refl _) _).alloc (by simp) _
theorem bel3 (w : World) (o1 o2 o3 : Obj) : Below w.heap.size w (((w.alloc o1).alloc o2).alloc o3) :=
  (((Below.refl _ _).alloc (Nat.le_refl _) _).alloc (by simp) _).alloc (by simp only [World.size_alloc]; omega) _
theorem refsub_any (x y : Nat) (hx : x < 18446744073709551616) (hy : y < 18446744073709551616) (w : World) :
    Calls Tryz.prog 117 #[.int .u64 (x : Int), .int .u64 (y : Int)] w fun e w' => e = .returned (.int .u64 (fa x (neg y) : Nat)) ∧ w' = w := by
  have HN : Hid _ := negative_any y hy
  have HA : Hid _ := refadd_any x (neg y) hx (neg_lt hy)
  go_enter Tryz.func117, Tryz.ntmps117
  go_wp2_with (first | (go_at_call 118; with_reducible refine (HN.out _).mono ?_; rintro e w' ⟨rfl, rfl⟩) | (go_at_call 97; with_reducible refine (HA.out _).mono ?_; rintro e w' ⟨rfl, rfl⟩))
  go_ret
  exact ⟨rfl, rfl⟩
set_option maxHeartbeats 4000000 in
theorem refloss_any (x y : Nat) (hx : x < 18446744073709551616) (hy : y < 18446744073709551616) (w : World) :
    Calls Tryz.prog 96 #[.int .u64 (x : Int), .int .u64 (y : Int)] w fun e w' => e = .returned (.int .u64 (fl x y : Nat)) ∧ w' = w := by
  have HX : Hid _ := isNaN_any x hx
  have HY : Hid _ := isNaN_any y hy
  have c1 := clear_sign x hx
  have c2 := clear_sign y hy
  have HA : Hid _ := refadd_any x y hx hy
  have HS1 : Hid _ := refsub_any x (fa x y) hx (fa_lt _ _)
  have HS2 : Hid _ := refsub_any y (fa x y) hy (fa_lt _ _)
  have HB1 : Hid _ := refadd_any (fa x (neg (fa x y))) y (fa_lt _ _) hy
  have HB2 : Hid _ := refadd_any (fa y (neg (fa x y))) x (fa_lt _ _) hx
  have HF : Hid (fl x y = if geq x y then fa (fa x (neg (fa x y))) y else fa (fa y (neg (fa x y))) x) := rfl
  have HG : Hid (geq x y = (!isn x && !isn y && decide (y % 9223372036854775808 ≤ x % 9223372036854775808))) := rfl
  generalize fl x y = V at *
  generalize geq x y = g at *
  generalize isn x = n1 at *
  generalize isn y = n2 at *
  generalize x % 9223372036854775808 = a at *
  generalize y % 9223372036854775808 = b at *
  have hc : ((b : Int) ≤ (a : Int) ∧ decide (b ≤ a) = true) ∨ (¬ (b : Int) ≤ (a : Int) ∧ decide (b ≤ a) = false) := by
    by_cases h : b ≤ a
    · left; exact ⟨by omega, decide_eq_true h⟩
    · right; exact ⟨by omega, decide_eq_false h⟩
  rcases hc with ⟨hc, hd⟩ | ⟨hc, hd⟩
  all_goals
    rw [hd] at HG
    clear hd
    cases n1 <;> cases n2
    all_goals
      rw [HG.out] at HF
      clear HG
      simp only [Bool.not_true, Bool.not_false, Bool.and_true, Bool.and_false, Bool.and_self, if_true, Bool.false_eq_true, if_false] at HF
      go_enter Tryz.func96, Tryz.ntmps96
      go_wp2_with (first | (go_at_call 116; (first | (with_reducible refine (HX.out _).mono ?_) | (with_reducible refine (HY.out _).mono ?_)); rintro e w' ⟨rfl, rfl⟩) | (go_at_call 117; (first | (with_reducible refine (HS1.out _).mono ?_) | (with_reducible refine (HS2.out _).mono ?_)); rintro e w' ⟨rfl, rfl⟩) | (go_at_call 97; (first | (with_reducible refine (HA.out _).mono ?_) | (with_reducible refine (HB1.out _).mono ?_) | (with_reducible refine (HB2.out _).mono ?_)); rintro e w' ⟨rfl, rfl⟩))
      go_ret
      exact ⟨retI (by rw [HF.out]), rfl⟩
set_option maxHeartbeats 2000000 in
theorem refput_any (s c x : Nat) (hs : s < 18446744073709551616) (hc : c < 18446744073709551616) (hx : x < 18446744073709551616) (w : World) :
    Calls Tryz.prog 189 #[.agg #[.int .u64 (s : Int), .int .u64 (c : Int)], .int .u64 (x : Int)] w fun e w' => e = .returned (.agg #[.int .u64 (fa s x : Nat), .int .u64 (fa c (fl s x) : Nat)]) ∧ Below w.heap.size w w' := by
  have HL : Hid _ := refloss_any s x hs hx
  have HA : Hid _ := refadd_any s x hs hx
  have HB : Hid _ := refadd_any c (fl s x) hc (fl_lt _ _)
  go_enter Tryz.func189, Tryz.ntmps189
  go_wp2_with (first | (go_at_call 96; with_reducible refine (HL.out _).mono ?_; rintro e w' ⟨rfl, rfl⟩) | (go_at_call 97; (first | (with_reducible refine (HA.out _).mono ?_) | (with_reducible refine (HB.out _).mono ?_)); rintro e w' ⟨rfl, rfl⟩))
  go_region_held3 (fun W => W.cell? ⟨w.heap.size, 0, none⟩ = some (.int .u64 (s : Int)) ∧ W.cell? ⟨w.heap.size, 1, none⟩ = some (.int .u64 (c : Int))) (go_keep)
    (first | (go_at_call 97; (first | (with_reducible refine (HA.out _).mono ?_) | (with_reducible refine (HB.out _).mono ?_)); rintro e w' ⟨rfl, rfl⟩))
  go_wp2
  simp [bodyPost, results, Tryz.results189, go_sem]
  exact (bel2 _ _ _).drew
set_option maxHeartbeats 2000000 in
theorem refmerge_any (s c u d : Nat) (hs : s < 18446744073709551616) (hc : c < 18446744073709551616) (hu : u < 18446744073709551616) (hd : d < 18446744073709551616) (w : World) :
    Calls Tryz.prog 75 #[.agg #[.int .u64 (s : Int), .int .u64 (c : Int)], .agg #[.int .u64 (u : Int), .int .u64 (d : Int)]] w fun e w' => e = .returned (.agg #[.int .u64 (fa s u : Nat), .int .u64 (fa (fa c d) (fl s u) : Nat)]) ∧ Below w.heap.size w w' := by
  have HL : Hid _ := refloss_any s u hs hu
  have HC : Hid _ := refadd_any c d hc hd
  have HA : Hid _ := refadd_any s u hs hu
  have HB : Hid _ := refadd_any (fa c d) (fl s u) (fa_lt _ _) (fl_lt _ _)
  go_enter Tryz.func75, Tryz.ntmps75
  go_wp2_with (first | (go_at_call 96; with_reducible refine (HL.out _).mono ?_; rintro e w' ⟨rfl, rfl⟩) | (go_at_call 97; (first | (with_reducible refine (HC.out _).mono ?_) | (with_reducible refine (HA.out _).mono ?_) | (with_reducible refine (HB.out _).mono ?_)); rintro e w' ⟨rfl, rfl⟩))
  simp [bodyPost, results, Tryz.results75, go_sem]
  exact bel3 _ _ _ _
theorem reftotal_any (s c : Nat) (hs : s < 18446744073709551616) (hc : c < 18446744073709551616) (w : World) :
    Calls Tryz.prog 190 #[.agg #[.int .u64 (s : Int), .int .u64 (c : Int)]] w fun e w' => e = .returned (.int .u64 (fa s c : Nat)) ∧ Below w.heap.size w w' := by
  have HA : Hid _ := refadd_any s c hs hc
  go_enter Tryz.func190, Tryz.ntmps190
  go_wp2_with (go_at_call 97; with_reducible refine (HA.out _).mono ?_; rintro e w' ⟨rfl, rfl⟩)
  go_ret
  exact ⟨rfl, bel1 _ _⟩
/-- Whole numbers of 64 bits, one behind the other. -/
def RowU (w : World) (b o : Nat) (L : List Nat) : Prop := ∀ i (h : i < L.length), w.cell? ⟨b, o + i, none⟩ = some (.int .u64 ((L[i] : Nat) : Int))
def Small (L : List Nat) : Prop := ∀ x ∈ L, x < 18446744073709551616
theorem ofW_snoc (L : List Nat) (x : Nat) : ofW (L ++ [x]) = putW (ofW L) x := by unfold ofW; rw [List.foldl_append]; rfl
theorem ofW_take (L : List Nat) (i : Nat) (h : i < L.length) : ofW (L.take (i + 1)) = putW (ofW (L.take i)) L[i] := by
  rw [List.take_succ_eq_append_getElem h, ofW_snoc]
theorem lt_of_cell {w : World} {b o : Nat} {v : Value} (h : w.cell? ⟨b, o, none⟩ = some v) : b < w.heap.size := by
  by_cases k : b < w.heap.size
  · exact k
  · exfalso
    have : w.heap[b]? = none := by simp; omega
    simp [World.cell?, this] at h
theorem RowU.below {w w1 : World} {b o : Nat} {L : List Nat} {B : Nat} (h : RowU w b o L) (hb : Below B w w1) (hB : L ≠ [] → b < B) : RowU w1 b o L := fun i hi => by
  rw [hb.cell (p := ⟨b, o + i, none⟩) (hB (by intro k; rw [k] at hi; simp at hi))]; exact h i hi
/-- A pair that lies in memory. -/
def P2 (w : World) (k x y : Nat) : Prop := w.heap[k]? = some (.cells #[.int .u64 (x : Int), .int .u64 (y : Int)] 97 (0, 0))
theorem P2.c0 {w : World} {k x y : Nat} (h : P2 w k x y) : w.cell? ⟨k, 0, none⟩ = some (.int .u64 (x : Int)) := by unfold P2 at h; simp [World.cell?, h]
theorem P2.c1 {w : World} {k x y : Nat} (h : P2 w k x y) : w.cell? ⟨k, 1, none⟩ = some (.int .u64 (y : Int)) := by unfold P2 at h; simp [World.cell?, h]
theorem P2.fr {w : World} {k x y : Nat} (h : P2 w k x y) (o : Nat) : w.frozen? ⟨k, o, none⟩ = false := by unfold P2 at h; simp [World.frozen?, h]
theorem P2.lt {w : World} {k x y : Nat} (h : P2 w k x y) : k < w.heap.size := lt_of_cell h.c0
theorem P2.put {w : World} {k x y : Nat} (h : P2 w k x y) (x' y' : Nat) : P2 ((w.setCell ⟨k, 0, none⟩ (.int .u64 (x' : Int))).setCell ⟨k, 1, none⟩ (.int .u64 (y' : Int))) k x' y' := by
  unfold P2 at *
  have h1 := heap_setCell_same w k 0 _ _ (.int .u64 (x' : Int)) h
  have h2 := heap_setCell_same _ k 1 _ _ (.int .u64 (y' : Int)) h1
  rw [h2]; rfl
theorem P2.other {w : World} {k x y : Nat} (h : P2 w k x y) {a : Addr} (ha : k ≠ a.block) (v : Value) : P2 (w.setCell a v) k x y := by
  unfold P2 at *
  rw [heap_setCell_other w a k v ha]; exact h
theorem P2.below {w w1 : World} {k x y B : Nat} (h : P2 w k x y) (hb : Below B w w1) (hk : k < B) : P2 w1 k x y := by
  unfold P2 at *
  rw [hb.block k hk]; exact h
theorem new1 (w : World) (o1 o2 : Obj) : ((w.alloc o1).alloc o2).heap[w.heap.size]? = some o1 := by
  show ((w.heap.push o1).push o2)[w.heap.size]? = some o1
  simp [Array.getElem?_push]
theorem new2 (w : World) (o1 o2 : Obj) : ((w.alloc o1).alloc o2).heap[w.heap.size + 1]? = some o2 := by
  show ((w.heap.push o1).push o2)[w.heap.size + 1]? = some o2
  rw [show w.heap.size + 1 = (w.heap.push o1).size from by simp, Array.getElem?_push_size]
theorem RowU.lt {w : World} {b o : Nat} {L : List Nat} (h : RowU w b o L) (hL : L ≠ []) : b < w.heap.size := by
  cases L with
  | nil => exact absurd rfl hL
  | cons x l => exact lt_of_cell (h 0 (by simp))
theorem putW_lt (p : Nat × Nat) (x : Nat) : (putW p x).1 < 18446744073709551616 ∧ (putW p x).2 < 18446744073709551616 := ⟨fa_lt _ _, fa_lt _ _⟩
theorem ofW_lt (L : List Nat) (i : Nat) : (ofW (L.take i)).1 < 18446744073709551616 ∧ (ofW (L.take i)).2 < 18446744073709551616 := by
  rcases List.eq_nil_or_concat (L.take i) with h | ⟨l, x, h⟩
  · rw [h]; decide
  · rw [h, List.concat_eq_append, ofW_snoc]; exact putW_lt _ _
theorem keepOf {w W W1 : World} {b o i s c x : Nat} {L : List Nat} (hb : Below W.heap.size W W1) (_hi : i < L.length) (h : W.cell? ⟨b, o + i, none⟩ = some (.int .u64 (x : Int)) ∧ W.cell? ⟨w.heap.size + 1, 0, none⟩ = some (.int .u64 (s : Int)) ∧ W.cell? ⟨w.heap.size + 1, 1, none⟩ = some (.int .u64 (c : Int)) ∧ W.frozen? ⟨w.heap.size + 1, 0, none⟩ = false ∧ W.frozen? ⟨w.heap.size + 1, 1, none⟩ = false ∧ (RowU W b o L ∧ P2 W (w.heap.size + 1) s c ∧ P2 W w.heap.size 0 0 ∧ Below w.heap.size w W)) :
    W1.cell? ⟨b, o + i, none⟩ = some (.int .u64 (x : Int)) ∧ W1.cell? ⟨w.heap.size + 1, 0, none⟩ = some (.int .u64 (s : Int)) ∧ W1.cell? ⟨w.heap.size + 1, 1, none⟩ = some (.int .u64 (c : Int)) ∧ W1.frozen? ⟨w.heap.size + 1, 0, none⟩ = false ∧ W1.frozen? ⟨w.heap.size + 1, 1, none⟩ = false ∧ (RowU W1 b o L ∧ P2 W1 (w.heap.size + 1) s c ∧ P2 W1 w.heap.size 0 0 ∧ Below w.heap.size w W1) := by
  obtain ⟨h1, h2, h3, h4, h5, h6, h7, h8, h9⟩ := h
  have hx : b < W.heap.size := lt_of_cell h1
  have hy := h7.lt
  have hz := h8.lt
  have p7 := h7.below hb hy
  refine ⟨by rw [hb.cell (p := ⟨b, o + i, none⟩) hx, h1], p7.c0, p7.c1, p7.fr 0, p7.fr 1, h6.below hb (fun _ => hx), p7, h8.below hb hz, h9.trans (hb.mono h9.size)⟩
end Go.Proofs.YtpllckgpolhafaaGreatDoor.Pr
/- THE CODE's LOSSES AND PAIRS: THE WALKS. Own work of the verifier. -/
namespace Go.Proofs.YtpllckgpolhafaaGreatDoor.Pr
open Go.RowKit Soft

theorem cut_nan (x y t : Nat) : (Question.nanBits .f64 x y).cut t < 18446744073709551616 ∧ isn ((Question.nanBits .f64 x y).cut t) = true := by
  show (t % 2) * 2 ^ 63 + 0x7ff0000000000000 + 1 + (t / 2) % (2 ^ 52 - 1) < _ ∧ isn ((t % 2) * 2 ^ 63 + 0x7ff0000000000000 + 1 + (t / 2) % (2 ^ 52 - 1)) = true
  rw [show (2 : Nat) ^ 63 = 9223372036854775808 from by decide, show (2 : Nat) ^ 52 - 1 = 4503599627370495 from by decide]
  unfold isn
  have h1 : t % 2 = 0 ∨ t % 2 = 1 := by omega
  have h2 : (t / 2) % 4503599627370495 < 4503599627370495 := by omega
  generalize (t / 2) % 4503599627370495 = q at *
  rcases h1 with h1 | h1 <;> rw [h1]
  · exact ⟨by omega, decide_eq_true (by omega)⟩
  · exact ⟨by omega, decide_eq_true (by omega)⟩
/-- A sum of floats, as the model has it: NaNs may be any. -/
theorem sum_run (x y : Nat) (hx : x < 18446744073709551616) (hy : y < 18446744073709551616) (w : World) : ∃ r n, r < 18446744073709551616 ∧ one r = fa x y ∧ ∀ t, (binOp .add t (.float .f64 x) (.float .f64 y)).run Tryz.prog w = .ok (.float .f64 r) (w.drewN n) := by
  cases h : Ieee.double.add x y with
  | some r => exact ⟨r, 0, Ieee.double.add_lt h, by unfold fa; rw [h]; exact one_of_not (add_not_nan hx hy h), fun t => run_float_arith w .add t .f64 x y r h⟩
  | none =>
    have hc := cut_nan x y (w.tape w.drawn (.nanBits .f64 x y))
    refine ⟨(Question.nanBits .f64 x y).cut (w.tape w.drawn (.nanBits .f64 x y)), 1, hc.1, ?_, fun t => ?_⟩
    · rw [one_of_nan hc.2]; unfold fa; rw [h]; rfl
    · simp [binOp, Op.floatArith, show FloatKind.f64.format = Ieee.double from rfl, h, go_sem, Question.forced]
      rfl
theorem dif_run (x y : Nat) (hx : x < 18446744073709551616) (hy : y < 18446744073709551616) (w : World) : ∃ r n, r < 18446744073709551616 ∧ one r = fa x (neg y) ∧ ∀ t, (binOp .sub t (.float .f64 x) (.float .f64 y)).run Tryz.prog w = .ok (.float .f64 r) (w.drewN n) := by
  have e := sub_add x y hx hy
  cases h : Ieee.double.add x (neg y) with
  | some r =>
    rw [h] at e
    exact ⟨r, 0, Ieee.double.add_lt h, by unfold fa; rw [h]; exact one_of_not (add_not_nan hx (neg_lt hy) h), fun t => run_float_arith w .sub t .f64 x y r e⟩
  | none =>
    rw [h] at e
    have hc := cut_nan x y (w.tape w.drawn (.nanBits .f64 x y))
    refine ⟨(Question.nanBits .f64 x y).cut (w.tape w.drawn (.nanBits .f64 x y)), 1, hc.1, ?_, fun t => ?_⟩
    · rw [one_of_nan hc.2]; unfold fa; rw [h]; rfl
    · simp [binOp, Op.floatArith, show FloatKind.f64.format = Ieee.double from rfl, e, go_sem, Question.forced]
      rfl
set_option maxHeartbeats 1000000 in
theorem loss_any (x y : Nat) (hx : x < 18446744073709551616) (hy : y < 18446744073709551616) (w : World) :
    Calls Tryz.prog 90 #[.float .f64 x, .float .f64 y] w fun e w' => ∃ r n, e = .returned (.float .f64 r) ∧ w' = w.drewN n ∧ r < 18446744073709551616 ∧ one r = fl x y := by
  obtain ⟨r1, n1, hr1, o1, run1⟩ := sum_run x y hx hy w
  have HX : Hid _ := abs_any x hx
  have HY : Hid _ := abs_any y hy
  have og : (FloatKind.f64.format.order (x % 9223372036854775808) (y % 9223372036854775808) == some .gt || FloatKind.f64.format.order (x % 9223372036854775808) (y % 9223372036854775808) == some .eq) = geq x y := order_geq x y hx hy
  have o1' : one r1 = one (fa x y) := by rw [fa_can x y hx hy]; exact o1
  cases hg : geq x y
  · rw [hg] at og
    obtain ⟨r2, n2, hr2, o2, run2⟩ := dif_run y r1 hy hr1 (w.drewN n1)
    rw [World.drewN_drewN] at run2
    obtain ⟨r3, n3, hr3, o3, run3⟩ := sum_run r2 x hr2 hx (w.drewN (n1 + n2))
    rw [World.drewN_drewN] at run3
    have HV : Hid (one r3 = fl x y) := by
      unfold Hid fl
      rw [if_neg (by rw [hg]; decide), o3]
      have e2 : one r2 = one (fa y (neg (fa x y))) := by
        rw [fa_can y _ hy (neg_lt (fa_lt _ _)), o2]
        exact fa_congr hy (neg_lt hr1) hy (neg_lt (fa_lt _ _)) rfl (neg_one hr1 (fa_lt _ _) o1')
      exact fa_congr hr2 hx (fa_lt _ _) hx e2 rfl
    generalize x % 9223372036854775808 = xa at *
    generalize y % 9223372036854775808 = ya at *
    go_enter Tryz.func90, Tryz.ntmps90
    go_wp2_with (first | simp only | simp only [run2] | simp only [run3] | (go_at_call 95; (first | (with_reducible refine (HX.out _).mono ?_) | (with_reducible refine (HY.out _).mono ?_)); rintro e w' ⟨rfl, rfl⟩))
    go_ret
    exact ⟨r3, _, rfl, rfl, hr3, HV.out⟩
  · rw [hg] at og
    obtain ⟨r2, n2, hr2, o2, run2⟩ := dif_run x r1 hx hr1 (w.drewN n1)
    rw [World.drewN_drewN] at run2
    obtain ⟨r3, n3, hr3, o3, run3⟩ := sum_run r2 y hr2 hy (w.drewN (n1 + n2))
    rw [World.drewN_drewN] at run3
    have HV : Hid (one r3 = fl x y) := by
      unfold Hid fl
      rw [if_pos hg, o3]
      have e2 : one r2 = one (fa x (neg (fa x y))) := by
        rw [fa_can x _ hx (neg_lt (fa_lt _ _)), o2]
        exact fa_congr hx (neg_lt hr1) hx (neg_lt (fa_lt _ _)) rfl (neg_one hr1 (fa_lt _ _) o1')
      exact fa_congr hr2 hy (fa_lt _ _) hy e2 rfl
    generalize x % 9223372036854775808 = xa at *
    generalize y % 9223372036854775808 = ya at *
    go_enter Tryz.func90, Tryz.ntmps90
    go_wp2_with (first | simp only | simp only [run2] | simp only [run3] | (go_at_call 95; (first | (with_reducible refine (HX.out _).mono ?_) | (with_reducible refine (HY.out _).mono ?_)); rintro e w' ⟨rfl, rfl⟩))
    go_ret
    exact ⟨r3, _, rfl, rfl, hr3, HV.out⟩
theorem padd_any (a c y : Nat) (ha : a < 18446744073709551616) (hc : c < 18446744073709551616) (hy : y < 18446744073709551616) (w : World) :
    Calls Tryz.prog 239 #[.complex .f64 a c, .float .f64 y] w fun e w' => ∃ r d n, e = .returned (.complex .f64 r d) ∧ w' = w.drewN n ∧ r < 18446744073709551616 ∧ d < 18446744073709551616 ∧ one r = fa a y ∧ one d = fa c (fl a y) := by
  obtain ⟨r1, n1, hr1, o1, run1⟩ := sum_run a y ha hy w
  have HL : Hid _ := loss_any a y ha hy
  have HS : Hid (∀ x y : Nat, x < 18446744073709551616 → y < 18446744073709551616 → ∀ W, ∃ r n, r < 18446744073709551616 ∧ one r = fa x y ∧ ∀ t, (binOp .add t (.float .f64 x) (.float .f64 y)).run Tryz.prog W = .ok (.float .f64 r) (W.drewN n)) := sum_run
  go_enter Tryz.func239, Tryz.ntmps239
  go_wp2_with (first | simp only | (go_at_call 90; with_reducible refine (HL.out _).mono ?_; rintro e w' ⟨r2, n2, rfl, rfl, hr2, o2⟩; rw [World.drewN_drewN]; obtain ⟨r3, n3, hr3, o3, run3⟩ := HS.out c r2 hc hr2 (w.drewN (n1 + n2)); rw [World.drewN_drewN] at run3) | simp only [run3])
  go_ret
  exact ⟨r1, r3, _, rfl, rfl, hr1, hr3, o1, o3.trans (fa_congr hc hr2 hc (fl_lt _ _) rfl (o2.trans (fl_can a y ha hy).symm))⟩
theorem pmerge_any (a c u v : Nat) (ha : a < 18446744073709551616) (hc : c < 18446744073709551616) (hu : u < 18446744073709551616) (hv : v < 18446744073709551616) (w : World) :
    Calls Tryz.prog 62 #[.complex .f64 a c, .complex .f64 u v] w fun e w' => ∃ r d n, e = .returned (.complex .f64 r d) ∧ w' = w.drewN n ∧ r < 18446744073709551616 ∧ d < 18446744073709551616 ∧ one r = fa a u ∧ one d = fa (fa c v) (fl a u) := by
  obtain ⟨r0, n0, hr0, o0, run0⟩ := sum_run c v hc hv w
  obtain ⟨r1, n1, hr1, o1, run1⟩ := sum_run a u ha hu (w.drewN n0)
  rw [World.drewN_drewN] at run1
  have HL : Hid _ := loss_any a u ha hu
  have HS : Hid (∀ x y : Nat, x < 18446744073709551616 → y < 18446744073709551616 → ∀ W, ∃ r n, r < 18446744073709551616 ∧ one r = fa x y ∧ ∀ t, (binOp .add t (.float .f64 x) (.float .f64 y)).run Tryz.prog W = .ok (.float .f64 r) (W.drewN n)) := sum_run
  go_enter Tryz.func62, Tryz.ntmps62
  go_wp2_with (first | simp only | simp only [run1] | (go_at_call 90; with_reducible refine (HL.out _).mono ?_; rintro e w' ⟨r2, n2, rfl, rfl, hr2, o2⟩; rw [World.drewN_drewN]; obtain ⟨r3, n3, hr3, o3, run3⟩ := HS.out r0 r2 hr0 hr2 (w.drewN (n0 + n1 + n2)); rw [World.drewN_drewN] at run3) | simp only [run3])
  go_ret
  exact ⟨r1, r3, _, rfl, rfl, hr1, hr3, o1, o3.trans (fa_congr hr0 hr2 (fa_lt _ _) (fl_lt _ _) (o0.trans (fa_can c v hc hv).symm) (o2.trans (fl_can a u ha hu).symm))⟩
/-- Floats, one behind the other. -/
def RowF (w : World) (b o : Nat) (L : List Nat) : Prop := ∀ i (h : i < L.length), w.cell? ⟨b, o + i, none⟩ = some (.float .f64 L[i])
theorem ofW_can (L : List Nat) (hL : Small L) (i : Nat) : one (ofW (L.take i)).1 = (ofW (L.take i)).1 ∧ one (ofW (L.take i)).2 = (ofW (L.take i)).2 := by
  cases i with
  | zero => simp [ofW]; decide
  | succ i =>
    by_cases h : i < L.length
    · rw [ofW_take L i h]
      have hx : L[i] < 18446744073709551616 := hL _ (List.getElem_mem h)
      obtain ⟨h1, h2⟩ := ofW_lt L i
      exact ⟨fa_can _ _ h1 hx, fa_can _ _ h2 (fl_lt _ _)⟩
    · rcases List.eq_nil_or_concat (L.take (i + 1)) with k | ⟨l, x, k⟩
      · rw [k]; decide
      · have hl : Small l := fun z hz => hL z (List.mem_of_mem_take (i := i + 1) (by rw [k]; simp [hz]))
        have hx : x < 18446744073709551616 := hL x (List.mem_of_mem_take (i := i + 1) (by rw [k]; simp))
        rw [k, List.concat_eq_append, ofW_snoc]
        have := ofW_lt l l.length
        rw [List.take_length] at this
        exact ⟨fa_can _ _ this.1 hx, fa_can _ _ this.2 (fl_lt _ _)⟩
end Go.Proofs.YtpllckgpolhafaaGreatDoor.Pr
/- THE ORDER OF FLOATS, the code's and the document's (out of wip/real O1, L18, O2). Own work of the verifier. -/
namespace Go.Proofs.YtpllckgpolhafaaGreatDoor.Pr
open Go.RowKit


/-- Is a word a NaN's? -/
def isN (x : Nat) : Bool := decide (9218868437227405312 < x % 9223372036854775808)
/-- Where a word that is no NaN's stands. -/
def ov (x : Nat) : Int := if x < 9223372036854775808 then (x : Int) else 9223372036854775808 - (x : Int)
theorem ov_sw (s : Bool) (a : Nat) (h : a < 9223372036854775808) : ov (sw s a) = sr s a := by
  unfold ov sw sr; cases s <;> simp <;> omega
theorem isN_sw (s : Bool) (a : Nat) (h : a < 9223372036854775808) : isN (sw s a) = decide (9218868437227405312 < a) := by
  unfold isN sw; congr 2; cases s <;> simp <;> omega
theorem ord_nan {x : Nat} (hx : x < 18446744073709551616) (h : isN x = true) (y : Nat) : FloatKind.f64.format.order x y = none ∧ FloatKind.f64.format.order y x = none := by
  obtain ⟨s, a, rfl, ha⟩ := sw_of x hx
  rw [isN_sw s a ha] at h
  have h := of_decide_eq_true h
  exact ⟨order_nan1 s a y h ha, order_nan2 s a y h ha⟩
theorem ord_num {x y : Nat} (hx : x < 18446744073709551616) (hy : y < 18446744073709551616) (h : isN x = false) (k : isN y = false) : FloatKind.f64.format.order x y = some (compare (ov x) (ov y)) := by
  obtain ⟨s, a, rfl, ha⟩ := sw_of x hx
  obtain ⟨t, b, rfl, hb⟩ := sw_of y hy
  rw [isN_sw s a ha] at h
  rw [isN_sw t b hb] at k
  have h := of_decide_eq_false h
  have k := of_decide_eq_false k
  rw [ov_sw s a ha, ov_sw t b hb]
  exact order_all s t a b (by omega) (by omega)
theorem ord_self {x : Nat} (hx : x < 18446744073709551616) : (FloatKind.f64.format.order x x != some .eq) = isN x := by
  cases h : isN x
  · rw [ord_num hx hx h h]; simp
  · rw [(ord_nan hx h x).1]; decide
theorem isnan_f (x : Nat) (hx : x < 18446744073709551616) (w : World) :
    Calls Tryz.prog 151 #[.float .f64 x] w fun e w' => e = .returned (.bool (isN x)) ∧ w' = w := by
  have o1 := ord_self hx
  go_enter Tryz.func151, Tryz.ntmps151
  go_wp2
  go_ret
  exact ⟨rfl, rfl⟩
/-- How two stand, NaNs ahead, the two zeros alike. -/
def cmpF (x y : Nat) : Int := if isN x then (if isN y then 0 else -1) else if isN y then 1 else if ov x < ov y then -1 else if ov y < ov x then 1 else 0
set_option maxHeartbeats 400000 in
theorem cmpf_any (x y : Nat) (hx : x < 18446744073709551616) (hy : y < 18446744073709551616) (w : World) :
    Calls Tryz.prog 109 #[.float .f64 x, .float .f64 y] w fun e w' => e = .returned (.int .i64 (cmpF x y)) ∧ w' = w := by
  have HX : Hid _ := isnan_f x hx
  have HY : Hid _ := isnan_f y hy
  unfold cmpF
  cases hn : isN x
  · cases hm : isN y
    · have o := ord_num hx hy hn hm
      rw [hn] at HX; rw [hm] at HY
      rcases Int.lt_trichotomy (ov x) (ov y) with k | k | k
      · rw [Int.compare_eq_lt.2 k] at o
        have o1 : (FloatKind.f64.format.order x y == some .lt) = true := by rw [o]; decide
        rw [if_neg (by decide), if_neg (by decide), if_pos k]
        clear o
        go_enter Tryz.func109, Tryz.ntmps109
        go_wp2_with (go_at_call 151; (first | (with_reducible refine (HX.out _).mono ?_) | (with_reducible refine (HY.out _).mono ?_)); rintro e w' ⟨rfl, rfl⟩)
        go_ret
        exact ⟨rfl, rfl⟩
      · have o0 : compare (ov x) (ov y) = .eq := by rw [k]; simp
        rw [o0] at o
        have o1 : (FloatKind.f64.format.order x y == some .lt) = false := by rw [o]; decide
        have o2 : (FloatKind.f64.format.order x y == some .gt) = false := by rw [o]; decide
        rw [if_neg (by decide), if_neg (by decide), if_neg (by omega), if_neg (by omega)]
        clear o o0
        go_enter Tryz.func109, Tryz.ntmps109
        go_wp2_with (go_at_call 151; (first | (with_reducible refine (HX.out _).mono ?_) | (with_reducible refine (HY.out _).mono ?_)); rintro e w' ⟨rfl, rfl⟩)
        go_ret
        exact ⟨rfl, rfl⟩
      · rw [Int.compare_eq_gt.2 k] at o
        have o1 : (FloatKind.f64.format.order x y == some .lt) = false := by rw [o]; decide
        have o2 : (FloatKind.f64.format.order x y == some .gt) = true := by rw [o]; decide
        rw [if_neg (by decide), if_neg (by decide), if_neg (by omega), if_pos k]
        clear o
        go_enter Tryz.func109, Tryz.ntmps109
        go_wp2_with (go_at_call 151; (first | (with_reducible refine (HX.out _).mono ?_) | (with_reducible refine (HY.out _).mono ?_)); rintro e w' ⟨rfl, rfl⟩)
        go_ret
        exact ⟨rfl, rfl⟩
    · rw [hn] at HX; rw [hm] at HY
      go_enter Tryz.func109, Tryz.ntmps109
      go_wp2_with (go_at_call 151; (first | (with_reducible refine (HX.out _).mono ?_) | (with_reducible refine (HY.out _).mono ?_)); rintro e w' ⟨rfl, rfl⟩)
      go_ret
      exact ⟨rfl, rfl⟩
  · rw [hn] at HX
    cases hm : isN y <;> rw [hm] at HY
    all_goals
      go_enter Tryz.func109, Tryz.ntmps109
      go_wp2_with (go_at_call 151; (first | (with_reducible refine (HX.out _).mono ?_) | (with_reducible refine (HY.out _).mono ?_)); rintro e w' ⟨rfl, rfl⟩)
      go_ret
      exact ⟨rfl, rfl⟩
/-- One, with a float's sign. -/
def oneS (x : Nat) : Nat := x / 9223372036854775808 * 9223372036854775808 + 4607182418800017408
theorem one_or (x : Nat) (h : x < 18446744073709551616) : bits .or .u64 4607182418800017408 ((x / 9223372036854775808 * 9223372036854775808 : Nat) : Int) = ((oneS x : Nat) : Int) := by
  have := u64_or_nat 4607182418800017408 (x / 9223372036854775808 * 9223372036854775808) (by decide) (by omega)
  rw [show ((4607182418800017408 : Nat) : Int) = 4607182418800017408 from rfl] at this
  rw [this]
  unfold oneS
  congr 1
  rw [Nat.or_comm, nat_join 63 _ _ (by rw [show (2 : Nat) ^ 63 = 9223372036854775808 from by decide]; omega) (by decide)]
theorem one_not : bits .andNot .u64 4607182418800017408 9223372036854775808 = 4607182418800017408 := by decide +kernel
set_option maxHeartbeats 400000 in
theorem copysign_any (x : Nat) (h : x < 18446744073709551616) (w : World) : Calls Tryz.prog 110 #[.float .f64 4607182418800017408, .float .f64 x] w fun e w' => e = .returned (.float .f64 (oneS x)) ∧ w' = w := by
  have h1 := sign_bit x h
  have h2 := one_or x h
  have h3 := one_not
  generalize x / 9223372036854775808 * 9223372036854775808 = y at *
  generalize oneS x = z at *
  go_enter Tryz.func110, Tryz.ntmps110
  go_wp2_with (first | simp only [mf64bits] | simp only [mf64from])
  go_ret
  exact ⟨rfl, rfl⟩
/-- Where a float stands, as the document has it. -/
def rk (x : Nat) : Nat := if isN x then 0 else if 9223372036854775808 ≤ x then 18446744073709551615 - x else x + 9223372036854775808
def sg (a b : Nat) : Int := if a < b then -1 else if b < a then 1 else 0
theorem rk_nan {x : Nat} (h : isN x = true) : rk x = 0 := by unfold rk; rw [if_pos h]
theorem rk_num {x : Nat} (hx : x < 18446744073709551616) (h : isN x = false) : (rk x : Int) = if 9223372036854775808 ≤ x then 18446744073709551615 - (x : Int) else (x : Int) + 9223372036854775808 := by
  unfold rk; rw [if_neg (by rw [h]; decide)]; split <;> omega
theorem isN_oneS (x : Nat) (_hx : x < 18446744073709551616) : isN (oneS x) = false := by
  unfold isN oneS; apply decide_eq_false; omega
theorem oneS_lt (x : Nat) (hx : x < 18446744073709551616) : oneS x < 18446744073709551616 := by unfold oneS; omega
theorem nan_size {x : Nat} (h : isN x = false) : x % 9223372036854775808 ≤ 9218868437227405312 := by
  have := of_decide_eq_false h; omega
theorem cmp_rk_ne (x y : Nat) (hx : x < 18446744073709551616) (hy : y < 18446744073709551616) (h : isN x = true ∨ isN y = true ∨ ov x ≠ ov y) : cmpF x y = sg (rk x) (rk y) := by
  unfold cmpF sg
  cases hn : isN x <;> cases hm : isN y
  · have n1 := rk_num hx hn
    have n2 := rk_num hy hm
    have z1 := nan_size hn
    have z2 := nan_size hm
    have ho : ov x ≠ ov y := by rcases h with h | h | h; · rw [hn] at h; cases h
                                · rw [hm] at h; cases h
                                · exact h
    unfold ov at ho ⊢
    simp only [Bool.false_eq_true, if_false]
    generalize rk x = A at *
    generalize rk y = B at *
    split at n1 <;> split at n2 <;> split at ho <;> split at ho <;> split <;> split <;> (try split) <;> (try split) <;> omega
  · rw [rk_nan hm]
    have n1 := rk_num hx hn
    have z1 := nan_size hn
    simp only [Bool.false_eq_true, if_false, if_true]
    rw [if_neg (by omega), if_pos (by split at n1 <;> omega)]
  · rw [rk_nan hn]
    have n2 := rk_num hy hm
    have z2 := nan_size hm
    simp only [Bool.false_eq_true, if_false, if_true]
    rw [if_pos (by split at n2 <;> omega)]
  · rw [rk_nan hn, rk_nan hm]
    simp
theorem cmp_rk_eq (x y : Nat) (hx : x < 18446744073709551616) (hy : y < 18446744073709551616) (hn : isN x = false) (hm : isN y = false) (h : ov x = ov y) : cmpF (oneS x) (oneS y) = sg (rk x) (rk y) := by
  unfold cmpF sg
  rw [isN_oneS x hx, isN_oneS y hy]
  have n1 := rk_num hx hn
  have n2 := rk_num hy hm
  have z1 := nan_size hn
  have z2 := nan_size hm
  unfold ov oneS at *
  simp only [Bool.false_eq_true, if_false]
  generalize rk x = A at *
  generalize rk y = B at *
  split at n1 <;> split at n2 <;> split at h <;> split at h <;> split <;> split <;> (try split) <;> (try split) <;> (try split) <;> (try split) <;> omega
set_option maxHeartbeats 1000000 in
theorem compare_any (x y : Nat) (hx : x < 18446744073709551616) (hy : y < 18446744073709551616) (w : World) :
    Calls Tryz.prog 91 #[.float .f64 x, .float .f64 y] w fun e w' => e = .returned (.int .i64 (sg (rk x) (rk y))) ∧ w' = w := by
  by_cases h : isN x = true ∨ isN y = true ∨ ov x ≠ ov y
  · rw [← cmp_rk_ne x y hx hy h]
    have o1 : (FloatKind.f64.format.order x y == some .eq) = false := by
      cases hn : isN x
      · cases hm : isN y
        · rw [ord_num hx hy hn hm]
          rcases h with h | h | h
          · rw [hn] at h; cases h
          · rw [hm] at h; cases h
          · rcases Int.lt_trichotomy (ov x) (ov y) with k | k | k
            · rw [Int.compare_eq_lt.2 k]; decide
            · exact absurd k h
            · rw [Int.compare_eq_gt.2 k]; decide
        · rw [(ord_nan hy hm x).2]; decide
      · rw [(ord_nan hx hn y).1]; decide
    clear h
    go_enter Tryz.func91, Tryz.ntmps91
    go_wp2_with fail
    refine (cmpf_any x y hx hy w).mono ?_
    rintro e w ⟨rfl, rfl⟩
    go_wp2
    go_ret
    exact ⟨rfl, rfl⟩
  · have hn : isN x = false := by cases hh : isN x <;> simp_all
    have hm : isN y = false := by cases hh : isN y <;> simp_all
    have ho : ov x = ov y := Classical.byContradiction fun k => h (Or.inr (Or.inr k))
    rw [← cmp_rk_eq x y hx hy hn hm ho]
    have o1 : (FloatKind.f64.format.order x y == some .eq) = true := by rw [ord_num hx hy hn hm, ho]; simp
    clear h ho hn hm
    have HX : Hid _ := copysign_any x hx
    have HY : Hid _ := copysign_any y hy
    have HC : Hid _ := cmpf_any (oneS x) (oneS y) (oneS_lt x hx) (oneS_lt y hy)
    go_enter Tryz.func91, Tryz.ntmps91
    go_wp2_with (first
      | (go_at_call 110; (first | (with_reducible refine (HX.out _).mono ?_) | (with_reducible refine (HY.out _).mono ?_)); rintro e w ⟨rfl, rfl⟩)
      | (go_at_call 109; with_reducible refine (HC.out _).mono ?_; rintro e w ⟨rfl, rfl⟩)
      | fail)
    go_ret
    exact ⟨rfl, rfl⟩
theorem not_word (x : Nat) (h : x < 18446744073709551616) : bits .xor .u64 IntKind.u64.max (x : Int) = ((18446744073709551615 - x : Nat) : Int) := by
  have := u64_xor_nat 18446744073709551615 x (by decide) h
  rw [show (IntKind.u64.max : Int) = ((18446744073709551615 : Nat) : Int) from by decide, this]
  congr 1
  have k : (BitVec.allOnes 64 ^^^ BitVec.ofNat 64 x).toNat = 2 ^ 64 - 1 - (BitVec.ofNat 64 x).toNat := by rw [BitVec.allOnes_xor, BitVec.toNat_not]
  rw [BitVec.toNat_xor, BitVec.toNat_allOnes, BitVec.toNat_ofNat, Nat.mod_eq_of_lt (by rw [show (2 : Nat) ^ 64 = 18446744073709551616 from by decide]; exact h)] at k
  exact k
theorem or_sign2 (x : Nat) (h : x < 9223372036854775808) : bits .or .u64 (x : Int) 9223372036854775808 = ((x + 9223372036854775808 : Nat) : Int) := by
  have := u64_or_nat x 9223372036854775808 (by omega) (by decide)
  rw [show ((9223372036854775808 : Nat) : Int) = 9223372036854775808 from rfl] at this
  rw [this, Nat.or_comm, nat_join 63 _ _ (by decide) (by rw [show (2 : Nat) ^ 63 = 9223372036854775808 from by decide]; exact h), Nat.add_comm]
theorem retI' {A B : Int} (h : A = B) : Ending.returned (Value.int .u64 A) = .returned (.int .u64 B) := by rw [h]
theorem rk_lt (x : Nat) (hx : x < 18446744073709551616) : rk x < 18446744073709551616 := by
  unfold rk; split
  · decide
  · split <;> omega
end Go.Proofs.YtpllckgpolhafaaGreatDoor.Pr
