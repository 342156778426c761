/- SUMS of floats by their words, NaNs as one. Own work of the verifier. -/
import Derived.Test.YtaeapikhhbjlnaaGreatDoorZAO
import Derived.Test.YtaeapikhhbjlnaaGreatDoorRows
import Derived.WalkKit
import Derived.WalkSpells
import Derived.RowKit3
import Derived.Below
import Derived.Laws.Externs
import Derived.Outline
import Derived.Deep.QuietTactic
import Derived.Deep.Draws
import Derived.BigQuiet
import Derived.Laws.Bits64
import Derived.Laws.BitsAllLaws
import Derived.Laws.ComplexArith
import Derived.Deep.DeepCutAuto
import Derived.Deep.RegionHeld3
namespace Go.Proofs.YtaeapikhhbjlnaaGreatDoor.Soft

/-- All NaNs are told as this one. -/
def aNaN : Nat := 9221120237041090560
def isn (x : Nat) : Bool := decide (9218868437227405312 < x % 9223372036854775808)
def one (x : Nat) : Nat := if isn x then aNaN else x
def neg (x : Nat) : Nat := if 9223372036854775808 ≤ x then x - 9223372036854775808 else x + 9223372036854775808
/-- The sum, by the model's words. -/
def fa (x y : Nat) : Nat := (Ieee.double.add x y).getD aNaN
theorem sw_lt (s : Bool) {a : Nat} (h : a < 9223372036854775808) : sw s a < 18446744073709551616 := by unfold sw; cases s <;> simp <;> omega
theorem sw_mod (s : Bool) {a : Nat} (h : a < 9223372036854775808) : sw s a % 9223372036854775808 = a := by unfold sw; cases s <;> simp <;> omega
theorem isn_sw (s : Bool) {a : Nat} (h : a < 9223372036854775808) : isn (sw s a) = decide (9218868437227405312 < a) := by unfold isn; rw [sw_mod s h]
theorem neg_sw (s : Bool) {a : Nat} (h : a < 9223372036854775808) : neg (sw s a) = sw (!s) a := by
  unfold neg sw; cases s
  · show (if 9223372036854775808 ≤ a then _ else _) = _; rw [if_neg (by omega), Nat.add_comm]; rfl
  · show (if 9223372036854775808 ≤ 9223372036854775808 + a then _ else _) = _; rw [if_pos (by omega)]; show 9223372036854775808 + a - 9223372036854775808 = a; omega
theorem neg_lt {x : Nat} (h : x < 18446744073709551616) : neg x < 18446744073709551616 := by unfold neg; split <;> omega
theorem isn_neg {x : Nat} (h : x < 18446744073709551616) : isn (neg x) = isn x := by
  obtain ⟨s, a, rfl, ha⟩ := sw_of x h
  rw [neg_sw s ha, isn_sw _ ha, isn_sw _ ha]
theorem aNaN_nan : isn aNaN = true := by decide
theorem one_of_nan {x : Nat} (h : isn x = true) : one x = aNaN := by unfold one; rw [if_pos h]
theorem one_of_not {x : Nat} (h : isn x = false) : one x = x := by unfold one; rw [if_neg (by simp [h])]
theorem isn_one (x : Nat) : isn (one x) = isn x := by
  unfold one; split
  · rename_i h; rw [h]; rfl
  · rfl
theorem read_isn {x : Nat} (h : x < 18446744073709551616) (hn : isn x = true) : ∃ s f, Ieee.double.read x = .nan s f := by
  obtain ⟨s, a, rfl, ha⟩ := sw_of x h
  rw [isn_sw s ha] at hn
  obtain ⟨f, hf⟩ := read_nan s a (of_decide_eq_true hn) ha
  exact ⟨s, f, hf⟩
theorem add_nan1 {x : Nat} (y : Nat) (h : x < 18446744073709551616) (hn : isn x = true) : Ieee.double.add x y = none := by
  obtain ⟨s, f, hf⟩ := read_isn h hn
  unfold Ieee.Format.add; rw [hf]; rfl
theorem add_nan2 (x : Nat) {y : Nat} (h : y < 18446744073709551616) (hn : isn y = true) : Ieee.double.add x y = none := by
  obtain ⟨s, f, hf⟩ := read_isn h hn
  unfold Ieee.Format.add; rw [hf]; cases Ieee.double.read x <;> rfl
theorem add_inf_fin (s t : Bool) {b : Nat} (hb : b < 9218868437227405312) : Ieee.double.add (sw s 9218868437227405312) (sw t b) = some (sw s 9218868437227405312) := by
  unfold Ieee.Format.add; rw [read_inf s, read_sw t b hb]
  show some (Ieee.double.write (.infinity s)) = _
  cases s <;> rfl
theorem add_fin_inf (s t : Bool) {b : Nat} (hb : b < 9218868437227405312) : Ieee.double.add (sw t b) (sw s 9218868437227405312) = some (sw s 9218868437227405312) := by
  unfold Ieee.Format.add; rw [read_inf s, read_sw t b hb]
  show some (Ieee.double.write (.infinity s)) = _
  cases s <;> rfl
theorem add_inf_inf (s t : Bool) : Ieee.double.add (sw s 9218868437227405312) (sw t 9218868437227405312) = if s = t then some (sw s 9218868437227405312) else none := by
  unfold Ieee.Format.add; rw [read_inf s, read_inf t]
  cases s <;> cases t <;> rfl
/-- A word is a NaN's, an infinity's or a finite float's. -/
theorem word_cases (x : Nat) (h : x < 18446744073709551616) : isn x = true ∨ (∃ s, x = sw s 9218868437227405312) ∨ ∃ s a, x = sw s a ∧ a < 9218868437227405312 := by
  obtain ⟨s, a, rfl, ha⟩ := sw_of x h
  rw [isn_sw s ha]
  rcases Nat.lt_trichotomy a 9218868437227405312 with k | k | k
  · exact .inr (.inr ⟨s, a, rfl, k⟩)
  · exact .inr (.inl ⟨s, by rw [k]⟩)
  · exact .inl (decide_eq_true k)
theorem add_sym (x y : Nat) (hx : x < 18446744073709551616) (hy : y < 18446744073709551616) : Ieee.double.add x y = Ieee.double.add y x := by
  rcases word_cases x hx with h | ⟨s, rfl⟩ | ⟨s, a, rfl, ha⟩
  · rw [add_nan1 y hx h, add_nan2 y hx h]
  · rcases word_cases y hy with k | ⟨t, rfl⟩ | ⟨t, b, rfl, hb⟩
    · rw [add_nan1 _ hy k, add_nan2 _ hy k]
    · rw [add_inf_inf, add_inf_inf]; cases s <;> cases t <;> rfl
    · rw [add_inf_fin s t hb, add_fin_inf s t hb]
  · rcases word_cases y hy with k | ⟨t, rfl⟩ | ⟨t, b, rfl, hb⟩
    · rw [add_nan1 _ hy k, add_nan2 _ hy k]
    · rw [add_inf_fin t s ha, add_fin_inf t s ha]
    · rw [add_fin s t a b ha hb, add_fin t s b a hb ha, add_comm']
theorem fa_sym (x y : Nat) (hx : x < 18446744073709551616) (hy : y < 18446744073709551616) : fa x y = fa y x := by unfold fa; rw [add_sym x y hx hy]
/-- A difference is a sum. -/
theorem sub_add (x y : Nat) (_hx : x < 18446744073709551616) (hy : y < 18446744073709551616) : Ieee.double.sub x y = Ieee.double.add x (neg y) := by
  unfold Ieee.Format.sub Ieee.Format.add
  rcases word_cases y hy with h | ⟨t, rfl⟩ | ⟨t, b, rfl, hb⟩
  · obtain ⟨s1, f1, h1⟩ := read_isn hy h
    obtain ⟨s2, f2, h2⟩ := read_isn (neg_lt hy) ((isn_neg hy).trans h)
    rw [h1, h2]; cases Ieee.double.read x <;> rfl
  · rw [neg_sw t (by omega), read_inf, read_inf]; rfl
  · rw [neg_sw t (by omega), read_sw t b hb, read_sw (!t) b hb]; rfl
theorem fa_one (x y : Nat) (hx : x < 18446744073709551616) (hy : y < 18446744073709551616) : fa (one x) (one y) = fa x y := by
  cases h : isn x
  · cases k : isn y
    · rw [one_of_not h, one_of_not k]
    · unfold fa; rw [one_of_nan k, add_nan2 _ (by decide) aNaN_nan, add_nan2 _ hy k]
  · unfold fa; rw [one_of_nan h, add_nan1 _ (by decide) aNaN_nan, add_nan1 _ hx h]
theorem fa_congr {x y x' y' : Nat} (hx : x < 18446744073709551616) (hy : y < 18446744073709551616) (hx' : x' < 18446744073709551616) (hy' : y' < 18446744073709551616) (e1 : one x = one x') (e2 : one y = one y') : fa x y = fa x' y' := by
  rw [← fa_one x y hx hy, ← fa_one x' y' hx' hy', e1, e2]
theorem fa_lt (x y : Nat) : fa x y < 18446744073709551616 := by
  unfold fa
  cases h : Ieee.double.add x y with
  | none => decide
  | some r => exact Ieee.double.add_lt h
theorem neg_one {x y : Nat} (hx : x < 18446744073709551616) (hy : y < 18446744073709551616) (h : one x = one y) : one (neg x) = one (neg y) := by
  cases k : isn x
  · have k2 : isn y = false := by rw [← isn_one y, ← h, isn_one, k]
    rw [one_of_not k, one_of_not k2] at h
    rw [h]
  · have k2 : isn y = true := by rw [← isn_one y, ← h, isn_one, k]
    rw [one_of_nan ((isn_neg hx).trans k), one_of_nan ((isn_neg hy).trans k2)]
end Go.Proofs.YtaeapikhhbjlnaaGreatDoor.Soft
/- THE LEAVES: words and signs. Own work of the verifier. -/
namespace Go.Proofs.YtaeapikhhbjlnaaGreatDoor.Pr
open Go.RowKit Soft

theorem retI {k : IntKind} {A B : Int} (h : A = B) : Ending.returned (Value.int k A) = .returned (.int k B) := by rw [h]
theorem retII {k l : IntKind} {A B C D : Int} (h : A = B) (h2 : C = D) : Ending.returned (Value.tuple #[.int k A, .int l C]) = .returned (.tuple #[.int k B, .int l D]) := by rw [h, h2]
theorem retB {A B : Bool} (h : A = B) : Ending.returned (Value.bool A) = .returned (.bool B) := by rw [h]
theorem mf64bits (x : Nat) (w : World) : (callFunc 50 #[.float .f64 x]).run Tryz.prog w = .ok (.value (.int .u64 (x : Int))) w := by
  rw [run_callFunc_extern Tryz.func50 (by kernel_rfl) (by kernel_rfl) (by kernel_rfl) (e := Extern.MathFloatBits.float64bits) (by kernel_rfl)]
  rfl
theorem mf64from (x : Int) (w : World) : (callFunc 240 #[.int .u64 x]).run Tryz.prog w = .ok (.value (.float .f64 x.toNat)) w := by
  rw [run_callFunc_extern Tryz.func240 (by kernel_rfl) (by kernel_rfl) (by kernel_rfl) (e := Extern.MathFloatBits.float64frombits) (by kernel_rfl)]
  rfl
theorem clear_sign (x : Nat) (h : x < 18446744073709551616) : bits .andNot .u64 (x : Int) 9223372036854775808 = ((x % 9223372036854775808 : Nat) : Int) := by
  have := u64_andNot_nat x 9223372036854775808 (by omega) (by decide)
  rw [show ((9223372036854775808 : Nat) : Int) = 9223372036854775808 from rfl] at this
  rw [this, show 18446744073709551615 - 9223372036854775808 = 2 ^ 63 - 1 from by decide, Nat.and_two_pow_sub_one_eq_mod]
theorem or_sign (x : Nat) (h : x < 9223372036854775808) : bits .or .u64 (x : Int) 9223372036854775808 = ((9223372036854775808 + x : Nat) : Int) := by
  have := u64_or_nat x 9223372036854775808 (by omega) (by decide)
  rw [show ((9223372036854775808 : Nat) : Int) = 9223372036854775808 from rfl] at this
  rw [this, Nat.or_comm, nat_join 63 _ _ (by decide) (by rw [show (2 : Nat) ^ 63 = 9223372036854775808 from by decide]; exact h)]
theorem sign_bit (x : Nat) (h : x < 18446744073709551616) : bits .and .u64 (x : Int) 9223372036854775808 = ((x / 9223372036854775808 * 9223372036854775808 : Nat) : Int) := by
  have := u64_and_nat x 9223372036854775808 h (by decide)
  rw [show ((9223372036854775808 : Nat) : Int) = 9223372036854775808 from rfl] at this
  rw [this, show (9223372036854775808 : Nat) = 2 ^ 63 from by decide, nat_bit, Nat.mod_eq_of_lt (by rw [show (2 : Nat) ^ 63 = 9223372036854775808 from by decide]; omega)]
theorem flip_sign (x : Nat) (h : x < 18446744073709551616) : bits .xor .u64 (x : Int) 9223372036854775808 = ((neg x : Nat) : Int) := by
  have := u64_xor_nat x 9223372036854775808 h (by decide)
  rw [show ((9223372036854775808 : Nat) : Int) = 9223372036854775808 from rfl] at this
  rw [this]
  congr 1
  have e1 : x / 2 ^ 63 = x / 9223372036854775808 := rfl
  have key : (x ^^^ 9223372036854775808) % 2 ^ 63 = x % 2 ^ 63 ∧ (x ^^^ 9223372036854775808) / 2 ^ 63 = (x / 2 ^ 63) ^^^ 1 := by
    refine ⟨?_, ?_⟩
    · rw [Nat.xor_mod_two_pow]; simp
    · rw [Nat.xor_div_two_pow]
  obtain ⟨k1, k2⟩ := key
  have k3 : x / 2 ^ 63 = 0 ∨ x / 2 ^ 63 = 1 := by rw [e1]; omega
  have e63 : (2 : Nat) ^ 63 = 9223372036854775808 := by decide
  rw [e63] at k1 k2 k3
  unfold neg
  rcases k3 with k | k
  · rw [k] at k2; rw [if_neg (by omega)]; have : (0 ^^^ 1 : Nat) = 1 := by decide
    omega
  · rw [k] at k2; rw [if_pos (by omega)]; have : (1 ^^^ 1 : Nat) = 0 := by decide
    omega
theorem fr_field (x : Nat) (h : x < 18446744073709551616) : bits .and .u64 (x : Int) 4503599627370495 = ((x % 4503599627370496 : Nat) : Int) := by
  have := u64_and_nat x 4503599627370495 h (by decide)
  rw [show ((4503599627370495 : Nat) : Int) = 4503599627370495 from rfl] at this
  rw [this, show (4503599627370495 : Nat) = 2 ^ 52 - 1 from by decide, Nat.and_two_pow_sub_one_eq_mod]
theorem hid_bit (f : Nat) (h : f < 4503599627370496) : bits .or .u64 (f : Int) 4503599627370496 = ((4503599627370496 + f : Nat) : Int) := by
  have := u64_or_nat f 4503599627370496 (by omega) (by decide)
  rw [show ((4503599627370496 : Nat) : Int) = 4503599627370496 from rfl] at this
  rw [this, Nat.or_comm, nat_join 52 _ _ (by decide) (by rw [show (2 : Nat) ^ 52 = 4503599627370496 from by decide]; exact h)]
theorem exu_field (x : Nat) (h : x < 18446744073709551616) : bits .and .u64 ((x : Int) / 4503599627370496) 2047 = ((x / 4503599627370496 % 2048 : Nat) : Int) := by
  have e : ((x : Int) / 4503599627370496) = ((x / 4503599627370496 : Nat) : Int) := by omega
  have := u64_and_nat (x / 4503599627370496) 2047 (by omega) (by decide)
  rw [show ((2047 : Nat) : Int) = 2047 from rfl] at this
  rw [e, this, show (2047 : Nat) = 2 ^ 11 - 1 from by decide, Nat.and_two_pow_sub_one_eq_mod]
theorem and_one (n : Nat) (h : n < 18446744073709551616) : bits .and .u64 (n : Int) 1 = ((n % 2 : Nat) : Int) := by
  have := u64_and_nat n 1 h (by decide)
  rw [show ((1 : Nat) : Int) = 1 from rfl] at this
  rw [this, nat_mask1]
theorem and_seven (n : Nat) (h : n < 18446744073709551616) : bits .and .u64 (n : Int) 7 = ((n % 8 : Nat) : Int) := by
  have := u64_and_nat n 7 h (by decide)
  rw [show ((7 : Nat) : Int) = 7 from rfl] at this
  rw [this, nat_mask3]

theorem abs_any (x : Nat) (h : x < 18446744073709551616) (w : World) : Calls Tryz.prog 184 #[.float .f64 x] w fun e w' => e = .returned (.float .f64 (x % 9223372036854775808)) ∧ w' = w := by
  have hc := clear_sign x h
  generalize x % 9223372036854775808 = y at *
  go_enter Tryz.func184, Tryz.ntmps184
  go_wp2_with (first | simp only [mf64bits] | simp only [mf64from])
  go_ret
  exact ⟨rfl, rfl⟩
theorem isNaN_any (x : Nat) (h : x < 18446744073709551616) (w : World) :
    Calls Tryz.prog 241 #[.int .u64 (x : Int)] w fun e w' => e = .returned (.bool (isn x)) ∧ w' = w := by
  have hc := clear_sign x h
  unfold isn
  generalize x % 9223372036854775808 = y at *
  go_enter Tryz.func241, Tryz.ntmps241
  go_wp2
  go_ret
  exact ⟨retB (decide_eq_decide.2 (by omega)), rfl⟩
theorem may_any (x : Nat) (h : x < 18446744073709551616) (w : World) :
    Calls Tryz.prog 247 #[.int .u64 (x : Int)] w fun e w' => e = .returned (.bool (decide (x % 9223372036854775808 ≤ 8930638061075693568))) ∧ w' = w := by
  have hc := clear_sign x h
  generalize x % 9223372036854775808 = y at *
  go_enter Tryz.func247, Tryz.ntmps247
  go_wp2
  go_ret
  exact ⟨retB (decide_eq_decide.2 (by omega)), rfl⟩
theorem negative_any (x : Nat) (h : x < 18446744073709551616) (w : World) :
    Calls Tryz.prog 243 #[.int .u64 (x : Int)] w fun e w' => e = .returned (.int .u64 (neg x : Int)) ∧ w' = w := by
  have hc := flip_sign x h
  go_enter Tryz.func243, Tryz.ntmps243
  go_wp2
  go_ret
  exact ⟨rfl, rfl⟩
theorem parts_any (x : Nat) (h : x < 18446744073709551616) (w : World) :
    Calls Tryz.prog 244 #[.int .u64 (x : Int)] w fun e w' => e = .returned (.tuple #[.int .u64 (magOf (x % 9223372036854775808) : Nat), .int .i64 (-1074 + (upOf (x % 9223372036854775808) : Nat))]) ∧ w' = w := by
  have h1 := exu_field x h
  have h2 := fr_field x h
  have h3 := hid_bit (x % 4503599627370496) (by omega)
  by_cases k : x / 4503599627370496 % 2048 = 0
  · rw [k] at h1
    have e1 : magOf (x % 9223372036854775808) = x % 4503599627370496 := by unfold magOf; rw [if_pos (by omega)]; omega
    have e2 : upOf (x % 9223372036854775808) = 0 := by unfold upOf; rw [if_pos (by omega)]
    rw [e1, e2]
    clear e1 e2 k h3
    generalize x % 4503599627370496 = f at *
    go_enter Tryz.func244, Tryz.ntmps244
    go_wp2
    go_ret2
    exact ⟨rfl, rfl⟩
  · have e1 : magOf (x % 9223372036854775808) = 4503599627370496 + x % 4503599627370496 := by unfold magOf; rw [if_neg (by omega)]; omega
    have e2 : upOf (x % 9223372036854775808) = x / 4503599627370496 % 2048 - 1 := by unfold upOf; rw [if_neg (by omega)]; omega
    rw [e1, e2]
    have k2 : x / 4503599627370496 % 2048 < 2048 := by omega
    clear e1 e2
    generalize x % 4503599627370496 = f at *
    generalize x / 4503599627370496 % 2048 = E at *
    go_enter Tryz.func244, Tryz.ntmps244
    go_wp2
    go_ret2
    exact ⟨retII (by omega) (by omega), rfl⟩
end Go.Proofs.YtaeapikhhbjlnaaGreatDoor.Pr
/- ROUNDING, step by step. Own work of the verifier. -/
namespace Go.Proofs.YtaeapikhhbjlnaaGreatDoor.Soft

theorem ss_one (M : Nat) : ss M 1 = M / 2 ||| M % 2 := by
  unfold ss
  rw [Nat.pow_one]
  congr 1
  split <;> omega
theorem ss_one_bounds (M : Nat) : M / 2 ≤ ss M 1 ∧ ss M 1 ≤ M / 2 + 1 := by
  rw [ss_val, Nat.pow_one]
  split <;> omega
/-- The first loop's state. -/
def Down (N D M : Nat) : Prop := M = ss (8 * N) D ∧ (8 * N = M * 2 ^ D ∨ 18014398509481984 ≤ M)
theorem down_step {N D M : Nat} (h : Down N D M) (hM : 72057594037927936 ≤ M) : Down N (D + 1) (ss M 1) := by
  obtain ⟨h1, _⟩ := h
  have b := ss_one_bounds M
  refine ⟨?_, .inr (by omega)⟩
  rw [h1, ss_ss]
/-- The second loop's state. -/
def Grow (N D M : Nat) : Prop := (M = ss (8 * N) D ∧ 8 * N = M * 2 ^ D) ∨ (18014398509481984 ≤ M ∧ M = ss (8 * N) D) ∨ (36028797018963968 ≤ M ∧ Left N D M)
theorem grow_of_down {N D M : Nat} (h : Down N D M) : Grow N D M := by
  obtain ⟨h1, h2 | h2⟩ := h
  · exact .inl ⟨h1, h2⟩
  · exact .inr (.inl ⟨h2, h1⟩)
theorem grow_step {N D M : Nat} (h : Grow N (D + 1) M) (hM : M < 36028797018963968) : Grow N D (M * 2) := by
  rcases h with ⟨h1, h2⟩ | ⟨h1, h2⟩ | ⟨h1, _⟩
  · left
    have e : 8 * N = M * 2 * 2 ^ D := by rw [h2, Nat.pow_succ, Nat.mul_assoc, Nat.mul_comm 2]
    refine ⟨?_, e⟩
    have := ss_exact N D (M * 2) e 0 (Nat.zero_le _)
    simpa using this
  · right; right
    exact ⟨by omega, left_step N D M h2 (.inr h1) hM⟩
  · omega
theorem grow_left {N D M : Nat} (h : Grow N D M) : Left N D M := by
  rcases h with ⟨h1, _⟩ | ⟨_, h2⟩ | ⟨_, h2⟩
  · exact .inl h1
  · exact .inl h2
  · exact h2
theorem rne3_cases (M : Nat) : ∃ c, rne M 3 = M / 8 + c ∧ (4 < M % 8 ∧ c = 1 ∨ M % 8 = 4 ∧ M / 8 % 2 = 1 ∧ c = 1 ∨ M % 8 = 4 ∧ M / 8 % 2 = 0 ∧ c = 0 ∨ M % 8 < 4 ∧ c = 0) := by
  unfold rne
  rw [show (2 : Nat) ^ 3 = 8 from by decide]
  refine ⟨_, rfl, ?_⟩
  by_cases h : 8 < 2 * (M % 8) ∨ 8 = 2 * (M % 8) ∧ M / 8 % 2 = 1
  · rw [if_pos h]; omega
  · rw [if_neg h]; omega
/-- What comes out. -/
theorem pack_out {N D M R : Nat} (h : Grow N D M) (h2 : M < 72057594037927936) (h1 : 36028797018963968 ≤ M ∨ D = 0) (hR : rne M 3 = R) :
    R = 9007199254740992 ∧ nrung N = (if 2047 ≤ D + 2 then 9218868437227405312 else (D + 2) * 4503599627370496 + 0) ∨
    4503599627370496 ≤ R ∧ R < 9007199254740992 ∧ nrung N = (if 2047 ≤ D + 1 then 9218868437227405312 else (D + 1) * 4503599627370496 + R % 4503599627370496) ∨
    R < 4503599627370496 ∧ D = 0 ∧ nrung N = R := by
  have p := pack_fin N D M (grow_left h) h2 h1
  rw [hR] at p
  obtain ⟨c, k1, k2⟩ := rne3_cases M
  rw [hR] at k1
  rw [nrung_nr, ← p]
  clear p h
  rcases Nat.lt_trichotomy R 9007199254740992 with k | k | k
  · by_cases k3 : R < 4503599627370496
    · right; right
      have hD : D = 0 := by rcases h1 with h1 | h1 <;> omega
      subst hD
      exact ⟨k3, rfl, by rw [Nat.zero_mul, Nat.zero_add, Nat.min_eq_left (by omega)]⟩
    · right; left
      refine ⟨by omega, k, ?_⟩
      have e : D * 4503599627370496 + R = (D + 1) * 4503599627370496 + R % 4503599627370496 := by omega
      rw [e]
      have hm : R % 4503599627370496 < 4503599627370496 := by omega
      generalize R % 4503599627370496 = f at hm ⊢
      clear e
      by_cases k4 : 2047 ≤ D + 1
      · rw [if_pos k4, Nat.min_eq_right (by omega)]
      · rw [if_neg k4, Nat.min_eq_left (by omega)]
  · left
    refine ⟨k, ?_⟩
    have e : D * 4503599627370496 + R = (D + 2) * 4503599627370496 := by omega
    rw [e]
    by_cases k4 : 2047 ≤ D + 2
    · rw [if_pos k4, Nat.min_eq_right (by omega)]
    · rw [if_neg k4, Nat.min_eq_left (by omega)]; omega
  · exfalso; omega
theorem ss_one_lt {M : Nat} (h : M < 144115188075855872) : ss M 1 < 72057594037927936 := by
  rw [ss_val, Nat.pow_one]
  split <;> omega
theorem nrung_le (N : Nat) : nrung N ≤ 9218868437227405312 := by rw [nrung_nr]; omega
end Go.Proofs.YtaeapikhhbjlnaaGreatDoor.Soft
/- THE DOCUMENT's ROUNDING. Own work of the verifier. -/
namespace Go.Proofs.YtaeapikhhbjlnaaGreatDoor.Pr
open Go.RowKit Soft

theorem half_w (M : Nat) (h : M < 18446744073709551616) : bits .or .u64 ((M : Int) / 2) ((M % 2 : Nat) : Int) = (ss M 1 : Nat) := by
  have := u64_or_nat (M / 2) (M % 2) (by omega) (by omega)
  rw [show ((M : Int) / 2) = ((M / 2 : Nat) : Int) from by omega, this, ss_one]
theorem join_w (E f : Nat) (hE : E < 4096) (hf : f < 4503599627370496) : bits .or .u64 ((E : Int) * 4503599627370496) (f : Int) = ((E * 4503599627370496 + f : Nat) : Int) := by
  have := u64_or_nat (E * 4503599627370496) f (by omega) (by omega)
  rw [show ((E : Int) * 4503599627370496) = ((E * 4503599627370496 : Nat) : Int) from by omega, this, nat_join 52 _ _ (by rw [show (2 : Nat) ^ 52 = 4503599627370496 from by decide]; omega) (by rw [show (2 : Nat) ^ 52 = 4503599627370496 from by decide]; exact hf)]
theorem sw_t (V : Nat) : ((sw true V : Nat) : Int) = 9223372036854775808 + (V : Int) := by unfold sw; rw [if_pos rfl]; omega
theorem sw_f (V : Nat) : ((sw false V : Nat) : Int) = (V : Int) := rfl
set_option maxHeartbeats 4000000 in
set_option maxRecDepth 100000 in
theorem packed_any (ng : Bool) (N D M : Nat) (hM : M < 144115188075855872) (hd : Down N D M) (hD : D ≤ 2900) (w : World) :
    Calls Tryz.prog 245 #[.bool ng, .int .u64 (M : Int), .int .i64 (-1074 + (D : Int))] w fun e w' => e = .returned (.int .u64 (sw ng (nrung N) : Nat)) ∧ w' = w := by
  have HB : Hid (nrung N ≤ 9218868437227405312) := nrung_le N
  go_enter Tryz.func245, Tryz.ntmps245
  go_wp2_with fail
  go_loop [1, 2] (fun a b => ∃ d m : Nat, d ≤ 2901 ∧ m < 144115188075855872 ∧ (d ≤ 2900 ∨ m < 72057594037927936) ∧ a = .int .u64 (m : Int) ∧ b = .int .i64 (-1074 + (d : Int)) ∧ Hid (Down N d m)) (fun a _ => (intOf a).toNat)
  case atStart => exact ⟨D, M, by omega, hM, .inl hD, rfl, rfl, hd⟩
  case round =>
    obtain ⟨d, m, hd1, hm1, hdm, rfl, rfl, hdn⟩ := hrel
    by_cases hlt : 72057594037927936 ≤ m
    · have hc : (72057594037927936 : Int) ≤ (m : Int) := by omega
      have a1 := and_one m (by omega)
      have a2 := half_w m (by omega)
      have hs : Hid (Down N (d + 1) (ss m 1)) := down_step hdn.out hlt
      have hb : Hid (ss m 1 < 72057594037927936) := ss_one_lt hm1
      have hb2 : Hid (ss m 1 ≤ m / 2 + 1) := (ss_one_bounds m).2
      generalize ss m 1 = m' at *
      generalize m % 2 = r at *
      go_wp2
      go_round
      case rel => exact ⟨d + 1, m', by omega, by have := hb.out; omega, .inr hb.out, rfl, by go_num, hs⟩
      case measure => have := hb.out; simp [intOf]; omega
    · have hc : ¬ (72057594037927936 : Int) ≤ (m : Int) := by omega
      go_wp2
      go_loop [1, 2] (fun a b => ∃ d m : Nat, d ≤ 2901 ∧ m < 72057594037927936 ∧ a = .int .u64 (m : Int) ∧ b = .int .i64 (-1074 + (d : Int)) ∧ Hid (Grow N d m)) (fun _ b => (intOf b + 1074).toNat)
      case atStart => exact ⟨d, m, hd1, by omega, rfl, rfl, grow_of_down hdn.out⟩
      case round =>
        clear hdn hlt hc hdm hm1 hd1
        obtain ⟨d, m, hd1, hm1, rfl, rfl, hdn⟩ := hrel
        by_cases hlt : m < 36028797018963968 ∧ 0 < d
        · obtain ⟨h1, h2⟩ := hlt
          have hc : (m : Int) < 36028797018963968 := by omega
          have hc2 : (-1074 : Int) < -1074 + (d : Int) := by omega
          have hs : Hid (Grow N (d - 1) (m * 2)) := by
            obtain ⟨d', rfl⟩ : ∃ d', d = d' + 1 := ⟨d - 1, by omega⟩
            exact grow_step hdn.out h1
          go_wp2
          go_round
          case rel => exact ⟨d - 1, m * 2, by omega, by omega, by go_num, by go_num, hs⟩
          case measure => simp [intOf]; omega
        · have hend : 36028797018963968 ≤ m ∨ d = 0 := by omega
          have HO : Hid _ := fun R => pack_out (R := R) hdn.out hm1 hend
          have a7 := and_seven m (by omega)
          have aq := and_one (m / 8) (by omega)
          obtain ⟨c, k1, k2⟩ := rne3_cases m
          have HR : Hid (m / 8 + c ≤ 9007199254740992) := by unfold Hid; omega
          have hq : (m : Int) / 8 = ((m / 8 : Nat) : Int) := by omega
          have hx : ((m : Int) < 36028797018963968 ∧ ¬ (-1074 : Int) < -1074 + (d : Int)) ∨ ¬ (m : Int) < 36028797018963968 := by omega
          have HO2 := HO.out _ k1
          clear HO k1 hdn hlt hend
          generalize m / 8 = q at *
          generalize m % 8 = r at *
          have hr : (4 : Int) < (r : Int) ∧ c = 1 ∨ (r = 4 ∧ q % 2 = 1 ∧ c = 1) ∨ (r = 4 ∧ q % 2 = 0 ∧ c = 0) ∨ (¬ (4 : Int) < (r : Int) ∧ ((r : Int) == 4) = false ∧ c = 0) := by
            rcases k2 with k | k | k | k
            · left; omega
            · right; left; omega
            · right; right; left; omega
            · right; right; right; refine ⟨by omega, ?_, by omega⟩; rw [beq_eq_false_iff_ne]; omega
          clear k2
          have hR : ∃ R : Nat, Hid (R = q + c) ∧ (c = 1 ∧ (q : Int) + 1 = (R : Int) ∨ c = 0 ∧ q = R) := by
            refine ⟨q + c, rfl, ?_⟩
            rcases hr with ⟨_, rfl⟩ | ⟨_, _, rfl⟩ | ⟨_, _, rfl⟩ | ⟨_, _, rfl⟩
            · left; omega
            · left; omega
            · right; omega
            · right; omega
          obtain ⟨R, eR, hR⟩ := hR
          rw [← eR.out] at HO2 HR
          have hinf : bits .or .u64 9218868437227405312 9223372036854775808 = 18442240474082181120 := by decide +kernel
          rcases HO2 with ⟨o1, o2⟩ | ⟨o1, o1', o2⟩ | ⟨o1, o0, o2⟩
          · have HV : Hid _ := o2
            clear o2
            have hj : bits .or .u64 (((d + 2 : Nat) : Int) * 4503599627370496) 0 = (((d + 2) * 4503599627370496 + 0 : Nat) : Int) := join_w (d + 2) 0 (by omega) (by omega)
            have hf : bits .and .u64 4503599627370496 4503599627370495 = 0 := by decide +kernel
            have hE : (-1074 : Int) + (d : Int) + 1 + 1075 = ((d + 2 : Nat) : Int) := by omega
            have hE2 : d + 2 < 4096 := by omega
            have hs : d + 2 < 2047 → bits .or .u64 (((d + 2) * 4503599627370496 + 0 : Nat) : Int) 9223372036854775808 = ((9223372036854775808 + ((d + 2) * 4503599627370496 + 0) : Nat) : Int) := fun k => or_sign _ (by omega)
            have HV2 := HV
            clear HV
            generalize d + 2 = E at *
            have ho : (2047 : Int) ≤ (E : Int) ∧ 2047 ≤ E ∨ ¬ (2047 : Int) ≤ (E : Int) ∧ E < 2047 := by omega
            generalize E * 4503599627370496 + 0 = V at *
            subst o1
            rcases ho with ⟨ho, ho'⟩ | ⟨ho, ho'⟩
            all_goals
              first
                | (have hs2 := hs ho'; clear hs; have HV : Hid (nrung N = V) := (by unfold Hid; rw [HV2.out, if_neg (by omega)]))
                | (clear hs; have HV : Hid (nrung N = 9218868437227405312) := (by unfold Hid; rw [HV2.out, if_pos ho']))
              clear HV2
              rcases hr with ⟨r1, rfl⟩ | ⟨rfl, r2, rfl⟩ | ⟨rfl, r2, rfl⟩ | ⟨r1, r2, rfl⟩
              all_goals
                rcases hR with ⟨c1, hR⟩ | ⟨c1, hR⟩
                all_goals
                  first
                    | (exfalso; revert c1; decide)
                    | skip
                all_goals
                  try subst hR
                  try rw [r2] at aq
                  clear c1
                  rcases hx with ⟨x1, x2⟩ | x1
                  all_goals
                    cases ng
                    all_goals
                      go_wp2
                      all_goals
                        go_ret
                        refine ⟨retI ?_, rfl⟩
                        rw [HV.out]
                        first | exact (sw_t _).symm | exact (sw_f _).symm | decide +kernel
          · have HV : Hid _ := o2
            clear o2
            have hj := join_w (d + 1) (R % 4503599627370496) (by omega) (by omega)
            have hf := fr_field R (by omega)
            have hE : (-1074 : Int) + (d : Int) + 1075 = ((d + 1 : Nat) : Int) := by omega
            have hE2 : d + 1 < 4096 := by omega
            have hs : d + 1 < 2047 → bits .or .u64 (((d + 1) * 4503599627370496 + R % 4503599627370496 : Nat) : Int) 9223372036854775808 = ((9223372036854775808 + ((d + 1) * 4503599627370496 + R % 4503599627370496) : Nat) : Int) := fun k => or_sign _ (by omega)
            have HV2 := HV
            clear HV
            have hb1 : (4503599627370496 : Int) ≤ (R : Int) := by omega
            have hb2 : ((R : Int) == 9007199254740992) = false := by rw [beq_eq_false_iff_ne]; omega
            generalize (d + 1) * 4503599627370496 + R % 4503599627370496 = V at *
            generalize R % 4503599627370496 = f at *
            generalize d + 1 = E at *
            have ho : (2047 : Int) ≤ (E : Int) ∧ 2047 ≤ E ∨ ¬ (2047 : Int) ≤ (E : Int) ∧ E < 2047 := by omega
            rcases ho with ⟨ho, ho'⟩ | ⟨ho, ho'⟩
            all_goals
              first
                | (have hs2 := hs ho'; clear hs; have HV : Hid (nrung N = V) := (by unfold Hid; rw [HV2.out, if_neg (by omega)]))
                | (clear hs; have HV : Hid (nrung N = 9218868437227405312) := (by unfold Hid; rw [HV2.out, if_pos ho']))
              clear HV2
              rcases hr with ⟨r1, rfl⟩ | ⟨rfl, r2, rfl⟩ | ⟨rfl, r2, rfl⟩ | ⟨r1, r2, rfl⟩
              all_goals
                rcases hR with ⟨c1, hR⟩ | ⟨c1, hR⟩
                all_goals
                  first
                    | (exfalso; revert c1; decide)
                    | skip
                all_goals
                  try subst hR
                  try rw [r2] at aq
                  clear c1
                  rcases hx with ⟨x1, x2⟩ | x1
                  all_goals
                    cases ng
                    all_goals
                      go_wp2
                      all_goals
                        go_ret
                        refine ⟨retI ?_, rfl⟩
                        rw [HV.out]
                        first | exact (sw_t _).symm | exact (sw_f _).symm | decide +kernel
          · have HV : Hid _ := o2
            have hb1 : ¬ (4503599627370496 : Int) ≤ (R : Int) := by omega
            have hb2 : ((R : Int) == 9007199254740992) = false := by rw [beq_eq_false_iff_ne]; omega
            have hs := or_sign R (by omega)
            have hE : (-1074 : Int) + (d : Int) + 1075 = 1 := by omega
            clear o2
            rcases hr with ⟨r1, rfl⟩ | ⟨rfl, r2, rfl⟩ | ⟨rfl, r2, rfl⟩ | ⟨r1, r2, rfl⟩
            all_goals
              rcases hR with ⟨c1, hR⟩ | ⟨c1, hR⟩
              all_goals
                first
                  | (exfalso; revert c1; decide)
                  | skip
              all_goals
                try subst hR
                try rw [r2] at aq
                clear c1
                rcases hx with ⟨x1, x2⟩ | x1
                all_goals
                  cases ng
                  all_goals
                    go_wp2
                    all_goals
                      go_ret
                      refine ⟨retI ?_, rfl⟩
                      rw [HV.out]
                      first | exact (sw_t _).symm | exact (sw_f _).symm | decide +kernel
end Go.Proofs.YtaeapikhhbjlnaaGreatDoor.Pr
/- THE SUM OF TWO FLOATS, the document's way. Own work of the verifier. -/
namespace Go.Proofs.YtaeapikhhbjlnaaGreatDoor.Soft

theorem ss_small {n : Nat} (h : n ≤ 1) (j : Nat) : ss n j = n := by
  rcases Nat.eq_zero_or_pos j with rfl | hj
  · exact ss_zero n
  · have h2 : 2 ^ 1 ≤ 2 ^ j := Nat.pow_le_pow_right (by decide) hj
    rw [ss_val]
    rcases Nat.eq_zero_or_pos n with rfl | hn
    · simp
    · obtain rfl : n = 1 := by omega
      have : 1 % 2 ^ j = 1 := Nat.mod_eq_of_lt (by omega)
      rw [this, if_neg (by decide)]
      have : 1 / 2 ^ j = 0 := Nat.div_eq_of_lt (by omega)
      rw [this]
theorem ss_rest (N k j : Nat) (h : ss N k ≤ 1) (hj : k ≤ j) : ss N j = ss N k := by
  have := ss_ss N k (j - k)
  rw [show k + (j - k) = j from by omega] at this
  rw [← this, ss_small h]
theorem nrung_zero : nrung 0 = 0 := by decide
theorem uV_pos {a : Nat} (h : 0 < a) : 0 < uV a := by have := uV_mono h; omega
theorem fa_same (s : Bool) (a b : Nat) (hb : b ≤ a) (ha : a < 9218868437227405312) : fa (sw s a) (sw s b) = sw s (nrung (uV a + uV b)) := by
  unfold fa
  rw [add_fin s s a b ha (by omega)]
  show addW s s a b = _
  unfold addW sv
  cases s
  · simp only [Bool.false_eq_true, if_false]
    by_cases h : (uV a : Int) + (uV b : Int) = 0
    · rw [if_pos h, show uV a + uV b = 0 from by omega, nrung_zero]; rfl
    · rw [if_neg h, decide_eq_false (by omega), show ((uV a : Int) + (uV b : Int)).natAbs = uV a + uV b from by omega]
  · simp only [if_true]
    by_cases h : -(uV a : Int) + -(uV b : Int) = 0
    · rw [if_pos h, show uV a + uV b = 0 from by omega, nrung_zero]; rfl
    · rw [if_neg h, decide_eq_true (by omega), show (-(uV a : Int) + -(uV b : Int)).natAbs = uV a + uV b from by omega]
theorem fa_diff (s : Bool) (a b : Nat) (hb : b ≤ a) (ha : a < 9218868437227405312) : fa (sw s a) (sw (!s) b) = if uV a = uV b then 0 else sw s (nrung (uV a - uV b)) := by
  have hu := uV_le hb
  unfold fa
  rw [add_fin s (!s) a b ha (by omega)]
  show addW s (!s) a b = _
  unfold addW sv
  cases s
  · simp only [Bool.false_eq_true, if_false, Bool.not_false, if_true]
    by_cases h : (uV a : Int) + -(uV b : Int) = 0
    · rw [if_pos h, if_pos (by omega)]; rfl
    · rw [if_neg h, if_neg (by omega), decide_eq_false (by omega), show ((uV a : Int) + -(uV b : Int)).natAbs = uV a - uV b from by omega]
  · simp only [if_true, Bool.not_true, Bool.false_eq_true, if_false]
    by_cases h : -(uV a : Int) + (uV b : Int) = 0
    · rw [if_pos h, if_pos (by omega)]; rfl
    · rw [if_neg h, if_neg (by omega), decide_eq_true (by omega), show (-(uV a : Int) + (uV b : Int)).natAbs = uV a - uV b from by omega]
theorem ss_eq_zero {N k : Nat} : ss N k = 0 ↔ N = 0 := by
  rw [ss_val]
  constructor
  · intro h
    split at h
    · rename_i h2
      have := Nat.div_add_mod N (2 ^ k)
      rw [h, h2] at this; omega
    · omega
  · rintro rfl; simp
/-- The two ways of a sum, by parts. -/
theorem sum_down (a b : Nat) (h : b ≤ a) : Down (uV a + uV b) (upOf a) (8 * magOf a + ss (8 * magOf b) (upOf a - upOf b)) := ⟨sum_bits a b h, sum_left a b h⟩
theorem dif_down (a b : Nat) (h : b ≤ a) : Down (uV a - uV b) (upOf a) (8 * magOf a - ss (8 * magOf b) (upOf a - upOf b)) := ⟨dif_bits a b h, dif_left a b h⟩
theorem dif_zero (a b : Nat) (h : b ≤ a) : 8 * magOf a - ss (8 * magOf b) (upOf a - upOf b) = 0 ↔ uV a = uV b := by
  rw [dif_bits a b h, ss_eq_zero]
  have := uV_le h
  omega
theorem ss_mag_lt (b k : Nat) : ss (8 * magOf b) k < 72057594037927936 := by
  have := ss_le (8 * magOf b) k
  have := mag_lt b
  omega
theorem up_le {a : Nat} (h : a < 9218868437227405312) : upOf a ≤ 2045 := by unfold upOf; split <;> omega
theorem dif_ge (a b : Nat) (h : b ≤ a) : ss (8 * magOf b) (upOf a - upOf b) ≤ 8 * magOf a := by
  by_cases hx : upOf a = 0
  · rw [hx, Nat.zero_sub, ss_zero]
    have := aligned_le h
    rw [hx, Nat.zero_sub, Nat.pow_zero, Nat.mul_one] at this
    omega
  · have h1 := mag_norm (show 0 < upOf a by omega)
    by_cases hy : upOf a - upOf b = 0
    · rw [hy, ss_zero]
      have := aligned_le h
      rw [hy, Nat.pow_zero, Nat.mul_one] at this
      omega
    · have : ss (8 * magOf b) (upOf a - upOf b) ≤ 4 * magOf b + 1 := by
        have e := ss_ss (8 * magOf b) 1 (upOf a - upOf b - 1)
        rw [show 1 + (upOf a - upOf b - 1) = upOf a - upOf b from by omega] at e
        rw [← e]
        have := ss_le (ss (8 * magOf b) 1) (upOf a - upOf b - 1)
        have := (ss_one_bounds (8 * magOf b)).2
        omega
      have := mag_lt b
      omega
end Go.Proofs.YtaeapikhhbjlnaaGreatDoor.Soft
