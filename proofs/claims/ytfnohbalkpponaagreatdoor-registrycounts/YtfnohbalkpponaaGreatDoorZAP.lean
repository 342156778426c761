/- SUMS of floats by their words, NaNs as one. Own work of the verifier. -/
import Derived.Test.YtfnohbalkpponaaGreatDoorZAO
import Derived.Test.YtfnohbalkpponaaGreatDoorRows
import Derived.WalkKit
import Derived.WalkSpells
import Derived.RowKit3
import Derived.Below
import Derived.Laws.Externs
import Derived.Outline
import Derived.Deep.QuietTactic
import Derived.Deep.Draws
import Derived.BigQuiet
import Derived.Laws.Bits64
import Derived.Laws.BitsAllLaws
import Derived.Laws.ComplexArith
import Derived.Deep.DeepCutAuto
import Derived.Deep.RegionHeld3
namespace Go.Proofs.YtfnohbalkpponaaGreatDoor.Soft

/-- All NaNs are told as this one. -/
def aNaN : Nat := 9221120237041090560
def isn (x : Nat) : Bool := decide (9218868437227405312 < x % 9223372036854775808)
def one (x : Nat) : Nat := if isn x then aNaN else x
def neg (x : Nat) : Nat := if 9223372036854775808 ≤ x then x - 9223372036854775808 else x + 9223372036854775808
/-- The sum, by the model's words. -/
def fa (x y : Nat) : Nat := (Ieee.double.add x y).getD aNaN
theorem sw_lt (s : Bool) {a : Nat} (h : a < 9223372036854775808) : sw s a < 18446744073709551616 := by unfold sw; cases s <;> simp <;> omega
theorem sw_mod (s : Bool) {a : Nat} (h : a < 9223372036854775808) : sw s a % 9223372036854775808 = a := by unfold sw; cases s <;> simp <;> omega
theorem isn_sw (s : Bool) {a : Nat} (h : a < 9223372036854775808) : isn (sw s a) = decide (9218868437227405312 < a) := by unfold isn; rw [sw_mod s h]
theorem neg_sw (s : Bool) {a : Nat} (h : a < 9223372036854775808) : neg (sw s a) = sw (!s) a := by
  unfold neg sw; cases s
  · show (if 9223372036854775808 ≤ a then _ else _) = _; rw [if_neg (by omega), Nat.add_comm]; rfl
  · show (if 9223372036854775808 ≤ 9223372036854775808 + a then _ else _) = _; rw [if_pos (by omega)]; show 9223372036854775808 + a - 9223372036854775808 = a; omega
theorem neg_lt {x : Nat} (h : x < 18446744073709551616) : neg x < 18446744073709551616 := by unfold neg; split <;> omega
theorem isn_neg {x : Nat} (h : x < 18446744073709551616) : isn (neg x) = isn x := by
  obtain ⟨s, a, rfl, ha⟩ := sw_of x h
  rw [neg_sw s ha, isn_sw _ ha, isn_sw _ ha]
theorem aNaN_nan : isn aNaN = true := by decide
theorem one_of_nan {x : Nat} (h : isn x = true) : one x = aNaN := by unfold one; rw [if_pos h]
theorem one_of_not {x : Nat} (h : isn x = false) : one x = x := by unfold one; rw [if_neg (by simp [h])]
theorem isn_one (x : Nat) : isn (one x) = isn x := by
  unfold one; split
  · rename_i h; rw [h]; rfl
  · rfl
theorem read_isn {x : Nat} (h : x < 18446744073709551616) (hn : isn x = true) : ∃ s f, Ieee.double.read x = .nan s f := by
  obtain ⟨s, a, rfl, ha⟩ := sw_of x h
  rw [isn_sw s ha] at hn
  obtain ⟨f, hf⟩ := read_nan s a (of_decide_eq_true hn) ha
  exact ⟨s, f, hf⟩
theorem add_nan1 {x : Nat} (y : Nat) (h : x < 18446744073709551616) (hn : isn x = true) : Ieee.double.add x y = none := by
  obtain ⟨s, f, hf⟩ := read_isn h hn
  unfold Ieee.Format.add; rw [hf]; rfl
theorem add_nan2 (x : Nat) {y : Nat} (h : y < 18446744073709551616) (hn : isn y = true) : Ieee.double.add x y = none := by
  obtain ⟨s, f, hf⟩ := read_isn h hn
  unfold Ieee.Format.add; rw [hf]; cases Ieee.double.read x <;> rfl
theorem add_inf_fin (s t : Bool) {b : Nat} (hb : b < 9218868437227405312) : Ieee.double.add (sw s 9218868437227405312) (sw t b) = some (sw s 9218868437227405312) := by
  unfold Ieee.Format.add; rw [read_inf s, read_sw t b hb]
  show some (Ieee.double.write (.infinity s)) = _
  cases s <;> rfl
theorem add_fin_inf (s t : Bool) {b : Nat} (hb : b < 9218868437227405312) : Ieee.double.add (sw t b) (sw s 9218868437227405312) = some (sw s 9218868437227405312) := by
  unfold Ieee.Format.add; rw [read_inf s, read_sw t b hb]
  show some (Ieee.double.write (.infinity s)) = _
  cases s <;> rfl
theorem add_inf_inf (s t : Bool) : Ieee.double.add (sw s 9218868437227405312) (sw t 9218868437227405312) = if s = t then some (sw s 9218868437227405312) else none := by
  unfold Ieee.Format.add; rw [read_inf s, read_inf t]
  cases s <;> cases t <;> rfl
/-- A word is a NaN's, an infinity's or a finite float's. -/
theorem word_cases (x : Nat) (h : x < 18446744073709551616) : isn x = true ∨ (∃ s, x = sw s 9218868437227405312) ∨ ∃ s a, x = sw s a ∧ a < 9218868437227405312 := by
  obtain ⟨s, a, rfl, ha⟩ := sw_of x h
  rw [isn_sw s ha]
  rcases Nat.lt_trichotomy a 9218868437227405312 with k | k | k
  · exact .inr (.inr ⟨s, a, rfl, k⟩)
  · exact .inr (.inl ⟨s, by rw [k]⟩)
  · exact .inl (decide_eq_true k)
/-- A difference is a sum. -/
theorem sub_add (x y : Nat) (_hx : x < 18446744073709551616) (hy : y < 18446744073709551616) : Ieee.double.sub x y = Ieee.double.add x (neg y) := by
  unfold Ieee.Format.sub Ieee.Format.add
  rcases word_cases y hy with h | ⟨t, rfl⟩ | ⟨t, b, rfl, hb⟩
  · obtain ⟨s1, f1, h1⟩ := read_isn hy h
    obtain ⟨s2, f2, h2⟩ := read_isn (neg_lt hy) ((isn_neg hy).trans h)
    rw [h1, h2]; cases Ieee.double.read x <;> rfl
  · rw [neg_sw t (by omega), read_inf, read_inf]; rfl
  · rw [neg_sw t (by omega), read_sw t b hb, read_sw (!t) b hb]; rfl
theorem fa_one (x y : Nat) (hx : x < 18446744073709551616) (hy : y < 18446744073709551616) : fa (one x) (one y) = fa x y := by
  cases h : isn x
  · cases k : isn y
    · rw [one_of_not h, one_of_not k]
    · unfold fa; rw [one_of_nan k, add_nan2 _ (by decide) aNaN_nan, add_nan2 _ hy k]
  · unfold fa; rw [one_of_nan h, add_nan1 _ (by decide) aNaN_nan, add_nan1 _ hx h]
theorem fa_congr {x y x' y' : Nat} (hx : x < 18446744073709551616) (hy : y < 18446744073709551616) (hx' : x' < 18446744073709551616) (hy' : y' < 18446744073709551616) (e1 : one x = one x') (e2 : one y = one y') : fa x y = fa x' y' := by
  rw [← fa_one x y hx hy, ← fa_one x' y' hx' hy', e1, e2]
theorem fa_lt (x y : Nat) : fa x y < 18446744073709551616 := by
  unfold fa
  cases h : Ieee.double.add x y with
  | none => decide
  | some r => exact Ieee.double.add_lt h
theorem neg_one {x y : Nat} (hx : x < 18446744073709551616) (hy : y < 18446744073709551616) (h : one x = one y) : one (neg x) = one (neg y) := by
  cases k : isn x
  · have k2 : isn y = false := by rw [← isn_one y, ← h, isn_one, k]
    rw [one_of_not k, one_of_not k2] at h
    rw [h]
  · have k2 : isn y = true := by rw [← isn_one y, ← h, isn_one, k]
    rw [one_of_nan ((isn_neg hx).trans k), one_of_nan ((isn_neg hy).trans k2)]
end Go.Proofs.YtfnohbalkpponaaGreatDoor.Soft
/- THE LEAVES: words and signs. Own work of the verifier. -/
namespace Go.Proofs.YtfnohbalkpponaaGreatDoor.Pr
open Go.RowKit Soft

theorem retI {k : IntKind} {A B : Int} (h : A = B) : Ending.returned (Value.int k A) = .returned (.int k B) := by rw [h]
theorem retB {A B : Bool} (h : A = B) : Ending.returned (Value.bool A) = .returned (.bool B) := by rw [h]
theorem mf64bits (x : Nat) (w : World) : (callFunc 25 #[.float .f64 x]).run Tryz.prog w = .ok (.value (.int .u64 (x : Int))) w := by
  rw [run_callFunc_extern Tryz.func25 (by kernel_rfl) (by kernel_rfl) (by kernel_rfl) (e := Extern.MathFloatBits.float64bits) (by kernel_rfl)]
  rfl
theorem mf64from (x : Int) (w : World) : (callFunc 219 #[.int .u64 x]).run Tryz.prog w = .ok (.value (.float .f64 x.toNat)) w := by
  rw [run_callFunc_extern Tryz.func219 (by kernel_rfl) (by kernel_rfl) (by kernel_rfl) (e := Extern.MathFloatBits.float64frombits) (by kernel_rfl)]
  rfl
theorem clear_sign (x : Nat) (h : x < 18446744073709551616) : bits .andNot .u64 (x : Int) 9223372036854775808 = ((x % 9223372036854775808 : Nat) : Int) := by
  have := u64_andNot_nat x 9223372036854775808 (by omega) (by decide)
  rw [show ((9223372036854775808 : Nat) : Int) = 9223372036854775808 from rfl] at this
  rw [this, show 18446744073709551615 - 9223372036854775808 = 2 ^ 63 - 1 from by decide, Nat.and_two_pow_sub_one_eq_mod]
theorem sign_bit (x : Nat) (h : x < 18446744073709551616) : bits .and .u64 (x : Int) 9223372036854775808 = ((x / 9223372036854775808 * 9223372036854775808 : Nat) : Int) := by
  have := u64_and_nat x 9223372036854775808 h (by decide)
  rw [show ((9223372036854775808 : Nat) : Int) = 9223372036854775808 from rfl] at this
  rw [this, show (9223372036854775808 : Nat) = 2 ^ 63 from by decide, nat_bit, Nat.mod_eq_of_lt (by rw [show (2 : Nat) ^ 63 = 9223372036854775808 from by decide]; omega)]

theorem abs_any (x : Nat) (h : x < 18446744073709551616) (w : World) : Calls Tryz.prog 151 #[.float .f64 x] w fun e w' => e = .returned (.float .f64 (x % 9223372036854775808)) ∧ w' = w := by
  have hc := clear_sign x h
  generalize x % 9223372036854775808 = y at *
  go_enter Tryz.func151, Tryz.ntmps151
  go_wp2_with (first | simp only [mf64bits] | simp only [mf64from])
  go_ret
  exact ⟨rfl, rfl⟩
end Go.Proofs.YtfnohbalkpponaaGreatDoor.Pr
/- ROUNDING, step by step. Own work of the verifier. -/
namespace Go.Proofs.YtfnohbalkpponaaGreatDoor.Soft

/-- The second loop's state. -/
def Grow (N D M : Nat) : Prop := (M = ss (8 * N) D ∧ 8 * N = M * 2 ^ D) ∨ (18014398509481984 ≤ M ∧ M = ss (8 * N) D) ∨ (36028797018963968 ≤ M ∧ Left N D M)
theorem nrung_le (N : Nat) : nrung N ≤ 9218868437227405312 := by rw [nrung_nr]; omega
end Go.Proofs.YtfnohbalkpponaaGreatDoor.Soft
/- THE DOCUMENT's ROUNDING. Own work of the verifier. -/
namespace Go.Proofs.YtfnohbalkpponaaGreatDoor.Pr
open Go.RowKit Soft

end Go.Proofs.YtfnohbalkpponaaGreatDoor.Pr
/- THE SUM OF TWO FLOATS, the document's way. Own work of the verifier. -/
namespace Go.Proofs.YtfnohbalkpponaaGreatDoor.Soft

theorem nrung_zero : nrung 0 = 0 := by decide
theorem uV_pos {a : Nat} (h : 0 < a) : 0 < uV a := by have := uV_mono h; omega
end Go.Proofs.YtfnohbalkpponaaGreatDoor.Soft
