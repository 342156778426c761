/- Print AT THREE FLOATS. Own work of the verifier. -/
import Derived.Test.YtmejmohambhaaaaGreatDoorL13
import Derived.Test.YtmejmohambhaaaaGreatDoorO1
namespace Go.Proofs.YtmejmohambhaaaaGreatDoor
open Go.RowKit Go.Sort

theorem mf64bits (x : Nat) (w : World) : (callFunc 20 #[.float .f64 x]).run Tryz.prog w = .ok (.value (.int .u64 (x : Int))) w := by
  rw [run_callFunc_extern Tryz.func20 (by kernel_rfl) (by kernel_rfl) (by kernel_rfl) (e := Extern.MathFloatBits.float64bits) (by kernel_rfl)]
  rfl
theorem mf64from (x : Int) (w : World) : (callFunc 6 #[.int .u64 x]).run Tryz.prog w = .ok (.value (.float .f64 x.toNat)) w := by
  rw [run_callFunc_extern Tryz.func6 (by kernel_rfl) (by kernel_rfl) (by kernel_rfl) (e := Extern.MathFloatBits.float64frombits) (by kernel_rfl)]
  rfl
theorem clear_sign (x : Nat) (h : x < 18446744073709551616) : bits .andNot .u64 (x : Int) 9223372036854775808 = ((x % 9223372036854775808 : Nat) : Int) := by
  have := u64_andNot_nat x 9223372036854775808 (by omega) (by decide)
  rw [show ((9223372036854775808 : Nat) : Int) = 9223372036854775808 from rfl] at this
  rw [this, show 18446744073709551615 - 9223372036854775808 = 2 ^ 63 - 1 from by decide, Nat.and_two_pow_sub_one_eq_mod]
theorem abs_any (x : Nat) (h : x < 18446744073709551616) (w : World) : Calls Tryz.prog 17 #[.float .f64 x] w fun e w' => e = .returned (.float .f64 (x % 9223372036854775808)) ∧ w' = w := by
  have hc := clear_sign x h
  generalize x % 9223372036854775808 = y at *
  go_enter Tryz.func17, Tryz.ntmps17
  go_wp2_with (first | simp only [mf64bits] | simp only [mf64from])
  go_ret
  exact ⟨rfl, rfl⟩
set_option maxHeartbeats 1000000 in
theorem hasExp_w (x : Nat) (b1 b2 b3 b4 : Bool) (o1 : (FloatKind.f64.format.order 0 x == some .lt) = b1) (o2 : (FloatKind.f64.format.order x 4517329193108106637 == some .lt) = b2)
    (o3 : (FloatKind.f64.format.order 4921056587992461136 x == some .lt || FloatKind.f64.format.order 4921056587992461136 x == some .eq) = b3) (o4 : (FloatKind.f64.format.order x 9218868437227405311 == some .lt || FloatKind.f64.format.order x 9218868437227405311 == some .eq) = b4) (w : World) :
    Calls Tryz.prog 16 #[.float .f64 x] w fun e w' => e = .returned (.bool (b1 && b2 || b3 && b4)) ∧ w' = w := by
  cases b1 <;> cases b2 <;> cases b3 <;> cases b4
  all_goals
    go_enter Tryz.func16, Tryz.ntmps16
    go_wp2
    go_ret
    exact ⟨rfl, rfl⟩
theorem ix21 : Lib.indexByte [49, 101, 43, 50, 49] 101 = 1 := by decide +kernel
set_option maxHeartbeats 1000000 in
theorem cut_e21 (w : World) : Calls Tryz.prog 39 #[.string ⟨#[49, 101, 43, 50, 49]⟩, .string ⟨#[101]⟩] w fun e w' => e = .returned (.tuple #[.string ⟨#[49]⟩, .string ⟨#[43, 50, 49]⟩, .bool true]) ∧ Below w.heap.size w w' := by
  have HI : Hid (∀ W, Calls Tryz.prog 53 #[.string ⟨#[49, 101, 43, 50, 49]⟩, .string ⟨#[101]⟩] W fun e w' => e = .returned (.int .i64 1) ∧ w' = W) := fun W => by
    have h := Tryz.stringslite_Index_one ⟨#[49, 101, 43, 50, 49]⟩ 101 W
    rw [show Lib.indexByte (ByteArray.mk #[49, 101, 43, 50, 49]).data.toList 101 = 1 from ix21] at h
    exact h
  go_enter Tryz.func39, Tryz.ntmps39
  go_wp2_with (go_at_call 53; with_reducible refine (HI.out _).mono ?_; rintro e w ⟨rfl, rfl⟩)
  go_quiet (fail)
  go_wp2
  go_ret3
  exact ⟨rfl, Below.drewN' (Below.refl _ _) _⟩
end Go.Proofs.YtmejmohambhaaaaGreatDoor
