/- THE ORDER OF FLOATS, the code's: comparisons, signs. Own work of the verifier. -/
import Derived.Test.YtmejmohambhaaaaGreatDoorL1
import Derived.Test.YtmejmohambhaaaaGreatDoorOrdMath
namespace Go.Proofs.YtmejmohambhaaaaGreatDoor
open Go.RowKit

/-- Is a word a NaN's? -/
def isN (x : Nat) : Bool := decide (9218868437227405312 < x % 9223372036854775808)
/-- Where a word that is no NaN's stands. -/
def ov (x : Nat) : Int := if x < 9223372036854775808 then (x : Int) else 9223372036854775808 - (x : Int)
theorem ov_sw (s : Bool) (a : Nat) (h : a < 9223372036854775808) : ov (sw s a) = sr s a := by
  unfold ov sw sr; cases s <;> simp <;> omega
theorem isN_sw (s : Bool) (a : Nat) (h : a < 9223372036854775808) : isN (sw s a) = decide (9218868437227405312 < a) := by
  unfold isN sw; congr 2; cases s <;> simp <;> omega
theorem ord_nan {x : Nat} (hx : x < 18446744073709551616) (h : isN x = true) (y : Nat) : FloatKind.f64.format.order x y = none ∧ FloatKind.f64.format.order y x = none := by
  obtain ⟨s, a, rfl, ha⟩ := sw_of x hx
  rw [isN_sw s a ha] at h
  have h := of_decide_eq_true h
  exact ⟨order_nan1 s a y h ha, order_nan2 s a y h ha⟩
theorem ord_num {x y : Nat} (hx : x < 18446744073709551616) (hy : y < 18446744073709551616) (h : isN x = false) (k : isN y = false) : FloatKind.f64.format.order x y = some (compare (ov x) (ov y)) := by
  obtain ⟨s, a, rfl, ha⟩ := sw_of x hx
  obtain ⟨t, b, rfl, hb⟩ := sw_of y hy
  rw [isN_sw s a ha] at h
  rw [isN_sw t b hb] at k
  have h := of_decide_eq_false h
  have k := of_decide_eq_false k
  rw [ov_sw s a ha, ov_sw t b hb]
  exact order_all s t a b (by omega) (by omega)
theorem ord_self {x : Nat} (hx : x < 18446744073709551616) : (FloatKind.f64.format.order x x != some .eq) = isN x := by
  cases h : isN x
  · rw [ord_num hx hx h h]; simp
  · rw [(ord_nan hx h x).1]; decide
theorem isnan_f (x : Nat) (hx : x < 18446744073709551616) (w : World) :
    Calls Tryz.prog 38 #[.float .f64 x] w fun e w' => e = .returned (.bool (isN x)) ∧ w' = w := by
  have o1 := ord_self hx
  go_enter Tryz.func38, Tryz.ntmps38
  go_wp2
  go_ret
  exact ⟨rfl, rfl⟩
/-- How two stand, NaNs ahead, the two zeros alike. -/
def cmpF (x y : Nat) : Int := if isN x then (if isN y then 0 else -1) else if isN y then 1 else if ov x < ov y then -1 else if ov y < ov x then 1 else 0
set_option maxHeartbeats 400000 in
theorem cmpf_any (x y : Nat) (hx : x < 18446744073709551616) (hy : y < 18446744073709551616) (w : World) :
    Calls Tryz.prog 26 #[.float .f64 x, .float .f64 y] w fun e w' => e = .returned (.int .i64 (cmpF x y)) ∧ w' = w := by
  have HX : Hid _ := isnan_f x hx
  have HY : Hid _ := isnan_f y hy
  unfold cmpF
  cases hn : isN x
  · cases hm : isN y
    · have o := ord_num hx hy hn hm
      rw [hn] at HX; rw [hm] at HY
      rcases Int.lt_trichotomy (ov x) (ov y) with k | k | k
      · rw [Int.compare_eq_lt.2 k] at o
        have o1 : (FloatKind.f64.format.order x y == some .lt) = true := by rw [o]; decide
        rw [if_neg (by decide), if_neg (by decide), if_pos k]
        clear o
        go_enter Tryz.func26, Tryz.ntmps26
        go_wp2_with (go_at_call 38; (first | (with_reducible refine (HX.out _).mono ?_) | (with_reducible refine (HY.out _).mono ?_)); rintro e w' ⟨rfl, rfl⟩)
        go_ret
        exact ⟨rfl, rfl⟩
      · have o0 : compare (ov x) (ov y) = .eq := by rw [k]; simp
        rw [o0] at o
        have o1 : (FloatKind.f64.format.order x y == some .lt) = false := by rw [o]; decide
        have o2 : (FloatKind.f64.format.order x y == some .gt) = false := by rw [o]; decide
        rw [if_neg (by decide), if_neg (by decide), if_neg (by omega), if_neg (by omega)]
        clear o o0
        go_enter Tryz.func26, Tryz.ntmps26
        go_wp2_with (go_at_call 38; (first | (with_reducible refine (HX.out _).mono ?_) | (with_reducible refine (HY.out _).mono ?_)); rintro e w' ⟨rfl, rfl⟩)
        go_ret
        exact ⟨rfl, rfl⟩
      · rw [Int.compare_eq_gt.2 k] at o
        have o1 : (FloatKind.f64.format.order x y == some .lt) = false := by rw [o]; decide
        have o2 : (FloatKind.f64.format.order x y == some .gt) = true := by rw [o]; decide
        rw [if_neg (by decide), if_neg (by decide), if_neg (by omega), if_pos k]
        clear o
        go_enter Tryz.func26, Tryz.ntmps26
        go_wp2_with (go_at_call 38; (first | (with_reducible refine (HX.out _).mono ?_) | (with_reducible refine (HY.out _).mono ?_)); rintro e w' ⟨rfl, rfl⟩)
        go_ret
        exact ⟨rfl, rfl⟩
    · rw [hn] at HX; rw [hm] at HY
      go_enter Tryz.func26, Tryz.ntmps26
      go_wp2_with (go_at_call 38; (first | (with_reducible refine (HX.out _).mono ?_) | (with_reducible refine (HY.out _).mono ?_)); rintro e w' ⟨rfl, rfl⟩)
      go_ret
      exact ⟨rfl, rfl⟩
  · rw [hn] at HX
    cases hm : isN y <;> rw [hm] at HY
    all_goals
      go_enter Tryz.func26, Tryz.ntmps26
      go_wp2_with (go_at_call 38; (first | (with_reducible refine (HX.out _).mono ?_) | (with_reducible refine (HY.out _).mono ?_)); rintro e w' ⟨rfl, rfl⟩)
      go_ret
      exact ⟨rfl, rfl⟩
end Go.Proofs.YtmejmohambhaaaaGreatDoor
