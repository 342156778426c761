/- Same, May, and the answers that every statement of the layer asks first. Own work of the verifier. -/
import Derived.Test.YtmejmohambhaaaaGreatDoorL18
namespace Go.Proofs.YtmejmohambhaaaaGreatDoor
open Go.RowKit Go.Sort

set_option maxHeartbeats 400000 in
theorem same_any (x y : Nat) (hx : x < 18446744073709551616) (hy : y < 18446744073709551616) (w : World) :
    Calls Tryz.prog 15 #[.float .f64 x, .float .f64 y] w fun e w' => e = .returned (.bool (sg (rk x) (rk y) == 0)) ∧ w' = w := by
  go_enter Tryz.func15, Tryz.ntmps15
  go_wp2_with fail
  refine (compare_any x y hx hy w).mono ?_
  rintro e w ⟨rfl, rfl⟩
  go_wp2
  go_ret
  exact ⟨rfl, rfl⟩
theorem may_ord (x : Nat) (h : x < 9223372036854775808) : (FloatKind.f64.format.order x 8930638061075693568 == some .lt || FloatKind.f64.format.order x 8930638061075693568 == some .eq) = decide (x ≤ 8930638061075693568) := by
  cases hn : isN x
  · have z := nan_size hn
    rw [ord_num (by omega) (by decide) hn (by decide +kernel)]
    have e1 : ov x = (x : Int) := by unfold ov; rw [if_pos h]
    have e2 : ov 8930638061075693568 = 8930638061075693568 := by decide +kernel
    rw [e1, e2]
    rcases Nat.lt_trichotomy x 8930638061075693568 with k | k | k
    · rw [Int.compare_eq_lt.2 (by omega), decide_eq_true (by omega)]; decide
    · subst k; decide +kernel
    · rw [Int.compare_eq_gt.2 (by omega), decide_eq_false (by omega)]; decide
  · rw [(ord_nan (by omega) hn _).1]
    have := of_decide_eq_true hn
    rw [decide_eq_false (by omega)]; decide
set_option maxHeartbeats 400000 in
theorem may_any (x : Nat) (hx : x < 18446744073709551616) (w : World) :
    Calls Tryz.prog 9 #[.float .f64 x] w fun e w' => e = .returned (.bool (decide (x % 9223372036854775808 ≤ 8930638061075693568))) ∧ w' = w := by
  have h1 := may_ord (x % 9223372036854775808) (by omega)
  have HA : Hid _ := abs_any x hx
  generalize decide (x % 9223372036854775808 ≤ 8930638061075693568) = b at *
  generalize x % 9223372036854775808 = y at *
  go_enter Tryz.func9, Tryz.ntmps9
  go_wp2_with (go_at_call 17; with_reducible refine (HA.out _).mono ?_; rintro e w ⟨rfl, rfl⟩)
  go_ret
  exact ⟨rfl, rfl⟩
theorem oeq : (FloatKind.f64.format.order 4591870180066957722 4591870180066957722 == some .eq) = true := by decide +kernel
set_option maxHeartbeats 2000000 in
set_option maxRecDepth 100000 in
theorem awake_any (w : World) (hGl : Glob w) (hP : P10 w) : Calls Tryz.prog 5 #[] w fun e w' => e = .returned (.bool true) ∧ Below w.heap.size w w' := by
  have ho := oeq
  go_enter Tryz.func5, Tryz.ntmps5
  go_wp2_with fail
  refine (parse_tenth w hGl hP).mono ?_
  rintro e w1 ⟨rfl, hb1⟩
  go_wp2_with fail
  refine (parse_one w1 (hGl.below hb1) (hP.below hb1)).mono ?_
  rintro e w2 ⟨rfl, hb2⟩
  have hb : Below w.heap.size w w2 := hb1.trans (hb2.mono hb1.size)
  have hG2 := hGl.below hb
  go_wp2_with fail
  refine (print_1e21 w2 hG2).mono ?_
  rintro e w3 ⟨rfl, hb3⟩
  have hb := hb.trans (hb3.mono hb.size)
  have hG3 := hGl.below hb
  go_wp2_with fail
  refine (print_tenth w3 hG3).mono ?_
  rintro e w4 ⟨rfl, hb4⟩
  have hb := hb.trans (hb4.mono hb.size)
  have HC := fun W => compare_any 4607182418800017408 4611686018427387904 (by decide) (by decide) W
  rw [show sg (rk 4607182418800017408) (rk 4611686018427387904) = -1 from by decide +kernel] at HC
  have HS := fun W => same_any 4611686018427387904 4611686018427387904 (by decide) (by decide) W
  rw [show (sg (rk 4611686018427387904) (rk 4611686018427387904) == 0) = true from by decide +kernel] at HS
  have HM := fun W => may_any 4607182418800017408 (by decide) W
  rw [show decide (4607182418800017408 % 9223372036854775808 ≤ 8930638061075693568) = true from by decide +kernel] at HM
  have HC : Hid _ := HC
  have HS : Hid _ := HS
  have HM : Hid _ := HM
  go_wp2_with (first
    | (go_at_call 14; refine (HC.out _).mono ?_; rintro e w4 ⟨rfl, rfl⟩)
    | (go_at_call 15; refine (HS.out _).mono ?_; rintro e w4 ⟨rfl, rfl⟩)
    | (go_at_call 9; refine (HM.out _).mono ?_; rintro e w4 ⟨rfl, rfl⟩)
    | fail)
  go_ret
  exact ⟨rfl, hb⟩
end Go.Proofs.YtmejmohambhaaaaGreatDoor
