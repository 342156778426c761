/- Print AT THREE FLOATS. Own work of the verifier. -/
import Derived.Test.YtmejmohambhaaaaGreatDoorL14
import Derived.Lib.SmallJoins
namespace Go.Proofs.YtmejmohambhaaaaGreatDoor
open Go.RowKit Go.Sort

set_option maxHeartbeats 1000000 in
theorem Cut_e21 (w : World) : Calls Tryz.prog 28 #[.string ⟨#[49, 101, 43, 50, 49]⟩, .string ⟨#[101]⟩] w fun e w' => e = .returned (.tuple #[.string ⟨#[49]⟩, .string ⟨#[43, 50, 49]⟩, .bool true]) ∧ Below w.heap.size w w' := by
  go_enter Tryz.func28, Tryz.ntmps28
  go_wp2_with fail
  refine (cut_e21 w).mono ?_
  rintro r w1 ⟨rfl, hb⟩
  go_wp2
  go_ret3
  exact ⟨rfl, hb⟩
theorem atoi21 : Lib.atoi [43, 50, 49] = some 21 := by decide +kernel
theorem dd21 : Lib.decDigits 21 = [50, 49] := by rw [Lib.decDigits_two (by decide) (by decide)]; decide
theorem cat1 : (⟨#[49]⟩ : ByteArray) ++ ⟨#[101]⟩ = ⟨#[49, 101]⟩ := by decide +kernel
theorem cat2 : (⟨#[49, 101]⟩ : ByteArray) ++ ⟨#[50, 49]⟩ = ⟨#[49, 101, 50, 49]⟩ := by decide +kernel
set_option maxHeartbeats 1000000 in
theorem withExp21 (w : World) (hGl : Glob w) : Calls Tryz.prog 18 #[.float .f64 4921056587992461136] w fun r w' => r = .returned (.string ⟨#[49, 101, 50, 49]⟩) ∧ Below w.heap.size w w' := by
  go_enter Tryz.func18, Tryz.ntmps18
  go_wp2_with fail
  refine (fmt_1e21 w hGl).mono ?_
  rintro r w1 ⟨rfl, hb1⟩
  go_wp2_with fail
  refine (Cut_e21 w1).mono ?_
  rintro r w2 ⟨rfl, hb2⟩
  go_wp2_with fail
  refine (Tryz.strconv_Atoi ⟨#[43, 50, 49]⟩ 21 (by decide) atoi21 w2).mono ?_
  rintro r w3 ⟨rfl, t, rfl⟩
  have hb3 : Below w.heap.size w (Lib.bytesWorld w2 5 t) := (hb1.trans (hb2.mono hb1.size)).trans ((Joins.below_bytesWorld w2.heap.size w2 5 t (Nat.le_refl _)).mono (by have := hb1.size; have := hb2.size; omega))
  generalize Lib.bytesWorld w2 5 t = w3 at *
  have h1 := cat1
  have h2 := cat2
  go_wp2_with fail
  have hI := Tryz.strconv_Itoa_small 21 (by decide) w3
  rw [dd21] at hI
  refine hI.mono ?_
  rintro r w3 ⟨rfl, rfl⟩
  go_wp2
  go_ret
  exact ⟨rfl, hb3⟩
theorem ab (x : Nat) (h : x < 9223372036854775808) (w : World) : Calls Tryz.prog 17 #[.float .f64 x] w fun e w' => e = .returned (.float .f64 x) ∧ w' = w := by
  have := abs_any x (by omega) w
  rw [Nat.mod_eq_of_lt h] at this
  exact this
set_option maxHeartbeats 1000000 in
theorem print_1e21 (w : World) (hGl : Glob w) : Calls Tryz.prog 7 #[.float .f64 4921056587992461136] w fun r w' => r = .returned (.string ⟨#[49, 101, 50, 49]⟩) ∧ Below w.heap.size w w' := by
  go_enter Tryz.func7, Tryz.ntmps7
  go_wp2_with (first
    | (go_at_call 17; refine (ab 4921056587992461136 (by decide) _).mono ?_; rintro e w ⟨rfl, rfl⟩)
    | (go_at_call 16; refine (hasExp_w 4921056587992461136 true false true true (by decide +kernel) (by decide +kernel) (by decide +kernel) (by decide +kernel) _).mono ?_; rintro e w ⟨rfl, rfl⟩)
    | fail)
  refine (withExp21 w hGl).mono ?_
  rintro r w1 ⟨rfl, hb⟩
  go_wp2
  go_ret
  exact ⟨rfl, hb⟩
set_option maxHeartbeats 1000000 in
theorem print_tenth (w : World) (hGl : Glob w) : Calls Tryz.prog 7 #[.float .f64 4591870180066957722] w fun r w' => r = .returned (.string ⟨#[48, 46, 49]⟩) ∧ Below w.heap.size w w' := by
  go_enter Tryz.func7, Tryz.ntmps7
  go_wp2_with (first
    | (go_at_call 17; refine (ab 4591870180066957722 (by decide) _).mono ?_; rintro e w ⟨rfl, rfl⟩)
    | (go_at_call 16; refine (hasExp_w 4591870180066957722 true false false true (by decide +kernel) (by decide +kernel) (by decide +kernel) (by decide +kernel) _).mono ?_; rintro e w ⟨rfl, rfl⟩)
    | fail)
  refine (fmt_tenth w hGl).mono ?_
  rintro r w1 ⟨rfl, hb⟩
  go_wp2
  go_ret
  exact ⟨rfl, hb⟩
set_option maxHeartbeats 1000000 in
theorem print_one (w : World) (hGl : Glob w) : Calls Tryz.prog 7 #[.float .f64 4607182418800017408] w fun r w' => r = .returned (.string ⟨#[49]⟩) ∧ Below w.heap.size w w' := by
  go_enter Tryz.func7, Tryz.ntmps7
  go_wp2_with (first
    | (go_at_call 17; refine (ab 4607182418800017408 (by decide) _).mono ?_; rintro e w ⟨rfl, rfl⟩)
    | (go_at_call 16; refine (hasExp_w 4607182418800017408 true false false true (by decide +kernel) (by decide +kernel) (by decide +kernel) (by decide +kernel) _).mono ?_; rintro e w ⟨rfl, rfl⟩)
    | fail)
  refine (fmt_one w hGl).mono ?_
  rintro r w1 ⟨rfl, hb⟩
  go_wp2
  go_ret
  exact ⟨rfl, hb⟩
end Go.Proofs.YtmejmohambhaaaaGreatDoor
