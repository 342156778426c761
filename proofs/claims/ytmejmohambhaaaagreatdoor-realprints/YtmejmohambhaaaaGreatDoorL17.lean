/- ParseFloat AT TWO TEXTS, and Parse. Own work of the verifier. -/
import Derived.Test.YtmejmohambhaaaaGreatDoorL16
namespace Go.Proofs.YtmejmohambhaaaaGreatDoor
open Go.RowKit Go.Sort

set_option maxHeartbeats 1000000 in
set_option maxRecDepth 100000 in
theorem exact_w (n x q : Nat) (hn : n < 100) (hx : floatOfInt .f64 (n : Int) = x) (hq : floatBits .quo .f64 x 4621819117588971520 = some q) (w : World) (hGl : Glob w) (hP : P10 w) : Calls Tryz.prog 121 #[.int .u64 (n : Int), .int .i64 (-1), .bool false] w fun e w' => e = .returned (.tuple #[.float .f64 q, .bool true]) ∧ Below w.heap.size w w' := by
  obtain ⟨b, o, hb, hb1⟩ := hP
  have h52 := hGl.m52
  have hd : ∀ W, (binOp .quo 25 (.float .f64 x) (.float .f64 4621819117588971520)).run Tryz.prog W = .ok (.float .f64 q) W := fun W => run_float_arith W .quo 25 .f64 _ _ _ hq
  clear hq
  go_enter Tryz.func121, Tryz.ntmps121
  go_wp2
  go_ret2
  exact ⟨rfl, Below.refl _ _⟩
set_option maxHeartbeats 4000000 in
set_option maxRecDepth 100000 in
theorem atof_w (s : ByteArray) (n x q : Nat) (hn0 : 0 < n) (hn : n < 100) (_hs3 : s.size = 3) (hx : floatOfInt .f64 (n : Int) = x) (hq : floatBits .quo .f64 x 4621819117588971520 = some q)
    (HS : Hid (∀ W, Calls Tryz.prog 110 #[.string s] W fun e w' => e = .returned (.tuple #[.float .f64 0, .int .i64 0, .bool false]) ∧ w' = W))
    (HR : Hid (∀ W, Calls Tryz.prog 111 #[.string s] W fun e w' => e = .returned (.tuple #[.int .u64 (n : Int), .int .i64 (-1), .bool false, .bool false, .bool false, .int .i64 3, .bool true]) ∧ Below W.heap.size W w')) (w : World) (hGl : Glob w) (hP : P10 w) :
    Calls Tryz.prog 78 #[.string s] w fun e w' => e = .returned (.tuple #[.float .f64 q, .int .i64 3, .nilIface]) ∧ Below w.heap.size w w' := by
  have hn1 : ((n : Int) == 0) = false := by rw [beq_eq_false_iff_ne]; omega
  have HX : Hid _ := exact_w n x q hn hx hq
  clear hx hq
  go_enter Tryz.func78, Tryz.ntmps78
  go_wp2_with (first
    | (go_at_call 110; refine (HS.out _).mono ?_; rintro e w ⟨rfl, rfl⟩)
    | fail)
  refine (HR.out _).mono ?_
  rintro e w1 ⟨rfl, hb1⟩
  have hG1 := hGl.below hb1
  have ho := hG1.opt
  have hP1 := hP.below hb1
  go_wp2_with (first
    | (go_at_call 119; with_reducible refine (bool2_u64 _ _).mono ?_; rintro e w1 ⟨rfl, rfl⟩)
    | fail)
  refine (HX.out w1 hG1 hP1).mono ?_
  rintro e w2 ⟨rfl, hb2⟩
  go_wp2
  go_ret3
  exact ⟨rfl, hb1.trans (hb2.mono hb1.size)⟩
set_option maxHeartbeats 1000000 in
theorem prefix_w (s : ByteArray) (q : Nat) (w w0 : World) (_hb0 : Below w0.heap.size w0 w) (HA : Hid (Calls Tryz.prog 78 #[.string s] w fun e w' => e = .returned (.tuple #[.float .f64 q, .int .i64 3, .nilIface]) ∧ Below w.heap.size w w')) :
    Calls Tryz.prog 46 #[.string s, .int .i64 64] w fun e w' => e = .returned (.tuple #[.float .f64 q, .int .i64 3, .nilIface]) ∧ Below w.heap.size w w' := by
  go_enter Tryz.func46, Tryz.ntmps46
  go_wp2_with fail
  refine HA.out.mono ?_
  rintro e w1 ⟨rfl, hb1⟩
  go_wp2
  go_ret3
  exact ⟨rfl, hb1⟩
set_option maxHeartbeats 1000000 in
theorem parse_w (s : ByteArray) (q : Nat) (hs3 : s.size = 3) (w : World) (HA : Hid (Calls Tryz.prog 78 #[.string s] w fun e w' => e = .returned (.tuple #[.float .f64 q, .int .i64 3, .nilIface]) ∧ Below w.heap.size w w')) :
    Calls Tryz.prog 35 #[.string s, .int .i64 64] w fun e w' => e = .returned (.tuple #[.float .f64 q, .nilIface]) ∧ Below w.heap.size w w' := by
  go_enter Tryz.func35, Tryz.ntmps35
  go_wp2_with fail
  refine (prefix_w s q w w (Below.refl _ _) HA).mono ?_
  rintro e w1 ⟨rfl, hb1⟩
  go_wp2
  go_ret2
  exact ⟨rfl, hb1⟩
set_option maxHeartbeats 1000000 in
theorem Parse_w (s : ByteArray) (q : Nat) (hs3 : s.size = 3) (w : World) (HA : Hid (Calls Tryz.prog 78 #[.string s] w fun e w' => e = .returned (.tuple #[.float .f64 q, .int .i64 3, .nilIface]) ∧ Below w.heap.size w w')) :
    Calls Tryz.prog 22 #[.string s, .int .i64 64] w fun e w' => e = .returned (.tuple #[.float .f64 q, .nilIface]) ∧ Below w.heap.size w w' := by
  go_enter Tryz.func22, Tryz.ntmps22
  go_wp2_with fail
  refine (parse_w s q hs3 w HA).mono ?_
  rintro e w1 ⟨rfl, hb1⟩
  go_wp2
  go_ret2
  exact ⟨rfl, hb1⟩
theorem atof_tenth (w : World) (hGl : Glob w) (hP : P10 w) : Calls Tryz.prog 78 #[.string ⟨#[48, 46, 49]⟩] w fun e w' => e = .returned (.tuple #[.float .f64 4591870180066957722, .int .i64 3, .nilIface]) ∧ Below w.heap.size w w' :=
  atof_w ⟨#[48, 46, 49]⟩ 1 4607182418800017408 4591870180066957722 (by decide) (by decide) (by decide) (by decide +kernel) (by decide +kernel) special_tenth read_tenth w hGl hP
theorem atof_one (w : World) (hGl : Glob w) (hP : P10 w) : Calls Tryz.prog 78 #[.string ⟨#[49, 46, 48]⟩] w fun e w' => e = .returned (.tuple #[.float .f64 4607182418800017408, .int .i64 3, .nilIface]) ∧ Below w.heap.size w w' :=
  atof_w ⟨#[49, 46, 48]⟩ 10 4621819117588971520 4607182418800017408 (by decide) (by decide) (by decide) (by decide +kernel) (by decide +kernel) special_one read_one w hGl hP
set_option maxHeartbeats 1000000 in
theorem parse_tenth (w : World) (hGl : Glob w) (hP : P10 w) : Calls Tryz.prog 11 #[.string ⟨#[48, 46, 49]⟩] w fun e w' => e = .returned (.tuple #[.float .f64 4591870180066957722, .int .i64 0]) ∧ Below w.heap.size w w' := by
  go_enter Tryz.func11, Tryz.ntmps11
  go_wp2_with fail
  refine (Parse_w _ _ (by decide) w (atof_tenth w hGl hP)).mono ?_
  rintro e w1 ⟨rfl, hb1⟩
  go_wp2_with fail
  refine (print_tenth w1 (hGl.below hb1)).mono ?_
  rintro e w2 ⟨rfl, hb2⟩
  go_wp2
  go_ret2
  exact ⟨rfl, hb1.trans (hb2.mono hb1.size)⟩
set_option maxHeartbeats 1000000 in
theorem parse_one (w : World) (hGl : Glob w) (hP : P10 w) : Calls Tryz.prog 11 #[.string ⟨#[49, 46, 48]⟩] w fun e w' => e = .returned (.tuple #[.float .f64 0, .int .i64 5]) ∧ Below w.heap.size w w' := by
  go_enter Tryz.func11, Tryz.ntmps11
  go_wp2_with fail
  refine (Parse_w _ _ (by decide) w (atof_one w hGl hP)).mono ?_
  rintro e w1 ⟨rfl, hb1⟩
  go_wp2_with fail
  refine (print_one w1 (hGl.below hb1)).mono ?_
  rintro e w2 ⟨rfl, hb2⟩
  go_wp2
  go_ret2
  exact ⟨rfl, hb1.trans (hb2.mono hb1.size)⟩
end Go.Proofs.YtmejmohambhaaaaGreatDoor
