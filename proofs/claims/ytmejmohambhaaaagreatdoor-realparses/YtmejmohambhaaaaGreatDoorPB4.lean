/- ParseFloat AT TWO TEXTS. Own work of the verifier. -/
import Derived.Test.YtmejmohambhaaaaGreatDoorL15
import Derived.WalkMore
import Derived.Test.YtmejmohambhaaaaGreatDoorCards
import Derived.Test.YtmejmohambhaaaaGreatDoorTie
import Derived.ProofKit
import Derived.OpenShut
import Derived.LaidMore
import Derived.Lay
import Derived.SevenTiedAt
import Derived.Stop.Joined
import Derived.Lib.LaidTab
import Derived.Deep.Slices
namespace Go.Proofs.YtmejmohambhaaaaGreatDoor
open Go.RowKit Go.Sort

set_option maxHeartbeats 1000000 in
theorem special_tenth (w : World) : Calls Tryz.prog 110 #[.string ⟨#[48, 46, 49]⟩] w fun e w' => e = .returned (.tuple #[.float .f64 0, .int .i64 0, .bool false]) ∧ w' = w := by
  go_enter Tryz.func110, Tryz.ntmps110
  go_wp2
  go_ret3
  exact ⟨rfl, rfl⟩
set_option maxHeartbeats 1000000 in
theorem special_one (w : World) : Calls Tryz.prog 110 #[.string ⟨#[49, 46, 48]⟩] w fun e w' => e = .returned (.tuple #[.float .f64 0, .int .i64 0, .bool false]) ∧ w' = w := by
  go_enter Tryz.func110, Tryz.ntmps110
  go_wp2
  go_ret3
  exact ⟨rfl, rfl⟩
set_option maxHeartbeats 4000000 in
set_option maxRecDepth 100000 in
theorem read_tenth (w : World) : Calls Tryz.prog 111 #[.string ⟨#[48, 46, 49]⟩] w fun e w' => e = .returned (.tuple #[.int .u64 1, .int .i64 (-1), .bool false, .bool false, .bool false, .int .i64 3, .bool true]) ∧ Below w.heap.size w w' := by
  have hL := Tryz.internal_strconv_lower 46
  have HL : Hid _ := hL
  clear hL
  go_enter Tryz.func111, Tryz.ntmps111
  go_wp2_with fail
  go_step3
  go_wp2_with (first
    | (go_at_call 91; refine (HL.out _).mono ?_; rintro e w ⟨rfl, rfl⟩)
    | fail)
  go_step3
  go_wp2_with (first
    | (go_at_call 91; refine (HL.out _).mono ?_; rintro e w ⟨rfl, rfl⟩)
    | fail)
  go_rounds 4
  go_wp2_with (first
    | (go_at_call 91; refine (HL.out _).mono ?_; rintro e w ⟨rfl, rfl⟩)
    | fail)
  rw [Exit.noGoto_ret]
  show bodyPost _ _ _ _ _ _
  simp [bodyPost, results, Tryz.results111, go_sem]
  exact ⟨by decide, Below.refl _ _⟩
set_option maxHeartbeats 4000000 in
set_option maxRecDepth 100000 in
theorem read_one (w : World) : Calls Tryz.prog 111 #[.string ⟨#[49, 46, 48]⟩] w fun e w' => e = .returned (.tuple #[.int .u64 10, .int .i64 (-1), .bool false, .bool false, .bool false, .int .i64 3, .bool true]) ∧ Below w.heap.size w w' := by
  have hL := Tryz.internal_strconv_lower 46
  have HL : Hid _ := hL
  clear hL
  go_enter Tryz.func111, Tryz.ntmps111
  go_wp2_with fail
  go_step3
  go_wp2_with (first
    | (go_at_call 91; refine (HL.out _).mono ?_; rintro e w ⟨rfl, rfl⟩)
    | fail)
  go_step3
  go_wp2_with (first
    | (go_at_call 91; refine (HL.out _).mono ?_; rintro e w ⟨rfl, rfl⟩)
    | fail)
  go_rounds 4
  go_wp2_with (first
    | (go_at_call 91; refine (HL.out _).mono ?_; rintro e w ⟨rfl, rfl⟩)
    | fail)
  rw [Exit.noGoto_ret]
  show bodyPost _ _ _ _ _ _
  simp [bodyPost, results, Tryz.results111, go_sem]
  exact ⟨by decide, Below.refl _ _⟩
/-- The table of powers of ten, as floats. -/
def P10 (w : World) : Prop := ∃ b o, w.cell? ⟨12, 0, none⟩ = some (.slice (some ⟨b, o, none⟩) 23 23) ∧ w.cell? ⟨b, o + 1, none⟩ = some (.float .f64 4621819117588971520)
theorem lt_of_cell' {w : World} {a : Addr} {v : Value} (h : w.cell? a = some v) : a.block < w.heap.size := by
  unfold World.cell? at h
  rcases Nat.lt_or_ge a.block w.heap.size with k | k
  · exact k
  · rw [Array.getElem?_eq_none k] at h; simp at h
theorem P10.below {w w' : World} (h : P10 w) (hb : Below w.heap.size w w') : P10 w' := by
  obtain ⟨b, o, p1, p2⟩ := h
  exact ⟨b, o, by rw [(bcell hb).1 _ _ (lt_of_cell p1), p1], by rw [(bcell hb).1 _ _ (lt_of_cell p2), p2]⟩
end Go.Proofs.YtmejmohambhaaaaGreatDoor
/- ParseFloat AT TWO TEXTS, and Parse. Own work of the verifier. -/
namespace Go.Proofs.YtmejmohambhaaaaGreatDoor
open Go.RowKit Go.Sort

set_option maxHeartbeats 1000000 in
set_option maxRecDepth 100000 in
theorem exact_w (n x q : Nat) (hn : n < 100) (hx : floatOfInt .f64 (n : Int) = x) (hq : floatBits .quo .f64 x 4621819117588971520 = some q) (w : World) (hGl : Glob w) (hP : P10 w) : Calls Tryz.prog 121 #[.int .u64 (n : Int), .int .i64 (-1), .bool false] w fun e w' => e = .returned (.tuple #[.float .f64 q, .bool true]) ∧ Below w.heap.size w w' := by
  obtain ⟨b, o, hb, hb1⟩ := hP
  have h52 := hGl.m52
  have hd : ∀ W, (binOp .quo 25 (.float .f64 x) (.float .f64 4621819117588971520)).run Tryz.prog W = .ok (.float .f64 q) W := fun W => run_float_arith W .quo 25 .f64 _ _ _ hq
  clear hq
  go_enter Tryz.func121, Tryz.ntmps121
  go_wp2
  go_ret2
  exact ⟨rfl, Below.refl _ _⟩
set_option maxHeartbeats 4000000 in
set_option maxRecDepth 100000 in
theorem atof_w (s : ByteArray) (n x q : Nat) (hn0 : 0 < n) (hn : n < 100) (_hs3 : s.size = 3) (hx : floatOfInt .f64 (n : Int) = x) (hq : floatBits .quo .f64 x 4621819117588971520 = some q)
    (HS : Hid (∀ W, Calls Tryz.prog 110 #[.string s] W fun e w' => e = .returned (.tuple #[.float .f64 0, .int .i64 0, .bool false]) ∧ w' = W))
    (HR : Hid (∀ W, Calls Tryz.prog 111 #[.string s] W fun e w' => e = .returned (.tuple #[.int .u64 (n : Int), .int .i64 (-1), .bool false, .bool false, .bool false, .int .i64 3, .bool true]) ∧ Below W.heap.size W w')) (w : World) (hGl : Glob w) (hP : P10 w) :
    Calls Tryz.prog 78 #[.string s] w fun e w' => e = .returned (.tuple #[.float .f64 q, .int .i64 3, .nilIface]) ∧ Below w.heap.size w w' := by
  have hn1 : ((n : Int) == 0) = false := by rw [beq_eq_false_iff_ne]; omega
  have HX : Hid _ := exact_w n x q hn hx hq
  clear hx hq
  go_enter Tryz.func78, Tryz.ntmps78
  go_wp2_with (first
    | (go_at_call 110; refine (HS.out _).mono ?_; rintro e w ⟨rfl, rfl⟩)
    | fail)
  refine (HR.out _).mono ?_
  rintro e w1 ⟨rfl, hb1⟩
  have hG1 := hGl.below hb1
  have ho := hG1.opt
  have hP1 := hP.below hb1
  go_wp2_with (first
    | (go_at_call 119; with_reducible refine (bool2_u64 _ _).mono ?_; rintro e w1 ⟨rfl, rfl⟩)
    | fail)
  refine (HX.out w1 hG1 hP1).mono ?_
  rintro e w2 ⟨rfl, hb2⟩
  go_wp2
  go_ret3
  exact ⟨rfl, hb1.trans (hb2.mono hb1.size)⟩
set_option maxHeartbeats 1000000 in
theorem prefix_w (s : ByteArray) (q : Nat) (w w0 : World) (_hb0 : Below w0.heap.size w0 w) (HA : Hid (Calls Tryz.prog 78 #[.string s] w fun e w' => e = .returned (.tuple #[.float .f64 q, .int .i64 3, .nilIface]) ∧ Below w.heap.size w w')) :
    Calls Tryz.prog 46 #[.string s, .int .i64 64] w fun e w' => e = .returned (.tuple #[.float .f64 q, .int .i64 3, .nilIface]) ∧ Below w.heap.size w w' := by
  go_enter Tryz.func46, Tryz.ntmps46
  go_wp2_with fail
  refine HA.out.mono ?_
  rintro e w1 ⟨rfl, hb1⟩
  go_wp2
  go_ret3
  exact ⟨rfl, hb1⟩
set_option maxHeartbeats 1000000 in
theorem parse_w (s : ByteArray) (q : Nat) (hs3 : s.size = 3) (w : World) (HA : Hid (Calls Tryz.prog 78 #[.string s] w fun e w' => e = .returned (.tuple #[.float .f64 q, .int .i64 3, .nilIface]) ∧ Below w.heap.size w w')) :
    Calls Tryz.prog 35 #[.string s, .int .i64 64] w fun e w' => e = .returned (.tuple #[.float .f64 q, .nilIface]) ∧ Below w.heap.size w w' := by
  go_enter Tryz.func35, Tryz.ntmps35
  go_wp2_with fail
  refine (prefix_w s q w w (Below.refl _ _) HA).mono ?_
  rintro e w1 ⟨rfl, hb1⟩
  go_wp2
  go_ret2
  exact ⟨rfl, hb1⟩
set_option maxHeartbeats 1000000 in
theorem Parse_w (s : ByteArray) (q : Nat) (hs3 : s.size = 3) (w : World) (HA : Hid (Calls Tryz.prog 78 #[.string s] w fun e w' => e = .returned (.tuple #[.float .f64 q, .int .i64 3, .nilIface]) ∧ Below w.heap.size w w')) :
    Calls Tryz.prog 22 #[.string s, .int .i64 64] w fun e w' => e = .returned (.tuple #[.float .f64 q, .nilIface]) ∧ Below w.heap.size w w' := by
  go_enter Tryz.func22, Tryz.ntmps22
  go_wp2_with fail
  refine (parse_w s q hs3 w HA).mono ?_
  rintro e w1 ⟨rfl, hb1⟩
  go_wp2
  go_ret2
  exact ⟨rfl, hb1⟩
theorem atof_tenth (w : World) (hGl : Glob w) (hP : P10 w) : Calls Tryz.prog 78 #[.string ⟨#[48, 46, 49]⟩] w fun e w' => e = .returned (.tuple #[.float .f64 4591870180066957722, .int .i64 3, .nilIface]) ∧ Below w.heap.size w w' :=
  atof_w ⟨#[48, 46, 49]⟩ 1 4607182418800017408 4591870180066957722 (by decide) (by decide) (by decide) (by decide +kernel) (by decide +kernel) special_tenth read_tenth w hGl hP
theorem atof_one (w : World) (hGl : Glob w) (hP : P10 w) : Calls Tryz.prog 78 #[.string ⟨#[49, 46, 48]⟩] w fun e w' => e = .returned (.tuple #[.float .f64 4607182418800017408, .int .i64 3, .nilIface]) ∧ Below w.heap.size w w' :=
  atof_w ⟨#[49, 46, 48]⟩ 10 4621819117588971520 4607182418800017408 (by decide) (by decide) (by decide) (by decide +kernel) (by decide +kernel) special_one read_one w hGl hP
set_option maxHeartbeats 1000000 in
theorem parse_tenth (w : World) (hGl : Glob w) (hP : P10 w) : Calls Tryz.prog 11 #[.string ⟨#[48, 46, 49]⟩] w fun e w' => e = .returned (.tuple #[.float .f64 4591870180066957722, .int .i64 0]) ∧ Below w.heap.size w w' := by
  go_enter Tryz.func11, Tryz.ntmps11
  go_wp2_with fail
  refine (Parse_w _ _ (by decide) w (atof_tenth w hGl hP)).mono ?_
  rintro e w1 ⟨rfl, hb1⟩
  go_wp2_with fail
  refine (print_tenth w1 (hGl.below hb1)).mono ?_
  rintro e w2 ⟨rfl, hb2⟩
  go_wp2
  go_ret2
  exact ⟨rfl, hb1.trans (hb2.mono hb1.size)⟩
set_option maxHeartbeats 1000000 in
theorem parse_one (w : World) (hGl : Glob w) (hP : P10 w) : Calls Tryz.prog 11 #[.string ⟨#[49, 46, 48]⟩] w fun e w' => e = .returned (.tuple #[.float .f64 0, .int .i64 5]) ∧ Below w.heap.size w w' := by
  go_enter Tryz.func11, Tryz.ntmps11
  go_wp2_with fail
  refine (Parse_w _ _ (by decide) w (atof_one w hGl hP)).mono ?_
  rintro e w1 ⟨rfl, hb1⟩
  go_wp2_with fail
  refine (print_one w1 (hGl.below hb1)).mono ?_
  rintro e w2 ⟨rfl, hb2⟩
  go_wp2
  go_ret2
  exact ⟨rfl, hb1.trans (hb2.mono hb1.size)⟩
end Go.Proofs.YtmejmohambhaaaaGreatDoor
/- Compare, Same, May. Own work of the verifier. -/
namespace Go.Proofs.YtmejmohambhaaaaGreatDoor
open Go.RowKit Go.Sort

theorem sign_bit (x : Nat) (h : x < 18446744073709551616) : bits .and .u64 (x : Int) 9223372036854775808 = ((x / 9223372036854775808 * 9223372036854775808 : Nat) : Int) := by
  have := u64_and_nat x 9223372036854775808 h (by decide)
  rw [show ((9223372036854775808 : Nat) : Int) = 9223372036854775808 from rfl] at this
  rw [this]
  congr 1
  apply Nat.eq_of_testBit_eq
  intro i
  rw [Nat.testBit_and, show (9223372036854775808 : Nat) = 2 ^ 63 from by decide, Nat.testBit_mul_two_pow, Nat.testBit_two_pow, Nat.testBit_div_two_pow]
  by_cases hi : 63 = i
  · subst hi; simp
  · rcases Nat.lt_or_ge i 63 with k | k
    · simp [hi, show ¬ 63 ≤ i from by omega]
    · have : x.testBit (i - 63 + 63) = false := Nat.testBit_lt_two_pow (Nat.lt_of_lt_of_le h (by rw [show (18446744073709551616 : Nat) = 2 ^ 64 from by decide]; exact Nat.pow_le_pow_right (by decide) (by omega)))
      simp [hi, this]
/-- One, with a float's sign. -/
def oneS (x : Nat) : Nat := x / 9223372036854775808 * 9223372036854775808 + 4607182418800017408
theorem one_or (x : Nat) (h : x < 18446744073709551616) : bits .or .u64 4607182418800017408 ((x / 9223372036854775808 * 9223372036854775808 : Nat) : Int) = ((oneS x : Nat) : Int) := by
  have := u64_or_nat 4607182418800017408 (x / 9223372036854775808 * 9223372036854775808) (by decide) (by omega)
  rw [show ((4607182418800017408 : Nat) : Int) = 4607182418800017408 from rfl] at this
  rw [this]
  unfold oneS
  congr 1
  rw [Nat.or_comm, nat_join 63 _ _ (by rw [show (2 : Nat) ^ 63 = 9223372036854775808 from by decide]; omega) (by decide)]
theorem one_not : bits .andNot .u64 4607182418800017408 9223372036854775808 = 4607182418800017408 := by decide +kernel
set_option maxHeartbeats 400000 in
theorem copysign_any (x : Nat) (h : x < 18446744073709551616) (w : World) : Calls Tryz.prog 27 #[.float .f64 4607182418800017408, .float .f64 x] w fun e w' => e = .returned (.float .f64 (oneS x)) ∧ w' = w := by
  have h1 := sign_bit x h
  have h2 := one_or x h
  have h3 := one_not
  generalize x / 9223372036854775808 * 9223372036854775808 = y at *
  generalize oneS x = z at *
  go_enter Tryz.func27, Tryz.ntmps27
  go_wp2_with (first | simp only [mf64bits] | simp only [mf64from])
  go_ret
  exact ⟨rfl, rfl⟩
/-- Where a float stands, as the document has it. -/
def rk (x : Nat) : Nat := if isN x then 0 else if 9223372036854775808 ≤ x then 18446744073709551615 - x else x + 9223372036854775808
def sg (a b : Nat) : Int := if a < b then -1 else if b < a then 1 else 0
theorem rk_nan {x : Nat} (h : isN x = true) : rk x = 0 := by unfold rk; rw [if_pos h]
theorem rk_num {x : Nat} (hx : x < 18446744073709551616) (h : isN x = false) : (rk x : Int) = if 9223372036854775808 ≤ x then 18446744073709551615 - (x : Int) else (x : Int) + 9223372036854775808 := by
  unfold rk; rw [if_neg (by rw [h]; decide)]; split <;> omega
theorem isN_oneS (x : Nat) (_hx : x < 18446744073709551616) : isN (oneS x) = false := by
  unfold isN oneS; apply decide_eq_false; omega
theorem oneS_lt (x : Nat) (hx : x < 18446744073709551616) : oneS x < 18446744073709551616 := by unfold oneS; omega
theorem nan_size {x : Nat} (h : isN x = false) : x % 9223372036854775808 ≤ 9218868437227405312 := by
  have := of_decide_eq_false h; omega
theorem cmp_rk_ne (x y : Nat) (hx : x < 18446744073709551616) (hy : y < 18446744073709551616) (h : isN x = true ∨ isN y = true ∨ ov x ≠ ov y) : cmpF x y = sg (rk x) (rk y) := by
  unfold cmpF sg
  cases hn : isN x <;> cases hm : isN y
  · have n1 := rk_num hx hn
    have n2 := rk_num hy hm
    have z1 := nan_size hn
    have z2 := nan_size hm
    have ho : ov x ≠ ov y := by rcases h with h | h | h; · rw [hn] at h; cases h
                                · rw [hm] at h; cases h
                                · exact h
    unfold ov at ho ⊢
    simp only [Bool.false_eq_true, if_false]
    generalize rk x = A at *
    generalize rk y = B at *
    split at n1 <;> split at n2 <;> split at ho <;> split at ho <;> split <;> split <;> (try split) <;> (try split) <;> omega
  · rw [rk_nan hm]
    have n1 := rk_num hx hn
    have z1 := nan_size hn
    simp only [Bool.false_eq_true, if_false, if_true]
    rw [if_neg (by omega), if_pos (by split at n1 <;> omega)]
  · rw [rk_nan hn]
    have n2 := rk_num hy hm
    have z2 := nan_size hm
    simp only [Bool.false_eq_true, if_false, if_true]
    rw [if_pos (by split at n2 <;> omega)]
  · rw [rk_nan hn, rk_nan hm]
    simp
theorem cmp_rk_eq (x y : Nat) (hx : x < 18446744073709551616) (hy : y < 18446744073709551616) (hn : isN x = false) (hm : isN y = false) (h : ov x = ov y) : cmpF (oneS x) (oneS y) = sg (rk x) (rk y) := by
  unfold cmpF sg
  rw [isN_oneS x hx, isN_oneS y hy]
  have n1 := rk_num hx hn
  have n2 := rk_num hy hm
  have z1 := nan_size hn
  have z2 := nan_size hm
  unfold ov oneS at *
  simp only [Bool.false_eq_true, if_false]
  generalize rk x = A at *
  generalize rk y = B at *
  split at n1 <;> split at n2 <;> split at h <;> split at h <;> split <;> split <;> (try split) <;> (try split) <;> (try split) <;> (try split) <;> omega
set_option maxHeartbeats 1000000 in
theorem compare_any (x y : Nat) (hx : x < 18446744073709551616) (hy : y < 18446744073709551616) (w : World) :
    Calls Tryz.prog 14 #[.float .f64 x, .float .f64 y] w fun e w' => e = .returned (.int .i64 (sg (rk x) (rk y))) ∧ w' = w := by
  by_cases h : isN x = true ∨ isN y = true ∨ ov x ≠ ov y
  · rw [← cmp_rk_ne x y hx hy h]
    have o1 : (FloatKind.f64.format.order x y == some .eq) = false := by
      cases hn : isN x
      · cases hm : isN y
        · rw [ord_num hx hy hn hm]
          rcases h with h | h | h
          · rw [hn] at h; cases h
          · rw [hm] at h; cases h
          · rcases Int.lt_trichotomy (ov x) (ov y) with k | k | k
            · rw [Int.compare_eq_lt.2 k]; decide
            · exact absurd k h
            · rw [Int.compare_eq_gt.2 k]; decide
        · rw [(ord_nan hy hm x).2]; decide
      · rw [(ord_nan hx hn y).1]; decide
    clear h
    go_enter Tryz.func14, Tryz.ntmps14
    go_wp2_with fail
    refine (cmpf_any x y hx hy w).mono ?_
    rintro e w ⟨rfl, rfl⟩
    go_wp2
    go_ret
    exact ⟨rfl, rfl⟩
  · have hn : isN x = false := by cases hh : isN x <;> simp_all
    have hm : isN y = false := by cases hh : isN y <;> simp_all
    have ho : ov x = ov y := Classical.byContradiction fun k => h (Or.inr (Or.inr k))
    rw [← cmp_rk_eq x y hx hy hn hm ho]
    have o1 : (FloatKind.f64.format.order x y == some .eq) = true := by rw [ord_num hx hy hn hm, ho]; simp
    clear h ho hn hm
    have HX : Hid _ := copysign_any x hx
    have HY : Hid _ := copysign_any y hy
    have HC : Hid _ := cmpf_any (oneS x) (oneS y) (oneS_lt x hx) (oneS_lt y hy)
    go_enter Tryz.func14, Tryz.ntmps14
    go_wp2_with (first
      | (go_at_call 27; (first | (with_reducible refine (HX.out _).mono ?_) | (with_reducible refine (HY.out _).mono ?_)); rintro e w ⟨rfl, rfl⟩)
      | (go_at_call 26; with_reducible refine (HC.out _).mono ?_; rintro e w ⟨rfl, rfl⟩)
      | fail)
    go_ret
    exact ⟨rfl, rfl⟩
end Go.Proofs.YtmejmohambhaaaaGreatDoor
/- Same, May, and the answers that every statement of the layer asks first. Own work of the verifier. -/
namespace Go.Proofs.YtmejmohambhaaaaGreatDoor
open Go.RowKit Go.Sort

set_option maxHeartbeats 400000 in
theorem same_any (x y : Nat) (hx : x < 18446744073709551616) (hy : y < 18446744073709551616) (w : World) :
    Calls Tryz.prog 15 #[.float .f64 x, .float .f64 y] w fun e w' => e = .returned (.bool (sg (rk x) (rk y) == 0)) ∧ w' = w := by
  go_enter Tryz.func15, Tryz.ntmps15
  go_wp2_with fail
  refine (compare_any x y hx hy w).mono ?_
  rintro e w ⟨rfl, rfl⟩
  go_wp2
  go_ret
  exact ⟨rfl, rfl⟩
theorem may_ord (x : Nat) (h : x < 9223372036854775808) : (FloatKind.f64.format.order x 8930638061075693568 == some .lt || FloatKind.f64.format.order x 8930638061075693568 == some .eq) = decide (x ≤ 8930638061075693568) := by
  cases hn : isN x
  · have z := nan_size hn
    rw [ord_num (by omega) (by decide) hn (by decide +kernel)]
    have e1 : ov x = (x : Int) := by unfold ov; rw [if_pos h]
    have e2 : ov 8930638061075693568 = 8930638061075693568 := by decide +kernel
    rw [e1, e2]
    rcases Nat.lt_trichotomy x 8930638061075693568 with k | k | k
    · rw [Int.compare_eq_lt.2 (by omega), decide_eq_true (by omega)]; decide
    · subst k; decide +kernel
    · rw [Int.compare_eq_gt.2 (by omega), decide_eq_false (by omega)]; decide
  · rw [(ord_nan (by omega) hn _).1]
    have := of_decide_eq_true hn
    rw [decide_eq_false (by omega)]; decide
set_option maxHeartbeats 400000 in
theorem may_any (x : Nat) (hx : x < 18446744073709551616) (w : World) :
    Calls Tryz.prog 9 #[.float .f64 x] w fun e w' => e = .returned (.bool (decide (x % 9223372036854775808 ≤ 8930638061075693568))) ∧ w' = w := by
  have h1 := may_ord (x % 9223372036854775808) (by omega)
  have HA : Hid _ := abs_any x hx
  generalize decide (x % 9223372036854775808 ≤ 8930638061075693568) = b at *
  generalize x % 9223372036854775808 = y at *
  go_enter Tryz.func9, Tryz.ntmps9
  go_wp2_with (go_at_call 17; with_reducible refine (HA.out _).mono ?_; rintro e w ⟨rfl, rfl⟩)
  go_ret
  exact ⟨rfl, rfl⟩
theorem oeq : (FloatKind.f64.format.order 4591870180066957722 4591870180066957722 == some .eq) = true := by decide +kernel
set_option maxHeartbeats 2000000 in
set_option maxRecDepth 100000 in
theorem awake_any (w : World) (hGl : Glob w) (hP : P10 w) : Calls Tryz.prog 5 #[] w fun e w' => e = .returned (.bool true) ∧ Below w.heap.size w w' := by
  have ho := oeq
  go_enter Tryz.func5, Tryz.ntmps5
  go_wp2_with fail
  refine (parse_tenth w hGl hP).mono ?_
  rintro e w1 ⟨rfl, hb1⟩
  go_wp2_with fail
  refine (parse_one w1 (hGl.below hb1) (hP.below hb1)).mono ?_
  rintro e w2 ⟨rfl, hb2⟩
  have hb : Below w.heap.size w w2 := hb1.trans (hb2.mono hb1.size)
  have hG2 := hGl.below hb
  go_wp2_with fail
  refine (print_1e21 w2 hG2).mono ?_
  rintro e w3 ⟨rfl, hb3⟩
  have hb := hb.trans (hb3.mono hb.size)
  have hG3 := hGl.below hb
  go_wp2_with fail
  refine (print_tenth w3 hG3).mono ?_
  rintro e w4 ⟨rfl, hb4⟩
  have hb := hb.trans (hb4.mono hb.size)
  have HC := fun W => compare_any 4607182418800017408 4611686018427387904 (by decide) (by decide) W
  rw [show sg (rk 4607182418800017408) (rk 4611686018427387904) = -1 from by decide +kernel] at HC
  have HS := fun W => same_any 4611686018427387904 4611686018427387904 (by decide) (by decide) W
  rw [show (sg (rk 4611686018427387904) (rk 4611686018427387904) == 0) = true from by decide +kernel] at HS
  have HM := fun W => may_any 4607182418800017408 (by decide) W
  rw [show decide (4607182418800017408 % 9223372036854775808 ≤ 8930638061075693568) = true from by decide +kernel] at HM
  have HC : Hid _ := HC
  have HS : Hid _ := HS
  have HM : Hid _ := HM
  go_wp2_with (first
    | (go_at_call 14; refine (HC.out _).mono ?_; rintro e w4 ⟨rfl, rfl⟩)
    | (go_at_call 15; refine (HS.out _).mono ?_; rintro e w4 ⟨rfl, rfl⟩)
    | (go_at_call 9; refine (HM.out _).mono ?_; rintro e w4 ⟨rfl, rfl⟩)
    | fail)
  go_ret
  exact ⟨rfl, hb⟩
end Go.Proofs.YtmejmohambhaaaaGreatDoor
/- THE DOOR: what the listed variables give, and a start. Own work of the verifier. -/
namespace Go.Proofs.YtmejmohambhaaaaGreatDoor
open Go.ChangeShapes Go.WideShapes Go.ChangeAt Go.RowKit

theorem own : ownKnob Tryz.prog.godebug = none := by kernel_rfl
abbrev laids : List (String × DataW Unit) := [("math/bits.deBruijn32tab", Rows.laid_math_bits_deBruijn32tab), ("math/bits.deBruijn64tab", Rows.laid_math_bits_deBruijn64tab), ("internal/strconv.float32info", Rows.laid_internal_strconv_float32info), ("internal/strconv.float64info", Rows.laid_internal_strconv_float64info), ("internal/strconv.optimize", Rows.laid_internal_strconv_optimize), ("internal/strconv.powtab", Rows.laid_internal_strconv_powtab), ("internal/strconv.float64pow10", Rows.laid_internal_strconv_float64pow10), ("internal/strconv.float32pow10", Rows.laid_internal_strconv_float32pow10), ("internal/strconv.uint64pow10", Rows.laid_internal_strconv_uint64pow10), ("strconv.ErrRange", Rows.laid_strconv_ErrRange), ("strconv.ErrSyntax", Rows.laid_strconv_ErrSyntax), ("internal/strconv.leftcheats", Rows.laid_internal_strconv_leftcheats), ("internal/strconv.pow10Tab", Rows.laid_internal_strconv_pow10Tab)]
/-- One of the listed variables. -/
theorem laid_at {P : Program} {w : World} : ∀ (l : List (String × DataW Unit)) (ps : List MemPlace), DataW.LaidVars P w l ps → ∀ n d, (n, d) ∈ l →
    ∃ g t cs fuel p, P.globalNamed n = some g ∧ (P.globals[g]?).map (·.type) = some t ∧ w.var? P n = some cs ∧ DataW.trod (fun _ => ()) P w 0 (fun _ => true) false fuel t cs.toList = some (d, p)
  | [], _, _, _, _, h => by cases h
  | (m, e) :: r, ps, hl, n, d, h => by
    obtain ⟨g, t, cs, fuel, p, q, h1, h2, h3, h4, h5, _⟩ := hl
    rcases List.mem_cons.1 h with h | h
    · cases h; exact ⟨g, t, cs, fuel, p, h1, h2, h3, h4⟩
    · exact laid_at r q h5 n d h
theorem trod_float {H : Type} {enc : TypeId × Value → H} {P : Program} {w : World} {base : Nat} {spare : Nat → Bool} {held : Bool} {fuel : Nat} {t : TypeId} {cs : List Value} {x : DataW H × List MemPlace} {k : FloatKind} (ht : P.underlying t = some (.float k)) (h : DataW.trod enc P w base spare held fuel t cs = some x) : ∃ b, cs = [.float k b] ∧ x = (.lit (.float k b), []) := by
  cases fuel with
  | zero => simp [DataW.trod] at h
  | succ n =>
    unfold DataW.trod at h
    rw [ht] at h
    split at h <;> simp_all
theorem spot_none {w : World} {a : Addr} {v : Value} (h : w.cell? a = some v) : a.spot = none := by
  unfold World.cell? at h
  split at h
  · split at h
    · cases h
    · rename_i k
      cases hs : a.spot with
      | none => rfl
      | some x => rw [hs] at k; simp at k
  · cases h
theorem cs_cell {W : World} {n : String} {g : Nat} {cs : Array Value} (hg : Tryz.prog.globalNamed n = some g) (hv : W.var? Tryz.prog n = some cs) (i : Nat) (v : Value) (h : ((cs.toList.drop i).take 1) = [v]) : W.cell? ⟨g, i, none⟩ = some v := by
  rw [World.var?_cell hg hv i]
  have h0 : ((cs.toList.drop i).take 1)[0]? = some v := by rw [h]; rfl
  simpa using h0
set_option maxRecDepth 100000 in
theorem glob_of_laid {W : World} (h : laidMetH Tryz.prog laids W) : Glob W ∧ P10 W := by
  rw [MakeChecks.laidMetH_plain _ _ _ (by kernel_rfl)] at h
  obtain ⟨ps, hl, _, _⟩ := h
  refine ⟨⟨?_, ?_, ?_, ?_⟩, ?_⟩
  · obtain ⟨g, t, cs, fuel, p, hg, ht, hv, hd⟩ := laid_at _ _ hl "internal/strconv.pow10Tab" Rows.laid_internal_strconv_pow10Tab (by simp)
    obtain rfl := Option.some.inj ((show Tryz.prog.globalNamed "internal/strconv.pow10Tab" = some 8 by kernel_rfl).symm.trans hg)
    obtain rfl := Option.some.inj ((show (Tryz.prog.globals[8]?).map (·.type) = some 163 by kernel_rfl).symm.trans ht)
    obtain ⟨xs, m, _, ex, _, hlen, hel⟩ := DataW.trod_array Tryz.underlying163 hd
    have c2 : Tryz.prog.cellsOf 162 = 2 := by kernel_rfl
    have c1 : Tryz.prog.cellsOf 24 = 1 := by kernel_rfl
    intro i hi
    have hE := hel i hi
    rw [c2, List.getElem?_eq_getElem (by omega)] at hE
    obtain ⟨y0, y1, n, e0, _, h0, h1⟩ := trod_struct2 Tryz.underlying162 hE
    obtain ⟨z0, f0, g0, _⟩ := DataW.trod_int Tryz.underlying24 h0
    obtain ⟨z1, f1, g1, _⟩ := DataW.trod_int Tryz.underlying24 h1
    have e3 : (xs.map (·.1)) = Go.Pinned.pow10Rows.map fun x => (.agg [.lit (.int .u64 x.1), .lit (.int .u64 x.2)] : DataW Unit) := (DataW.agg.inj (Prod.mk.inj ex).1).symm
    have hl : Go.Pinned.pow10Rows.length = 696 := by kernel_rfl
    have e4 : (xs.map (·.1))[i]? = (Go.Pinned.pow10Rows.map fun x => (.agg [.lit (.int .u64 x.1), .lit (.int .u64 x.2)] : DataW Unit))[i]? := by rw [e3]
    rw [List.getElem?_map, List.getElem?_map, List.getElem?_eq_getElem (by omega : i < xs.length), List.getElem?_eq_getElem (by omega : i < Go.Pinned.pow10Rows.length), e0, g0, g1] at e4
    simp only [Option.map_some, Option.some.injEq, DataW.agg.injEq, List.cons.injEq, DataW.lit.injEq, Lit.int.injEq, true_and, and_true] at e4
    have hD : Go.Pinned.pow10Rows.getD i (0, 0) = Go.Pinned.pow10Rows[i]'(by omega) := by rw [List.getD, List.getElem?_eq_getElem (by omega : i < Go.Pinned.pow10Rows.length)]; rfl
    have q0 : z0 = (tabHi i : Int) := by unfold tabHi; rw [hD]; exact e4.1
    have q1 : z1 = (tabLo i : Int) := by unfold tabLo; rw [hD]; exact e4.2
    rw [← q0, ← q1]
    refine ⟨cs_cell hg hv _ _ ?_, cs_cell hg hv _ _ ?_⟩
    · rw [c1] at f0
      simpa [List.take_take, List.drop_take] using f0
    · rw [c1] at f1
      simpa [List.take_take, List.drop_take, List.drop_drop, Nat.add_comm] using f1
  · obtain ⟨g, t, cs, fuel, p, hg, ht, hv, hd⟩ := laid_at _ _ hl "internal/strconv.uint64pow10" Rows.laid_internal_strconv_uint64pow10 (by simp)
    obtain rfl := Option.some.inj ((show Tryz.prog.globalNamed "internal/strconv.uint64pow10" = some 5 by kernel_rfl).symm.trans hg)
    obtain rfl := Option.some.inj ((show (Tryz.prog.globals[5]?).map (·.type) = some 125 by kernel_rfl).symm.trans ht)
    rw [show (Rows.laid_internal_strconv_uint64pow10 : DataW Unit) = Lib.tabData .u64 Lib.pow10Tab from by kernel_rfl] at hd
    have hc := Lib.cells_of_tab Tryz.underlying125 Tryz.underlying24 (by kernel_rfl) (by kernel_rfl) hd
    show Lib.TabIs _ _ _ _ _
    unfold Lib.TabIs
    rw [hv, ← hc]
  · obtain ⟨g, t, cs, fuel, p, hg, ht, hv, hd⟩ := laid_at _ _ hl "internal/strconv.optimize" Rows.laid_internal_strconv_optimize (by simp)
    obtain rfl := Option.some.inj ((show Tryz.prog.globalNamed "internal/strconv.optimize" = some 1 by kernel_rfl).symm.trans hg)
    obtain rfl := Option.some.inj ((show (Tryz.prog.globals[1]?).map (·.type) = some 4 by kernel_rfl).symm.trans ht)
    obtain ⟨b, e1, e2⟩ := DataW.trod_bool Tryz.underlying4 hd
    have hb : b = true := by
      have := (Prod.mk.inj e2).1
      unfold Rows.laid_internal_strconv_optimize at this
      simpa using this.symm
    subst hb
    exact cs_cell hg hv 0 _ (by rw [e1]; rfl)
  · obtain ⟨g, t, cs, fuel, p, hg, ht, hv, hd⟩ := laid_at _ _ hl "internal/strconv.float64info" Rows.laid_internal_strconv_float64info (by simp)
    obtain rfl := Option.some.inj ((show Tryz.prog.globalNamed "internal/strconv.float64info" = some 7 by kernel_rfl).symm.trans hg)
    obtain rfl := Option.some.inj ((show (Tryz.prog.globals[7]?).map (·.type) = some 138 by kernel_rfl).symm.trans ht)
    obtain ⟨xs, m, _, ex, _, hlen, hel⟩ := DataW.trod_struct Tryz.underlying138 hd
    have c1 : Tryz.prog.cellsOf 70 = 1 := by kernel_rfl
    have hE := hel 0 _ rfl
    have hlen3 : xs.length = 3 := hlen
    rw [List.getElem?_eq_getElem (by omega)] at hE
    obtain ⟨z0, f0, g0, _⟩ := DataW.trod_int Tryz.underlying70 hE
    have e3 : (xs.map (·.1)) = [.lit (.int .u64 52), .lit (.int .u64 11), .lit (.int .i64 (-1023))] := (DataW.agg.inj (Prod.mk.inj ex).1).symm
    have e4 : (xs.map (·.1))[0]? = some (.lit (.int .u64 52)) := by rw [e3]; rfl
    rw [List.getElem?_map, List.getElem?_eq_getElem (by omega : 0 < xs.length), g0] at e4
    simp only [Option.map_some, Option.some.injEq, DataW.lit.injEq, Lit.int.injEq, true_and] at e4
    subst e4
    have f0' : (cs.toList.drop 0).take (Tryz.prog.cellsOf 70) = [.int .u64 52] := f0
    rw [c1] at f0'
    exact cs_cell hg hv 0 _ f0'
  · obtain ⟨g, t, cs, fuel, p, hg, ht, hv, hd⟩ := laid_at _ _ hl "internal/strconv.float64pow10" Rows.laid_internal_strconv_float64pow10 (by simp)
    obtain rfl := Option.some.inj ((show Tryz.prog.globalNamed "internal/strconv.float64pow10" = some 12 by kernel_rfl).symm.trans hg)
    obtain rfl := Option.some.inj ((show (Tryz.prog.globals[12]?).map (·.type) = some 176 by kernel_rfl).symm.trans ht)
    rcases DataW.trod_slice Tryz.underlying176 hd with ⟨_, e⟩ | ⟨a, len, cap, elems, rest, n, _, hcs, ex, _, _, _, hlen, hel, hsp, _⟩
    · cases (Prod.mk.inj e).1
    · have e3 := DataW.slice.inj (Prod.mk.inj ex).1
      have e5 : elems.length = 23 := by have := congrArg List.length e3.1; simpa using this.symm
      have e6 : rest = [] := by have := e3.2; simpa using this.symm
      have e7 := (hsp rfl).1
      rw [e6] at e7
      have hcap : cap = 23 := by have : (0 : Nat) = cap - len := e7; omega
      have hlen23 : len = 23 := by omega
      subst hcap hlen23
      have c1 : Tryz.prog.cellsOf 25 = 1 := by kernel_rfl
      have hE0 := hel 0 (by decide)
      have hE1 := hel 1 (by decide)
      have q0 : elems[0]? = some (elems[0]'(by omega)) := List.getElem?_eq_getElem (by omega)
      have q1 : elems[1]? = some (elems[1]'(by omega)) := List.getElem?_eq_getElem (by omega)
      rw [c1, q0] at hE0
      rw [c1, q1] at hE1
      obtain ⟨cs0, k0, k3⟩ := Option.bind_eq_some_iff.1 hE0
      obtain ⟨cs1, k1, k2⟩ := Option.bind_eq_some_iff.1 hE1
      obtain ⟨b0, r0, _⟩ := trod_float Tryz.underlying25 k3
      obtain ⟨b1, r1, r2⟩ := trod_float Tryz.underlying25 k2
      have n0 := (World.cells?_some k0).2.2 0 (by decide)
      have n1 := (World.cells?_some k1).2.2 0 (by decide)
      rw [r0] at n0
      rw [r1] at n1
      have m0 : W.cell? a = some (.float .f64 b0) := n0
      have hs := spot_none m0
      have m1 : W.cell? (a.add 1) = some (.float .f64 b1) := n1
      have e8 : (elems.map (·.1))[1]? = some (.lit (.float .f64 4621819117588971520)) := by rw [← e3.1]; rfl
      rw [List.getElem?_map, q1, r2] at e8
      simp only [Option.map_some, Option.some.injEq, DataW.lit.injEq, Lit.float.injEq, true_and] at e8
      subst e8
      obtain ⟨ab, ao, asp⟩ := a
      have hs : asp = none := hs
      subst hs
      refine ⟨ab, ao, cs_cell hg hv 0 _ (by rw [hcs]; rfl), ?_⟩
      rw [Addr.add_lit] at m1
      exact m1
end Go.Proofs.YtmejmohambhaaaaGreatDoor
/- A START: a world in which the listed variables lie. Own work of the verifier. -/
namespace Go.Proofs.YtmejmohambhaaaaGreatDoor
open Go.ChangeShapes Go.WideShapes Go.ChangeAt Go.RowKit

set_option maxRecDepth 100000 in
theorem start_met (os : Os) (args : Array Value) : laidMetH Tryz.prog laids ((World.laidAll Tryz.prog os laids).forCall (fun _ _ => 0) ⟨#[], args, []⟩).memory := by
  rw [MakeChecks.laidMetH_plain _ _ _ (by kernel_rfl)]; exact laidMet_laidAll _ (by kernel_rfl) (by kernel_rfl)
set_option maxRecDepth 100000 in
theorem start_shaped (os : Os) (args : Array Value) : ((World.laidAll Tryz.prog os laids).forCall (fun _ _ => 0) ⟨#[], args, []⟩).Shaped Tryz.prog := World.shaped_of_ZipB (by kernel_rfl) (by kernel_rfl)
end Go.Proofs.YtmejmohambhaaaaGreatDoor
/- RealOrders: the document's order, and the walk. Own work of the verifier. -/
namespace Go.Proofs.YtmejmohambhaaaaGreatDoor
open Go.RowKit Go.Sort

theorem not_word (x : Nat) (h : x < 18446744073709551616) : bits .xor .u64 IntKind.u64.max (x : Int) = ((18446744073709551615 - x : Nat) : Int) := by
  have := u64_xor_nat 18446744073709551615 x (by decide) h
  rw [show (IntKind.u64.max : Int) = ((18446744073709551615 : Nat) : Int) from by decide, this]
  congr 1
  have k : (BitVec.allOnes 64 ^^^ BitVec.ofNat 64 x).toNat = 2 ^ 64 - 1 - (BitVec.ofNat 64 x).toNat := by rw [BitVec.allOnes_xor, BitVec.toNat_not]
  rw [BitVec.toNat_xor, BitVec.toNat_allOnes, BitVec.toNat_ofNat, Nat.mod_eq_of_lt (by rw [show (2 : Nat) ^ 64 = 18446744073709551616 from by decide]; exact h)] at k
  exact k
theorem or_sign (x : Nat) (h : x < 9223372036854775808) : bits .or .u64 (x : Int) 9223372036854775808 = ((x + 9223372036854775808 : Nat) : Int) := by
  have := u64_or_nat x 9223372036854775808 (by omega) (by decide)
  rw [show ((9223372036854775808 : Nat) : Int) = 9223372036854775808 from rfl] at this
  rw [this, Nat.or_comm, nat_join 63 _ _ (by decide) (by rw [show (2 : Nat) ^ 63 = 9223372036854775808 from by decide]; exact h), Nat.add_comm]
theorem retI' {A B : Int} (h : A = B) : Ending.returned (Value.int .u64 A) = .returned (.int .u64 B) := by rw [h]
set_option maxHeartbeats 400000 in
theorem rank_any (x : Nat) (hx : x < 18446744073709551616) (w : World) : Calls Tryz.prog 25 #[.float .f64 x] w fun e w' => e = .returned (.int .u64 (rk x : Int)) ∧ w' = w := by
  have h1 := clear_sign x hx
  have h2 := sign_bit x hx
  cases hn : isN x
  · have z := nan_size hn
    by_cases hs : 9223372036854775808 ≤ x
    · have hk : rk x = 18446744073709551615 - x := by unfold rk; rw [if_neg (by rw [hn]; decide), if_pos hs]
      have h3 := not_word x hx
      rw [hk, ← h3]
      clear h3 hk
      go_enter Tryz.func25, Tryz.ntmps25
      go_wp2_with (first | simp only [mf64bits] | fail)
      go_ret
      exact ⟨rfl, rfl⟩
    · have hk : rk x = x + 9223372036854775808 := by unfold rk; rw [if_neg (by rw [hn]; decide), if_neg hs]
      have h3 := or_sign x (by omega)
      rw [hk, ← h3]
      clear h3 hk
      go_enter Tryz.func25, Tryz.ntmps25
      go_wp2_with (first | simp only [mf64bits] | fail)
      go_ret
      exact ⟨rfl, rfl⟩
  · have z := of_decide_eq_true hn
    rw [rk_nan hn]
    go_enter Tryz.func25, Tryz.ntmps25
    go_wp2_with (first | simp only [mf64bits] | fail)
    go_ret
    exact ⟨rfl, rfl⟩
theorem rk_lt (x : Nat) (hx : x < 18446744073709551616) : rk x < 18446744073709551616 := by
  unfold rk; split
  · decide
  · split <;> omega
theorem sg_neg (a b : Nat) : sg b a = -(sg a b) := by
  unfold sg
  rcases Nat.lt_trichotomy a b with k | k | k
  · rw [if_neg (by omega), if_pos k, if_pos k]; rfl
  · subst k; simp
  · rw [if_pos k, if_neg (by omega), if_pos k]
theorem sg_range (a b : Nat) : sg a b = -1 ∨ sg a b = 0 ∨ sg a b = 1 := by unfold sg; split <;> (try split) <;> simp
theorem sg_trans (a b c : Nat) (h1 : sg a b ≤ 0) (h2 : sg b c ≤ 0) : sg a c ≤ 0 := by
  unfold sg at *
  split at h1 <;> split at h2 <;> (try split at h1) <;> (try split at h2) <;> split <;> (try split) <;> omega
theorem ord_sg (x y : Nat) (hx : x < 18446744073709551616) (hy : y < 18446744073709551616) :
    (sg (rk x) (rk y) = -1 ∧ ((FloatKind.f64.format.order x y == some .lt) = true ∨ (FloatKind.f64.format.order x y == some .lt) = false) ∧ (FloatKind.f64.format.order x y == some .gt) = false) ∨
    (sg (rk x) (rk y) = 0 ∧ (FloatKind.f64.format.order x y == some .lt) = false ∧ (FloatKind.f64.format.order x y == some .gt) = false) ∨
    (sg (rk x) (rk y) = 1 ∧ (FloatKind.f64.format.order x y == some .lt) = false ∧ ((FloatKind.f64.format.order x y == some .gt) = true ∨ (FloatKind.f64.format.order x y == some .gt) = false)) := by
  have tf : ∀ b : Bool, b = true ∨ b = false := by decide
  cases hn : isN x <;> cases hm : isN y
  · rw [ord_num hx hy hn hm]
    have n1 := rk_num hx hn
    have n2 := rk_num hy hm
    have z1 := nan_size hn
    have z2 := nan_size hm
    have h : (ov x < ov y → sg (rk x) (rk y) = -1) ∧ (ov y < ov x → sg (rk x) (rk y) = 1) := by
      unfold ov sg
      generalize rk x = A at *
      generalize rk y = B at *
      constructor
      · intro h; split at n1 <;> split at n2 <;> split at h <;> split at h <;> (try omega) <;> rw [if_pos (by omega)]
      · intro h; split at n1 <;> split at n2 <;> split at h <;> split at h <;> (try omega) <;> rw [if_neg (by omega), if_pos (by omega)]
    rcases Int.lt_trichotomy (ov x) (ov y) with k | k | k
    · rw [Int.compare_eq_lt.2 k]; exact Or.inl ⟨h.1 k, tf _, by decide⟩
    · rw [k, show compare (ov y) (ov y) = .eq from by simp]
      rcases sg_range (rk x) (rk y) with r | r | r
      · exact Or.inl ⟨r, tf _, by decide⟩
      · exact Or.inr (Or.inl ⟨r, by decide, by decide⟩)
      · exact Or.inr (Or.inr ⟨r, by decide, tf _⟩)
    · rw [Int.compare_eq_gt.2 k]; exact Or.inr (Or.inr ⟨h.2 k, by decide, tf _⟩)
  all_goals
    have e : FloatKind.f64.format.order x y = none := by
      first
        | exact (ord_nan hx hn y).1
        | exact (ord_nan hy hm x).2
    rw [e]
    rcases sg_range (rk x) (rk y) with r | r | r
    · exact Or.inl ⟨r, tf _, by decide⟩
    · exact Or.inr (Or.inl ⟨r, by decide, by decide⟩)
    · exact Or.inr (Or.inr ⟨r, by decide, tf _⟩)
end Go.Proofs.YtmejmohambhaaaaGreatDoor
