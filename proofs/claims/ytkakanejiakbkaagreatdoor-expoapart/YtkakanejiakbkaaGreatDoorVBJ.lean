/- FormatFloat AT EVERY FLOAT. Own work of the verifier. -/
import Derived.Test.YtkakanejiakbkaaGreatDoorVBI
import Derived.Test.YtkakanejiakbkaaGreatDoorVBF
import Derived.Test.YtkakanejiakbkaaGreatDoorVAT
import Derived.Lib.SmallJoins
namespace Go.Proofs.YtkakanejiakbkaaGreatDoor.Rl
open Go.RowKit Go.Sort

def sgn (neg : Bool) : List UInt8 := if neg then [45] else []
/-- The bytes of digits without an exponent. -/
def fB (neg : Bool) (u k : Nat) (dp : Int) : List UInt8 :=
  if dp ≤ 0 then sgn neg ++ [48, 46] ++ List.replicate (-dp).toNat 48 ++ (Lib.decDigits u).take k
  else if (k : Int) ≤ dp then sgn neg ++ (Lib.decDigits u).take k ++ List.replicate (dp.toNat - k) 48
  else sgn neg ++ (Lib.decDigits u).take dp.toNat ++ [46] ++ ((Lib.decDigits u).take k).drop dp.toNat
theorem fB_txt (neg : Bool) (u k : Nat) (dp : Int) : asI (fB neg u k dp) = fTxt neg u k dp := by
  unfold fB fTxt sgn asI dI behind
  by_cases h : dp ≤ 0
  · rw [if_pos h, if_pos h]; cases neg <;> simp [List.map_take]
  · rw [if_neg h, if_neg h]
    by_cases h' : (k : Int) ≤ dp
    · rw [if_pos h', if_pos h']; cases neg <;> simp [List.map_take]
    · rw [if_neg h', if_neg h']; cases neg <;> simp [List.map_take, List.map_drop, dI]
/-- The bytes of an exponent as the library tells it. -/
def xDig (E : Nat) : List UInt8 := if E < 10 then [48, UInt8.ofNat (E + 48)] else if E < 100 then [UInt8.ofNat (E / 10 + 48), UInt8.ofNat (E % 10 + 48)] else [UInt8.ofNat (E / 100 + 48), UInt8.ofNat (E / 10 % 10 + 48), UInt8.ofNat (E % 10 + 48)]
def xTail (dp : Int) : List UInt8 := if dp - 1 < 0 then 45 :: xDig (1 - dp).toNat else 43 :: xDig (dp - 1).toNat
def eHead (neg : Bool) (u k : Nat) : List UInt8 := if k = 1 then sgn neg ++ [(Lib.decDigits u).getD 0 0] else sgn neg ++ [(Lib.decDigits u).getD 0 0, 46] ++ ((Lib.decDigits u).take k).drop 1
def eB (neg : Bool) (u k : Nat) (dp : Int) : List UInt8 := eHead neg u k ++ 101 :: xTail dp
theorem xDig_I : ∀ E < 400, asI (xDig E) = eDig E := by decide +kernel
theorem xTail_I (dp : Int) (h0 : -390 ≤ dp) (h1 : dp ≤ 390) : asI (101 :: xTail dp) = eTail dp := by
  unfold xTail eTail
  by_cases h : dp - 1 < 0
  · rw [if_pos h, if_pos h, ← xDig_I _ (by omega)]; rfl
  · rw [if_neg h, if_neg h, ← xDig_I _ (by omega)]; rfl
theorem first_I (u : Nat) : (dI u).getD 0 0 = (((Lib.decDigits u).getD 0 0).toNat : Int) := by
  unfold dI
  cases Lib.decDigits u <;> rfl
theorem eB_txt (neg : Bool) (u k : Nat) (dp : Int) (h0 : -390 ≤ dp) (h1 : dp ≤ 390) : asI (eB neg u k dp) = eTxt neg u k dp := by
  unfold eB eTxt
  rw [← xTail_I dp h0 h1, first_I]
  unfold eHead asI sgn mid dI
  by_cases h : k = 1
  · rw [if_pos h, if_pos h]; cases neg <;> simp
  · rw [if_neg h, if_neg h]; cases neg <;> simp [List.map_take]
/-- Where a float's point stands. -/
def pt (x : Nat) : Int := (Lib.nDigits (sd x).1 : Int) + (sd x).2
theorem sd_bounds (x : Nat) (h0 : x % 9223372036854775808 ≠ 0) (h1 : x % 9223372036854775808 < 9218868437227405312) : 1 ≤ (sd x).1 ∧ (sd x).1 < 288230376151711744 ∧ -350 ≤ (sd x).2 ∧ (sd x).2 ≤ 350 := by
  by_cases hs : x % 9223372036854775808 < 4503599627370496
  · obtain ⟨z, z1, z2, z3, z4, z5, z6, z7, z8⟩ := sub_bits (x % 4503599627370496) (by omega) (by omega)
    have hsd : sd x = shortF (x % 4503599627370496 * 2 ^ z) (-1074 - (z : Int)) := by unfold sd; rw [if_pos hs, z1]
    rw [hsd]
    exact short_between (x % 4503599627370496 * 2 ^ z) (-1074 - (z : Int)) z5 z6 (by omega) (fun _ => by rw [show (-1075 - (-1074 - (z : Int))).toNat = z - 1 from by omega]; exact z8) (by omega) (by omega)
  · have hsd : sd x = shortF ((4503599627370496 + x % 4503599627370496) * 2048) ((x / 4503599627370496 % 2048 : Nat) - 1086) := by unfold sd; rw [if_neg hs]
    rw [hsd]
    exact short_between ((4503599627370496 + x % 4503599627370496) * 2048) ((x / 4503599627370496 % 2048 : Nat) - 1086) (by omega) (by omega) (by omega) (by omega) (by omega) (by omega)
theorem pt_bounds (x : Nat) (h0 : x % 9223372036854775808 ≠ 0) (h1 : x % 9223372036854775808 < 9218868437227405312) : -390 ≤ pt x ∧ pt x ≤ 390 := by
  obtain ⟨a, b, c, d⟩ := sd_bounds x h0 h1
  have := Lib.nDigits_le20 (sd x).1 (by omega)
  unfold pt
  omega
/-- The text with an exponent, as the library tells it, of a finite float but 0. -/
noncomputable def eText (x : Nat) : List UInt8 := eB (decide (9223372036854775808 ≤ x)) (sd x).1 (trimLen (sd x).1) (pt x)
/-- The text without an exponent. -/
noncomputable def fText (x : Nat) : List UInt8 :=
  if x % 9223372036854775808 = 0 then (if 9223372036854775808 ≤ x then [45, 48] else [48])
  else if 9218868437227405312 < x % 9223372036854775808 then [78, 97, 78]
  else if x % 9223372036854775808 = 9218868437227405312 then (if 9223372036854775808 ≤ x then [45, 73, 110, 102] else [43, 73, 110, 102])
  else fB (decide (9223372036854775808 ≤ x)) (sd x).1 (trimLen (sd x).1) (pt x)
theorem Format_e (x : Nat) (hx : x < 18446744073709551616) (h0 : x % 9223372036854775808 ≠ 0) (h1 : x % 9223372036854775808 < 9218868437227405312) (w : World) (hGl : Glob w) :
    Calls Tryz.prog 82 #[.float .f64 x, .int .u8 101, .int .i64 (-1), .int .i64 64] w fun r w' => r = .returned (.string ⟨(eText x).toArray⟩) ∧ Below w.heap.size w w' := by
  refine Format_of x 101 (eText x) w hGl (fun v W hbuf hG => ?_)
  obtain ⟨p0, p1⟩ := pt_bounds x h0 h1
  unfold eText
  rw [eB_txt _ _ _ _ p0 p1]
  exact ftoaE_all x hx h0 h1 _ _ _ v hbuf hG
theorem Format_f (x : Nat) (hx : x < 18446744073709551616) (h0 : x % 9223372036854775808 = 0 ∨ 4503599627370496 ≤ x % 9223372036854775808) (w : World) (hGl : Glob w) :
    Calls Tryz.prog 82 #[.float .f64 x, .int .u8 102, .int .i64 (-1), .int .i64 64] w fun r w' => r = .returned (.string ⟨(fText x).toArray⟩) ∧ Below w.heap.size w w' := by
  refine Format_of x 102 (fText x) w hGl (fun v W hbuf hG => ?_)
  have n1 := neg_bit x hx
  have n2 := ex_field x hx
  have n3 := fr_field x hx
  by_cases c0 : x % 9223372036854775808 = 0
  · have := ftoaF_zero _ x _ _ _ v hbuf n1 (by rw [n2]; omega) (by rw [n3]; omega) hx
    rw [show asI (fText x) = (if decide (9223372036854775808 ≤ x) then [45, 48] else [48]) from by unfold fText; rw [if_pos c0]; by_cases hn : 9223372036854775808 ≤ x <;> simp [hn, asI]]
    exact this
  · by_cases c1 : x % 9223372036854775808 < 9218868437227405312
    · rw [show fText x = fB (decide (9223372036854775808 ≤ x)) (sd x).1 (trimLen (sd x).1) (pt x) from by unfold fText; rw [if_neg c0, if_neg (by omega), if_neg (by omega)], fB_txt]
      exact ftoaF_all x hx (by omega) c1 _ _ _ v hbuf hG
    · have := ftoaF_special _ (decide (9218868437227405312 < x % 9223372036854775808)) x (x % 4503599627370496) _ _ _ v hbuf n1 (by rw [n2]; omega) n3 (by
        by_cases hn : 9218868437227405312 < x % 9223372036854775808
        · rw [decide_eq_true hn, bne_iff_ne]; omega
        · rw [decide_eq_false hn, bne_eq_false_iff_eq]; omega) hx
      refine this.mono ?_
      rintro r w' ⟨v', o, e, hb⟩
      refine ⟨v', o, e, ?_⟩
      have he : asI (fText x) = (if decide (9218868437227405312 < x % 9223372036854775808) then [78, 97, 78] else if decide (9223372036854775808 ≤ x) then [45, 73, 110, 102] else [43, 73, 110, 102]) := by
        unfold fText
        rw [if_neg c0]
        by_cases hn : 9218868437227405312 < x % 9223372036854775808
        · simp [hn, asI]
        · rw [if_neg hn, if_pos (by omega)]
          by_cases hm : 9223372036854775808 ≤ x <;> simp [hn, hm, asI]
      rw [he]
      exact hb
end Go.Proofs.YtkakanejiakbkaaGreatDoor.Rl
/- FormatFloat AT THREE FLOATS: 1e21, 0.1 and 1. Own work of the verifier. -/
namespace Go.Proofs.YtkakanejiakbkaaGreatDoor.Rl
open Go.RowKit Go.Sort

end Go.Proofs.YtkakanejiakbkaaGreatDoor.Rl
/- THE ORDER OF FLOATS, the code's: comparisons, signs. Own work of the verifier. -/
namespace Go.Proofs.YtkakanejiakbkaaGreatDoor.Rl
open Go.RowKit

/-- Is a word a NaN's? -/
def isN (x : Nat) : Bool := decide (9218868437227405312 < x % 9223372036854775808)
/-- Where a word that is no NaN's stands. -/
def ov (x : Nat) : Int := if x < 9223372036854775808 then (x : Int) else 9223372036854775808 - (x : Int)
theorem ov_sw (s : Bool) (a : Nat) (h : a < 9223372036854775808) : ov (sw s a) = sr s a := by
  unfold ov sw sr; cases s <;> simp <;> omega
theorem isN_sw (s : Bool) (a : Nat) (h : a < 9223372036854775808) : isN (sw s a) = decide (9218868437227405312 < a) := by
  unfold isN sw; congr 2; cases s <;> simp <;> omega
theorem ord_nan {x : Nat} (hx : x < 18446744073709551616) (h : isN x = true) (y : Nat) : FloatKind.f64.format.order x y = none ∧ FloatKind.f64.format.order y x = none := by
  obtain ⟨s, a, rfl, ha⟩ := sw_of x hx
  rw [isN_sw s a ha] at h
  have h := of_decide_eq_true h
  exact ⟨order_nan1 s a y h ha, order_nan2 s a y h ha⟩
theorem ord_num {x y : Nat} (hx : x < 18446744073709551616) (hy : y < 18446744073709551616) (h : isN x = false) (k : isN y = false) : FloatKind.f64.format.order x y = some (compare (ov x) (ov y)) := by
  obtain ⟨s, a, rfl, ha⟩ := sw_of x hx
  obtain ⟨t, b, rfl, hb⟩ := sw_of y hy
  rw [isN_sw s a ha] at h
  rw [isN_sw t b hb] at k
  have h := of_decide_eq_false h
  have k := of_decide_eq_false k
  rw [ov_sw s a ha, ov_sw t b hb]
  exact order_all s t a b (by omega) (by omega)
theorem ord_self {x : Nat} (hx : x < 18446744073709551616) : (FloatKind.f64.format.order x x != some .eq) = isN x := by
  cases h : isN x
  · rw [ord_num hx hx h h]; simp
  · rw [(ord_nan hx h x).1]; decide
theorem isnan_f (x : Nat) (hx : x < 18446744073709551616) (w : World) :
    Calls Tryz.prog 124 #[.float .f64 x] w fun e w' => e = .returned (.bool (isN x)) ∧ w' = w := by
  have o1 := ord_self hx
  go_enter Tryz.func124, Tryz.ntmps124
  go_wp2
  go_ret
  exact ⟨rfl, rfl⟩
/-- How two stand, NaNs ahead, the two zeros alike. -/
def cmpF (x y : Nat) : Int := if isN x then (if isN y then 0 else -1) else if isN y then 1 else if ov x < ov y then -1 else if ov y < ov x then 1 else 0
set_option maxHeartbeats 400000 in
theorem cmpf_any (x y : Nat) (hx : x < 18446744073709551616) (hy : y < 18446744073709551616) (w : World) :
    Calls Tryz.prog 98 #[.float .f64 x, .float .f64 y] w fun e w' => e = .returned (.int .i64 (cmpF x y)) ∧ w' = w := by
  have HX : Hid _ := isnan_f x hx
  have HY : Hid _ := isnan_f y hy
  unfold cmpF
  cases hn : isN x
  · cases hm : isN y
    · have o := ord_num hx hy hn hm
      rw [hn] at HX; rw [hm] at HY
      rcases Int.lt_trichotomy (ov x) (ov y) with k | k | k
      · rw [Int.compare_eq_lt.2 k] at o
        have o1 : (FloatKind.f64.format.order x y == some .lt) = true := by rw [o]; decide
        rw [if_neg (by decide), if_neg (by decide), if_pos k]
        clear o
        go_enter Tryz.func98, Tryz.ntmps98
        go_wp2_with (go_at_call 124; (first | (with_reducible refine (HX.out _).mono ?_) | (with_reducible refine (HY.out _).mono ?_)); rintro e w' ⟨rfl, rfl⟩)
        go_ret
        exact ⟨rfl, rfl⟩
      · have o0 : compare (ov x) (ov y) = .eq := by rw [k]; simp
        rw [o0] at o
        have o1 : (FloatKind.f64.format.order x y == some .lt) = false := by rw [o]; decide
        have o2 : (FloatKind.f64.format.order x y == some .gt) = false := by rw [o]; decide
        rw [if_neg (by decide), if_neg (by decide), if_neg (by omega), if_neg (by omega)]
        clear o o0
        go_enter Tryz.func98, Tryz.ntmps98
        go_wp2_with (go_at_call 124; (first | (with_reducible refine (HX.out _).mono ?_) | (with_reducible refine (HY.out _).mono ?_)); rintro e w' ⟨rfl, rfl⟩)
        go_ret
        exact ⟨rfl, rfl⟩
      · rw [Int.compare_eq_gt.2 k] at o
        have o1 : (FloatKind.f64.format.order x y == some .lt) = false := by rw [o]; decide
        have o2 : (FloatKind.f64.format.order x y == some .gt) = true := by rw [o]; decide
        rw [if_neg (by decide), if_neg (by decide), if_neg (by omega), if_pos k]
        clear o
        go_enter Tryz.func98, Tryz.ntmps98
        go_wp2_with (go_at_call 124; (first | (with_reducible refine (HX.out _).mono ?_) | (with_reducible refine (HY.out _).mono ?_)); rintro e w' ⟨rfl, rfl⟩)
        go_ret
        exact ⟨rfl, rfl⟩
    · rw [hn] at HX; rw [hm] at HY
      go_enter Tryz.func98, Tryz.ntmps98
      go_wp2_with (go_at_call 124; (first | (with_reducible refine (HX.out _).mono ?_) | (with_reducible refine (HY.out _).mono ?_)); rintro e w' ⟨rfl, rfl⟩)
      go_ret
      exact ⟨rfl, rfl⟩
  · rw [hn] at HX
    cases hm : isN y <;> rw [hm] at HY
    all_goals
      go_enter Tryz.func98, Tryz.ntmps98
      go_wp2_with (go_at_call 124; (first | (with_reducible refine (HX.out _).mono ?_) | (with_reducible refine (HY.out _).mono ?_)); rintro e w' ⟨rfl, rfl⟩)
      go_ret
      exact ⟨rfl, rfl⟩
end Go.Proofs.YtkakanejiakbkaaGreatDoor.Rl
/- Print AT THREE FLOATS. Own work of the verifier. -/
namespace Go.Proofs.YtkakanejiakbkaaGreatDoor.Rl
open Go.RowKit Go.Sort

theorem mf64bits (x : Nat) (w : World) : (callFunc 52 #[.float .f64 x]).run Tryz.prog w = .ok (.value (.int .u64 (x : Int))) w := by
  rw [run_callFunc_extern Tryz.func52 (by kernel_rfl) (by kernel_rfl) (by kernel_rfl) (e := Extern.MathFloatBits.float64bits) (by kernel_rfl)]
  rfl
theorem mf64from (x : Int) (w : World) : (callFunc 112 #[.int .u64 x]).run Tryz.prog w = .ok (.value (.float .f64 x.toNat)) w := by
  rw [run_callFunc_extern Tryz.func112 (by kernel_rfl) (by kernel_rfl) (by kernel_rfl) (e := Extern.MathFloatBits.float64frombits) (by kernel_rfl)]
  rfl
theorem clear_sign (x : Nat) (h : x < 18446744073709551616) : bits .andNot .u64 (x : Int) 9223372036854775808 = ((x % 9223372036854775808 : Nat) : Int) := by
  have := u64_andNot_nat x 9223372036854775808 (by omega) (by decide)
  rw [show ((9223372036854775808 : Nat) : Int) = 9223372036854775808 from rfl] at this
  rw [this, show 18446744073709551615 - 9223372036854775808 = 2 ^ 63 - 1 from by decide, Nat.and_two_pow_sub_one_eq_mod]
theorem abs_any (x : Nat) (h : x < 18446744073709551616) (w : World) : Calls Tryz.prog 80 #[.float .f64 x] w fun e w' => e = .returned (.float .f64 (x % 9223372036854775808)) ∧ w' = w := by
  have hc := clear_sign x h
  generalize x % 9223372036854775808 = y at *
  go_enter Tryz.func80, Tryz.ntmps80
  go_wp2_with (first | simp only [mf64bits] | simp only [mf64from])
  go_ret
  exact ⟨rfl, rfl⟩
set_option maxHeartbeats 1000000 in
theorem hasExp_w (x : Nat) (b1 b2 b3 b4 : Bool) (o1 : (FloatKind.f64.format.order 0 x == some .lt) = b1) (o2 : (FloatKind.f64.format.order x 4517329193108106637 == some .lt) = b2)
    (o3 : (FloatKind.f64.format.order 4921056587992461136 x == some .lt || FloatKind.f64.format.order 4921056587992461136 x == some .eq) = b3) (o4 : (FloatKind.f64.format.order x 9218868437227405311 == some .lt || FloatKind.f64.format.order x 9218868437227405311 == some .eq) = b4) (w : World) :
    Calls Tryz.prog 79 #[.float .f64 x] w fun e w' => e = .returned (.bool (b1 && b2 || b3 && b4)) ∧ w' = w := by
  cases b1 <;> cases b2 <;> cases b3 <;> cases b4
  all_goals
    go_enter Tryz.func79, Tryz.ntmps79
    go_wp2
    go_ret
    exact ⟨rfl, rfl⟩
end Go.Proofs.YtkakanejiakbkaaGreatDoor.Rl
/- Print AT THREE FLOATS. Own work of the verifier. -/
namespace Go.Proofs.YtkakanejiakbkaaGreatDoor.Rl
open Go.RowKit Go.Sort

end Go.Proofs.YtkakanejiakbkaaGreatDoor.Rl
