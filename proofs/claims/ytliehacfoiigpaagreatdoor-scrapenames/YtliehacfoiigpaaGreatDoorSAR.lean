/- WHAT A VALUE HOLDS: floats, products, signs. Own work of the verifier. -/
import Derived.Test.YtliehacfoiigpaaGreatDoorSQB
import Derived.Test.YtliehacfoiigpaaGreatDoorSAP
namespace Go.Proofs.YtliehacfoiigpaaGreatDoor
open Go.RowKit Me

abbrev sf (x y : Vl) : Bool := Re.sF x.sum y.sum && Re.sF x.mn y.mn && Re.sF x.mx y.mx
/-- Are the floats 0, without a sign? -/
def fz (x : Vl) : Bool := decide (x.sum = 0) && decide (x.mn = 0) && decide (x.mx = 0)
set_option maxRecDepth 100000 in
set_option maxHeartbeats 2000000 in
theorem sfl_any (s1 m1 x1 s2 m2 x2 : Nat) (h1 : s1 < 18446744073709551616) (h2 : m1 < 18446744073709551616) (h3 : x1 < 18446744073709551616) (h4 : s2 < 18446744073709551616) (h5 : m2 < 18446744073709551616) (h6 : x2 < 18446744073709551616)
    (a0 a1 a2 a3 a4 a5 a6 a7 b0 b1 b2 b3 b4 b5 b6 b7 : Value) (w : World) :
    Calls Tryz.prog 137 #[.agg #[a0, a1, a2, a3, a4, a5, a6, a7, .float .f64 s1, .float .f64 m1, .float .f64 x1], .agg #[b0, b1, b2, b3, b4, b5, b6, b7, .float .f64 s2, .float .f64 m2, .float .f64 x2]] w fun e w' => e = .returned (.bool (Re.sF s1 s2 && Re.sF m1 m2 && Re.sF x1 x2)) ∧ Below w.heap.size w w' := by
  have H1 : Hid (∀ W, Calls Tryz.prog 161 #[.float .f64 s1, .float .f64 s2] W fun e w' => e = .returned (.bool (Re.sF s1 s2)) ∧ w' = W) := fun W => Re.same_any s1 s2 h1 h4 W
  have H2 : Hid (∀ W, Calls Tryz.prog 161 #[.float .f64 m1, .float .f64 m2] W fun e w' => e = .returned (.bool (Re.sF m1 m2)) ∧ w' = W) := fun W => Re.same_any m1 m2 h2 h5 W
  have H3 : Hid (∀ W, Calls Tryz.prog 161 #[.float .f64 x1, .float .f64 x2] W fun e w' => e = .returned (.bool (Re.sF x1 x2)) ∧ w' = W) := fun W => Re.same_any x1 x2 h3 h6 W
  generalize Re.sF s1 s2 = p at *
  generalize Re.sF m1 m2 = q at *
  generalize Re.sF x1 x2 = r at *
  clear h1 h2 h3 h4 h5 h6
  cases p <;> cases q <;> cases r
  all_goals as_aux_lemma =>
    go_enter Tryz.func137, Tryz.ntmps137
    go_wp2_with (go_at_call 161; (first | (with_reducible refine (H1.out _).mono ?_) | (with_reducible refine (H2.out _).mono ?_) | (with_reducible refine (H3.out _).mono ?_)); rintro e w1 ⟨rfl, rfl⟩)
    go_ret
    exact ⟨rfl, bel2 w _ _⟩
theorem fz_sf (x : Vl) (h : VW x) : (Re.sF x.sum 0 && Re.sF x.mn 0 && Re.sF x.mx 0) = fz x := by
  unfold fz
  rw [Re.zero_rk _ h.sum, Re.zero_rk _ h.mn, Re.zero_rk _ h.mx]
set_option maxRecDepth 100000 in
set_option maxHeartbeats 2000000 in
theorem nofl_any (x : Vl) (lv cv : Value) (h : VW x) (w : World) :
    Calls Tryz.prog 110 #[vx x lv cv] w fun e w' => e = .returned (.bool (fz x)) ∧ Below w.heap.size w w' := by
  have H1 : Hid (∀ a0 a1 a2 a3 a4 a5 a6 a7 b0 b1 b2 b3 b4 b5 b6 b7 W, Calls Tryz.prog 137 #[.agg #[a0, a1, a2, a3, a4, a5, a6, a7, .float .f64 x.sum, .float .f64 x.mn, .float .f64 x.mx], .agg #[b0, b1, b2, b3, b4, b5, b6, b7, .float .f64 0, .float .f64 0, .float .f64 0]] W fun e w' => e = .returned (.bool (fz x)) ∧ Below W.heap.size W w') := fun a0 a1 a2 a3 a4 a5 a6 a7 b0 b1 b2 b3 b4 b5 b6 b7 W => by
    have := sfl_any x.sum x.mn x.mx 0 0 0 h.sum h.mn h.mx (by decide) (by decide) (by decide) a0 a1 a2 a3 a4 a5 a6 a7 b0 b1 b2 b3 b4 b5 b6 b7 W
    rw [fz_sf x h] at this
    exact this
  generalize fz x = z at *
  obtain ⟨⟨kd, nm, hp, D⟩, t, C, n, s, m, M⟩ := x
  clear h
  go_enter Tryz.func110, Tryz.ntmps110
  go_wp2_with (go_at_call 137; with_reducible refine (H1.out _ _ _ _ _ _ _ _ _ _ _ _ _ _ _ _ _).mono ?_; rintro e w1 ⟨rfl, hb⟩)
  go_ret
  exact ⟨rfl, bt (bel1 w _) hb⟩
theorem wf0 : Wf 0 0 := ⟨by decide, by decide, by decide, by decide⟩
set_option maxHeartbeats 1000000 in
theorem sign_any (t : Int) (h : InR t) (w : World) :
    Calls Tryz.prog 109 #[.agg #[.int .i64 (hiOf t), .int .u64 (loOf t)]] w fun e w' => e = .returned (.int .i64 (cmp t 0)) ∧ Below w.heap.size w w' := by
  have H1 : Hid (∀ W, Calls Tryz.prog 136 #[.agg #[.int .i64 (hiOf t), .int .u64 (loOf t)], .agg #[.int .i64 0, .int .u64 0]] W fun e w' => e = .returned (.int .i64 (cmp t 0)) ∧ Below W.heap.size W w') := fun W => by
    have := cmp_any (hiOf t) (loOf t) 0 0 (wf_of h) wf0 W
    rw [val_hl] at this
    exact this
  generalize cmp t 0 = z at *
  generalize hiOf t = a at *
  generalize loOf t = b at *
  go_enter Tryz.func109, Tryz.ntmps109
  go_wp2_with (go_at_call 136; with_reducible refine (H1.out _).mono ?_; rintro e w1 ⟨rfl, hb⟩)
  go_ret
  exact ⟨rfl, bt (bel1 w _) hb⟩
theorem prod_lt {x y : Nat} (hx : x < 9223372036854775808) (hy : y < 18446744073709551616) : x * y < 170141183460469231731687303715884105728 := by
  have : x * y ≤ 9223372036854775807 * 18446744073709551615 := Nat.mul_le_mul (by omega) (by omega)
  omega
theorem hi_small {z : Int} (h0 : 0 ≤ z) (h1 : z < 170141183460469231731687303715884105728) : wrap64 (hiOf z) = hiOf z := by unfold wrap64 hiOf; omega
set_option maxHeartbeats 1000000 in
theorem times_any (x y : Nat) (hx : x < 9223372036854775808) (hy : y < 18446744073709551616) (w : World) :
    Calls Tryz.prog 141 #[.int .i64 (x : Int), .int .u64 (y : Int)] w fun e w' => e = .returned (.agg #[.int .i64 (hiOf ((x * y : Nat) : Int)), .int .u64 (loOf ((x * y : Nat) : Int))]) ∧ Below w.heap.size w w' := by
  have H1 : Hid (∀ W, Calls Tryz.prog 69 #[.int .u64 (x : Int), .int .u64 (y : Int)] W fun e w' => e = .returned (.tuple #[.int .u64 (hiOf ((x * y : Nat) : Int)), .int .u64 (loOf ((x * y : Nat) : Int))]) ∧ w' = W) := fun W => by
    have := cmul_any (x : Int) (y : Int) (by omega) (by omega) (by omega) (by omega) W
    rw [← Int.natCast_mul] at this
    exact this
  have hp := prod_lt hx hy
  have hw := hi_small (z := ((x * y : Nat) : Int)) (by omega) (by omega)
  have hx' : IntKind.u64.wrap (x : Int) = (x : Int) := by rw [IntKind.wrap_u64]; omega
  generalize hiOf ((x * y : Nat) : Int) = a at *
  generalize loOf ((x * y : Nat) : Int) = b at *
  clear hp
  go_enter Tryz.func141, Tryz.ntmps141
  go_wp2_with (go_at_call 69; with_reducible refine (H1.out _).mono ?_; rintro e w1 ⟨rfl, rfl⟩)
  simp [bodyPost, results, Tryz.results141, go_sem]
  exact bel1 w _
end Go.Proofs.YtliehacfoiigpaaGreatDoor
