/- RealOrders: THE WALK. Own work of the verifier. -/
import Derived.Test.YtoalndafkhgkkabGreatDoorO2
namespace Go.Proofs.YtoalndafkhgkkabGreatDoor
open Go.RowKit Go.Sort

set_option maxHeartbeats 4000000 in
set_option maxRecDepth 100000 in
theorem orders_w (a b c : Nat) (c1 c2 c3 : Int) (lt gt : Bool) (w : World) (hGl : Glob w) (hP : P10 w)
    (o1 : (FloatKind.f64.format.order a b == some .lt) = lt) (o2 : (FloatKind.f64.format.order a b == some .gt) = gt)
    (hc : (c1 = -1 ∧ gt = false) ∨ (c1 = 0 ∧ lt = false ∧ gt = false) ∨ (c1 = 1 ∧ lt = false)) (ht : c1 ≤ 0 → c2 ≤ 0 → c3 ≤ 0)
    (h1 : -1 ≤ c1) (h1' : c1 ≤ 1) (_h2 : -1 ≤ c2) (_h2' : c2 ≤ 1) (_h3 : -1 ≤ c3) (_h3' : c3 ≤ 1)
    (HXY : Hid (∀ W, Calls Tryz.prog 6 #[.float .f64 a, .float .f64 b] W fun e w' => e = .returned (.int .i64 c1) ∧ w' = W))
    (HYX : Hid (∀ W, Calls Tryz.prog 6 #[.float .f64 b, .float .f64 a] W fun e w' => e = .returned (.int .i64 (-c1)) ∧ w' = W))
    (HYZ : Hid (∀ W, Calls Tryz.prog 6 #[.float .f64 b, .float .f64 c] W fun e w' => e = .returned (.int .i64 c2) ∧ w' = W))
    (HXZ : Hid (∀ W, Calls Tryz.prog 6 #[.float .f64 a, .float .f64 c] W fun e w' => e = .returned (.int .i64 c3) ∧ w' = W))
    (HR : Hid (∀ W, Calls Tryz.prog 7 #[.float .f64 a, .float .f64 b] W fun e w' => e = .returned (.int .i64 c1) ∧ w' = W))
    (HS : Hid (∀ W, Calls Tryz.prog 8 #[.float .f64 a, .float .f64 b] W fun e w' => e = .returned (.bool (c1 == 0)) ∧ w' = W)) :
    Calls Tryz.prog 3 #[.int .u64 (a : Int), .int .u64 (b : Int), .int .u64 (c : Int)] w fun e w' => e = .returned (.bool true) ∧ Below w.heap.size w w' := by
  have hcase : (c1 ≤ 0 ∧ decide (c2 ≤ 0) = true ∧ decide (c3 ≤ 0) = true) ∨ (c1 ≤ 0 ∧ decide (c2 ≤ 0) = false) ∨ 0 < c1 := by
    by_cases k1 : c1 ≤ 0
    · by_cases k2 : c2 ≤ 0
      · exact Or.inl ⟨k1, decide_eq_true k2, decide_eq_true (ht k1 k2)⟩
      · exact Or.inr (Or.inl ⟨k1, decide_eq_false k2⟩)
    · exact Or.inr (Or.inr (by omega))
  clear ht
  rcases hc with ⟨rfl, rfl⟩ | ⟨rfl, rfl, rfl⟩ | ⟨rfl, rfl⟩
  · cases lt
    all_goals
      rcases hcase with ⟨_, d2, d3⟩ | ⟨_, d2⟩ | k
      · go_enter Tryz.func3, Tryz.ntmps3
        go_wp2_with fail
        refine (awake_any w hGl hP).mono ?_
        rintro e w1 ⟨rfl, hb⟩
        go_wp2_with (first
          | simp only [mf64from]
          | (go_at_call 6; (first | (with_reducible refine (HXY.out _).mono ?_) | (with_reducible refine (HYX.out _).mono ?_) | (with_reducible refine (HYZ.out _).mono ?_) | (with_reducible refine (HXZ.out _).mono ?_)); rintro e w1 ⟨rfl, rfl⟩)
          | (go_at_call 7; with_reducible refine (HR.out _).mono ?_; rintro e w1 ⟨rfl, rfl⟩)
          | (go_at_call 8; with_reducible refine (HS.out _).mono ?_; rintro e w1 ⟨rfl, rfl⟩)
          | fail)
        go_ret
        exact ⟨rfl, hb⟩
      · go_enter Tryz.func3, Tryz.ntmps3
        go_wp2_with fail
        refine (awake_any w hGl hP).mono ?_
        rintro e w1 ⟨rfl, hb⟩
        go_wp2_with (first
          | simp only [mf64from]
          | (go_at_call 6; (first | (with_reducible refine (HXY.out _).mono ?_) | (with_reducible refine (HYX.out _).mono ?_) | (with_reducible refine (HYZ.out _).mono ?_) | (with_reducible refine (HXZ.out _).mono ?_)); rintro e w1 ⟨rfl, rfl⟩)
          | (go_at_call 7; with_reducible refine (HR.out _).mono ?_; rintro e w1 ⟨rfl, rfl⟩)
          | (go_at_call 8; with_reducible refine (HS.out _).mono ?_; rintro e w1 ⟨rfl, rfl⟩)
          | fail)
        go_ret
        exact ⟨rfl, hb⟩
      · omega
  · rcases hcase with ⟨_, d2, d3⟩ | ⟨_, d2⟩ | k
    · go_enter Tryz.func3, Tryz.ntmps3
      go_wp2_with fail
      refine (awake_any w hGl hP).mono ?_
      rintro e w1 ⟨rfl, hb⟩
      go_wp2_with (first
        | simp only [mf64from]
        | (go_at_call 6; (first | (with_reducible refine (HXY.out _).mono ?_) | (with_reducible refine (HYX.out _).mono ?_) | (with_reducible refine (HYZ.out _).mono ?_) | (with_reducible refine (HXZ.out _).mono ?_)); rintro e w1 ⟨rfl, rfl⟩)
        | (go_at_call 7; with_reducible refine (HR.out _).mono ?_; rintro e w1 ⟨rfl, rfl⟩)
        | (go_at_call 8; with_reducible refine (HS.out _).mono ?_; rintro e w1 ⟨rfl, rfl⟩)
        | fail)
      go_ret
      exact ⟨rfl, hb⟩
    · go_enter Tryz.func3, Tryz.ntmps3
      go_wp2_with fail
      refine (awake_any w hGl hP).mono ?_
      rintro e w1 ⟨rfl, hb⟩
      go_wp2_with (first
        | simp only [mf64from]
        | (go_at_call 6; (first | (with_reducible refine (HXY.out _).mono ?_) | (with_reducible refine (HYX.out _).mono ?_) | (with_reducible refine (HYZ.out _).mono ?_) | (with_reducible refine (HXZ.out _).mono ?_)); rintro e w1 ⟨rfl, rfl⟩)
        | (go_at_call 7; with_reducible refine (HR.out _).mono ?_; rintro e w1 ⟨rfl, rfl⟩)
        | (go_at_call 8; with_reducible refine (HS.out _).mono ?_; rintro e w1 ⟨rfl, rfl⟩)
        | fail)
      go_ret
      exact ⟨rfl, hb⟩
    · omega
  · rcases hcase with ⟨k, _⟩ | ⟨k, _⟩ | _
    · omega
    · omega
    · cases gt
      all_goals
        go_enter Tryz.func3, Tryz.ntmps3
        go_wp2_with fail
        refine (awake_any w hGl hP).mono ?_
        rintro e w1 ⟨rfl, hb⟩
        go_wp2_with (first
          | simp only [mf64from]
          | (go_at_call 6; (first | (with_reducible refine (HXY.out _).mono ?_) | (with_reducible refine (HYX.out _).mono ?_) | (with_reducible refine (HYZ.out _).mono ?_) | (with_reducible refine (HXZ.out _).mono ?_)); rintro e w1 ⟨rfl, rfl⟩)
          | (go_at_call 7; with_reducible refine (HR.out _).mono ?_; rintro e w1 ⟨rfl, rfl⟩)
          | (go_at_call 8; with_reducible refine (HS.out _).mono ?_; rintro e w1 ⟨rfl, rfl⟩)
          | fail)
        go_ret
        exact ⟨rfl, hb⟩
theorem orders_walk (a b c : Nat) (ha : a < 18446744073709551616) (hb : b < 18446744073709551616) (hc : c < 18446744073709551616) (w : World) (hGl : Glob w) (hP : P10 w) :
    Calls Tryz.prog 3 #[.int .u64 (a : Int), .int .u64 (b : Int), .int .u64 (c : Int)] w fun e w' => e = .returned (.bool true) ∧ Below w.heap.size w w' := by
  have hr : ∀ p q : Nat, -1 ≤ sg p q ∧ sg p q ≤ 1 := fun p q => by rcases sg_range p q with h | h | h <;> rw [h] <;> decide
  refine orders_w a b c (sg (rk a) (rk b)) (sg (rk b) (rk c)) (sg (rk a) (rk c)) _ _ w hGl hP rfl rfl ?_ (sg_trans _ _ _) (hr _ _).1 (hr _ _).2 (hr _ _).1 (hr _ _).2 (hr _ _).1 (hr _ _).2
    (compare_any a b ha hb) (fun W => by have h := compare_any b a hb ha W; rw [sg_neg] at h; exact h) (compare_any b c hb hc) (compare_any a c ha hc) (refcmp_any a b ha hb) (same_any a b ha hb)
  rcases ord_sg a b ha hb with ⟨h1, _, h2⟩ | ⟨h1, h2, h3⟩ | ⟨h1, h2, _⟩
  · exact Or.inl ⟨h1, h2⟩
  · exact Or.inr (Or.inl ⟨h1, h2, h3⟩)
  · exact Or.inr (Or.inr ⟨h1, h2⟩)
end Go.Proofs.YtoalndafkhgkkabGreatDoor
