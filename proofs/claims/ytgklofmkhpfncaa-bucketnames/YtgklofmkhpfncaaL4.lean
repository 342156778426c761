/- awake, and BucketNames' walk. Own work of the verifier. -/
import Derived.Test.YtgklofmkhpfncaaL3
namespace Go.Proofs.Ytgklofmkhpfncaa
open Go.RowKit

theorem index_35 (w : World) : Calls Try.prog 8 #[.int .i64 3, .int .i64 35] w fun e w' => (∃ n, w' = w.drewN n) ∧ e = two 24 0 := by
  refine (index_yes 3 35 (by decide) (by decide) (by decide) w).mono ?_
  rintro e w' ⟨hn, k, hk, rfl⟩
  refine ⟨hn, ?_⟩
  have : k = 2 := isK_uniq hk ⟨by decide, Or.inr (by decide)⟩
  subst this
  exact two_of (by decide)
theorem low_24 (w : World) : Calls Try.prog 10 #[.int .i64 3, .int .i64 24] w fun e w' => (∃ n, w' = w.drewN n) ∧ e = two 32 0 := by
  refine (low_of (bounds_yes 3 24 (by decide) (by decide) (by decide)) w).mono ?_
  rintro e w' ⟨hn, rfl⟩
  exact ⟨hn, two_of (by decide)⟩
theorem high_24 (w : World) : Calls Try.prog 12 #[.int .i64 3, .int .i64 24] w fun e w' => (∃ n, w' = w.drewN n) ∧ e = two 35 0 := by
  refine (high_of (bounds_yes 3 24 (by decide) (by decide) (by decide)) w).mono ?_
  rintro e w' ⟨hn, rfl⟩
  exact ⟨hn, two_of (by decide)⟩
theorem len_3 (w : World) : Calls Try.prog 14 #[.int .i64 3] w fun e w' => e = .returned (.int .i64 488) ∧ w' = w := by
  refine (len_yes 3 (by decide) (by decide) w).mono ?_
  rintro e w' ⟨rfl, rfl⟩
  exact ⟨retI (by decide), rfl⟩
theorem index_01 (w : World) : Calls Try.prog 8 #[.int .i64 0, .int .i64 1] w fun e w' => (∃ n, w' = w.drewN n) ∧ e = two 0 1 := index_arg 0 1 (by decide) w
theorem awake_any (w : World) : Calls Try.prog 7 #[] w fun e w' => (∃ n, w' = w.drewN n) ∧ e = .returned (.bool true) := by
  have H1 : Hid (∀ W, _) := index_35
  have H2 : Hid (∀ W, _) := low_24
  have H3 : Hid (∀ W, _) := high_24
  have H4 : Hid (∀ W, _) := index_01
  have H5 : Hid (∀ W, _) := len_3
  go_enter Try.func7, Try.ntmps7
  go_wp2_with (first
    | (go_at_call 8; (first | (with_reducible refine (H1.out _).mono ?_) | (with_reducible refine (H4.out _).mono ?_)); rintro e w1 ⟨⟨n1, rfl⟩, rfl⟩)
    | (go_at_call 10; with_reducible refine (H2.out _).mono ?_; rintro e w1 ⟨⟨n1, rfl⟩, rfl⟩)
    | (go_at_call 12; with_reducible refine (H3.out _).mono ?_; rintro e w1 ⟨⟨n1, rfl⟩, rfl⟩)
    | (go_at_call 14; with_reducible refine (H5.out _).mono ?_; rintro e w1 ⟨rfl, rfl⟩))
  go_ret
  refine ⟨⟨_, rfl⟩, rfl⟩
theorem below_drew (w : World) (n : Nat) : Below w.heap.size w (w.drewN n) := by
  induction n with
  | zero => exact Below.refl _ _
  | succ n ih => exact ih.drew
theorem names_walk (w : World) : Calls Try.prog 3 #[] w fun e w' => e = .returned (.bool true) ∧ Below w.heap.size w w' := by
  have H1 : Hid (∀ W, _) := awake_any
  go_enter Try.func3, Try.ntmps3
  go_wp2_with (go_at_call 7; with_reducible refine (H1.out _).mono ?_; rintro e w1 ⟨⟨n1, rfl⟩, rfl⟩)
  go_ret
  exact ⟨rfl, below_drew _ _⟩
end Go.Proofs.Ytgklofmkhpfncaa
