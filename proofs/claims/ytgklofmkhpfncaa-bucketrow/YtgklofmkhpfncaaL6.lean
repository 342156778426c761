/- BucketRow: THE WALK. Own work of the verifier. -/
import Derived.Test.YtgklofmkhpfncaaL4
import Derived.Deep.DeepCutAuto
namespace Go.Proofs.Ytgklofmkhpfncaa
open Go.RowKit

theorem row_bad (p i : Int) (h : ¬ (1 ≤ p ∧ p ≤ 14)) (w : World) : Calls Try.prog 6 #[.int .i64 p, .int .i64 i] w fun e w' => e = .returned (.bool true) ∧ Below w.heap.size w w' := by
  have H1 : Hid (∀ W, _) := awake_any
  have H2 : Hid (∀ W, _) := low_of (bounds_arg p i h)
  have H3 : Hid (∀ W, _) := high_of (bounds_arg p i h)
  have H4 : Hid (∀ W, _) := len_no p h
  by_cases c : p < 1
  · clear h
    go_enter Try.func6, Try.ntmps6
    go_wp2_with (first
      | (go_at_call 7; with_reducible refine (H1.out _).mono ?_; rintro e w1 ⟨⟨n1, rfl⟩, rfl⟩)
      | (go_at_call 10; with_reducible refine (H2.out _).mono ?_; rintro e w1 ⟨⟨n1, rfl⟩, rfl⟩)
      | (go_at_call 12; with_reducible refine (H3.out _).mono ?_; rintro e w1 ⟨⟨n1, rfl⟩, rfl⟩)
      | (go_at_call 14; with_reducible refine (H4.out _).mono ?_; rintro e w1 ⟨rfl, rfl⟩))
    go_ret
    exact ⟨rfl, below_drew _ _⟩
  · have d : 14 < p := by omega
    clear h
    go_enter Try.func6, Try.ntmps6
    go_wp2_with (first
      | (go_at_call 7; with_reducible refine (H1.out _).mono ?_; rintro e w1 ⟨⟨n1, rfl⟩, rfl⟩)
      | (go_at_call 10; with_reducible refine (H2.out _).mono ?_; rintro e w1 ⟨⟨n1, rfl⟩, rfl⟩)
      | (go_at_call 12; with_reducible refine (H3.out _).mono ?_; rintro e w1 ⟨⟨n1, rfl⟩, rfl⟩)
      | (go_at_call 14; with_reducible refine (H4.out _).mono ?_; rintro e w1 ⟨rfl, rfl⟩))
    go_ret
    exact ⟨rfl, below_drew _ _⟩
theorem row_range (p : Nat) (i : Int) (h1 : 1 ≤ p) (h2 : p ≤ 14) (hi : ¬ (0 ≤ i ∧ i < (((64 - p) * 2 ^ p : Nat) : Int))) (w : World) : Calls Try.prog 6 #[.int .i64 (p : Int), .int .i64 i] w fun e w' => e = .returned (.bool true) ∧ Below w.heap.size w w' := by
  have H1 : Hid (∀ W, _) := awake_any
  have H2 : Hid (∀ W, _) := low_of (bounds_range p i h1 h2 hi)
  have H3 : Hid (∀ W, _) := high_of (bounds_range p i h1 h2 hi)
  have H4 : Hid (∀ W, _) := len_yes p h1 h2
  have c : ¬ (p : Int) < 1 := by omega
  have d : ¬ 14 < (p : Int) := by omega
  generalize (64 - p) * 2 ^ p = n at *
  by_cases ci : i < 0
  · clear hi
    go_enter Try.func6, Try.ntmps6
    go_wp2_with (first
      | (go_at_call 7; with_reducible refine (H1.out _).mono ?_; rintro e w1 ⟨⟨n1, rfl⟩, rfl⟩)
      | (go_at_call 10; with_reducible refine (H2.out _).mono ?_; rintro e w1 ⟨⟨n1, rfl⟩, rfl⟩)
      | (go_at_call 12; with_reducible refine (H3.out _).mono ?_; rintro e w1 ⟨⟨n1, rfl⟩, rfl⟩)
      | (go_at_call 14; with_reducible refine (H4.out _).mono ?_; rintro e w1 ⟨rfl, rfl⟩))
    go_ret
    exact ⟨rfl, below_drew _ _⟩
  · have di : (n : Int) ≤ i := by omega
    clear hi
    go_enter Try.func6, Try.ntmps6
    go_wp2_with (first
      | (go_at_call 7; with_reducible refine (H1.out _).mono ?_; rintro e w1 ⟨⟨n1, rfl⟩, rfl⟩)
      | (go_at_call 10; with_reducible refine (H2.out _).mono ?_; rintro e w1 ⟨⟨n1, rfl⟩, rfl⟩)
      | (go_at_call 12; with_reducible refine (H3.out _).mono ?_; rintro e w1 ⟨⟨n1, rfl⟩, rfl⟩)
      | (go_at_call 14; with_reducible refine (H4.out _).mono ?_; rintro e w1 ⟨rfl, rfl⟩))
    go_ret
    exact ⟨rfl, below_drew _ _⟩
/-- A value between the ends of a bucket falls into it. -/
theorem index_at {p i v : Nat} (h1 : 1 ≤ p) (h2 : p ≤ 14) (hv : v < 9223372036854775808) (ha : lo (2 ^ p) i ≤ v) (hb : v < lo (2 ^ p) i + 2 ^ kk (2 ^ p) i) (W : World) : Calls Try.prog 8 #[.int .i64 (p : Int), .int .i64 (v : Int)] W fun e w' => (∃ n, w' = W.drewN n) ∧ e = two (i : Int) 0 :=
  (index_yes p v h1 h2 hv W).mono (by
    rintro e w' ⟨hn, k', hk', rfl⟩
    obtain ⟨a, b⟩ := between (Nat.two_pow_pos p) ha hb
    rw [isK_uniq hk' a, b]
    exact ⟨hn, rfl⟩)
theorem len_ge (p : Nat) (h2 : p ≤ 14) : 50 ≤ (64 - p) * 2 ^ p := Nat.le_trans (by omega : 50 ≤ 64 - p) (Nat.le_mul_of_pos_right _ (Nat.two_pow_pos p))
set_option maxHeartbeats 1000000 in
set_option maxRecDepth 10000 in
theorem row_core (p i L Hh N N1 : Int) (h1 : ∀ W, Calls Try.prog 7 #[] W fun e w' => (∃ n, w' = W.drewN n) ∧ e = .returned (.bool true))
    (h2 : ∀ W, Calls Try.prog 10 #[.int .i64 p, .int .i64 i] W fun x w' => (∃ n, w' = W.drewN n) ∧ x = two L 0) (h3 : ∀ W, Calls Try.prog 12 #[.int .i64 p, .int .i64 i] W fun x w' => (∃ n, w' = W.drewN n) ∧ x = two Hh 0)
    (h4 : ∀ W, Calls Try.prog 14 #[.int .i64 p] W fun x w' => x = .returned (.int .i64 N) ∧ w' = W) (h5 : ∀ W, Calls Try.prog 8 #[.int .i64 p, .int .i64 L] W fun x w' => (∃ n, w' = W.drewN n) ∧ x = two i 0)
    (h6 : ∀ W, Calls Try.prog 8 #[.int .i64 p, .int .i64 Hh] W fun x w' => (∃ n, w' = W.drewN n) ∧ x = two i 0) (c : ¬ p < 1) (d : ¬ 14 < p) (g1 : ¬ i < 0) (g2 : ¬ N ≤ i) (g3 : ¬ Hh < L) (gn : wrap64 (N - 1) = N1)
    (hc : ((i == 0) = false ∧ (i == N1) = true ∧ (Hh != 9223372036854775807) = false) ∨ ((i == 0) = true ∧ (L != 0) = false ∧ (i == N1) = false ∧ ∃ j M : Int, wrap64 (i + 1) = j ∧ (∀ W, Calls Try.prog 10 #[.int .i64 p, .int .i64 j] W fun x w' => (∃ n, w' = W.drewN n) ∧ x = two M 0) ∧ (M == wrap64 (Hh + 1)) = true) ∨
      ((i == 0) = false ∧ (i == N1) = false ∧ ∃ j M : Int, wrap64 (i + 1) = j ∧ (∀ W, Calls Try.prog 10 #[.int .i64 p, .int .i64 j] W fun x w' => (∃ n, w' = W.drewN n) ∧ x = two M 0) ∧ (M == wrap64 (Hh + 1)) = true)) (w : World) :
    Calls Try.prog 6 #[.int .i64 p, .int .i64 i] w fun e w' => e = .returned (.bool true) ∧ Below w.heap.size w w' := by
  have H1 : Hid _ := h1
  have H2 : Hid _ := h2
  have H3 : Hid _ := h3
  have H4 : Hid _ := h4
  have H5 : Hid _ := h5
  have H6 : Hid _ := h6
  clear h1 h2 h3 h4 h5 h6
  rcases hc with ⟨y1, y2, y3⟩ | ⟨y1, y0, y2, j, M, gi, h7, y3⟩ | ⟨y1, y2, j, M, gi, h7, y3⟩
  · go_enter Try.func6, Try.ntmps6
    go_wp2_with (first
      | (go_at_call 7; with_reducible refine (H1.out _).mono ?_; rintro e w1 ⟨⟨n1, rfl⟩, rfl⟩)
      | (go_at_call 10; (first | (with_reducible refine (H2.out _).mono ?_)); rintro e w1 ⟨⟨n1, rfl⟩, rfl⟩)
      | (go_at_call 12; with_reducible refine (H3.out _).mono ?_; rintro e w1 ⟨⟨n1, rfl⟩, rfl⟩)
      | (go_at_call 8; (first | (with_reducible refine (H5.out _).mono ?_) | (with_reducible refine (H6.out _).mono ?_)); rintro e w1 ⟨⟨n1, rfl⟩, rfl⟩)
      | (go_at_call 14; with_reducible refine (H4.out _).mono ?_; rintro e w1 ⟨rfl, rfl⟩))
    go_ret
    exact ⟨rfl, below_drew _ _⟩
  · have H7 : Hid _ := h7
    clear h7
    go_enter Try.func6, Try.ntmps6
    go_wp2_with (first
      | (go_at_call 7; with_reducible refine (H1.out _).mono ?_; rintro e w1 ⟨⟨n1, rfl⟩, rfl⟩)
      | (go_at_call 10; (first | (with_reducible refine (H2.out _).mono ?_) | (with_reducible refine (H7.out _).mono ?_)); rintro e w1 ⟨⟨n1, rfl⟩, rfl⟩)
      | (go_at_call 12; with_reducible refine (H3.out _).mono ?_; rintro e w1 ⟨⟨n1, rfl⟩, rfl⟩)
      | (go_at_call 8; (first | (with_reducible refine (H5.out _).mono ?_) | (with_reducible refine (H6.out _).mono ?_)); rintro e w1 ⟨⟨n1, rfl⟩, rfl⟩)
      | (go_at_call 14; with_reducible refine (H4.out _).mono ?_; rintro e w1 ⟨rfl, rfl⟩))
    go_ret
    exact ⟨rfl, below_drew _ _⟩
  · have H7 : Hid _ := h7
    clear h7
    go_enter Try.func6, Try.ntmps6
    go_wp2_with (first
      | (go_at_call 7; with_reducible refine (H1.out _).mono ?_; rintro e w1 ⟨⟨n1, rfl⟩, rfl⟩)
      | (go_at_call 10; (first | (with_reducible refine (H2.out _).mono ?_) | (with_reducible refine (H7.out _).mono ?_)); rintro e w1 ⟨⟨n1, rfl⟩, rfl⟩)
      | (go_at_call 12; with_reducible refine (H3.out _).mono ?_; rintro e w1 ⟨⟨n1, rfl⟩, rfl⟩)
      | (go_at_call 8; (first | (with_reducible refine (H5.out _).mono ?_) | (with_reducible refine (H6.out _).mono ?_)); rintro e w1 ⟨⟨n1, rfl⟩, rfl⟩)
      | (go_at_call 14; with_reducible refine (H4.out _).mono ?_; rintro e w1 ⟨rfl, rfl⟩))
    go_ret
    exact ⟨rfl, below_drew _ _⟩
set_option maxHeartbeats 1000000 in
theorem row_good (p i : Nat) (h1 : 1 ≤ p) (h2 : p ≤ 14) (hi : i < (64 - p) * 2 ^ p) (w : World) : Calls Try.prog 6 #[.int .i64 (p : Int), .int .i64 (i : Int)] w fun e w' => e = .returned (.bool true) ∧ Below w.heap.size w w' := by
  have e63 : (2 : Nat) ^ 63 = 9223372036854775808 := by decide
  have a1 := hi_top hi h2
  rw [e63] at a1
  have hp := Nat.two_pow_pos (kk (2 ^ p) i)
  have hge := len_ge p h2
  have hle := len_le p h2
  have H1 : Hid (∀ W, _) := awake_any
  have H2 : Hid (∀ W, _) := low_of (bounds_yes p i h1 h2 hi)
  have H3 : Hid (∀ W, _) := high_of (bounds_yes p i h1 h2 hi)
  have H4 : Hid (∀ W, _) := len_yes p h1 h2
  have H5 : Hid (∀ W, _) := index_at (i := i) (v := lo (2 ^ p) i) h1 h2 (by omega) (Nat.le_refl _) (by omega)
  have H6 : Hid (∀ W, _) := index_at (i := i) (v := lo (2 ^ p) i + 2 ^ kk (2 ^ p) i - 1) h1 h2 (by omega) (by omega) (by omega)
  have z0 : i = 0 → lo (2 ^ p) i = 0 := fun e => by rw [e, lo_first]
  have zl : i + 1 = (64 - p) * 2 ^ p → lo (2 ^ p) i + 2 ^ kk (2 ^ p) i - 1 = 9223372036854775807 := fun e => by
    have := hi_last h2
    rw [← e, Nat.add_sub_cancel, e63] at this
    rw [this]
  have H7 : Hid (i + 1 < (64 - p) * 2 ^ p → ∀ W, Calls Try.prog 10 #[.int .i64 (p : Int), .int .i64 ((i + 1 : Nat) : Int)] W fun x w' => (∃ n, w' = W.drewN n) ∧ x = two ((lo (2 ^ p) i + 2 ^ kk (2 ^ p) i : Nat) : Int) 0) := fun h => by
    have := low_of (bounds_yes p (i + 1) h1 h2 h)
    rw [lo_next i (Nat.two_pow_pos p)] at this
    exact this
  have H9 : Hid (i + 1 < (64 - p) * 2 ^ p → lo (2 ^ p) i + 2 ^ kk (2 ^ p) i < 9223372036854775808) := fun h => by
    have b1 := hi_top h h2
    have b2 := Nat.two_pow_pos (kk (2 ^ p) (i + 1))
    rw [lo_next i (Nat.two_pow_pos p), e63] at b1
    omega
  have c : ¬ (p : Int) < 1 := by omega
  have d : ¬ 14 < (p : Int) := by omega
  generalize (64 - p) * 2 ^ p = N at *
  generalize 2 ^ kk (2 ^ p) i = t at *
  generalize lo (2 ^ p) i = L at *
  have g1 : ¬ (i : Int) < 0 := by omega
  have g2 : ¬ (N : Int) ≤ (i : Int) := by omega
  have g3 : ¬ ((L + t - 1 : Nat) : Int) < (L : Int) := by omega
  have gn : wrap64 ((N : Int) - 1) = ((N - 1 : Nat) : Int) := sub_one (by omega) (by omega)
  by_cases hl : i + 1 = N
  · have y1 : ((i : Int) == 0) = false := by rw [beq_eq_false_iff_ne]; omega
    have y2 : ((i : Int) == ((N - 1 : Nat) : Int)) = true := by rw [beq_iff_eq]; omega
    have y3 : (((L + t - 1 : Nat) : Int) != 9223372036854775807) = false := by rw [bne_eq_false_iff_eq, zl hl]; rfl
    clear zl z0 H7 hl hi hge hle e63 a1 hp
    exact row_core (p : Int) (i : Int) (L : Int) ((L + t - 1 : Nat) : Int) (N : Int) ((N - 1 : Nat) : Int) H1.out H2.out H3.out H4.out H5.out H6.out c d g1 g2 g3 gn (Or.inl ⟨y1, y2, y3⟩) w
  · have y2 : ((i : Int) == ((N - 1 : Nat) : Int)) = false := by rw [beq_eq_false_iff_ne]; omega
    have H8 := H7.out (by omega)
    have gi : wrap64 ((i : Int) + 1) = ((i + 1 : Nat) : Int) := by unfold wrap64; omega
    have hnx := H9.out (by omega)
    have y3 : (((L + t : Nat) : Int) == wrap64 (((L + t - 1 : Nat) : Int) + 1)) = true := by rw [beq_iff_eq]; unfold wrap64; omega
    rcases Nat.eq_zero_or_pos i with z | z
    · have y1 : ((i : Int) == 0) = true := by rw [beq_iff_eq]; omega
      have y0 : ((L : Int) != 0) = false := by rw [bne_eq_false_iff_eq, z0 z]; rfl
      exact row_core (p : Int) (i : Int) (L : Int) ((L + t - 1 : Nat) : Int) (N : Int) ((N - 1 : Nat) : Int) H1.out H2.out H3.out H4.out H5.out H6.out c d g1 g2 g3 gn (Or.inr (Or.inl ⟨y1, y0, y2, ((i + 1 : Nat) : Int), ((L + t : Nat) : Int), gi, H8, y3⟩)) w
    · have y1 : ((i : Int) == 0) = false := by rw [beq_eq_false_iff_ne]; omega
      exact row_core (p : Int) (i : Int) (L : Int) ((L + t - 1 : Nat) : Int) (N : Int) ((N - 1 : Nat) : Int) H1.out H2.out H3.out H4.out H5.out H6.out c d g1 g2 g3 gn (Or.inr (Or.inr ⟨y1, y2, ((i + 1 : Nat) : Int), ((L + t : Nat) : Int), gi, H8, y3⟩)) w
theorem row_walk (p i : Int) (w : World) : Calls Try.prog 6 #[.int .i64 p, .int .i64 i] w fun e w' => e = .returned (.bool true) ∧ Below w.heap.size w w' := by
  by_cases h : 1 ≤ p ∧ p ≤ 14
  · obtain ⟨q, rfl⟩ := Int.eq_ofNat_of_zero_le (by omega : 0 ≤ p)
    by_cases c : 0 ≤ i ∧ i < (((64 - q) * 2 ^ q : Nat) : Int)
    · obtain ⟨j, rfl⟩ := Int.eq_ofNat_of_zero_le c.1
      exact row_good q j (by omega) (by omega) (by omega) w
    · exact row_range q i (by omega) (by omega) c w
  · exact row_bad p i h w
end Go.Proofs.Ytgklofmkhpfncaa
