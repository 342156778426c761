/- BucketTells, BucketHolds, BucketRow: THE WALKS. Own work of the verifier. -/
import Derived.Test.YtgklofmkhpfncaaL4
import Derived.Deep.DeepCutAuto
namespace Go.Proofs.Ytgklofmkhpfncaa
open Go.RowKit

/-- What the calls tell of a precision and a number, whatever they are: both sides alike. -/
theorem both_index (p v : Int) (hv : v < 9223372036854775808) : ∃ a e : Int, (∀ W, Calls Try.prog 8 #[.int .i64 p, .int .i64 v] W fun x w' => (∃ n, w' = W.drewN n) ∧ x = two a e) ∧ (∀ W, Calls Try.prog 9 #[.int .i64 p, .int .i64 v] W fun x w' => (∃ n, w' = W.drewN n) ∧ x = two a e) := by
  by_cases h : 1 ≤ p ∧ p ≤ 14
  · obtain ⟨q, rfl⟩ := Int.eq_ofNat_of_zero_le (by omega : 0 ≤ p)
    have h1 : 1 ≤ q := by omega
    have h2 : q ≤ 14 := by omega
    by_cases c : v < 0
    · exact ⟨0, 2, index_neg q v h1 h2 c, rindex_neg q v h1 h2 c⟩
    · obtain ⟨u, rfl⟩ := Int.eq_ofNat_of_zero_le (by omega : 0 ≤ v)
      obtain ⟨k, hk⟩ := isK_ex (2 ^ q) u (Nat.two_pow_pos q)
      refine ⟨(idx (2 ^ q) u k : Nat), 0, fun W => (index_yes q u h1 h2 (by omega) W).mono ?_, fun W => (rindex_yes q u h1 h2 (by omega) W).mono ?_⟩
      · rintro e w' ⟨hn, k', hk', rfl⟩
        rw [isK_uniq hk' hk]
        exact ⟨hn, rfl⟩
      · rintro e w' ⟨hn, k', hk', rfl⟩
        rw [isK_uniq hk' hk]
        exact ⟨hn, rfl⟩
  · exact ⟨0, 1, index_arg p v h, rindex_arg p v h⟩
theorem both_ends (p i : Int) : ∃ a b e : Int, (∀ W, Calls Try.prog 10 #[.int .i64 p, .int .i64 i] W fun x w' => (∃ n, w' = W.drewN n) ∧ x = two a e) ∧ (∀ W, Calls Try.prog 11 #[.int .i64 p, .int .i64 i] W fun x w' => (∃ n, w' = W.drewN n) ∧ x = two a e) ∧
    (∀ W, Calls Try.prog 12 #[.int .i64 p, .int .i64 i] W fun x w' => (∃ n, w' = W.drewN n) ∧ x = two b e) ∧ (∀ W, Calls Try.prog 13 #[.int .i64 p, .int .i64 i] W fun x w' => (∃ n, w' = W.drewN n) ∧ x = two b e) := by
  by_cases h : 1 ≤ p ∧ p ≤ 14
  · obtain ⟨q, rfl⟩ := Int.eq_ofNat_of_zero_le (by omega : 0 ≤ p)
    have h1 : 1 ≤ q := by omega
    have h2 : q ≤ 14 := by omega
    by_cases c : 0 ≤ i ∧ i < (((64 - q) * 2 ^ q : Nat) : Int)
    · obtain ⟨j, rfl⟩ := Int.eq_ofNat_of_zero_le c.1
      have hj : j < (64 - q) * 2 ^ q := by omega
      exact ⟨_, _, _, low_of (bounds_yes q j h1 h2 hj), rlow_yes q j h1 h2 hj, high_of (bounds_yes q j h1 h2 hj), rhigh_yes q j h1 h2 hj⟩
    · exact ⟨_, _, _, low_of (bounds_range q i h1 h2 c), rlow_range q i h1 h2 c, high_of (bounds_range q i h1 h2 c), rhigh_not (by decide) (rlow_range q i h1 h2 c)⟩
  · exact ⟨_, _, _, low_of (bounds_arg p i h), rlow_arg p i h, high_of (bounds_arg p i h), rhigh_not (by decide) (rlow_arg p i h)⟩
theorem both_len (p : Int) : ∃ a : Int, (∀ W, Calls Try.prog 14 #[.int .i64 p] W fun x w' => x = .returned (.int .i64 a) ∧ w' = W) ∧ (∀ W, Calls Try.prog 15 #[.int .i64 p] W fun x w' => x = .returned (.int .i64 a) ∧ w' = W) := by
  by_cases h : 1 ≤ p ∧ p ≤ 14
  · obtain ⟨q, rfl⟩ := Int.eq_ofNat_of_zero_le (by omega : 0 ≤ p)
    exact ⟨_, len_yes q (by omega) (by omega), rlen_yes q (by omega) (by omega)⟩
  · exact ⟨_, len_no p h, rlen_no p h⟩
theorem tells_walk (p v i : Int) (hv : v < 9223372036854775808) (w : World) : Calls Try.prog 4 #[.int .i64 p, .int .i64 v, .int .i64 i] w fun e w' => e = .returned (.bool true) ∧ Below w.heap.size w w' := by
  have H1 : Hid (∀ W, _) := awake_any
  obtain ⟨a, e, h2, h3⟩ := both_index p v hv
  obtain ⟨b, c, d, h4, h5, h6, h7⟩ := both_ends p i
  obtain ⟨n, h8, h9⟩ := both_len p
  have H2 : Hid _ := h2
  have H3 : Hid _ := h3
  have H4 : Hid _ := h4
  have H5 : Hid _ := h5
  have H6 : Hid _ := h6
  have H7 : Hid _ := h7
  have H8 : Hid _ := h8
  have H9 : Hid _ := h9
  clear h2 h3 h4 h5 h6 h7 h8 h9
  go_enter Try.func4, Try.ntmps4
  go_wp2_with (first
    | (go_at_call 7; with_reducible refine (H1.out _).mono ?_; rintro e w1 ⟨⟨n1, rfl⟩, rfl⟩)
    | (go_at_call 8; with_reducible refine (H2.out _).mono ?_; rintro e w1 ⟨⟨n1, rfl⟩, rfl⟩)
    | (go_at_call 9; with_reducible refine (H3.out _).mono ?_; rintro e w1 ⟨⟨n1, rfl⟩, rfl⟩)
    | (go_at_call 10; with_reducible refine (H4.out _).mono ?_; rintro e w1 ⟨⟨n1, rfl⟩, rfl⟩)
    | (go_at_call 11; with_reducible refine (H5.out _).mono ?_; rintro e w1 ⟨⟨n1, rfl⟩, rfl⟩)
    | (go_at_call 12; with_reducible refine (H6.out _).mono ?_; rintro e w1 ⟨⟨n1, rfl⟩, rfl⟩)
    | (go_at_call 13; with_reducible refine (H7.out _).mono ?_; rintro e w1 ⟨⟨n1, rfl⟩, rfl⟩)
    | (go_at_call 14; with_reducible refine (H8.out _).mono ?_; rintro e w1 ⟨rfl, rfl⟩)
    | (go_at_call 15; with_reducible refine (H9.out _).mono ?_; rintro e w1 ⟨rfl, rfl⟩))
  go_ret
  exact ⟨rfl, below_drew _ _⟩
theorem holds_bad (p v u : Int) (h : ¬ (1 ≤ p ∧ p ≤ 14)) (w : World) : Calls Try.prog 5 #[.int .i64 p, .int .i64 v, .int .i64 u] w fun e w' => e = .returned (.bool true) ∧ Below w.heap.size w w' := by
  have H1 : Hid (∀ W, _) := awake_any
  have H2 : Hid (∀ W, _) := index_arg p v h
  by_cases c : p < 1
  · clear h
    go_enter Try.func5, Try.ntmps5
    go_wp2_with (first
      | (go_at_call 7; with_reducible refine (H1.out _).mono ?_; rintro e w1 ⟨⟨n1, rfl⟩, rfl⟩)
      | (go_at_call 8; with_reducible refine (H2.out _).mono ?_; rintro e w1 ⟨⟨n1, rfl⟩, rfl⟩))
    go_ret
    exact ⟨rfl, below_drew _ _⟩
  · have d : 14 < p := by omega
    clear h
    go_enter Try.func5, Try.ntmps5
    go_wp2_with (first
      | (go_at_call 7; with_reducible refine (H1.out _).mono ?_; rintro e w1 ⟨⟨n1, rfl⟩, rfl⟩)
      | (go_at_call 8; with_reducible refine (H2.out _).mono ?_; rintro e w1 ⟨⟨n1, rfl⟩, rfl⟩))
    go_ret
    exact ⟨rfl, below_drew _ _⟩
theorem holds_neg (p : Nat) (v u : Int) (h1 : 1 ≤ p) (h2 : p ≤ 14) (hv : v < 0) (w : World) : Calls Try.prog 5 #[.int .i64 (p : Int), .int .i64 v, .int .i64 u] w fun e w' => e = .returned (.bool true) ∧ Below w.heap.size w w' := by
  have H1 : Hid (∀ W, _) := awake_any
  have H2 : Hid (∀ W, _) := index_neg p v h1 h2 hv
  have c : ¬ (p : Int) < 1 := by omega
  have d : ¬ 14 < (p : Int) := by omega
  go_enter Try.func5, Try.ntmps5
  go_wp2_with (first
    | (go_at_call 7; with_reducible refine (H1.out _).mono ?_; rintro e w1 ⟨⟨n1, rfl⟩, rfl⟩)
    | (go_at_call 8; with_reducible refine (H2.out _).mono ?_; rintro e w1 ⟨⟨n1, rfl⟩, rfl⟩))
  go_ret
  exact ⟨rfl, below_drew _ _⟩
/-- What is to be known of a value and its bucket. -/
theorem holds_facts (p v : Nat) (h2 : p ≤ 14) (hv : v < 9223372036854775808) {k : Nat} (hk : IsK (2 ^ p) v k) : ∃ I L Hh N : Nat, I = idx (2 ^ p) v k ∧ L = lo (2 ^ p) I ∧ Hh = lo (2 ^ p) I + 2 ^ kk (2 ^ p) I - 1 ∧ N = (64 - p) * 2 ^ p ∧ I < N ∧ L ≤ v ∧ v ≤ Hh ∧ Hh - v ≤ v / 2 ^ p ∧ Hh < 9223372036854775808 ∧
    ∀ (u k' : Nat), IsK (2 ^ p) u k' → (v ≤ u → I ≤ idx (2 ^ p) u k') ∧ (u ≤ v → idx (2 ^ p) u k' ≤ I) ∧ (I = idx (2 ^ p) u k' ↔ L ≤ u ∧ u ≤ Hh) := by
  have e63 : (2 : Nat) ^ 63 = 9223372036854775808 := by decide
  have a1 := (idx_top h2 (by rw [e63]; exact hv) hk).1
  have a2 := lo_le hk
  have a3 := wide_ok hk
  have a4 := hi_top a1 h2
  have hp := Nat.two_pow_pos k
  rw [e63] at a4
  refine ⟨idx (2 ^ p) v k, lo (2 ^ p) (idx (2 ^ p) v k), lo (2 ^ p) (idx (2 ^ p) v k) + 2 ^ kk (2 ^ p) (idx (2 ^ p) v k) - 1, _, rfl, rfl, rfl, rfl, a1, ?_⟩
  rw [kk_idx hk] at a4 ⊢
  refine ⟨a2.1, ?_, a3, ?_, fun u k' hu => ⟨fun h => idx_mono hk hu h, fun h => idx_mono hu hk h, ?_⟩⟩
  · generalize lo (2 ^ p) (idx (2 ^ p) v k) = z at *
    generalize 2 ^ k = y at *
    omega
  · generalize lo (2 ^ p) (idx (2 ^ p) v k) = z at *
    generalize 2 ^ k = y at *
    omega
  · rw [idx_same hk hu]
    generalize lo (2 ^ p) (idx (2 ^ p) v k) = z at *
    generalize 2 ^ k = y at *
    omega
theorem index_is {p v k : Nat} (h1 : 1 ≤ p) (h2 : p ≤ 14) (hv : v < 9223372036854775808) (hk : IsK (2 ^ p) v k) (W : World) : Calls Try.prog 8 #[.int .i64 (p : Int), .int .i64 (v : Int)] W fun e w' => (∃ n, w' = W.drewN n) ∧ e = two (idx (2 ^ p) v k : Nat) 0 :=
  (index_yes p v h1 h2 hv W).mono (by
    rintro e w' ⟨hn, k', hk', rfl⟩
    rw [isK_uniq hk' hk]
    exact ⟨hn, rfl⟩)
set_option maxHeartbeats 1000000 in
theorem holds_good (p v : Nat) (u : Int) (h1 : 1 ≤ p) (h2 : p ≤ 14) (hv : v < 9223372036854775808) (hu : u < 9223372036854775808) (w : World) : Calls Try.prog 5 #[.int .i64 (p : Int), .int .i64 (v : Int), .int .i64 u] w fun e w' => e = .returned (.bool true) ∧ Below w.heap.size w w' := by
  obtain ⟨k, hk⟩ := isK_ex (2 ^ p) v (Nat.two_pow_pos p)
  obtain ⟨I, L, Hh, N, eI, eL, eH, eN, f1, f2, f3, f4, f5, f6⟩ := holds_facts p v h2 hv hk
  have H1 : Hid (∀ W, _) := awake_any
  have H2 : Hid (∀ W, _) := index_is h1 h2 hv hk
  rw [← eI] at H2
  have hb := bounds_yes p I h1 h2 (by rw [← eN]; exact f1)
  rw [← eH, ← eL] at hb
  have H3 : Hid (∀ W, _) := low_of hb
  have H4 : Hid (∀ W, _) := high_of hb
  have H5 : Hid (∀ W, _) := len_yes p h1 h2
  rw [← eN] at H5
  have c : ¬ (p : Int) < 1 := by omega
  have d : ¬ 14 < (p : Int) := by omega
  have c0 : (0 : Int) ≤ (p : Int) := by omega
  have cv : ¬ (v : Int) < 0 := by omega
  have g1 : ¬ (v : Int) < (L : Int) := by omega
  have g2 : ¬ (Hh : Int) < (v : Int) := by omega
  have g3 : ¬ (v : Int) / 2 ^ p < ((Hh - v : Nat) : Int) := by rw [div_pow]; omega
  have g4 : ¬ (I : Int) < 0 := by omega
  have g5 : ¬ (N : Int) ≤ (I : Int) := by omega
  have gw : wrap64 ((Hh : Int) - (v : Int)) = ((Hh - v : Nat) : Int) := sub_nat f3 f5
  have HF : Hid _ := f6
  clear hb eH eL eN eI hk f1 f2 f3 f4 f5 f6
  generalize Hh - v = D at *
  by_cases hneg : u < 0
  · have H6 : Hid (∀ W, _) := index_neg p u h1 h2 hneg
    go_enter Try.func5, Try.ntmps5
    go_wp2_with (first
      | (go_at_call 7; with_reducible refine (H1.out _).mono ?_; rintro e w1 ⟨⟨n1, rfl⟩, rfl⟩)
      | (go_at_call 8; (first | (with_reducible refine (H2.out _).mono ?_) | (with_reducible refine (H6.out _).mono ?_)); rintro e w1 ⟨⟨n1, rfl⟩, rfl⟩)
      | (go_at_call 10; with_reducible refine (H3.out _).mono ?_; rintro e w1 ⟨⟨n1, rfl⟩, rfl⟩)
      | (go_at_call 12; with_reducible refine (H4.out _).mono ?_; rintro e w1 ⟨⟨n1, rfl⟩, rfl⟩)
      | (go_at_call 14; with_reducible refine (H5.out _).mono ?_; rintro e w1 ⟨rfl, rfl⟩))
    go_ret
    exact ⟨rfl, below_drew _ _⟩
  · obtain ⟨x, hxu⟩ := Int.eq_ofNat_of_zero_le (by omega : 0 ≤ u)
    obtain ⟨k', hk'⟩ := isK_ex (2 ^ p) x (Nat.two_pow_pos p)
    have H6 : Hid (∀ W, _) := index_is h1 h2 (by omega) hk'
    obtain ⟨m1, m2, m3⟩ := HF.out x k' hk'
    rw [← hxu] at H6
    generalize idx (2 ^ p) x k' = J at *
    have M1 : Hid _ := m1
    have M2 : Hid _ := m2
    have M3 : Hid _ := m3
    have HX : Hid _ := hxu
    clear HF m1 m2 m3 hk' hu hxu
    go_enter Try.func5, Try.ntmps5
    go_upto_region 15 with (first
      | (go_at_call 7; with_reducible refine (H1.out _).mono ?_; rintro e w1 ⟨⟨n1, rfl⟩, rfl⟩)
      | (go_at_call 8; (first | (with_reducible refine (H2.out _).mono ?_) | (with_reducible refine (H6.out _).mono ?_)); rintro e w1 ⟨⟨n1, rfl⟩, rfl⟩)
      | (go_at_call 10; with_reducible refine (H3.out _).mono ?_; rintro e w1 ⟨⟨n1, rfl⟩, rfl⟩)
      | (go_at_call 12; with_reducible refine (H4.out _).mono ?_; rintro e w1 ⟨⟨n1, rfl⟩, rfl⟩)
      | (go_at_call 14; with_reducible refine (H5.out _).mono ?_; rintro e w1 ⟨rfl, rfl⟩))
    obtain m1 := M1.out
    obtain m2 := M2.out
    obtain m3 := M3.out
    obtain rfl := HX.out
    have five : ((v : Int) ≤ (x : Int) ∧ (x : Int) ≤ (v : Int) ∧ ((I : Int) == (J : Int)) = true ∧ (L : Int) ≤ (x : Int) ∧ (x : Int) ≤ (Hh : Int)) ∨
        ((v : Int) ≤ (x : Int) ∧ ¬ (x : Int) ≤ (v : Int) ∧ (I : Int) ≤ (J : Int) ∧ ((I : Int) == (J : Int)) = true ∧ (L : Int) ≤ (x : Int) ∧ (x : Int) ≤ (Hh : Int)) ∨
        ((v : Int) ≤ (x : Int) ∧ ¬ (x : Int) ≤ (v : Int) ∧ (I : Int) ≤ (J : Int) ∧ ((I : Int) == (J : Int)) = false ∧ (L : Int) ≤ (x : Int) ∧ ¬ (x : Int) ≤ (Hh : Int)) ∨
        (¬ (v : Int) ≤ (x : Int) ∧ (J : Int) ≤ (I : Int) ∧ (x : Int) ≤ (v : Int) ∧ ((I : Int) == (J : Int)) = true ∧ (L : Int) ≤ (x : Int) ∧ (x : Int) ≤ (Hh : Int)) ∨
        (¬ (v : Int) ≤ (x : Int) ∧ (J : Int) ≤ (I : Int) ∧ (x : Int) ≤ (v : Int) ∧ ((I : Int) == (J : Int)) = false ∧ ¬ (L : Int) ≤ (x : Int)) := by
      clear g3 gw H1 H2 H3 H4 H5 H6 M1 M2 M3
      simp only [beq_iff_eq, beq_eq_false_iff_ne, ne_eq]
      omega
    clear M1 M2 M3 m1 m2 m3 g1 g2 g3 g4 g5 gw hneg c d cv
    rcases five with ⟨q1, q2, q3, q4, q5⟩ | ⟨q1, q2, q3, q4, q5, q6⟩ | ⟨q1, q2, q3, q4, q5, q6⟩ | ⟨q1, q2, q3, q4, q5, q6⟩ | ⟨q1, q2, q3, q4, q5⟩
    all_goals
      go_wp2_with fail
      go_ret
      exact ⟨rfl, below_drew _ _⟩
theorem holds_walk (p v u : Int) (hv : v < 9223372036854775808) (hu : u < 9223372036854775808) (w : World) : Calls Try.prog 5 #[.int .i64 p, .int .i64 v, .int .i64 u] w fun e w' => e = .returned (.bool true) ∧ Below w.heap.size w w' := by
  by_cases h : 1 ≤ p ∧ p ≤ 14
  · obtain ⟨q, rfl⟩ := Int.eq_ofNat_of_zero_le (by omega : 0 ≤ p)
    by_cases c : v < 0
    · exact holds_neg q v u (by omega) (by omega) c w
    · obtain ⟨x, rfl⟩ := Int.eq_ofNat_of_zero_le (by omega : 0 ≤ v)
      exact holds_good q x u (by omega) (by omega) (by omega) hu w
  · exact holds_bad p v u h w
end Go.Proofs.Ytgklofmkhpfncaa
