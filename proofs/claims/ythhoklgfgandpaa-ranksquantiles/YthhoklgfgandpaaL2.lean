/- THE CALLS of bucket. Own work of the verifier. -/
import Derived.Test.YthhoklgfgandpaaL1
namespace Go.Proofs.Ythhoklgfgandpaa
open Go.RowKit

abbrev two (a e : Int) : Ending := .returned (.tuple #[.int .i64 a, .int .i64 e])
abbrev three (a b e : Int) : Ending := .returned (.tuple #[.int .i64 a, .int .i64 b, .int .i64 e])
theorem two_of {a b e : Int} (h : a = b) : two a e = two b e := by rw [h]
theorem three_of {a b c d e : Int} (h : a = b) (h' : c = d) : three a c e = three b d e := by rw [h, h']

theorem sub_nat {x y : Nat} (h : y ≤ x) (hx : x < 9223372036854775808) : wrap64 ((x : Int) - (y : Int)) = ((x - y : Nat) : Int) := by unfold wrap64; omega
theorem sub_one {x : Nat} (h : 0 < x) (hx : x < 9223372036854775808) : wrap64 ((x : Int) - 1) = ((x - 1 : Nat) : Int) := by unfold wrap64; omega
theorem add_nat {x y : Nat} (h : x + y < 9223372036854775808) : wrap64 ((x : Int) + (y : Int)) = ((x + y : Nat) : Int) := by unfold wrap64; omega
theorem mul_pow {x k : Nat} (h : x * 2 ^ k < 9223372036854775808) : wrap64 ((x : Int) * 2 ^ k) = ((x * 2 ^ k : Nat) : Int) := wrap_nat (by rw [cast_pow, Int.natCast_mul]) h
theorem div_pow (i p : Nat) : (i : Int) / 2 ^ p = ((i / 2 ^ p : Nat) : Int) := by rw [cast_pow, ← Int.natCast_ediv]
theorem idx_lt {p v k : Nat} (h2 : p ≤ 14) (hv : v < 9223372036854775808) (h : IsK (2 ^ p) v k) : k ≤ 62 ∧ k * 2 ^ p < 9223372036854775808 ∧ k * 2 ^ p + v / 2 ^ k < 1048576 := by
  have a := idx_top h2 (by have : (2 : Nat) ^ 63 = 9223372036854775808 := by decide
                           rw [this]; exact hv) h
  have b := len_le p h2
  obtain ⟨a1, a2⟩ := a
  unfold idx at a1
  generalize v / 2 ^ k = y at *
  generalize k * 2 ^ p = x at *
  generalize (64 - p) * 2 ^ p = z at *
  omega
theorem index_yes (p v : Nat) (h1 : 1 ≤ p) (h2 : p ≤ 14) (hv : v < 9223372036854775808) (w : World) :
    Calls Try.prog 48 #[.int .i64 (p : Int), .int .i64 (v : Int)] w fun e w' => (∃ n, w' = w.drewN n) ∧ ∃ k : Nat, IsK (2 ^ p) v k ∧ e = two (idx (2 ^ p) v k : Nat) 0 := by
  have c1 : (0 : Int) ≤ (p : Int) := by omega
  have c2 : ¬ (v : Int) < 0 := by omega
  have HP : Hid (∀ W, _) := pr_yes p h1 h2
  have HS : Hid (∀ W, _) := spare_any p v h1 h2 hv
  go_enter Try.func48, Try.ntmps48
  go_wp2_with (first
    | (go_at_call 51; with_reducible refine (HP.out _).mono ?_; rintro e w1 ⟨rfl, rfl⟩)
    | (go_at_call 61; with_reducible refine (HS.out _).mono ?_; rintro e w2 ⟨⟨n2, rfl⟩, k, rfl, hk1, hk2⟩; have ck : (0 : Int) ≤ (k : Int) := Int.natCast_nonneg _))
  go_region
  go_wp2_with fail
  go_ret2
  refine ⟨⟨n2 + 1, rfl⟩, k, hk2, two_of ?_⟩
  obtain ⟨a1, a2, a3⟩ := idx_lt h2 hv hk2
  rw [mul_pow a2, div_pow]
  unfold idx
  exact add_nat (Nat.lt_of_lt_of_le a3 (by decide))
theorem index_neg (p : Nat) (v : Int) (h1 : 1 ≤ p) (h2 : p ≤ 14) (hv : v < 0) (w : World) :
    Calls Try.prog 48 #[.int .i64 (p : Int), .int .i64 v] w fun e w' => (∃ n, w' = w.drewN n) ∧ e = two 0 2 := by
  have HP : Hid (∀ W, _) := pr_yes p h1 h2
  go_enter Try.func48, Try.ntmps48
  go_wp2_with (go_at_call 51; with_reducible refine (HP.out _).mono ?_; rintro e w1 ⟨rfl, rfl⟩)
  go_ret2
  exact ⟨⟨0, rfl⟩, rfl⟩
theorem index_arg (p v : Int) (h : ¬ (1 ≤ p ∧ p ≤ 14)) (w : World) :
    Calls Try.prog 48 #[.int .i64 p, .int .i64 v] w fun e w' => (∃ n, w' = w.drewN n) ∧ e = two 0 1 := by
  have HP : Hid (∀ W, _) := pr_no p h
  clear h
  go_enter Try.func48, Try.ntmps48
  go_wp2_with (go_at_call 51; with_reducible refine (HP.out _).mono ?_; rintro e w1 ⟨rfl, rfl⟩)
  go_ret2
  exact ⟨⟨0, rfl⟩, rfl⟩
/-- What a bucket's ends are reckoned of. -/
theorem ends (p i : Nat) (h2 : p ≤ 14) (hi : i < (64 - p) * 2 ^ p) : ∃ k K r l t t1 h : Nat, k ≤ 62 ∧ l = lo (2 ^ p) i ∧ h = lo (2 ^ p) i + 2 ^ kk (2 ^ p) i - 1 ∧
    ((k = 0 ∧ (i : Int) / 2 ^ p = 0) ∨ wrap64 ((i : Int) / 2 ^ p - 1) = (k : Int)) ∧ wrap64 ((k : Int) * 2 ^ p) = (K : Int) ∧ wrap64 ((i : Int) - (K : Int)) = (r : Int) ∧ wrap64 ((r : Int) * 2 ^ k) = (l : Int) ∧ wrap64 ((2 : Int) ^ k) = (t : Int) ∧
      wrap64 ((t : Int) - 1) = (t1 : Int) ∧ wrap64 ((l : Int) + (t1 : Int)) = (h : Int) := by
  have hkt := kk_top hi h2
  have hlo := hi_top hi h2
  obtain ⟨r1, r2, r3⟩ := rr_lt i (Nat.two_pow_pos p)
  have hile := len_le p h2
  have hkl := pow_lt' (kk (2 ^ p) i) (by omega)
  have hp := Nat.two_pow_pos (kk (2 ^ p) i)
  have e63 : (2 : Nat) ^ 63 = 9223372036854775808 := by decide
  rw [e63] at hlo
  have hii : i < 9223372036854775808 := by
    generalize (64 - p) * 2 ^ p = z at *
    omega
  have hK : kk (2 ^ p) i * 2 ^ p ≤ i := by
    generalize kk (2 ^ p) i * 2 ^ p = z at *
    omega
  refine ⟨kk (2 ^ p) i, kk (2 ^ p) i * 2 ^ p, rr (2 ^ p) i, lo (2 ^ p) i, 2 ^ kk (2 ^ p) i, 2 ^ kk (2 ^ p) i - 1, lo (2 ^ p) i + 2 ^ kk (2 ^ p) i - 1, by omega, rfl, rfl, ?_, ?_, ?_, ?_, ?_, ?_, ?_⟩
  · rw [div_pow]
    rcases Nat.eq_zero_or_pos (i / 2 ^ p) with z | z
    · exact Or.inl ⟨by unfold kk; omega, by rw [z]; rfl⟩
    · exact Or.inr (sub_one z (Nat.lt_of_le_of_lt (Nat.div_le_self _ _) hii))
  · exact mul_pow (Nat.lt_of_le_of_lt hK hii)
  · exact sub_nat hK hii
  · refine mul_pow ?_
    change lo (2 ^ p) i < _
    generalize lo (2 ^ p) i = z at *
    generalize 2 ^ kk (2 ^ p) i = y at *
    omega
  · exact wrap_pow _ (by omega)
  · refine sub_one hp ?_
    generalize 2 ^ kk (2 ^ p) i = y at *
    omega
  · rw [add_nat]
    · congr 1
      generalize lo (2 ^ p) i = z at *
      generalize 2 ^ kk (2 ^ p) i = y at *
      omega
    · generalize lo (2 ^ p) i = z at *
      generalize 2 ^ kk (2 ^ p) i = y at *
      omega
theorem zero_case {i K r l t t1 h : Nat} {x : Int} (hi : i < 9223372036854775808) (e1 : wrap64 (((0 : Nat) : Int) * x) = (K : Int)) (e2 : wrap64 ((i : Int) - (K : Int)) = (r : Int)) (e3 : wrap64 ((r : Int) * 2 ^ 0) = (l : Int)) (e4 : wrap64 ((2 : Int) ^ 0) = (t : Int))
    (e5 : wrap64 ((t : Int) - 1) = (t1 : Int)) (e6 : wrap64 ((l : Int) + (t1 : Int)) = (h : Int)) : l = i ∧ h = i := by
  rw [Int.natCast_zero, Int.zero_mul] at e1
  rw [Int.pow_zero, Int.mul_one] at e3
  rw [Int.pow_zero] at e4
  unfold wrap64 at *
  omega
theorem bounds_yes (p i : Nat) (h1 : 1 ≤ p) (h2 : p ≤ 14) (hi : i < (64 - p) * 2 ^ p) (w : World) :
    Calls Try.prog 59 #[.int .i64 (p : Int), .int .i64 (i : Int)] w fun e w' => (∃ n, w' = w.drewN n) ∧ e = three (lo (2 ^ p) i : Nat) ((lo (2 ^ p) i + 2 ^ kk (2 ^ p) i - 1 : Nat) : Int) 0 := by
  have c1 : (0 : Int) ≤ (p : Int) := by omega
  have c2 : ¬ (i : Int) < 0 := by omega
  have c3 : ¬ (((64 - p) * 2 ^ p : Nat) : Int) ≤ (i : Int) := by omega
  have HP : Hid (∀ W, _) := pr_yes p h1 h2
  have HL : Hid (∀ W, _) := len_yes p h1 h2
  obtain ⟨k, K, r, l, t, t1, h, hk, hl, hh, e7, e1, e2, e3, e4, e5, e6⟩ := ends p i h2 hi
  rw [← hh, ← hl]
  have hi63 : i < 9223372036854775808 := Nat.lt_of_lt_of_le hi (Nat.le_trans (len_le p h2) (by decide))
  clear hi hl hh
  have hk0 : (0 : Int) ≤ (k : Int) := by omega
  generalize (64 - p) * 2 ^ p = n at *
  rcases e7 with ⟨rfl, z0⟩ | e7
  · obtain ⟨rfl, rfl⟩ := zero_case hi63 e1 e2 e3 e4 e5 e6
    clear e1 e2 e3 e4 e5 e6 hk hk0
    have hw : wrap64 (h : Int) = (h : Int) := wrap_small (by omega) (by omega)
    go_enter Try.func59, Try.ntmps59
    go_wp2_with (first
      | (go_at_call 51; with_reducible refine (HP.out _).mono ?_; rintro e w1 ⟨rfl, rfl⟩)
      | (go_at_call 31; with_reducible refine (HL.out _).mono ?_; rintro e w1 ⟨rfl, rfl⟩))
    go_region
    go_wp2_with fail
    go_ret3
    exact ⟨⟨1, rfl⟩, three_of (by first | rfl | exact hw | simp [hw]) (by first | rfl | exact hw | simp [hw])⟩
  · go_enter Try.func59, Try.ntmps59
    go_wp2_with (first
      | (go_at_call 51; with_reducible refine (HP.out _).mono ?_; rintro e w1 ⟨rfl, rfl⟩)
      | (go_at_call 31; with_reducible refine (HL.out _).mono ?_; rintro e w1 ⟨rfl, rfl⟩))
    go_region
    go_wp2_with fail
    go_ret3
    exact ⟨⟨1, rfl⟩, three_of e3 e6⟩
/-- No bucket. -/
theorem bounds_range (p : Nat) (i : Int) (h1 : 1 ≤ p) (h2 : p ≤ 14) (hi : ¬ (0 ≤ i ∧ i < (((64 - p) * 2 ^ p : Nat) : Int))) (w : World) :
    Calls Try.prog 59 #[.int .i64 (p : Int), .int .i64 i] w fun e w' => (∃ n, w' = w.drewN n) ∧ e = three 0 0 2 := by
  have HP : Hid (∀ W, _) := pr_yes p h1 h2
  have HL : Hid (∀ W, _) := len_yes p h1 h2
  generalize (64 - p) * 2 ^ p = n at *
  by_cases c : i < 0
  · clear hi
    go_enter Try.func59, Try.ntmps59
    go_wp2_with (first
      | (go_at_call 51; with_reducible refine (HP.out _).mono ?_; rintro e w1 ⟨rfl, rfl⟩)
      | (go_at_call 31; with_reducible refine (HL.out _).mono ?_; rintro e w1 ⟨rfl, rfl⟩))
    go_ret3
    exact ⟨⟨0, rfl⟩, rfl⟩
  · have d : (n : Int) ≤ i := by omega
    clear hi
    go_enter Try.func59, Try.ntmps59
    go_wp2_with (first
      | (go_at_call 51; with_reducible refine (HP.out _).mono ?_; rintro e w1 ⟨rfl, rfl⟩)
      | (go_at_call 31; with_reducible refine (HL.out _).mono ?_; rintro e w1 ⟨rfl, rfl⟩))
    go_ret3
    exact ⟨⟨0, rfl⟩, rfl⟩
theorem bounds_arg (p i : Int) (h : ¬ (1 ≤ p ∧ p ≤ 14)) (w : World) :
    Calls Try.prog 59 #[.int .i64 p, .int .i64 i] w fun e w' => (∃ n, w' = w.drewN n) ∧ e = three 0 0 1 := by
  have HP : Hid (∀ W, _) := pr_no p h
  clear h
  go_enter Try.func59, Try.ntmps59
  go_wp2_with (go_at_call 51; with_reducible refine (HP.out _).mono ?_; rintro e w1 ⟨rfl, rfl⟩)
  go_ret3
  exact ⟨⟨0, rfl⟩, rfl⟩
theorem high_of {p i l h e : Int} (H : ∀ W, Calls Try.prog 59 #[.int .i64 p, .int .i64 i] W fun x w' => (∃ n, w' = W.drewN n) ∧ x = three l h e) (w : World) :
    Calls Try.prog 44 #[.int .i64 p, .int .i64 i] w fun x w' => (∃ n, w' = w.drewN n) ∧ x = two h e := by
  have HP : Hid _ := H
  go_enter Try.func44, Try.ntmps44
  go_wp2_with (go_at_call 59; with_reducible refine (HP.out _).mono ?_; rintro e w1 ⟨⟨n, rfl⟩, rfl⟩)
  go_ret2
  exact ⟨⟨n, rfl⟩, rfl⟩
end Go.Proofs.Ythhoklgfgandpaa
