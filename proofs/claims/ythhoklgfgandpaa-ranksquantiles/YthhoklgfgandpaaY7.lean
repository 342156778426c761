/- Rank and Quantile, the code's. Own work of the verifier. -/
import Derived.Test.YthhoklgfgandpaaY6
import Derived.Test.YthhoklgfgandpaaT6
import Derived.Test.YthhoklgfgandpaaE8
namespace Go.Proofs.Ythhoklgfgandpaa
open Go.RowKit

theorem cmul64_any (x y : Int) (hx0 : 0 ≤ x) (hx : x < 18446744073709551616) (hy0 : 0 ≤ y) (hy : y < 18446744073709551616) (w : World) :
    Calls Try.prog 57 #[.int .u64 x, .int .u64 y] w fun e w' => e = .returned (.tuple #[.int .u64 (hiOf (x * y)), .int .u64 (loOf (x * y))]) ∧ w' = w := by
  obtain ⟨x, rfl⟩ := Int.eq_ofNat_of_zero_le hx0
  obtain ⟨y, rfl⟩ := Int.eq_ofNat_of_zero_le hy0
  refine (Try.bits_Mul64 x y (by omega) (by omega) w).mono ?_
  rintro e w' ⟨rfl, rfl⟩
  refine ⟨?_, rfl⟩
  unfold hiOf loOf
  rw [← Int.natCast_mul]
  simp only [Int.natCast_ediv, Int.natCast_emod]
  rfl
set_option maxHeartbeats 400000 in
theorem cmul_any (x y : Int) (hx0 : 0 ≤ x) (hx : x < 18446744073709551616) (hy0 : 0 ≤ y) (hy : y < 18446744073709551616) (w : World) :
    Calls Try.prog 40 #[.int .u64 x, .int .u64 y] w fun e w' => e = .returned (.tuple #[.int .u64 (hiOf (x * y)), .int .u64 (loOf (x * y))]) ∧ w' = w := by
  go_enter Try.func40, Try.ntmps40
  go_wp2_with fail
  refine (cmul64_any x y hx0 hx hy0 hy _).mono ?_
  rintro e w1 ⟨rfl, rfl⟩
  go_wp2
  go_ret2
  exact ⟨rfl, rfl⟩
set_option maxHeartbeats 1000000 in
theorem cdiv_any (hi lo y : Int) (h0 : 0 ≤ hi) (h1 : 0 ≤ lo) (h2 : lo < 18446744073709551616) (h3 : hi < y) (h4 : y < 18446744073709551616) (w : World) :
    Calls Try.prog 41 #[.int .u64 hi, .int .u64 lo, .int .u64 y] w fun e w' =>
      e = .returned (.tuple #[.int .u64 ((hi * 18446744073709551616 + lo) / y), .int .u64 ((hi * 18446744073709551616 + lo) % y), .int .i64 0]) ∧ Below w.heap.size w w' := by
  have hz : (y == 0) = false := by rw [beq_eq_false_iff_ne]; omega
  have HD : Hid _ := div64_any hi lo y h0 h1 h2 h3 h4
  generalize (hi * 18446744073709551616 + lo) / y = q at *
  generalize (hi * 18446744073709551616 + lo) % y = r at *
  go_enter Try.func41, Try.ntmps41
  go_wp2_with fail
  refine (HD.out _).mono ?_
  rintro e w1 ⟨rfl, k, rfl⟩
  go_wp2
  go_ret3
  exact ⟨rfl, below_drew _ _⟩
theorem cdiv_w (H l Y : Nat) (hl : l < 18446744073709551616) (hH : H < Y) (hY : Y < 18446744073709551616) (w : World) :
    Calls Try.prog 41 #[.int .u64 H, .int .u64 l, .int .u64 Y] w fun e w' =>
      e = .returned (.tuple #[.int .u64 (((H * 18446744073709551616 + l) / Y : Nat) : Int), .int .u64 (((H * 18446744073709551616 + l) % Y : Nat) : Int), .int .i64 0]) ∧ Below w.heap.size w w' := by
  refine (cdiv_any (H : Int) (l : Int) (Y : Int) (by omega) (by omega) (by omega) (by omega) (by omega) w).mono ?_
  rintro e w' ⟨rfl, hb⟩
  exact ⟨rfl, hb⟩
set_option maxHeartbeats 1000000 in
theorem crank_good (n num den : Nat) (h1 : 1 ≤ n) (hn : n < 18446744073709551616) (h2 : num ≤ den) (h3 : 1 ≤ den) (h4 : den < 9223372036854775808) (w : World) :
    Calls Try.prog 18 #[.int .u64 (n : Int), .int .i64 (num : Int), .int .i64 (den : Int)] w fun e w' => e = twoU (rkN n num den : Nat) 0 ∧ Below w.heap.size w w' := by
  have c1 : ¬ (den : Int) < 1 := by omega
  have c2 : ¬ (num : Int) < 0 := by omega
  have c3 : ¬ (den : Int) < (num : Int) := by omega
  have c4 : ((n : Int) == 0) = false := by rw [beq_eq_false_iff_ne]; omega
  obtain ⟨r1, r2, r3⟩ := rkN_le (n := n) h1 h2 h3
  have HM : Hid (∀ W, _) := cmul_any (n : Int) (num : Int) (by omega) (by omega) (by omega) (by omega)
  have hmul : (n : Int) * (num : Int) = ((n * num : Nat) : Int) := by rw [Int.natCast_mul]
  rw [hmul] at HM
  have hle : n * num < 18446744073709551616 * den := Nat.lt_of_le_of_lt (Nat.mul_le_mul_left _ h2) (Nat.mul_lt_mul_of_pos_right hn (by omega))
  have hhi : hiOf ((n * num : Nat) : Int) = ((n * num / 18446744073709551616 : Nat) : Int) := by unfold hiOf; omega
  have hlo : loOf ((n * num : Nat) : Int) = ((n * num % 18446744073709551616 : Nat) : Int) := by unfold loOf; omega
  have HD : Hid (∀ W, _) := cdiv_w (n * num / 18446744073709551616) (n * num % 18446744073709551616) den (by omega) (by rw [Nat.div_lt_iff_lt_mul (by decide)]; omega) (by omega)
  rw [show n * num / 18446744073709551616 * 18446744073709551616 + n * num % 18446744073709551616 = n * num by omega] at HD
  rw [hhi, hlo] at HM
  unfold rkN at *
  clear hmul hle hhi hlo
  generalize n * num / 18446744073709551616 = H at *
  generalize n * num % 18446744073709551616 = l at *
  generalize n * num / den = q at *
  generalize n * num % den = r at *
  by_cases hr : 0 < r
  · have c5 : (0 : Int) < (r : Int) := by omega
    have hw : IntKind.u64.wrap ((q : Int) + 1) = ((q + 1 : Nat) : Int) := by have := r3 hr; rw [IntKind.wrap_u64]; omega
    rw [if_pos hr]
    have hmax : max ((q + 1 : Nat) : Int) 1 = ((max (q + 1) 1 : Nat) : Int) := by omega
    go_enter Try.func18, Try.ntmps18
    go_wp2_with (first
      | (go_at_call 40; with_reducible refine (HM.out _).mono ?_; rintro e w1 ⟨rfl, rfl⟩)
      | (go_at_call 41; with_reducible refine (HD.out _).mono ?_; rintro e w2 ⟨rfl, hb2⟩))
    go_ret2
    exact ⟨twoU_of (by omega), hb2⟩
  · have c5 : ¬ (0 : Int) < (r : Int) := by omega
    rw [if_neg hr]
    by_cases hq : q = 0
    · subst hq
      go_enter Try.func18, Try.ntmps18
      go_wp2_with (first
        | (go_at_call 40; with_reducible refine (HM.out _).mono ?_; rintro e w1 ⟨rfl, rfl⟩)
        | (go_at_call 41; with_reducible refine (HD.out _).mono ?_; rintro e w2 ⟨rfl, hb2⟩))
      go_ret2
      exact ⟨twoU_of (by omega), hb2⟩
    · have c6 : (1 : Int) ≤ (q : Int) := by omega
      go_enter Try.func18, Try.ntmps18
      go_wp2_with (first
        | (go_at_call 40; with_reducible refine (HM.out _).mono ?_; rintro e w1 ⟨rfl, rfl⟩)
        | (go_at_call 41; with_reducible refine (HD.out _).mono ?_; rintro e w2 ⟨rfl, hb2⟩))
      go_ret2
      exact ⟨twoU_of (by omega), hb2⟩
theorem crank_arg (n : Nat) (num den : Int) (h : ¬ (1 ≤ den ∧ 0 ≤ num ∧ num ≤ den)) (w : World) :
    Calls Try.prog 18 #[.int .u64 (n : Int), .int .i64 num, .int .i64 den] w fun e w' => e = twoU 0 1 ∧ Below w.heap.size w w' := by
  by_cases c1 : den < 1
  · clear h
    go_enter Try.func18, Try.ntmps18
    go_wp2_with fail
    go_ret2
    exact ⟨rfl, Below.refl _ _⟩
  · by_cases c2 : num < 0
    · clear h
      go_enter Try.func18, Try.ntmps18
      go_wp2_with fail
      go_ret2
      exact ⟨rfl, Below.refl _ _⟩
    · have c3 : den < num := by omega
      clear h
      go_enter Try.func18, Try.ntmps18
      go_wp2_with fail
      go_ret2
      exact ⟨rfl, Below.refl _ _⟩
theorem crank_none (num den : Nat) (h2 : num ≤ den) (h3 : 1 ≤ den) (w : World) :
    Calls Try.prog 18 #[.int .u64 0, .int .i64 (num : Int), .int .i64 (den : Int)] w fun e w' => e = twoU 0 16 ∧ Below w.heap.size w w' := by
  have c1 : ¬ (den : Int) < 1 := by omega
  have c2 : ¬ (num : Int) < 0 := by omega
  have c3 : ¬ (den : Int) < (num : Int) := by omega
  go_enter Try.func18, Try.ntmps18
  go_wp2_with fail
  go_ret2
  exact ⟨rfl, Below.refl _ _⟩
theorem crank_any (n : Nat) (num den : Int) (hn : n < 18446744073709551616) (hd : den < 9223372036854775808) (w : World) :
    Calls Try.prog 18 #[.int .u64 (n : Int), .int .i64 num, .int .i64 den] w fun e w' => e = twoU (rkF n num den).1 (rkF n num den).2 ∧ Below w.heap.size w w' := by
  unfold rkF
  by_cases h : 1 ≤ den ∧ 0 ≤ num ∧ num ≤ den
  · rw [if_pos h]
    obtain ⟨D, rfl⟩ := Int.eq_ofNat_of_zero_le (by omega : 0 ≤ den)
    obtain ⟨M, rfl⟩ := Int.eq_ofNat_of_zero_le h.2.1
    by_cases h0 : n = 0
    · rw [if_pos h0]
      subst h0
      exact crank_none M D (by omega) (by omega) w
    · rw [if_neg h0]
      exact crank_good n M D (by omega) hn (by omega) (by omega) (by omega) w
  · rw [if_neg h]
    exact crank_arg n num den h w
set_option maxHeartbeats 1000000 in
theorem cquant_ok (w : World) (v : Value) (p : Nat) (L : List Cn) (hS : SN w v L) (hW : Wc L) (hl : L.length ≤ 4194304) (hx : MayIs (p : Int) L 0) (num den : Int) (hd : den < 9223372036854775808) :
    Calls Try.prog 20 #[.int .i64 (p : Int), v, .int .i64 num, .int .i64 den] w fun e w' => e = two (qF p L num den).1 (qF p L num den).2 ∧ Below w.heap.size w w' := by
  obtain ⟨hp, hsum, hidx⟩ := may_ok hx
  obtain ⟨ao, b, o, cap, hv, _⟩ := hS.sc
  subst hv
  have HM : Hid (∀ W, Below w.heap.size w W → _) := fun W k => may_any W _ L (p : Int) 0 (hS.below k) hW hl hx
  have HT : Hid (∀ W, Below w.heap.size w W → _) := fun W k => total_any W _ L (hS.below k) hW hl
  rw [tot_sum hsum] at HT
  have HK : Hid (∀ W, _) := crank_any (sumN L) num den (by omega) hd
  have HQ : Hid _ := rkF_ok (n := sumN L) (num := num) (den := den)
  have hb0 := Below.refl w.heap.size w
  unfold qF
  by_cases he : (rkF (sumN L) num den).2 = 0
  · rw [if_pos he]
    obtain ⟨q1, q2⟩ := HQ.out he
    obtain ⟨c, hc, hat⟩ := atF_ok L _ q1 q2
    obtain ⟨j, hj, rfl⟩ := List.getElem_of_mem hc
    have HA : Hid (∀ W, Below w.heap.size w W → _) := fun W k => at_any W _ L (rkF (sumN L) num den).1 (hS.below k) hW hl (by omega)
    rw [he] at HK
    rw [hat] at HA ⊢
    have HH : Hid (∀ W, _) := chigh_at p (by omega) (by omega) L[j].1 (hidx j hj).1 (by have := (hidx j hj).2.1; simpa using this)
    clear hat hc hidx he HQ q1 q2
    generalize L[j].1 = x at *
    generalize (rkF (sumN L) num den).1 = r at *
    generalize sumN L = S at *
    generalize hiV p x.toNat = h at *
    go_enter Try.func20, Try.ntmps20
    go_wp2_with (first
      | (go_at_call 11; with_reducible refine (HM.out _ hb0).mono ?_; rintro e w1 ⟨rfl, hb1⟩)
      | (go_at_call 13; with_reducible refine (HT.out _ hb1).mono ?_; rintro e w2 ⟨rfl, hb2⟩; have hb2' := bt hb1 hb2)
      | (go_at_call 18; with_reducible refine (HK.out _).mono ?_; rintro e w3 ⟨rfl, hb3⟩; have hb3' := bt hb2' hb3)
      | (go_at_call 9; with_reducible refine (HA.out _ hb3').mono ?_; rintro e w4 ⟨rfl, hb4⟩; have hb4' := bt hb3' hb4)
      | (go_at_call 44; with_reducible refine (HH.out _).mono ?_; rintro e w5 ⟨rfl, hb5⟩; have hb5' := bt hb4' hb5))
    go_ret2
    exact ⟨rfl, hb5'⟩
  · rw [if_neg he]
    have t1 : ((rkF (sumN L) num den).2 != 0) = true := by rw [bne_iff_ne]; exact he
    clear hidx he HQ
    generalize (rkF (sumN L) num den).2 = x at *
    generalize (rkF (sumN L) num den).1 = r at *
    generalize sumN L = S at *
    go_enter Try.func20, Try.ntmps20
    go_wp2_with (first
      | (go_at_call 11; with_reducible refine (HM.out _ hb0).mono ?_; rintro e w1 ⟨rfl, hb1⟩)
      | (go_at_call 13; with_reducible refine (HT.out _ hb1).mono ?_; rintro e w2 ⟨rfl, hb2⟩; have hb2' := bt hb1 hb2)
      | (go_at_call 18; with_reducible refine (HK.out _).mono ?_; rintro e w3 ⟨rfl, hb3⟩; have hb3' := bt hb2' hb3))
    go_ret2
    exact ⟨rfl, hb3'⟩
theorem cquant_not (w : World) (v : Value) (p : Int) (L : List Cn) (hS : SN w v L) (hW : Wc L) (hl : L.length ≤ 4194304) {x : Int} (hx : MayIs p L x) (h0 : x ≠ 0) (num den : Int) :
    Calls Try.prog 20 #[.int .i64 p, v, .int .i64 num, .int .i64 den] w fun e w' => e = two 0 x ∧ Below w.heap.size w w' := by
  obtain ⟨ao, b, o, cap, hv, _⟩ := hS.sc
  subst hv
  have HM : Hid (∀ W, Below w.heap.size w W → _) := fun W k => may_any W _ L p x (hS.below k) hW hl hx
  have t1 : (x != 0) = true := by rw [bne_iff_ne]; exact h0
  have hb0 := Below.refl w.heap.size w
  clear h0 hx
  go_enter Try.func20, Try.ntmps20
  go_wp2_with (go_at_call 11; with_reducible refine (HM.out _ hb0).mono ?_; rintro e w1 ⟨rfl, hb1⟩)
  go_ret2
  exact ⟨rfl, hb1⟩
end Go.Proofs.Ythhoklgfgandpaa
