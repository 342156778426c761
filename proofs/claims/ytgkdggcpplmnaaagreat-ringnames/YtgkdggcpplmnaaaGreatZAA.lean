/- Buckets, in whole numbers. Own work of the verifier. -/
import Derived.Handy
import Derived.Test.YtgkdggcpplmnaaaGreatRows
import Derived.WalkKit
import Derived.WalkSpells
import Derived.RowKit3
import Derived.Below
import Derived.Outline
import Derived.Deep.QuietTactic
import Derived.Deep.Draws
import Derived.BigQuiet
import Derived.Laws.Bits64
import Derived.Laws.BitsAllLaws
import Derived.Laws.ShiftsVarLaws
import Derived.Deep.RegionHeld3
namespace Go.Proofs.YtgkdggcpplmnaaaGreat

/-- How many low bits the bucket of v does not look at, P being the least value beyond the first group. -/
def IsK (P v k : Nat) : Prop := v / 2 ^ (k + 1) < P ∧ (k = 0 ∨ P ≤ v / 2 ^ k)
def idx (P v k : Nat) : Nat := k * P + v / 2 ^ k
def kk (P i : Nat) : Nat := i / P - 1
def rr (P i : Nat) : Nat := i - kk P i * P
def lo (P i : Nat) : Nat := rr P i * 2 ^ kk P i

theorem div_half (v k : Nat) : v / 2 ^ (k + 1) = v / 2 ^ k / 2 := by rw [Nat.pow_succ, Nat.div_div_eq_div_mul]
theorem rr_lt {P : Nat} (i : Nat) (hP : 0 < P) : rr P i < 2 * P ∧ (kk P i = 0 ∨ P ≤ rr P i) ∧ kk P i * P + rr P i = i := by
  unfold rr kk
  have hm := Nat.div_add_mod i P
  have hl := Nat.mod_lt i hP
  rw [Nat.mul_comm] at hm
  generalize hq : i / P = q at *
  rcases Nat.eq_zero_or_pos q with e | e
  · subst e
    simp at hm ⊢
    omega
  · obtain ⟨q', rfl⟩ : ∃ q', q = q' + 1 := ⟨q - 1, by omega⟩
    rw [Nat.add_mul] at hm
    simp only [Nat.add_sub_cancel]
    omega
/-- Whatever lies between the ends. -/
theorem between {P i x : Nat} (hP : 0 < P) (h1 : lo P i ≤ x) (h2 : x < lo P i + 2 ^ kk P i) : IsK P x (kk P i) ∧ idx P x (kk P i) = i := by
  obtain ⟨a1, a2, a3⟩ := rr_lt i hP
  have e : x / 2 ^ kk P i = rr P i := by
    unfold lo at h1 h2
    apply Nat.div_eq_of_lt_le h1
    rw [Nat.add_mul, Nat.one_mul]
    exact h2
  refine ⟨⟨?_, ?_⟩, ?_⟩
  · rw [div_half, e]; omega
  · rw [e]; exact a2
  · unfold idx; rw [e, a3]
theorem kk_top {p i : Nat} (h : i < (64 - p) * 2 ^ p) (hp : p ≤ 14) : kk (2 ^ p) i + p ≤ 62 := by
  have : i / 2 ^ p < 64 - p := Nat.div_lt_of_lt_mul (by rw [Nat.mul_comm]; exact h)
  unfold kk
  omega
theorem hi_top {p i : Nat} (h : i < (64 - p) * 2 ^ p) (hp : p ≤ 14) : lo (2 ^ p) i + 2 ^ kk (2 ^ p) i ≤ 2 ^ 63 := by
  obtain ⟨a1, _, _⟩ := rr_lt i (Nat.two_pow_pos p)
  have hk := kk_top h hp
  unfold lo
  generalize kk (2 ^ p) i = k at *
  have e : (rr (2 ^ p) i + 1) * 2 ^ k ≤ (2 * 2 ^ p) * 2 ^ k := Nat.mul_le_mul_right _ a1
  have e2 : 2 * 2 ^ p * 2 ^ k = 2 ^ (1 + p + k) := by rw [Nat.pow_add, Nat.pow_add]
  have e3 : 2 ^ (1 + p + k) ≤ 2 ^ 63 := Nat.pow_le_pow_right (by decide) (by omega)
  rw [Nat.add_mul, Nat.one_mul] at e
  omega
end Go.Proofs.YtgkdggcpplmnaaaGreat
/- THE LEAVES of bucket. Own work of the verifier. -/
namespace Go.Proofs.YtgkdggcpplmnaaaGreat
open Go.RowKit

theorem retI {k : IntKind} {A B : Int} (h : A = B) : Ending.returned (Value.int k A) = .returned (.int k B) := by rw [h]
theorem retB {A B : Bool} (h : A = B) : Ending.returned (Value.bool A) = .returned (.bool B) := by rw [h]
theorem pow_lt (p : Nat) (h : p ≤ 14) : 2 ^ p ≤ 16384 := by
  have : 2 ^ p ≤ 2 ^ 14 := Nat.pow_le_pow_right (by decide) h
  omega
theorem pow_lt' (p : Nat) (h : p ≤ 62) : 2 ^ p ≤ 4611686018427387904 := by
  have : 2 ^ p ≤ 2 ^ 62 := Nat.pow_le_pow_right (by decide) h
  omega
theorem cast_pow (p : Nat) : (2 : Int) ^ p = ((2 ^ p : Nat) : Int) := by simp
theorem wrap_small {x : Int} (h1 : 0 ≤ x) (h2 : x < 9223372036854775808) : wrap64 x = x := by unfold wrap64; omega
theorem wrap_nat {x : Int} {n : Nat} (h1 : x = (n : Int)) (h2 : n < 9223372036854775808) : wrap64 x = (n : Int) := by rw [h1]; exact wrap_small (by omega) (by omega)
theorem wrap_pow (p : Nat) (h : p ≤ 62) : wrap64 ((2 : Int) ^ p) = ((2 ^ p : Nat) : Int) := wrap_nat (cast_pow p) (by have := pow_lt' p h; omega)
theorem len_le (p : Nat) (h : p ≤ 14) : (64 - p) * 2 ^ p ≤ 1048576 := Nat.mul_le_mul (by omega : 64 - p ≤ 64) (pow_lt p h)
theorem len_int (p : Nat) (h : p ≤ 14) : ((64 : Int) - (p : Int)) * 2 ^ p = (((64 - p) * 2 ^ p : Nat) : Int) := by
  rw [cast_pow, show (64 : Int) - (p : Int) = ((64 - p : Nat) : Int) by omega, Int.natCast_mul]

theorem pr_yes (p : Nat) (h1 : 1 ≤ p) (h2 : p ≤ 14) (w : World) : Calls Tryz.prog 107 #[.int .i64 (p : Int)] w fun e w' => e = .returned (.bool true) ∧ w' = w := by
  have c1 : (1 : Int) ≤ (p : Int) := by omega
  have c2 : (p : Int) ≤ 14 := by omega
  go_enter Tryz.func107, Tryz.ntmps107
  go_wp2
  go_ret
  exact ⟨rfl, rfl⟩
theorem pr_no (p : Int) (h : ¬ (1 ≤ p ∧ p ≤ 14)) (w : World) : Calls Tryz.prog 107 #[.int .i64 p] w fun e w' => e = .returned (.bool false) ∧ w' = w := by
  by_cases c : 1 ≤ p
  · have d : ¬ p ≤ 14 := fun k => h ⟨c, k⟩
    clear h
    go_enter Tryz.func107, Tryz.ntmps107
    go_wp2
    go_ret
    exact ⟨rfl, rfl⟩
  · clear h
    go_enter Tryz.func107, Tryz.ntmps107
    go_wp2
    go_ret
    exact ⟨rfl, rfl⟩
theorem len_yes (p : Nat) (h1 : 1 ≤ p) (h2 : p ≤ 14) (w : World) : Calls Tryz.prog 93 #[.int .i64 (p : Int)] w fun e w' => e = .returned (.int .i64 (((64 - p) * 2 ^ p : Nat) : Int)) ∧ w' = w := by
  have c1 : (1 : Int) ≤ (p : Int) := by omega
  have c2 : (p : Int) ≤ 14 := by omega
  go_enter Tryz.func93, Tryz.ntmps93
  go_wp2_with (go_at_call 107; with_reducible refine (pr_yes p h1 h2 _).mono ?_; rintro e w1 ⟨rfl, rfl⟩)
  go_ret
  exact ⟨retI (wrap_nat (len_int p h2) (by have := len_le p h2; omega)), rfl⟩
theorem len_no (p : Int) (h : ¬ (1 ≤ p ∧ p ≤ 14)) (w : World) : Calls Tryz.prog 93 #[.int .i64 p] w fun e w' => e = .returned (.int .i64 0) ∧ w' = w := by
  have H : Hid (∀ W, _) := pr_no p h
  clear h
  go_enter Tryz.func93, Tryz.ntmps93
  go_wp2_with (go_at_call 107; with_reducible refine (H.out _).mono ?_; rintro e w1 ⟨rfl, rfl⟩)
  go_ret
  exact ⟨rfl, rfl⟩
theorem window {p v k s : Nat} (h : k + max (2 * s) 1 ≤ 64 ∧ v / 2 ^ (k + max (2 * s) 1) < 2 ^ p ∧ (k = 0 ∨ 2 ^ p ≤ v / 2 ^ k)) (hs : s = 1 ∨ s = 2 ∨ s = 4 ∨ s = 8 ∨ s = 16 ∨ s = 32) :
    (2 ^ p ≤ v / 2 ^ (k + s) → (k + s) + max (2 * (s / 2)) 1 ≤ 64 ∧ v / 2 ^ ((k + s) + max (2 * (s / 2)) 1) < 2 ^ p ∧ ((k + s) = 0 ∨ 2 ^ p ≤ v / 2 ^ (k + s))) ∧
    (¬ 2 ^ p ≤ v / 2 ^ (k + s) → k + max (2 * (s / 2)) 1 ≤ 64 ∧ v / 2 ^ (k + max (2 * (s / 2)) 1) < 2 ^ p ∧ (k = 0 ∨ 2 ^ p ≤ v / 2 ^ k)) := by
  have e1 : max (2 * s) 1 = 2 * s := by omega
  have e2 : max (2 * (s / 2)) 1 = s := by omega
  rw [e1] at h
  rw [e2]
  obtain ⟨a, b, c⟩ := h
  exact ⟨fun d => ⟨by omega, by rw [show k + s + s = k + 2 * s by omega]; exact b, Or.inr d⟩, fun d => ⟨by omega, by omega, c⟩⟩
end Go.Proofs.YtgkdggcpplmnaaaGreat
/- THE CALLS of bucket. Own work of the verifier. -/
namespace Go.Proofs.YtgkdggcpplmnaaaGreat
open Go.RowKit

abbrev two (a e : Int) : Ending := .returned (.tuple #[.int .i64 a, .int .i64 e])
abbrev three (a b e : Int) : Ending := .returned (.tuple #[.int .i64 a, .int .i64 b, .int .i64 e])
theorem three_of {a b c d e : Int} (h : a = b) (h' : c = d) : three a c e = three b d e := by rw [h, h']

theorem sub_nat {x y : Nat} (h : y ≤ x) (hx : x < 9223372036854775808) : wrap64 ((x : Int) - (y : Int)) = ((x - y : Nat) : Int) := by unfold wrap64; omega
theorem sub_one {x : Nat} (h : 0 < x) (hx : x < 9223372036854775808) : wrap64 ((x : Int) - 1) = ((x - 1 : Nat) : Int) := by unfold wrap64; omega
theorem add_nat {x y : Nat} (h : x + y < 9223372036854775808) : wrap64 ((x : Int) + (y : Int)) = ((x + y : Nat) : Int) := by unfold wrap64; omega
theorem mul_pow {x k : Nat} (h : x * 2 ^ k < 9223372036854775808) : wrap64 ((x : Int) * 2 ^ k) = ((x * 2 ^ k : Nat) : Int) := wrap_nat (by rw [cast_pow, Int.natCast_mul]) h
theorem div_pow (i p : Nat) : (i : Int) / 2 ^ p = ((i / 2 ^ p : Nat) : Int) := by rw [cast_pow, ← Int.natCast_ediv]
/-- What a bucket's ends are reckoned of. -/
theorem ends (p i : Nat) (h2 : p ≤ 14) (hi : i < (64 - p) * 2 ^ p) : ∃ k K r l t t1 h : Nat, k ≤ 62 ∧ l = lo (2 ^ p) i ∧ h = lo (2 ^ p) i + 2 ^ kk (2 ^ p) i - 1 ∧
    ((k = 0 ∧ (i : Int) / 2 ^ p = 0) ∨ wrap64 ((i : Int) / 2 ^ p - 1) = (k : Int)) ∧ wrap64 ((k : Int) * 2 ^ p) = (K : Int) ∧ wrap64 ((i : Int) - (K : Int)) = (r : Int) ∧ wrap64 ((r : Int) * 2 ^ k) = (l : Int) ∧ wrap64 ((2 : Int) ^ k) = (t : Int) ∧
      wrap64 ((t : Int) - 1) = (t1 : Int) ∧ wrap64 ((l : Int) + (t1 : Int)) = (h : Int) := by
  have hkt := kk_top hi h2
  have hlo := hi_top hi h2
  obtain ⟨r1, r2, r3⟩ := rr_lt i (Nat.two_pow_pos p)
  have hile := len_le p h2
  have hkl := pow_lt' (kk (2 ^ p) i) (by omega)
  have hp := Nat.two_pow_pos (kk (2 ^ p) i)
  have e63 : (2 : Nat) ^ 63 = 9223372036854775808 := by decide
  rw [e63] at hlo
  have hii : i < 9223372036854775808 := by
    generalize (64 - p) * 2 ^ p = z at *
    omega
  have hK : kk (2 ^ p) i * 2 ^ p ≤ i := by
    generalize kk (2 ^ p) i * 2 ^ p = z at *
    omega
  refine ⟨kk (2 ^ p) i, kk (2 ^ p) i * 2 ^ p, rr (2 ^ p) i, lo (2 ^ p) i, 2 ^ kk (2 ^ p) i, 2 ^ kk (2 ^ p) i - 1, lo (2 ^ p) i + 2 ^ kk (2 ^ p) i - 1, by omega, rfl, rfl, ?_, ?_, ?_, ?_, ?_, ?_, ?_⟩
  · rw [div_pow]
    rcases Nat.eq_zero_or_pos (i / 2 ^ p) with z | z
    · exact Or.inl ⟨by unfold kk; omega, by rw [z]; rfl⟩
    · exact Or.inr (sub_one z (Nat.lt_of_le_of_lt (Nat.div_le_self _ _) hii))
  · exact mul_pow (Nat.lt_of_le_of_lt hK hii)
  · exact sub_nat hK hii
  · refine mul_pow ?_
    change lo (2 ^ p) i < _
    generalize lo (2 ^ p) i = z at *
    generalize 2 ^ kk (2 ^ p) i = y at *
    omega
  · exact wrap_pow _ (by omega)
  · refine sub_one hp ?_
    generalize 2 ^ kk (2 ^ p) i = y at *
    omega
  · rw [add_nat]
    · congr 1
      generalize lo (2 ^ p) i = z at *
      generalize 2 ^ kk (2 ^ p) i = y at *
      omega
    · generalize lo (2 ^ p) i = z at *
      generalize 2 ^ kk (2 ^ p) i = y at *
      omega
theorem zero_case {i K r l t t1 h : Nat} {x : Int} (hi : i < 9223372036854775808) (e1 : wrap64 (((0 : Nat) : Int) * x) = (K : Int)) (e2 : wrap64 ((i : Int) - (K : Int)) = (r : Int)) (e3 : wrap64 ((r : Int) * 2 ^ 0) = (l : Int)) (e4 : wrap64 ((2 : Int) ^ 0) = (t : Int))
    (e5 : wrap64 ((t : Int) - 1) = (t1 : Int)) (e6 : wrap64 ((l : Int) + (t1 : Int)) = (h : Int)) : l = i ∧ h = i := by
  rw [Int.natCast_zero, Int.zero_mul] at e1
  rw [Int.pow_zero, Int.mul_one] at e3
  rw [Int.pow_zero] at e4
  unfold wrap64 at *
  omega
theorem bounds_yes (p i : Nat) (h1 : 1 ≤ p) (h2 : p ≤ 14) (hi : i < (64 - p) * 2 ^ p) (w : World) :
    Calls Tryz.prog 95 #[.int .i64 (p : Int), .int .i64 (i : Int)] w fun e w' => (∃ n, w' = w.drewN n) ∧ e = three (lo (2 ^ p) i : Nat) ((lo (2 ^ p) i + 2 ^ kk (2 ^ p) i - 1 : Nat) : Int) 0 := by
  have c1 : (0 : Int) ≤ (p : Int) := by omega
  have c2 : ¬ (i : Int) < 0 := by omega
  have c3 : ¬ (((64 - p) * 2 ^ p : Nat) : Int) ≤ (i : Int) := by omega
  have HP : Hid (∀ W, _) := pr_yes p h1 h2
  have HL : Hid (∀ W, _) := len_yes p h1 h2
  obtain ⟨k, K, r, l, t, t1, h, hk, hl, hh, e7, e1, e2, e3, e4, e5, e6⟩ := ends p i h2 hi
  rw [← hh, ← hl]
  have hi63 : i < 9223372036854775808 := Nat.lt_of_lt_of_le hi (Nat.le_trans (len_le p h2) (by decide))
  clear hi hl hh
  have hk0 : (0 : Int) ≤ (k : Int) := by omega
  generalize (64 - p) * 2 ^ p = n at *
  rcases e7 with ⟨rfl, z0⟩ | e7
  · obtain ⟨rfl, rfl⟩ := zero_case hi63 e1 e2 e3 e4 e5 e6
    clear e1 e2 e3 e4 e5 e6 hk hk0
    have hw : wrap64 (h : Int) = (h : Int) := wrap_small (by omega) (by omega)
    go_enter Tryz.func95, Tryz.ntmps95
    go_wp2_with (first
      | (go_at_call 107; with_reducible refine (HP.out _).mono ?_; rintro e w1 ⟨rfl, rfl⟩)
      | (go_at_call 93; with_reducible refine (HL.out _).mono ?_; rintro e w1 ⟨rfl, rfl⟩))
    go_region
    go_wp2_with fail
    go_ret3
    exact ⟨⟨1, rfl⟩, three_of (by first | rfl | exact hw | simp [hw]) (by first | rfl | exact hw | simp [hw])⟩
  · go_enter Tryz.func95, Tryz.ntmps95
    go_wp2_with (first
      | (go_at_call 107; with_reducible refine (HP.out _).mono ?_; rintro e w1 ⟨rfl, rfl⟩)
      | (go_at_call 93; with_reducible refine (HL.out _).mono ?_; rintro e w1 ⟨rfl, rfl⟩))
    go_region
    go_wp2_with fail
    go_ret3
    exact ⟨⟨1, rfl⟩, three_of e3 e6⟩
/-- Low and High by bounds. -/
theorem low_of {p i l h e : Int} (H : ∀ W, Calls Tryz.prog 95 #[.int .i64 p, .int .i64 i] W fun x w' => (∃ n, w' = W.drewN n) ∧ x = three l h e) (w : World) :
    Calls Tryz.prog 75 #[.int .i64 p, .int .i64 i] w fun x w' => (∃ n, w' = w.drewN n) ∧ x = two l e := by
  have HP : Hid _ := H
  go_enter Tryz.func75, Tryz.ntmps75
  go_wp2_with (go_at_call 95; with_reducible refine (HP.out _).mono ?_; rintro e w1 ⟨⟨n, rfl⟩, rfl⟩)
  go_ret2
  exact ⟨⟨n, rfl⟩, rfl⟩
theorem high_of {p i l h e : Int} (H : ∀ W, Calls Tryz.prog 95 #[.int .i64 p, .int .i64 i] W fun x w' => (∃ n, w' = W.drewN n) ∧ x = three l h e) (w : World) :
    Calls Tryz.prog 76 #[.int .i64 p, .int .i64 i] w fun x w' => (∃ n, w' = w.drewN n) ∧ x = two h e := by
  have HP : Hid _ := H
  go_enter Tryz.func76, Tryz.ntmps76
  go_wp2_with (go_at_call 95; with_reducible refine (HP.out _).mono ?_; rintro e w1 ⟨⟨n, rfl⟩, rfl⟩)
  go_ret2
  exact ⟨⟨n, rfl⟩, rfl⟩
end Go.Proofs.YtgkdggcpplmnaaaGreat
