/- Buckets, in whole numbers. Own work of the verifier. -/
import Derived.Handy
import Derived.Test.YtlgfgeacphkhnaaGreatDoorRows
import Derived.WalkKit
import Derived.WalkSpells
import Derived.RowKit3
import Derived.Below
import Derived.Outline
import Derived.Deep.QuietTactic
import Derived.Deep.Draws
import Derived.BigQuiet
import Derived.Laws.Bits64
import Derived.Laws.BitsAllLaws
import Derived.Laws.ShiftsVarLaws
import Derived.Deep.RegionHeld3
namespace Go.Proofs.YtlgfgeacphkhnaaGreatDoor

def IsK (P v k : Nat) : Prop := v / 2 ^ (k + 1) < P ∧ (k = 0 ∨ P ≤ v / 2 ^ k)
def idx (P v k : Nat) : Nat := k * P + v / 2 ^ k
def kk (P i : Nat) : Nat := i / P - 1
def rr (P i : Nat) : Nat := i - kk P i * P
def lo (P i : Nat) : Nat := rr P i * 2 ^ kk P i

theorem div_half (v k : Nat) : v / 2 ^ (k + 1) = v / 2 ^ k / 2 := by rw [Nat.pow_succ, Nat.div_div_eq_div_mul]
theorem rr_lt {P : Nat} (i : Nat) (hP : 0 < P) : rr P i < 2 * P ∧ (kk P i = 0 ∨ P ≤ rr P i) ∧ kk P i * P + rr P i = i := by
 unfold rr kk
 have hm := Nat.div_add_mod i P
 have hl := Nat.mod_lt i hP
 rw [Nat.mul_comm] at hm
 generalize hq : i / P = q at *
 rcases Nat.eq_zero_or_pos q with e | e
 ·subst e
  simp at hm ⊢
  omega
 ·obtain ⟨q', rfl⟩ : ∃ q', q = q' + 1 := ⟨q - 1, by omega⟩
  rw [Nat.add_mul] at hm
  simp only [Nat.add_sub_cancel]
  omega
theorem between {P i x : Nat} (hP : 0 < P) (h1 : lo P i ≤ x) (h2 : x < lo P i + 2 ^ kk P i) : IsK P x (kk P i) ∧ idx P x (kk P i) = i := by
 obtain ⟨a1, a2, a3⟩ := rr_lt i hP
 have e : x / 2 ^ kk P i = rr P i := by
  unfold lo at h1 h2
  apply Nat.div_eq_of_lt_le h1
  rw [Nat.add_mul, Nat.one_mul]
  exact h2
 refine ⟨⟨?_, ?_⟩, ?_⟩
 ·rw [div_half, e]; omega
 ·rw [e]; exact a2
 ·unfold idx; rw [e, a3]
theorem lo_next {P : Nat} (i : Nat) (hP : 0 < P) : lo P (i + 1) = lo P i + 2 ^ kk P i := by
 unfold lo rr kk
 have hm := Nat.div_add_mod i P
 have hl := Nat.mod_lt i hP
 rw [Nat.mul_comm] at hm
 rcases Nat.lt_or_ge (i % P + 1) P with c | c
 ·have e : (i + 1) / P = i / P := by
   apply Nat.div_eq_of_lt_le
   ·omega
   ·rw [Nat.add_mul]; omega
  rw [e]
  generalize hq : i / P = q at *
  have hle : (q - 1) * P ≤ i := by
   have : (q - 1) * P ≤ q * P := Nat.mul_le_mul_right _ (by omega)
   omega
  have : i + 1 - (q - 1) * P = i - (q - 1) * P + 1 := by omega
  rw [this, Nat.add_mul, Nat.one_mul]
 ·have e : (i + 1) / P = i / P + 1 := by
   apply Nat.div_eq_of_lt_le
   ·rw [Nat.add_mul]; omega
   ·rw [Nat.add_mul, Nat.add_mul]; omega
  rw [e]
  generalize hq : i / P = q at *
  rcases Nat.eq_zero_or_pos q with z | z
  ·subst z; simp at *
  ·obtain ⟨q', rfl⟩ : ∃ q', q = q' + 1 := ⟨q - 1, by omega⟩
   simp only [Nat.add_sub_cancel]
   rw [Nat.add_mul] at hm
   have e1 : i + 1 - (q' + 1) * P = P := by rw [Nat.add_mul]; omega
   have e2 : i - q' * P = 2 * P - 1 := by omega
   rw [e1, e2, Nat.pow_succ, ← Nat.mul_assoc, Nat.mul_comm, ← Nat.mul_assoc]
   have : 2 * P * 2 ^ q' = (2 * P - 1 + 1) * 2 ^ q' := by rw [Nat.sub_add_cancel (by omega)]
   rw [this, Nat.add_mul, Nat.one_mul]
theorem kk_top {p i : Nat} (h : i < (64 - p) * 2 ^ p) (hp : p ≤ 14) : kk (2 ^ p) i + p ≤ 62 := by
 have : i / 2 ^ p < 64 - p := Nat.div_lt_of_lt_mul (by rw [Nat.mul_comm]; exact h)
 unfold kk
 omega
theorem hi_top {p i : Nat} (h : i < (64 - p) * 2 ^ p) (hp : p ≤ 14) : lo (2 ^ p) i + 2 ^ kk (2 ^ p) i ≤ 2 ^ 63 := by
 obtain ⟨a1, _, _⟩ := rr_lt i (Nat.two_pow_pos p)
 have hk := kk_top h hp
 unfold lo
 generalize kk (2 ^ p) i = k at *
 have e : (rr (2 ^ p) i + 1) * 2 ^ k ≤ (2 * 2 ^ p) * 2 ^ k := Nat.mul_le_mul_right _ a1
 have e2 : 2 * 2 ^ p * 2 ^ k = 2 ^ (1 + p + k) := by rw [Nat.pow_add, Nat.pow_add]
 have e3 : 2 ^ (1 + p + k) ≤ 2 ^ 63 := Nat.pow_le_pow_right (by decide) (by omega)
 rw [Nat.add_mul, Nat.one_mul] at e
 omega
theorem hi_last {p : Nat} (hp : p ≤ 14) : lo (2 ^ p) ((64 - p) * 2 ^ p - 1) + 2 ^ kk (2 ^ p) ((64 - p) * 2 ^ p - 1) = 2 ^ 63 := by
 have hP := Nat.two_pow_pos p
 have h0 : 0 < (64 - p) * 2 ^ p := Nat.mul_pos (by omega) hP
 rw [← lo_next _ hP, Nat.sub_add_cancel h0]
 unfold lo rr kk
 rw [Nat.mul_div_cancel _ hP, ← Nat.sub_mul, show 64 - p - (64 - p - 1) = 1 by omega, Nat.one_mul, ← Nat.pow_add]
 congr 1
 omega
end Go.Proofs.YtlgfgeacphkhnaaGreatDoor
/- THE LEAVES of bucket. Own work of the verifier. -/
namespace Go.Proofs.YtlgfgeacphkhnaaGreatDoor
open Go.RowKit

theorem retI {k : IntKind} {A B : Int} (h : A = B) : Ending.returned (Value.int k A) = .returned (.int k B) := by rw [h]
theorem retB {A B : Bool} (h : A = B) : Ending.returned (Value.bool A) = .returned (.bool B) := by rw [h]
theorem pow_lt (p : Nat) (h : p ≤ 14) : 2 ^ p ≤ 16384 := by
 have : 2 ^ p ≤ 2 ^ 14 := Nat.pow_le_pow_right (by decide) h
 omega
theorem pow_lt' (p : Nat) (h : p ≤ 62) : 2 ^ p ≤ 4611686018427387904 := by
 have : 2 ^ p ≤ 2 ^ 62 := Nat.pow_le_pow_right (by decide) h
 omega
theorem cast_pow (p : Nat) : (2 : Int) ^ p = ((2 ^ p : Nat) : Int) := by simp
theorem wrap_small {x : Int} (h1 : 0 ≤ x) (h2 : x < 9223372036854775808) : wrap64 x = x := by unfold wrap64; omega
theorem wrap_nat {x : Int} {n : Nat} (h1 : x = (n : Int)) (h2 : n < 9223372036854775808) : wrap64 x = (n : Int) := by rw [h1]; exact wrap_small (by omega) (by omega)
theorem wrap_pow (p : Nat) (h : p ≤ 62) : wrap64 ((2 : Int) ^ p) = ((2 ^ p : Nat) : Int) := wrap_nat (cast_pow p) (by have := pow_lt' p h; omega)
theorem len_le (p : Nat) (h : p ≤ 14) : (64 - p) * 2 ^ p ≤ 1048576 := Nat.mul_le_mul (by omega : 64 - p ≤ 64) (pow_lt p h)
theorem len_int (p : Nat) (h : p ≤ 14) : ((64 : Int) - (p : Int)) * 2 ^ p = (((64 - p) * 2 ^ p : Nat) : Int) := by
 rw [cast_pow, show (64 : Int) - (p : Int) = ((64 - p : Nat) : Int) by omega, Int.natCast_mul]

theorem pr_yes (p : Nat) (h1 : 1 ≤ p) (h2 : p ≤ 14) (w : World) : Calls Tryz.prog 180 #[.int .i64 (p : Int)] w fun e w' => e = .returned (.bool true) ∧ w' = w := by
 have c1 : (1 : Int) ≤ (p : Int) := by omega
 have c2 : (p : Int) ≤ 14 := by omega
 go_enter Tryz.func180, Tryz.ntmps180
 go_wp2
 go_ret
 exact ⟨rfl, rfl⟩
theorem pr_no (p : Int) (h : ¬ (1 ≤ p ∧ p ≤ 14)) (w : World) : Calls Tryz.prog 180 #[.int .i64 p] w fun e w' => e = .returned (.bool false) ∧ w' = w := by
 by_cases c : 1 ≤ p
 ·have d : ¬ p ≤ 14 := fun k => h ⟨c, k⟩
  clear h
  go_enter Tryz.func180, Tryz.ntmps180
  go_wp2
  go_ret
  exact ⟨rfl, rfl⟩
 ·clear h
  go_enter Tryz.func180, Tryz.ntmps180
  go_wp2
  go_ret
  exact ⟨rfl, rfl⟩
theorem prr_yes (p : Nat) (h1 : 1 ≤ p) (h2 : p ≤ 14) (w : World) : Calls Tryz.prog 76 #[.int .i64 (p : Int)] w fun e w' => e = .returned (.bool true) ∧ w' = w := by
 have c1 : (1 : Int) ≤ (p : Int) := by omega
 have c2 : (p : Int) ≤ 14 := by omega
 go_enter Tryz.func76, Tryz.ntmps76
 go_wp2
 go_ret
 exact ⟨rfl, rfl⟩
theorem len_yes (p : Nat) (h1 : 1 ≤ p) (h2 : p ≤ 14) (w : World) : Calls Tryz.prog 151 #[.int .i64 (p : Int)] w fun e w' => e = .returned (.int .i64 (((64 - p) * 2 ^ p : Nat) : Int)) ∧ w' = w := by
 have c1 : (1 : Int) ≤ (p : Int) := by omega
 have c2 : (p : Int) ≤ 14 := by omega
 go_enter Tryz.func151, Tryz.ntmps151
 go_wp2_with (go_at_call 180; with_reducible refine (pr_yes p h1 h2 _).mono ?_; rintro e w1 ⟨rfl, rfl⟩)
 go_ret
 exact ⟨retI (wrap_nat (len_int p h2) (by have := len_le p h2; omega)), rfl⟩
theorem len_no (p : Int) (h : ¬ (1 ≤ p ∧ p ≤ 14)) (w : World) : Calls Tryz.prog 151 #[.int .i64 p] w fun e w' => e = .returned (.int .i64 0) ∧ w' = w := by
 have H : Hid (∀ W, _) := pr_no p h
 clear h
 go_enter Tryz.func151, Tryz.ntmps151
 go_wp2_with (go_at_call 180; with_reducible refine (H.out _).mono ?_; rintro e w1 ⟨rfl, rfl⟩)
 go_ret
 exact ⟨rfl, rfl⟩
theorem rlen_yes (p : Nat) (h1 : 1 ≤ p) (h2 : p ≤ 14) (w : World) : Calls Tryz.prog 53 #[.int .i64 (p : Int)] w fun e w' => e = .returned (.int .i64 (((64 - p) * 2 ^ p : Nat) : Int)) ∧ w' = w := by
 have c1 : (1 : Int) ≤ (p : Int) := by omega
 have c2 : (p : Int) ≤ 14 := by omega
 have hw := wrap_pow p (by omega)
 go_enter Tryz.func53, Tryz.ntmps53
 go_wp2_with (go_at_call 76; with_reducible refine (prr_yes p h1 h2 _).mono ?_; rintro e w1 ⟨rfl, rfl⟩)
 go_ret
 refine ⟨retI (wrap_nat ?_ (by have := len_le p h2; omega)), rfl⟩
 rw [← len_int p h2, Int.mul_comm]
 first | rw [hw, cast_pow] | rw [cast_pow] | skip
end Go.Proofs.YtlgfgeacphkhnaaGreatDoor
/- THE CALLS of bucket. Own work of the verifier. -/
namespace Go.Proofs.YtlgfgeacphkhnaaGreatDoor
open Go.RowKit

abbrev two (a e : Int) : Ending := .returned (.tuple #[.int .i64 a, .int .i64 e])
abbrev three (a b e : Int) : Ending := .returned (.tuple #[.int .i64 a, .int .i64 b, .int .i64 e])
theorem two_of {a b e : Int} (h : a = b) : two a e = two b e := by rw [h]
theorem three_of {a b c d e : Int} (h : a = b) (h' : c = d) : three a c e = three b d e := by rw [h, h']

theorem sub_nat {x y : Nat} (h : y ≤ x) (hx : x < 9223372036854775808) : wrap64 ((x : Int) - (y : Int)) = ((x - y : Nat) : Int) := by unfold wrap64; omega
theorem sub_one {x : Nat} (h : 0 < x) (hx : x < 9223372036854775808) : wrap64 ((x : Int) - 1) = ((x - 1 : Nat) : Int) := by unfold wrap64; omega
theorem add_nat {x y : Nat} (h : x + y < 9223372036854775808) : wrap64 ((x : Int) + (y : Int)) = ((x + y : Nat) : Int) := by unfold wrap64; omega
theorem mul_pow {x k : Nat} (h : x * 2 ^ k < 9223372036854775808) : wrap64 ((x : Int) * 2 ^ k) = ((x * 2 ^ k : Nat) : Int) := wrap_nat (by rw [cast_pow, Int.natCast_mul]) h
theorem div_pow (i p : Nat) : (i : Int) / 2 ^ p = ((i / 2 ^ p : Nat) : Int) := by rw [cast_pow, ← Int.natCast_ediv]
theorem ends (p i : Nat) (h2 : p ≤ 14) (hi : i < (64 - p) * 2 ^ p) : ∃ k K r l t t1 h : Nat, k ≤ 62 ∧ l = lo (2 ^ p) i ∧ h = lo (2 ^ p) i + 2 ^ kk (2 ^ p) i - 1 ∧
  ((k = 0 ∧ (i : Int) / 2 ^ p = 0) ∨ wrap64 ((i : Int) / 2 ^ p - 1) = (k : Int)) ∧ wrap64 ((k : Int) * 2 ^ p) = (K : Int) ∧ wrap64 ((i : Int) - (K : Int)) = (r : Int) ∧ wrap64 ((r : Int) * 2 ^ k) = (l : Int) ∧ wrap64 ((2 : Int) ^ k) = (t : Int) ∧
   wrap64 ((t : Int) - 1) = (t1 : Int) ∧ wrap64 ((l : Int) + (t1 : Int)) = (h : Int) := by
 have hkt := kk_top hi h2
 have hlo := hi_top hi h2
 obtain ⟨r1, r2, r3⟩ := rr_lt i (Nat.two_pow_pos p)
 have hile := len_le p h2
 have hkl := pow_lt' (kk (2 ^ p) i) (by omega)
 have hp := Nat.two_pow_pos (kk (2 ^ p) i)
 have e63 : (2 : Nat) ^ 63 = 9223372036854775808 := by decide
 rw [e63] at hlo
 have hii : i < 9223372036854775808 := by
  generalize (64 - p) * 2 ^ p = z at *
  omega
 have hK : kk (2 ^ p) i * 2 ^ p ≤ i := by
  generalize kk (2 ^ p) i * 2 ^ p = z at *
  omega
 refine ⟨kk (2 ^ p) i, kk (2 ^ p) i * 2 ^ p, rr (2 ^ p) i, lo (2 ^ p) i, 2 ^ kk (2 ^ p) i, 2 ^ kk (2 ^ p) i - 1, lo (2 ^ p) i + 2 ^ kk (2 ^ p) i - 1, by omega, rfl, rfl, ?_, ?_, ?_, ?_, ?_, ?_, ?_⟩
 ·rw [div_pow]
  rcases Nat.eq_zero_or_pos (i / 2 ^ p) with z | z
  ·exact Or.inl ⟨by unfold kk; omega, by rw [z]; rfl⟩
  ·exact Or.inr (sub_one z (Nat.lt_of_le_of_lt (Nat.div_le_self _ _) hii))
 ·exact mul_pow (Nat.lt_of_le_of_lt hK hii)
 ·exact sub_nat hK hii
 ·refine mul_pow ?_
  change lo (2 ^ p) i < _
  generalize lo (2 ^ p) i = z at *
  generalize 2 ^ kk (2 ^ p) i = y at *
  omega
 ·exact wrap_pow _ (by omega)
 ·refine sub_one hp ?_
  generalize 2 ^ kk (2 ^ p) i = y at *
  omega
 ·rw [add_nat]
  ·congr 1
   generalize lo (2 ^ p) i = z at *
   generalize 2 ^ kk (2 ^ p) i = y at *
   omega
  ·generalize lo (2 ^ p) i = z at *
   generalize 2 ^ kk (2 ^ p) i = y at *
   omega
theorem zero_case {i K r l t t1 h : Nat} {x : Int} (hi : i < 9223372036854775808) (e1 : wrap64 (((0 : Nat) : Int) * x) = (K : Int)) (e2 : wrap64 ((i : Int) - (K : Int)) = (r : Int)) (e3 : wrap64 ((r : Int) * 2 ^ 0) = (l : Int)) (e4 : wrap64 ((2 : Int) ^ 0) = (t : Int))
  (e5 : wrap64 ((t : Int) - 1) = (t1 : Int)) (e6 : wrap64 ((l : Int) + (t1 : Int)) = (h : Int)) : l = i ∧ h = i := by
 rw [Int.natCast_zero, Int.zero_mul] at e1
 rw [Int.pow_zero, Int.mul_one] at e3
 rw [Int.pow_zero] at e4
 unfold wrap64 at *
 omega
theorem bounds_yes (p i : Nat) (h1 : 1 ≤ p) (h2 : p ≤ 14) (hi : i < (64 - p) * 2 ^ p) (w : World) :
  Calls Tryz.prog 154 #[.int .i64 (p : Int), .int .i64 (i : Int)] w fun e w' => (∃ n, w' = w.drewN n) ∧ e = three (lo (2 ^ p) i : Nat) ((lo (2 ^ p) i + 2 ^ kk (2 ^ p) i - 1 : Nat) : Int) 0 := by
 have c1 : (0 : Int) ≤ (p : Int) := by omega
 have c2 : ¬ (i : Int) < 0 := by omega
 have c3 : ¬ (((64 - p) * 2 ^ p : Nat) : Int) ≤ (i : Int) := by omega
 have HP : Hid (∀ W, _) := pr_yes p h1 h2
 have HL : Hid (∀ W, _) := len_yes p h1 h2
 obtain ⟨k, K, r, l, t, t1, h, hk, hl, hh, e7, e1, e2, e3, e4, e5, e6⟩ := ends p i h2 hi
 rw [← hh, ← hl]
 have hi63 : i < 9223372036854775808 := Nat.lt_of_lt_of_le hi (Nat.le_trans (len_le p h2) (by decide))
 clear hi hl hh
 have hk0 : (0 : Int) ≤ (k : Int) := by omega
 generalize (64 - p) * 2 ^ p = n at *
 rcases e7 with ⟨rfl, z0⟩ | e7
 ·obtain ⟨rfl, rfl⟩ := zero_case hi63 e1 e2 e3 e4 e5 e6
  clear e1 e2 e3 e4 e5 e6 hk hk0
  have hw : wrap64 (h : Int) = (h : Int) := wrap_small (by omega) (by omega)
  go_enter Tryz.func154, Tryz.ntmps154
  go_wp2_with (first
   | (go_at_call 180; with_reducible refine (HP.out _).mono ?_; rintro e w1 ⟨rfl, rfl⟩)
   | (go_at_call 151; with_reducible refine (HL.out _).mono ?_; rintro e w1 ⟨rfl, rfl⟩))
  go_region
  go_wp2_with fail
  go_ret3
  exact ⟨⟨1, rfl⟩, three_of (by first | rfl | exact hw | simp [hw]) (by first | rfl | exact hw | simp [hw])⟩
 ·go_enter Tryz.func154, Tryz.ntmps154
  go_wp2_with (first
   | (go_at_call 180; with_reducible refine (HP.out _).mono ?_; rintro e w1 ⟨rfl, rfl⟩)
   | (go_at_call 151; with_reducible refine (HL.out _).mono ?_; rintro e w1 ⟨rfl, rfl⟩))
  go_region
  go_wp2_with fail
  go_ret3
  exact ⟨⟨1, rfl⟩, three_of e3 e6⟩
theorem low_of {p i l h e : Int} (H : ∀ W, Calls Tryz.prog 154 #[.int .i64 p, .int .i64 i] W fun x w' => (∃ n, w' = W.drewN n) ∧ x = three l h e) (w : World) :
  Calls Tryz.prog 113 #[.int .i64 p, .int .i64 i] w fun x w' => (∃ n, w' = w.drewN n) ∧ x = two l e := by
 have HP : Hid _ := H
 go_enter Tryz.func113, Tryz.ntmps113
 go_wp2_with (go_at_call 154; with_reducible refine (HP.out _).mono ?_; rintro e w1 ⟨⟨n, rfl⟩, rfl⟩)
 go_ret2
 exact ⟨⟨n, rfl⟩, rfl⟩
theorem high_of {p i l h e : Int} (H : ∀ W, Calls Tryz.prog 154 #[.int .i64 p, .int .i64 i] W fun x w' => (∃ n, w' = W.drewN n) ∧ x = three l h e) (w : World) :
  Calls Tryz.prog 114 #[.int .i64 p, .int .i64 i] w fun x w' => (∃ n, w' = w.drewN n) ∧ x = two h e := by
 have HP : Hid _ := H
 go_enter Tryz.func114, Tryz.ntmps114
 go_wp2_with (go_at_call 154; with_reducible refine (HP.out _).mono ?_; rintro e w1 ⟨⟨n, rfl⟩, rfl⟩)
 go_ret2
 exact ⟨⟨n, rfl⟩, rfl⟩
end Go.Proofs.YtlgfgeacphkhnaaGreatDoor
/- THE DOCUMENT's calls of bucket. Own work of the verifier. -/
namespace Go.Proofs.YtlgfgeacphkhnaaGreatDoor
open Go.RowKit

theorem rends (p i : Nat) (h2 : p ≤ 14) (hi : i < (64 - p) * 2 ^ p) : (i < 2 ^ p ∧ lo (2 ^ p) i = i) ∨ (2 ^ p ≤ i ∧ ∃ q k K r l : Nat, k ≤ 62 ∧ l = lo (2 ^ p) i ∧ (i : Int) / ((2 ^ p : Nat) : Int) = (q : Int) ∧ wrap64 (q : Int) = (q : Int) ∧ wrap64 ((q : Int) - 1) = (k : Int) ∧ wrap64 ((k : Int) * ((2 ^ p : Nat) : Int)) = (K : Int) ∧ wrap64 ((i : Int) - (K : Int)) = (r : Int) ∧ wrap64 ((r : Int) * 2 ^ k) = (l : Int)) := by
 rcases Nat.lt_or_ge i (2 ^ p) with c | c
 ·refine Or.inl ⟨c, ?_⟩
  unfold lo rr kk
  rw [Nat.div_eq_of_lt c]
  simp
 ·refine Or.inr ⟨c, ?_⟩
  have hkt := kk_top hi h2
  have hlo := hi_top hi h2
  obtain ⟨r1, r2, r3⟩ := rr_lt i (Nat.two_pow_pos p)
  have hile := len_le p h2
  have hp := Nat.two_pow_pos (kk (2 ^ p) i)
  have e63 : (2 : Nat) ^ 63 = 9223372036854775808 := by decide
  rw [e63] at hlo
  have hii : i < 9223372036854775808 := by
   generalize (64 - p) * 2 ^ p = z at *
   omega
  have hK : kk (2 ^ p) i * 2 ^ p ≤ i := by
   generalize kk (2 ^ p) i * 2 ^ p = z at *
   omega
  refine ⟨i / 2 ^ p, kk (2 ^ p) i, kk (2 ^ p) i * 2 ^ p, rr (2 ^ p) i, lo (2 ^ p) i, by omega, rfl, by rw [← Int.natCast_ediv], wrap_nat rfl (Nat.lt_of_le_of_lt (Nat.div_le_self _ _) hii), ?_, ?_, ?_, ?_⟩
  ·exact sub_one (Nat.div_pos c (Nat.two_pow_pos p)) (Nat.lt_of_le_of_lt (Nat.div_le_self _ _) hii)
  ·exact wrap_nat (Int.natCast_mul _ _).symm (Nat.lt_of_le_of_lt hK hii)
  ·exact sub_nat hK hii
  ·refine mul_pow ?_
   change lo (2 ^ p) i < _
   generalize lo (2 ^ p) i = z at *
   generalize 2 ^ kk (2 ^ p) i = y at *
   omega
theorem rlow_yes (p i : Nat) (h1 : 1 ≤ p) (h2 : p ≤ 14) (hi : i < (64 - p) * 2 ^ p) (w : World) :
  Calls Tryz.prog 52 #[.int .i64 (p : Int), .int .i64 (i : Int)] w fun e w' => (∃ n, w' = w.drewN n) ∧ e = two (lo (2 ^ p) i : Nat) 0 := by
 have c1 : (0 : Int) ≤ (p : Int) := by omega
 have c2 : ¬ (i : Int) < 0 := by omega
 have c3 : ¬ (((64 - p) * 2 ^ p : Nat) : Int) ≤ (i : Int) := by omega
 have HP : Hid (∀ W, _) := prr_yes p h1 h2
 have HL : Hid (∀ W, _) := rlen_yes p h1 h2
 have hw := wrap_pow p (by omega)
 have hP := Nat.two_pow_pos p
 rcases rends p i h2 hi with ⟨hlt, hl⟩ | ⟨hge, q, k, K, r, l, hk, hl, e0, e00, e1, e2, e3, e4⟩
 ·rw [hl]
  have hlt' : (i : Int) < ((2 ^ p : Nat) : Int) := by exact_mod_cast hlt
  clear hi hl hlt
  generalize (64 - p) * 2 ^ p = n at *
  generalize ha : 2 ^ p = P at *
  go_enter Tryz.func52, Tryz.ntmps52
  go_wp2_with (first
   | (go_at_call 76; with_reducible refine (HP.out _).mono ?_; rintro e w1 ⟨rfl, rfl⟩)
   | (go_at_call 53; with_reducible refine (HL.out _).mono ?_; rintro e w1 ⟨rfl, rfl⟩))
  go_ret2
  exact ⟨⟨0, rfl⟩, rfl⟩
 ·rw [← hl]
  have hge' : ¬ (i : Int) < ((2 ^ p : Nat) : Int) := by intro h; exact absurd (show i < 2 ^ p by exact_mod_cast h) (by omega)
  have hk0 : (0 : Int) ≤ (k : Int) := by omega
  have hP' : ¬ ((2 ^ p : Nat) : Int) = 0 := by omega
  have hP0 : (0 : Int) ≤ ((2 ^ p : Nat) : Int) := by omega
  have e1' : wrap64 (wrap64 (q : Int) - 1) = (k : Int) := by rw [e00, e1]
  have E2 : Hid _ := e2
  have E3 : Hid _ := e3
  have E4 : Hid _ := e4
  clear hi hl hge hP e00 e1 e2 e3 e4
  generalize (64 - p) * 2 ^ p = n at *
  generalize 2 ^ p = P at hge' hP' hP0 e0 E2 hw
  go_enter Tryz.func52, Tryz.ntmps52
  go_wp2_with (first
   | (go_at_call 76; with_reducible refine (HP.out _).mono ?_; rintro e w1 ⟨rfl, rfl⟩)
   | (go_at_call 53; with_reducible refine (HL.out _).mono ?_; rintro e w1 ⟨rfl, rfl⟩))
  go_ret2
  exact ⟨⟨0, rfl⟩, two_of (by rw [E2.out, E3.out, E4.out])⟩
theorem rhigh_yes (p i : Nat) (h1 : 1 ≤ p) (h2 : p ≤ 14) (hi : i < (64 - p) * 2 ^ p) (w : World) :
  Calls Tryz.prog 26 #[.int .i64 (p : Int), .int .i64 (i : Int)] w fun e w' => (∃ n, w' = w.drewN n) ∧ e = two ((lo (2 ^ p) i + 2 ^ kk (2 ^ p) i - 1 : Nat) : Int) 0 := by
 have HP : Hid (∀ W, _) := rlow_yes p i h1 h2 hi
 have HL : Hid (∀ W, _) := rlen_yes p h1 h2
 have hll := len_le p h2
 have e63 : (2 : Nat) ^ 63 = 9223372036854775808 := by decide
 by_cases hlast : i + 1 = (64 - p) * 2 ^ p
 ·have hv : lo (2 ^ p) i + 2 ^ kk (2 ^ p) i - 1 = 9223372036854775807 := by
   have := hi_last h2
   rw [← hlast, Nat.add_sub_cancel, e63] at this
   generalize lo (2 ^ p) i + 2 ^ kk (2 ^ p) i = z at *
   omega
  rw [hv]
  have hw1 : wrap64 ((i : Int) + 1) = ((i + 1 : Nat) : Int) := by unfold wrap64; generalize (64 - p) * 2 ^ p = n at *; omega
  have ht : (((i + 1 : Nat) : Int) == (((64 - p) * 2 ^ p : Nat) : Int)) = true := by rw [beq_iff_eq]; omega
  generalize hj : i + 1 = j at *
  clear hi hlast hv e63 hj
  generalize (64 - p) * 2 ^ p = n at *
  generalize lo (2 ^ p) i = l at *
  go_enter Tryz.func26, Tryz.ntmps26
  go_wp2_with (first
   | (go_at_call 52; with_reducible refine (HP.out _).mono ?_; rintro e w1 ⟨⟨n1, rfl⟩, rfl⟩)
   | (go_at_call 53; with_reducible refine (HL.out _).mono ?_; rintro e w1 ⟨rfl, rfl⟩))
  go_ret2
  exact ⟨⟨n1, rfl⟩, rfl⟩
 ·have hi' : i + 1 < (64 - p) * 2 ^ p := by omega
  have HN : Hid (∀ W, _) := rlow_yes p (i + 1) h1 h2 hi'
  have hb := hi_top hi h2
  rw [lo_next i (Nat.two_pow_pos p)] at HN
  have hp := Nat.two_pow_pos (kk (2 ^ p) i)
  rw [e63] at hb
  have hw1 : wrap64 ((i : Int) + 1) = ((i + 1 : Nat) : Int) := by unfold wrap64; generalize (64 - p) * 2 ^ p = n at *; omega
  have ht : (((i + 1 : Nat) : Int) == (((64 - p) * 2 ^ p : Nat) : Int)) = false := by rw [beq_eq_false_iff_ne]; omega
  generalize hj : i + 1 = j at *
  clear hi hlast hi' e63 hj
  generalize (64 - p) * 2 ^ p = n at *
  generalize 2 ^ kk (2 ^ p) i = t at *
  generalize lo (2 ^ p) i = l at *
  have hc : ¬ ((l + t : Nat) : Int) ≤ (l : Int) := by omega
  have hs : wrap64 (((l + t : Nat) : Int) - 1) = ((l + t - 1 : Nat) : Int) := by
   unfold wrap64; omega
  generalize l + t = s at *
  generalize s - 1 = s1 at *
  go_enter Tryz.func26, Tryz.ntmps26
  go_wp2_with (first
   | (go_at_call 52; (first | (with_reducible refine (HP.out _).mono ?_) | (with_reducible refine (HN.out _).mono ?_)); rintro e w1 ⟨⟨n1, rfl⟩, rfl⟩)
   | (go_at_call 53; with_reducible refine (HL.out _).mono ?_; rintro e w2 ⟨rfl, rfl⟩))
  go_ret2
  exact ⟨⟨_, rfl⟩, two_of (by unfold wrap64 at hs; omega)⟩
end Go.Proofs.YtlgfgeacphkhnaaGreatDoor
