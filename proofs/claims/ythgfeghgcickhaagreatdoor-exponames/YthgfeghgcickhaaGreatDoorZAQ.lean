/- Buckets, in whole numbers. Own work of the verifier. -/
import Derived.Handy
import Derived.Test.YthgfeghgcickhaaGreatDoorRows
import Derived.WalkKit
import Derived.WalkSpells
import Derived.RowKit3
import Derived.Below
import Derived.Outline
import Derived.Deep.QuietTactic
import Derived.Deep.Draws
import Derived.BigQuiet
import Derived.Laws.Bits64
import Derived.Laws.BitsAllLaws
import Derived.Laws.ShiftsVarLaws
import Derived.Deep.RegionHeld3
namespace Go.Proofs.YthgfeghgcickhaaGreatDoor

/-- How many low bits the bucket of v does not look at, P being the least value beyond the first group. -/
def IsK (P v k : Nat) : Prop := v / 2 ^ (k + 1) < P ∧ (k = 0 ∨ P ≤ v / 2 ^ k)
def idx (P v k : Nat) : Nat := k * P + v / 2 ^ k
def kk (P i : Nat) : Nat := i / P - 1
def rr (P i : Nat) : Nat := i - kk P i * P
def lo (P i : Nat) : Nat := rr P i * 2 ^ kk P i

theorem div_half (v k : Nat) : v / 2 ^ (k + 1) = v / 2 ^ k / 2 := by rw [Nat.pow_succ, Nat.div_div_eq_div_mul]
theorem IsK.two {P v k : Nat} (h : IsK P v k) : v / 2 ^ k < 2 * P := by
  have := h.1
  rw [div_half] at this
  omega
theorem rr_lt {P : Nat} (i : Nat) (hP : 0 < P) : rr P i < 2 * P ∧ (kk P i = 0 ∨ P ≤ rr P i) ∧ kk P i * P + rr P i = i := by
  unfold rr kk
  have hm := Nat.div_add_mod i P
  have hl := Nat.mod_lt i hP
  rw [Nat.mul_comm] at hm
  generalize hq : i / P = q at *
  rcases Nat.eq_zero_or_pos q with e | e
  · subst e
    simp at hm ⊢
    omega
  · obtain ⟨q', rfl⟩ : ∃ q', q = q' + 1 := ⟨q - 1, by omega⟩
    rw [Nat.add_mul] at hm
    simp only [Nat.add_sub_cancel]
    omega
/-- Whatever lies between the ends. -/
theorem between {P i x : Nat} (hP : 0 < P) (h1 : lo P i ≤ x) (h2 : x < lo P i + 2 ^ kk P i) : IsK P x (kk P i) ∧ idx P x (kk P i) = i := by
  obtain ⟨a1, a2, a3⟩ := rr_lt i hP
  have e : x / 2 ^ kk P i = rr P i := by
    unfold lo at h1 h2
    apply Nat.div_eq_of_lt_le h1
    rw [Nat.add_mul, Nat.one_mul]
    exact h2
  refine ⟨⟨?_, ?_⟩, ?_⟩
  · rw [div_half, e]; omega
  · rw [e]; exact a2
  · unfold idx; rw [e, a3]
theorem kk_top {p i : Nat} (h : i < (64 - p) * 2 ^ p) (hp : p ≤ 14) : kk (2 ^ p) i + p ≤ 62 := by
  have : i / 2 ^ p < 64 - p := Nat.div_lt_of_lt_mul (by rw [Nat.mul_comm]; exact h)
  unfold kk
  omega
theorem hi_top {p i : Nat} (h : i < (64 - p) * 2 ^ p) (hp : p ≤ 14) : lo (2 ^ p) i + 2 ^ kk (2 ^ p) i ≤ 2 ^ 63 := by
  obtain ⟨a1, _, _⟩ := rr_lt i (Nat.two_pow_pos p)
  have hk := kk_top h hp
  unfold lo
  generalize kk (2 ^ p) i = k at *
  have e : (rr (2 ^ p) i + 1) * 2 ^ k ≤ (2 * 2 ^ p) * 2 ^ k := Nat.mul_le_mul_right _ a1
  have e2 : 2 * 2 ^ p * 2 ^ k = 2 ^ (1 + p + k) := by rw [Nat.pow_add, Nat.pow_add]
  have e3 : 2 ^ (1 + p + k) ≤ 2 ^ 63 := Nat.pow_le_pow_right (by decide) (by omega)
  rw [Nat.add_mul, Nat.one_mul] at e
  omega
end Go.Proofs.YthgfeghgcickhaaGreatDoor
/- THE LEAVES of bucket. Own work of the verifier. -/
namespace Go.Proofs.YthgfeghgcickhaaGreatDoor
open Go.RowKit

theorem retI {k : IntKind} {A B : Int} (h : A = B) : Ending.returned (Value.int k A) = .returned (.int k B) := by rw [h]
theorem retB {A B : Bool} (h : A = B) : Ending.returned (Value.bool A) = .returned (.bool B) := by rw [h]
theorem pow_lt (p : Nat) (h : p ≤ 14) : 2 ^ p ≤ 16384 := by
  have : 2 ^ p ≤ 2 ^ 14 := Nat.pow_le_pow_right (by decide) h
  omega
theorem pow_lt' (p : Nat) (h : p ≤ 62) : 2 ^ p ≤ 4611686018427387904 := by
  have : 2 ^ p ≤ 2 ^ 62 := Nat.pow_le_pow_right (by decide) h
  omega
theorem cast_pow (p : Nat) : (2 : Int) ^ p = ((2 ^ p : Nat) : Int) := by simp
theorem wrap_small {x : Int} (h1 : 0 ≤ x) (h2 : x < 9223372036854775808) : wrap64 x = x := by unfold wrap64; omega
theorem wrap_nat {x : Int} {n : Nat} (h1 : x = (n : Int)) (h2 : n < 9223372036854775808) : wrap64 x = (n : Int) := by rw [h1]; exact wrap_small (by omega) (by omega)
theorem wrap_pow (p : Nat) (h : p ≤ 62) : wrap64 ((2 : Int) ^ p) = ((2 ^ p : Nat) : Int) := wrap_nat (cast_pow p) (by have := pow_lt' p h; omega)
theorem len_le (p : Nat) (h : p ≤ 14) : (64 - p) * 2 ^ p ≤ 1048576 := Nat.mul_le_mul (by omega : 64 - p ≤ 64) (pow_lt p h)
theorem len_int (p : Nat) (h : p ≤ 14) : ((64 : Int) - (p : Int)) * 2 ^ p = (((64 - p) * 2 ^ p : Nat) : Int) := by
  rw [cast_pow, show (64 : Int) - (p : Int) = ((64 - p : Nat) : Int) by omega, Int.natCast_mul]

theorem pr_yes (p : Nat) (h1 : 1 ≤ p) (h2 : p ≤ 14) (w : World) : Calls Tryz.prog 115 #[.int .i64 (p : Int)] w fun e w' => e = .returned (.bool true) ∧ w' = w := by
  have c1 : (1 : Int) ≤ (p : Int) := by omega
  have c2 : (p : Int) ≤ 14 := by omega
  go_enter Tryz.func115, Tryz.ntmps115
  go_wp2
  go_ret
  exact ⟨rfl, rfl⟩
theorem pr_no (p : Int) (h : ¬ (1 ≤ p ∧ p ≤ 14)) (w : World) : Calls Tryz.prog 115 #[.int .i64 p] w fun e w' => e = .returned (.bool false) ∧ w' = w := by
  by_cases c : 1 ≤ p
  · have d : ¬ p ≤ 14 := fun k => h ⟨c, k⟩
    clear h
    go_enter Tryz.func115, Tryz.ntmps115
    go_wp2
    go_ret
    exact ⟨rfl, rfl⟩
  · clear h
    go_enter Tryz.func115, Tryz.ntmps115
    go_wp2
    go_ret
    exact ⟨rfl, rfl⟩
theorem len_yes (p : Nat) (h1 : 1 ≤ p) (h2 : p ≤ 14) (w : World) : Calls Tryz.prog 86 #[.int .i64 (p : Int)] w fun e w' => e = .returned (.int .i64 (((64 - p) * 2 ^ p : Nat) : Int)) ∧ w' = w := by
  have c1 : (1 : Int) ≤ (p : Int) := by omega
  have c2 : (p : Int) ≤ 14 := by omega
  go_enter Tryz.func86, Tryz.ntmps86
  go_wp2_with (go_at_call 115; with_reducible refine (pr_yes p h1 h2 _).mono ?_; rintro e w1 ⟨rfl, rfl⟩)
  go_ret
  exact ⟨retI (wrap_nat (len_int p h2) (by have := len_le p h2; omega)), rfl⟩
theorem len_no (p : Int) (h : ¬ (1 ≤ p ∧ p ≤ 14)) (w : World) : Calls Tryz.prog 86 #[.int .i64 p] w fun e w' => e = .returned (.int .i64 0) ∧ w' = w := by
  have H : Hid (∀ W, _) := pr_no p h
  clear h
  go_enter Tryz.func86, Tryz.ntmps86
  go_wp2_with (go_at_call 115; with_reducible refine (H.out _).mono ?_; rintro e w1 ⟨rfl, rfl⟩)
  go_ret
  exact ⟨rfl, rfl⟩
end Go.Proofs.YthgfeghgcickhaaGreatDoor
