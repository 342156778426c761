/- THE LEAVES of bucket. Own work of the verifier. -/
import Derived.Test.YthhoklgfgandpaaBMath
import Derived.Test.YthhoklgfgandpaaRows
import Derived.WalkKit
import Derived.WalkSpells
import Derived.RowKit3
import Derived.Below
import Derived.Outline
import Derived.Deep.QuietTactic
import Derived.Deep.Draws
import Derived.BigQuiet
import Derived.Laws.Bits64
import Derived.Laws.BitsAllLaws
import Derived.Laws.ShiftsVarLaws
import Derived.Deep.RegionHeld3
namespace Go.Proofs.Ythhoklgfgandpaa
open Go.RowKit

theorem retI {k : IntKind} {A B : Int} (h : A = B) : Ending.returned (Value.int k A) = .returned (.int k B) := by rw [h]
theorem retB {A B : Bool} (h : A = B) : Ending.returned (Value.bool A) = .returned (.bool B) := by rw [h]
theorem pow_lt (p : Nat) (h : p ≤ 14) : 2 ^ p ≤ 16384 := by
  have : 2 ^ p ≤ 2 ^ 14 := Nat.pow_le_pow_right (by decide) h
  omega
theorem pow_lt' (p : Nat) (h : p ≤ 62) : 2 ^ p ≤ 4611686018427387904 := by
  have : 2 ^ p ≤ 2 ^ 62 := Nat.pow_le_pow_right (by decide) h
  omega
theorem cast_pow (p : Nat) : (2 : Int) ^ p = ((2 ^ p : Nat) : Int) := by simp
theorem wrap_small {x : Int} (h1 : 0 ≤ x) (h2 : x < 9223372036854775808) : wrap64 x = x := by unfold wrap64; omega
theorem wrap_nat {x : Int} {n : Nat} (h1 : x = (n : Int)) (h2 : n < 9223372036854775808) : wrap64 x = (n : Int) := by rw [h1]; exact wrap_small (by omega) (by omega)
theorem wrap_pow (p : Nat) (h : p ≤ 62) : wrap64 ((2 : Int) ^ p) = ((2 ^ p : Nat) : Int) := wrap_nat (cast_pow p) (by have := pow_lt' p h; omega)
theorem len_le (p : Nat) (h : p ≤ 14) : (64 - p) * 2 ^ p ≤ 1048576 := Nat.mul_le_mul (by omega : 64 - p ≤ 64) (pow_lt p h)
theorem len_int (p : Nat) (h : p ≤ 14) : ((64 : Int) - (p : Int)) * 2 ^ p = (((64 - p) * 2 ^ p : Nat) : Int) := by
  rw [cast_pow, show (64 : Int) - (p : Int) = ((64 - p : Nat) : Int) by omega, Int.natCast_mul]

theorem pr_yes (p : Nat) (h1 : 1 ≤ p) (h2 : p ≤ 14) (w : World) : Calls Try.prog 51 #[.int .i64 (p : Int)] w fun e w' => e = .returned (.bool true) ∧ w' = w := by
  have c1 : (1 : Int) ≤ (p : Int) := by omega
  have c2 : (p : Int) ≤ 14 := by omega
  go_enter Try.func51, Try.ntmps51
  go_wp2
  go_ret
  exact ⟨rfl, rfl⟩
theorem pr_no (p : Int) (h : ¬ (1 ≤ p ∧ p ≤ 14)) (w : World) : Calls Try.prog 51 #[.int .i64 p] w fun e w' => e = .returned (.bool false) ∧ w' = w := by
  by_cases c : 1 ≤ p
  · have d : ¬ p ≤ 14 := fun k => h ⟨c, k⟩
    clear h
    go_enter Try.func51, Try.ntmps51
    go_wp2
    go_ret
    exact ⟨rfl, rfl⟩
  · clear h
    go_enter Try.func51, Try.ntmps51
    go_wp2
    go_ret
    exact ⟨rfl, rfl⟩
theorem prr_yes (p : Nat) (h1 : 1 ≤ p) (h2 : p ≤ 14) (w : World) : Calls Try.prog 52 #[.int .i64 (p : Int)] w fun e w' => e = .returned (.bool true) ∧ w' = w := by
  have c1 : (1 : Int) ≤ (p : Int) := by omega
  have c2 : (p : Int) ≤ 14 := by omega
  go_enter Try.func52, Try.ntmps52
  go_wp2
  go_ret
  exact ⟨rfl, rfl⟩
theorem prr_no (p : Int) (h : ¬ (1 ≤ p ∧ p ≤ 14)) (w : World) : Calls Try.prog 52 #[.int .i64 p] w fun e w' => e = .returned (.bool false) ∧ w' = w := by
  by_cases c : 1 ≤ p
  · have d : ¬ p ≤ 14 := fun k => h ⟨c, k⟩
    clear h
    go_enter Try.func52, Try.ntmps52
    go_wp2
    go_ret
    exact ⟨rfl, rfl⟩
  · clear h
    go_enter Try.func52, Try.ntmps52
    go_wp2
    go_ret
    exact ⟨rfl, rfl⟩
theorem len_yes (p : Nat) (h1 : 1 ≤ p) (h2 : p ≤ 14) (w : World) : Calls Try.prog 31 #[.int .i64 (p : Int)] w fun e w' => e = .returned (.int .i64 (((64 - p) * 2 ^ p : Nat) : Int)) ∧ w' = w := by
  have c1 : (1 : Int) ≤ (p : Int) := by omega
  have c2 : (p : Int) ≤ 14 := by omega
  go_enter Try.func31, Try.ntmps31
  go_wp2_with (go_at_call 51; with_reducible refine (pr_yes p h1 h2 _).mono ?_; rintro e w1 ⟨rfl, rfl⟩)
  go_ret
  exact ⟨retI (wrap_nat (len_int p h2) (by have := len_le p h2; omega)), rfl⟩
theorem len_no (p : Int) (h : ¬ (1 ≤ p ∧ p ≤ 14)) (w : World) : Calls Try.prog 31 #[.int .i64 p] w fun e w' => e = .returned (.int .i64 0) ∧ w' = w := by
  have H : Hid (∀ W, _) := pr_no p h
  clear h
  go_enter Try.func31, Try.ntmps31
  go_wp2_with (go_at_call 51; with_reducible refine (H.out _).mono ?_; rintro e w1 ⟨rfl, rfl⟩)
  go_ret
  exact ⟨rfl, rfl⟩
theorem rlen_yes (p : Nat) (h1 : 1 ≤ p) (h2 : p ≤ 14) (w : World) : Calls Try.prog 33 #[.int .i64 (p : Int)] w fun e w' => e = .returned (.int .i64 (((64 - p) * 2 ^ p : Nat) : Int)) ∧ w' = w := by
  have c1 : (1 : Int) ≤ (p : Int) := by omega
  have c2 : (p : Int) ≤ 14 := by omega
  have hw := wrap_pow p (by omega)
  go_enter Try.func33, Try.ntmps33
  go_wp2_with (go_at_call 52; with_reducible refine (prr_yes p h1 h2 _).mono ?_; rintro e w1 ⟨rfl, rfl⟩)
  go_ret
  refine ⟨retI (wrap_nat ?_ (by have := len_le p h2; omega)), rfl⟩
  rw [← len_int p h2, Int.mul_comm]
  first | rw [hw, cast_pow] | rw [cast_pow] | skip
theorem rlen_no (p : Int) (h : ¬ (1 ≤ p ∧ p ≤ 14)) (w : World) : Calls Try.prog 33 #[.int .i64 p] w fun e w' => e = .returned (.int .i64 0) ∧ w' = w := by
  have H : Hid (∀ W, _) := prr_no p h
  clear h
  go_enter Try.func33, Try.ntmps33
  go_wp2_with (go_at_call 52; with_reducible refine (H.out _).mono ?_; rintro e w1 ⟨rfl, rfl⟩)
  go_ret
  exact ⟨rfl, rfl⟩
theorem window {p v k s : Nat} (h : k + max (2 * s) 1 ≤ 64 ∧ v / 2 ^ (k + max (2 * s) 1) < 2 ^ p ∧ (k = 0 ∨ 2 ^ p ≤ v / 2 ^ k)) (hs : s = 1 ∨ s = 2 ∨ s = 4 ∨ s = 8 ∨ s = 16 ∨ s = 32) :
    (2 ^ p ≤ v / 2 ^ (k + s) → (k + s) + max (2 * (s / 2)) 1 ≤ 64 ∧ v / 2 ^ ((k + s) + max (2 * (s / 2)) 1) < 2 ^ p ∧ ((k + s) = 0 ∨ 2 ^ p ≤ v / 2 ^ (k + s))) ∧
    (¬ 2 ^ p ≤ v / 2 ^ (k + s) → k + max (2 * (s / 2)) 1 ≤ 64 ∧ v / 2 ^ (k + max (2 * (s / 2)) 1) < 2 ^ p ∧ (k = 0 ∨ 2 ^ p ≤ v / 2 ^ k)) := by
  have e1 : max (2 * s) 1 = 2 * s := by omega
  have e2 : max (2 * (s / 2)) 1 = s := by omega
  rw [e1] at h
  rw [e2]
  obtain ⟨a, b, c⟩ := h
  exact ⟨fun d => ⟨by omega, by rw [show k + s + s = k + 2 * s by omega]; exact b, Or.inr d⟩, fun d => ⟨by omega, by omega, c⟩⟩
/-- What is left out. -/
theorem spare_any (p v : Nat) (h1 : 1 ≤ p) (h2 : p ≤ 14) (hv : v < 9223372036854775808) (w : World) :
    Calls Try.prog 61 #[.int .i64 (p : Int), .int .i64 (v : Int)] w fun e w' => (∃ n, w' = w.drewN n) ∧ ∃ k : Nat, e = .returned (.int .i64 (k : Int)) ∧ k ≤ 63 ∧ IsK (2 ^ p) v k := by
  have c1 : (0 : Int) ≤ (p : Int) := by omega
  have hw := wrap_pow p (by omega)
  go_enter Try.func61, Try.ntmps61
  go_wp2_with fail
  go_loopw [5, 6] (fun a b wr => ∃ n k s : Nat, a = .int .i64 (k : Int) ∧ b = .int .i64 (s : Int) ∧ wr = w.drewN n ∧ Hid (s = 0 ∨ s = 1 ∨ s = 2 ∨ s = 4 ∨ s = 8 ∨ s = 16 ∨ s = 32) ∧ Hid (k + max (2 * s) 1 ≤ 64 ∧ v / 2 ^ (k + max (2 * s) 1) < 2 ^ p ∧ (k = 0 ∨ 2 ^ p ≤ v / 2 ^ k))) (fun _ b _ => (intOf b).toNat)
  case atStart =>
    refine ⟨0, 0, 32, rfl, rfl, rfl, by simp [Hid], ⟨by decide, ?_, Or.inl rfl⟩⟩
    have : v / 2 ^ (0 + max (2 * 32) 1) = 0 := Nat.div_eq_of_lt (by have : (2 : Nat) ^ (0 + max (2 * 32) 1) = 18446744073709551616 := by decide
                                                                    omega)
    rw [this]; exact Nat.two_pow_pos _
  case round =>
    obtain ⟨n, k, s, rfl, rfl, rfl, hs, hk⟩ := hrel
    rcases Nat.eq_zero_or_pos s with z | z
    · subst z
      go_wp2_with fail
      go_ret
      have hk' := hk.out
      have e : max (2 * 0) 1 = 1 := by decide
      rw [e] at hk'
      exact ⟨⟨n, rfl⟩, k, rfl, by omega, hk'.2.1, hk'.2.2⟩
    · have z' : (0 : Int) < (s : Int) := by omega
      have hs' : s = 1 ∨ s = 2 ∨ s = 4 ∨ s = 8 ∨ s = 16 ∨ s = 32 := by have := hs.out; omega
      have hwin : Hid _ := window hk.out hs'
      have hb : k + s ≤ 64 := by have := hk.out; omega
      have hb' : (0 : Int) ≤ (k : Int) + (s : Int) := by omega
      clear hs hk
      have hsh : (s : Int) / 2 = ((s / 2 : Nat) : Int) := by omega
      have hs2 : Hid (s / 2 = 0 ∨ s / 2 = 1 ∨ s / 2 = 2 ∨ s / 2 = 4 ∨ s / 2 = 8 ∨ s / 2 = 16 ∨ s / 2 = 32) := by unfold Hid; omega
      have hs3 : s / 2 < s := by omega
      by_cases d : 2 ^ p ≤ v / 2 ^ (k + s)
      · have di : (2 : Int) ^ p ≤ (v : Int) / 2 ^ (k + s) := by exact_mod_cast d
        have hn : Hid _ := hwin.out.1 d
        clear hwin d
        generalize s / 2 = s' at *
        go_wp2_with fail
        go_region
        go_wp2_with fail
        exact ⟨⟨n + 1, k + s, s', rfl, rfl, rfl, hs2, hn⟩, by simpa [intOf] using hs3⟩
      · have di : ¬ (2 : Int) ^ p ≤ (v : Int) / 2 ^ (k + s) := by intro h; exact d (by exact_mod_cast h)
        have hn : Hid _ := hwin.out.2 d
        clear hwin d
        generalize s / 2 = s' at *
        go_wp2_with fail
        go_region
        go_wp2_with fail
        exact ⟨⟨n + 1, k, s', rfl, rfl, rfl, hs2, hn⟩, by simpa [intOf] using hs3⟩
end Go.Proofs.Ythhoklgfgandpaa
