import Derived.Test.YthhoklgfgandpaaT5
import Derived.Test.YthhoklgfgandpaaDivFin
namespace Go.Proofs.Ythhoklgfgandpaa
open Go.RowKit

set_option maxHeartbeats 400000 in
theorem div64_0 (lo y : Int) (h1 : 0 ≤ lo) (h2 : lo < 18446744073709551616) (h3 : 0 < y) (h4 : y < 18446744073709551616) (w : World) :
    Calls Try.prog 58 #[.int .u64 0, .int .u64 lo, .int .u64 y] w fun e w' =>
      e = .returned (.tuple #[.int .u64 (lo / y), .int .u64 (lo % y)]) ∧ ∃ k, w' = w.drewN k := by
  have hz' : (y == 0) = false := by rw [beq_eq_false_iff_ne]; omega
  have hy : ¬ y ≤ 0 := by omega
  have hy' : ¬ y = 0 := by omega
  have q0 : 0 ≤ lo / y := Int.ediv_nonneg h1 (by omega)
  have q1 : lo / y ≤ lo := Int.ediv_le_self _ h1
  have r0 : 0 ≤ lo % y := Int.emod_nonneg _ hy'
  have r1 : lo % y < y := Int.emod_lt_of_pos _ h3
  go_enter Try.func58, Try.ntmps58
  go_wp2
  go_quiet (fail)
  go_wp2
  go_ret2
  exact ⟨rfl, _, rfl⟩

theorem div64_any (hi lo y : Int) (h0 : 0 ≤ hi) (h1 : 0 ≤ lo) (h2 : lo < 18446744073709551616) (h3 : hi < y) (h4 : y < 18446744073709551616) (w : World) :
    Calls Try.prog 58 #[.int .u64 hi, .int .u64 lo, .int .u64 y] w fun e w' =>
      e = .returned (.tuple #[.int .u64 ((hi * 18446744073709551616 + lo) / y), .int .u64 ((hi * 18446744073709551616 + lo) % y)]) ∧ ∃ k, w' = w.drewN k := by
  rcases Int.lt_or_eq_of_le h0 with hp | hp
  · obtain ⟨H, rfl⟩ := Int.eq_ofNat_of_zero_le h0
    obtain ⟨l, rfl⟩ := Int.eq_ofNat_of_zero_le h1
    obtain ⟨Yn, rfl⟩ := Int.eq_ofNat_of_zero_le (show 0 ≤ y by omega)
    obtain ⟨b1, b2, b3, b4⟩ := bitLen_norm Yn (by omega) (by omega)
    have hHk : H * 2 ^ (64 - Lib.bitLen Yn) < 18446744073709551616 := Nat.lt_of_le_of_lt (Nat.mul_le_mul_right _ (by omega)) b4
    obtain ⟨n1, n2, n3, n4, n5⟩ := norm_words H l (64 - Lib.bitLen Yn) (by omega) (by omega) hHk
    have hUY : H * 2 ^ (64 - Lib.bitLen Yn) + l / 2 ^ (64 - (64 - Lib.bitLen Yn)) < Yn * 2 ^ (64 - Lib.bitLen Yn) := by
      have := Nat.mul_le_mul_right (2 ^ (64 - Lib.bitLen Yn)) (show H + 1 ≤ Yn by omega)
      rw [Nat.add_mul, Nat.one_mul] at this
      omega
    have hK : 0 < 2 ^ (64 - Lib.bitLen Yn) := Nat.pow_pos (by decide)
    have hkt : (64 - (Lib.bitLen Yn : Int)).toNat = 64 - Lib.bitLen Yn := by omega
    have hkt2 : (64 - (64 - (Lib.bitLen Yn : Int))).toNat = 64 - (64 - Lib.bitLen Yn) := by omega
    have eK : ((2 : Int) ^ (64 - Lib.bitLen Yn)) = ((2 ^ (64 - Lib.bitLen Yn) : Nat) : Int) := by push_cast; rfl
    have eYw : IntKind.u64.wrap ((Yn : Int) * 2 ^ (64 - Lib.bitLen Yn)) = ((Yn * 2 ^ (64 - Lib.bitLen Yn) : Nat) : Int) := by
      rw [eK, ← Int.natCast_mul, IntKind.wrap_u64]; omega
    refine (div64_w (H : Int) (l : Int) (Yn : Int) (64 - (Lib.bitLen Yn : Int)) ((Yn * 2 ^ (64 - Lib.bitLen Yn) : Nat) : Int)
      ((H * 2 ^ (64 - Lib.bitLen Yn) + l / 2 ^ (64 - (64 - Lib.bitLen Yn)) : Nat) : Int) ((2 ^ (64 - Lib.bitLen Yn) * (l % 2 ^ (64 - (64 - Lib.bitLen Yn))) : Nat) : Int) _ _ _ _ (((H : Int) * 18446744073709551616 + l) / Yn) (((H : Int) * 18446744073709551616 + l) % Yn)
      hp h1 h2 h3 h4 (by omega) (by omega) rfl (by rw [hkt]; exact eYw) (by rw [hkt, hkt2]; exact n1) (by rw [hkt]; exact n2) rfl (low32 _ (by omega) (by omega)) rfl (low32 _ (by omega) (by omega))
      ⟨by omega, by omega, by omega, by omega, by omega, by omega, by omega, by omega⟩ (by show _ = _; omega) (by omega) (by omega) (by omega) (by omega) (by omega) (by omega) (by omega)
      (fun q1 q0 T e1 hT e2 => ?_) w).mono ?_
    · rw [hkt]
      exact div_fin (Nn := (H : Int) * 18446744073709551616 + l) (K := 2 ^ (64 - Lib.bitLen Yn)) (L := ((2 ^ (64 - Lib.bitLen Yn) * (l % 2 ^ (64 - (64 - Lib.bitLen Yn))) : Nat) : Int)) (by rw [eK]; omega) (by omega) (by rw [eK]; push_cast; rfl)
        (by
          rw [eK, show ((H : Int) * 18446744073709551616 + (l : Int)) * ((2 ^ (64 - Lib.bitLen Yn) : Nat) : Int) = (((H * 18446744073709551616 + l) * 2 ^ (64 - Lib.bitLen Yn) : Nat) : Int) from by rw [Int.natCast_mul, Int.natCast_add, Int.natCast_mul]; rfl, ← n3]
          omega) (by omega) (by omega) hT e2
    · rintro e w' ⟨rfl, rfl⟩
      exact ⟨rfl, 0, rfl⟩
  · subst hp
    refine (div64_0 lo y h1 h2 h3 h4 w).mono ?_
    rintro e w' ⟨rfl, k, rfl⟩
    exact ⟨by simp, k, rfl⟩
end Go.Proofs.Ythhoklgfgandpaa
