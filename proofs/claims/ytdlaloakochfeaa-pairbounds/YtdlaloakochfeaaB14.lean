/- THE SUMS STAY BELOW THE TOP. Own work of the verifier. -/
import Derived.Test.YtdlaloakochfeaaB13
namespace Go.Proofs.Ytdlaloakochfeaa
open Go.RowKit Soft

theorem may_mag : magOf 8930638061075693568 = 4503599627370496 ∧ upOf 8930638061075693568 = 1982 := by decide +kernel
theorem top_mag : magOf 9218868437227405312 = 4503599627370496 ∧ upOf 9218868437227405312 = 2046 := by decide +kernel
/-- So many words that may be recorded stay below the top. -/
theorem low_top {c A : Nat} (hc : c ≤ 2147483647) (hA : A ≤ c * uV 8930638061075693568) : 1024 * A < TOP := by
  have e := uV_eq 8930638061075693568
  obtain ⟨h1, h2⟩ := may_mag
  have ht := top_ge (D := upOf 8930638061075693568 + 43) (by rw [h2]; decide)
  rw [h1] at e
  rw [show 52 + (upOf 8930638061075693568 + 43) = upOf 8930638061075693568 + 95 from by omega, Nat.pow_add] at ht
  rw [← e] at hA
  have hp : 0 < 2 ^ upOf 8930638061075693568 := Nat.pow_pos (by decide)
  clear h2 e
  generalize upOf 8930638061075693568 = u at *
  generalize 2 ^ u = X at *
  have h3 : c * (4503599627370496 * X) ≤ 2147483647 * (4503599627370496 * X) := Nat.mul_le_mul_right _ hc
  have h4 : X * 2 ^ 95 = 39614081257132168796771975168 * X := by rw [Nat.mul_comm]
  rw [h4] at ht
  omega
theorem top_sk : TOP ≤ 4294967296 ^ 70 := by
  have e := uV_eq 9218868437227405312
  rw [top_uV] at e
  obtain ⟨h1, h2⟩ := top_mag
  rw [← e, h1, h2]
  obtain ⟨u, hu⟩ : ∃ u, u = 2046 := ⟨_, rfl⟩
  obtain ⟨k, hk⟩ : ∃ k, k = 70 := ⟨_, rfl⟩
  rw [← hu, ← hk, show (4503599627370496 : Nat) = 2 ^ 52 from by decide, show (4294967296 : Nat) = 2 ^ 32 from by decide, ← Nat.pow_mul, ← Nat.pow_add]
  exact Nat.pow_le_pow_right (by decide) (by omega)
theorem sk_low {A : Nat} (h : 1024 * A < TOP) : Sk 70 A := by
  have := top_sk
  unfold Sk
  generalize 4294967296 ^ 70 = B at *
  omega
theorem uV_top {a : Nat} (h : a < 9218868437227405312) : uV a < TOP := by
  rw [← top_uV]; exact uV_mono h
theorem sk_word {x : Nat} (h : Ok x) : Sk 70 (vw (neg x)).natAbs := by
  have h0 := top_sk
  rw [vw_neg h.1.1, Int.natAbs_neg, abs_pn]
  have h1 := h.1.1
  have h2 := h.1.2
  unfold Sk
  refine Nat.lt_of_lt_of_le ?_ h0
  unfold pv nv
  by_cases c : x < 9223372036854775808
  · rw [if_pos c, if_pos c, Nat.add_zero]; exact uV_top (by omega)
  · rw [if_neg c, if_neg c, Nat.zero_add]; exact uV_top (by omega)
end Go.Proofs.Ytdlaloakochfeaa
