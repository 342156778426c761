/- WHAT ROUNDING LOSES OF A SUM IS A FLOAT. Own work of the verifier. -/
import Derived.Test.YtdlaloakochfeaaSoftMath13
namespace Go.Proofs.Ytdlaloakochfeaa.Soft

theorem rep_le {n k j : Nat} (h : n = k * 2 ^ j) (hk : k ≤ 9007199254740992) : Rep n := by
  rcases Nat.lt_or_eq_of_le hk with c | c
  · exact ⟨k, j, h, c⟩
  · refine ⟨4503599627370496, j + 1, ?_, by decide⟩
    rw [h, c, Nat.pow_succ]
    generalize 2 ^ j = q
    omega
theorem abs_mul (a b : Nat) (p : Nat) : (((a * p : Nat) : Int) - ((b * p : Nat) : Int)).natAbs = ((a : Int) - (b : Int)).natAbs * p := by
  rw [Int.natCast_mul, Int.natCast_mul, ← Int.sub_mul, Int.natAbs_mul, Int.natAbs_natCast]
/-- The greater one first: what is lost, and the difference on the way to it, are floats. -/
theorem fast_two {ma ua mb ub N : Nat} (ha : ma < 9007199254740992) (hb : mb < 9007199254740992) (hu : ub ≤ ua) (_hn : ua = 0 ∨ 4503599627370496 ≤ ma) (hBA : mb * 2 ^ ub ≤ ma * 2 ^ ua)
    (hN : N = ma * 2 ^ ua + mb * 2 ^ ub ∨ N = ma * 2 ^ ua - mb * 2 ^ ub) :
    ((N : Int) - (rN N : Int)).natAbs ≤ mb * 2 ^ ub ∧ Rep ((N : Int) - (rN N : Int)).natAbs ∧ Rep (((ma * 2 ^ ua : Nat) : Int) - (rN N : Int)).natAbs := by
  have hpu := pow_pos' ub
  have eA : ma * 2 ^ ua = ma * 2 ^ (ua - ub) * 2 ^ ub := by rw [Nat.mul_assoc, ← Nat.pow_add, show ua - ub + ub = ua from by omega]
  have hrB : Rep (mb * 2 ^ ub) := ⟨mb, ub, rfl, hb⟩
  obtain ⟨n0, hn0⟩ : ∃ n0, N = n0 * 2 ^ ub := by
    rcases hN with h | h
    · exact ⟨ma * 2 ^ (ua - ub) + mb, by rw [h, eA, Nat.add_mul]⟩
    · exact ⟨ma * 2 ^ (ua - ub) - mb, by rw [h, eA, Nat.sub_mul]⟩
  have hAN : (((ma * 2 ^ ua : Nat) : Int) - (N : Int)).natAbs = mb * 2 ^ ub := by
    rcases hN with h | h
    · rw [h]; omega
    · rw [h]; omega
  by_cases hex : rN N = N
  · rw [hex]
    refine ⟨by omega, ?_, by rw [hAN]; exact hrB⟩
    rw [show (N : Int) - (N : Int) = 0 from by omega]
    exact ⟨0, 0, rfl, by decide⟩
  · have hbig : 9007199254740992 ≤ N := by
      rcases Nat.lt_or_ge N 9007199254740992 with c | c
      · exact absurd (rN_small c) hex
      · exact c
    obtain ⟨D, hD1, h1, h2, h3, _⟩ := rN_big hbig
    have hD : ub < D := by
      rcases Nat.lt_or_ge ub D with c | c
      · exact c
      · exfalso
        apply hex
        rw [h3]
        have e : N = n0 * 2 ^ (ub - D) * 2 ^ D := by rw [hn0, Nat.mul_assoc, ← Nat.pow_add, show ub - D + D = ub from by omega]
        have := rne_mul n0 ub D c
        rw [← hn0] at this
        rw [this, ← e]
    have eT : rN N = rne N D * 2 ^ (D - ub) * 2 ^ ub := by rw [h3, Nat.mul_assoc, ← Nat.pow_add, show D - ub + ub = D from by omega]
    have hee : ((N : Int) - (rN N : Int)).natAbs = ((n0 : Int) - ((rne N D * 2 ^ (D - ub) : Nat) : Int)).natAbs * 2 ^ ub := by
      rw [eT, ← abs_mul, ← hn0]
    have hsym : ((N : Int) - (rN N : Int)).natAbs = (((rne N D * 2 ^ D : Nat) : Int) - (N : Int)).natAbs := by rw [h3]; omega
    -- what is lost is at most the smaller one
    have hlost : ((N : Int) - (rN N : Int)).natAbs ≤ mb * 2 ^ ub := by
      rcases Nat.lt_or_ge ua D with c | c
      · have hnear := (rne_near N D 0).2
        rw [← hsym] at hnear
        have hA : ma * 2 ^ ua + 2 ^ ua ≤ 2 ^ (53 + ua) := by
          rw [Nat.pow_add, two_pow_53, ← Nat.succ_mul]
          exact Nat.mul_le_mul_right _ ha
        have hNA : 2 ^ (53 + ua) ≤ N := Nat.le_trans (Nat.pow_le_pow_right (by decide) (by omega)) h1
        have hD2 : D ≤ ua + 1 := by
          rcases Nat.lt_or_ge (ua + 1) D with k | k
          · exfalso
            have h5 : 2 ^ (53 + ua + 1) ≤ 2 ^ (52 + D) := Nat.pow_le_pow_right (by decide) (by omega)
            rw [Nat.pow_succ] at h5
            have hua := pow_pos' ua
            rcases hN with h | h <;> omega
          · exact k
        have hDe : 2 ^ D = 2 ^ ua * 2 := by rw [show D = ua + 1 from by omega, Nat.pow_succ]
        rw [hDe] at hnear
        have hBu : 2 ^ ua ≤ mb * 2 ^ ub := by
          rcases hN with h | h <;> omega
        omega
      · have e : ma * 2 ^ ua = ma * 2 ^ (ua - D) * 2 ^ D := by rw [Nat.mul_assoc, ← Nat.pow_add, show ua - D + D = ua from by omega]
        have hnear := (rne_near N D (ma * 2 ^ (ua - D))).1
        rw [← e, hAN, ← hsym] at hnear
        exact hnear
    refine ⟨hlost, ?_, ?_⟩
    · rw [hee] at hlost
      exact ⟨_, ub, hee, Nat.lt_of_le_of_lt (Nat.le_of_mul_le_mul_right hlost hpu) hb⟩
    · rcases Nat.lt_or_ge ua D with c | c
      · -- the sum went one bit up
        have eT2 : rN N = rne N D * 2 ^ (D - ua) * 2 ^ ua := by rw [h3, Nat.mul_assoc, ← Nat.pow_add, show D - ua + ua = D from by omega]
        have hda : (((ma * 2 ^ ua : Nat) : Int) - (rN N : Int)).natAbs = ((ma : Int) - ((rne N D * 2 ^ (D - ua) : Nat) : Int)).natAbs * 2 ^ ua := by rw [eT2, ← abs_mul]
        have hA : ma * 2 ^ ua + 2 ^ ua ≤ 2 ^ (53 + ua) := by
          rw [Nat.pow_add, two_pow_53, ← Nat.succ_mul]
          exact Nat.mul_le_mul_right _ ha
        have hNA : 2 ^ (53 + ua) ≤ N := Nat.le_trans (Nat.pow_le_pow_right (by decide) (by omega)) h1
        have hnear := (rne_near N D 0).2
        rw [← hsym] at hnear
        have hua := pow_pos' ua
        have hD2 : D ≤ ua + 1 := by
          rcases Nat.lt_or_ge (ua + 1) D with k | k
          · exfalso
            have h5 : 2 ^ (53 + ua + 1) ≤ 2 ^ (52 + D) := Nat.pow_le_pow_right (by decide) (by omega)
            rw [Nat.pow_succ] at h5
            rcases hN with h | h <;> omega
          · exact k
        have hDe : 2 ^ D = 2 ^ ua * 2 := by rw [show D = ua + 1 from by omega, Nat.pow_succ]
        rw [hDe] at hnear
        have hbd : (((ma * 2 ^ ua : Nat) : Int) - (rN N : Int)).natAbs ≤ 2 ^ (53 + ua) := by
          rcases hN with h | h <;> omega
        rw [hda, Nat.pow_add, two_pow_53] at hbd
        exact rep_le hda (Nat.le_of_mul_le_mul_right hbd hua)
      · have e : ma * 2 ^ ua = ma * 2 ^ (ua - D) * 2 ^ D := by rw [Nat.mul_assoc, ← Nat.pow_add, show ua - D + D = ua from by omega]
        have hda : (((ma * 2 ^ ua : Nat) : Int) - (rN N : Int)).natAbs = (((ma * 2 ^ (ua - D) : Nat) : Int) - ((rne N D : Nat) : Int)).natAbs * 2 ^ D := by rw [h3, e, ← abs_mul]
        have hbd : (((ma * 2 ^ ua : Nat) : Int) - (rN N : Int)).natAbs ≤ 2 * (mb * 2 ^ ub) := by omega
        have hbd2 : 2 * (mb * 2 ^ ub) ≤ 9007199254740992 * 2 ^ D := by
          have h5 : 2 ^ (ub + 1) ≤ 2 ^ D := Nat.pow_le_pow_right (by decide) hD
          rw [Nat.pow_succ] at h5
          have h6 : mb * 2 ^ ub ≤ 9007199254740992 * 2 ^ ub := Nat.mul_le_mul_right _ (Nat.le_of_lt hb)
          omega
        rw [hda] at hbd
        exact rep_le hda (Nat.le_of_mul_le_mul_right (Nat.le_trans hbd hbd2) (pow_pos' D))
end Go.Proofs.Ytdlaloakochfeaa.Soft
