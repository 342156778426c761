/- LOSSES ARE EXACT, by words. Own work of the verifier. -/
import Derived.Test.YtdlaloakochfeaaSoftMath14
namespace Go.Proofs.Ytdlaloakochfeaa.Soft

/-- Rounding, of either sign. -/
def rI (z : Int) : Int := if z < 0 then -(rN z.natAbs : Int) else (rN z.natAbs : Int)
theorem rN_zero : rN 0 = 0 := rN_small (by decide)
theorem rI_sign (s : Bool) (N : Nat) : rI (if s then -(N : Int) else (N : Int)) = if s then -(rN N : Int) else (rN N : Int) := by
  unfold rI
  cases s
  · simp only [Bool.false_eq_true, if_false]; rw [if_neg (by omega), Int.natAbs_natCast]
  · simp only [if_true]
    by_cases h : N = 0
    · subst h; rw [if_neg (by decide)]; simp [rN_zero]
    · rw [if_pos (by omega), Int.natAbs_neg, Int.natAbs_natCast]
theorem rI_err (z : Int) : 9007199254740992 * (rI z - z).natAbs ≤ z.natAbs := by
  have := rN_err z.natAbs
  unfold rI
  split <;> omega
theorem vw_round {z : Int} (h : 4 * z.natAbs < TOP) : vw (fw z) = rI z ∧ Ok (fw z) := by
  obtain ⟨h1, h2⟩ := rN_top h
  refine ⟨?_, fw_ok (by rw [h1]; exact h2)⟩
  unfold fw rI
  rw [vw_sw _ (by rw [h1]; omega), h1]
  unfold sv rN
  by_cases hz : z < 0
  · rw [decide_eq_true hz, if_pos rfl, if_pos hz]
  · rw [decide_eq_false hz, if_neg (by decide), if_neg hz]
theorem sum_shape (s t : Bool) (a b : Nat) (h : b ≤ a) : ∃ N, (N = uV a + uV b ∨ N = uV a - uV b) ∧ sv s a + sv t b = (if s then -(N : Int) else (N : Int)) := by
  have hu := uV_le h
  unfold sv
  cases s <;> cases t
  · exact ⟨uV a + uV b, .inl rfl, by simp only [Bool.false_eq_true, if_false]; omega⟩
  · exact ⟨uV a - uV b, .inr rfl, by simp only [Bool.false_eq_true, if_false, if_true]; omega⟩
  · exact ⟨uV a - uV b, .inr rfl, by simp only [Bool.false_eq_true, if_false, if_true]; omega⟩
  · exact ⟨uV a + uV b, .inl rfl, by simp only [if_true]; omega⟩
theorem up_norm (a : Nat) : upOf a = 0 ∨ 4503599627370496 ≤ magOf a := by
  rcases Nat.eq_zero_or_pos (upOf a) with h | h
  · exact .inl h
  · exact .inr (mag_norm h)
/-- The two differences, for the greater one first. -/
theorem exact_two (s t : Bool) (a b : Nat) (h : b ≤ a) :
    Rep (sv s a - rI (sv s a + sv t b)).natAbs ∧ Rep (sv s a + sv t b - rI (sv s a + sv t b)).natAbs ∧ (sv s a + sv t b - rI (sv s a + sv t b)).natAbs ≤ uV b := by
  obtain ⟨N, hN, hz⟩ := sum_shape s t a b h
  have hBA : magOf b * 2 ^ upOf b ≤ magOf a * 2 ^ upOf a := by rw [uV_eq, uV_eq]; exact uV_le h
  obtain ⟨h1, h2, h3⟩ := fast_two (mag_lt a) (mag_lt b) (up_mono h) (up_norm a) hBA (N := N) (by rw [uV_eq, uV_eq]; exact hN)
  rw [uV_eq] at h1 h3
  rw [hz, rI_sign]
  unfold sv
  cases s
  · simp only [Bool.false_eq_true, if_false]
    exact ⟨h3, h2, h1⟩
  · simp only [if_true]
    have e1 : (-(uV a : Int) - -(rN N : Int)).natAbs = ((uV a : Int) - (rN N : Int)).natAbs := by omega
    have e2 : (-(N : Int) - -(rN N : Int)).natAbs = ((N : Int) - (rN N : Int)).natAbs := by omega
    rw [e1, e2]
    exact ⟨h3, h2, h1⟩
theorem vw_abs (s : Bool) {a : Nat} (h : a < 9223372036854775808) : (vw (sw s a)).natAbs = uV a := by
  rw [vw_sw s h]; unfold sv; cases s <;> simp
/-- The loss, the greater one first. -/
theorem loss_core {x y : Nat} (hx : Ok x) (hy : Fin y) (hm : y % 9223372036854775808 ≤ x % 9223372036854775808) (hb : 16 * (vw x).natAbs < TOP) :
    fa (fa x (neg (fw (vw x + vw y)))) y = fw (vw x + vw y - rI (vw x + vw y)) ∧ vw (fw (vw x + vw y - rI (vw x + vw y))) = vw x + vw y - rI (vw x + vw y) ∧ Ok (fw (vw x + vw y - rI (vw x + vw y))) ∧
      (vw x + vw y - rI (vw x + vw y)).natAbs ≤ (vw y).natAbs ∧ (vw y).natAbs ≤ (vw x).natAbs := by
  obtain ⟨s, a, rfl, ha⟩ := fin_cases hx.1
  obtain ⟨t, b, rfl, hbb⟩ := fin_cases hy
  rw [sw_mod s (by omega), sw_mod t (by omega)] at hm
  obtain ⟨r1, r2, r3⟩ := exact_two s t a b hm
  have hle := uV_le hm
  have va := vw_abs s (show a < 9223372036854775808 by omega)
  have vb := vw_abs t (show b < 9223372036854775808 by omega)
  have e1 := vw_sw s (show a < 9223372036854775808 by omega)
  have e2 := vw_sw t (show b < 9223372036854775808 by omega)
  rw [← e1, ← e2] at r1 r2 r3
  have hfx := hx.1
  have hox := hx.2
  clear e1 e2 hx
  generalize sw s a = x at *
  generalize sw t b = y at *
  have err := rI_err (vw x + vw y)
  generalize hz : vw x + vw y = z at *
  obtain ⟨t1, t2⟩ := vw_round (z := z) (by omega)
  have n1 : vw (neg (fw z)) = - rI z := by rw [vw_neg t2.1.1, t1]
  obtain ⟨d1, d2⟩ := vw_fw (z := vw x - rI z) r1 (by omega)
  obtain ⟨l1, l2⟩ := vw_fw (z := z - rI z) r2 (by omega)
  refine ⟨?_, l1, l2, by omega, by omega⟩
  rw [fa_fw hfx (fin_neg t2.1) (.inl hox), n1, show vw x + - rI z = vw x - rI z from by omega]
  rw [fa_fw d2.1 hy (.inl d2.2), d1]
  congr 1
  omega
/-- A sum and its loss. -/
theorem two_sum {x y : Nat} (hx : Ok x) (hy : Fin y) (hb : 32 * ((vw x).natAbs + (vw y).natAbs) < TOP) :
    Ok (fa x y) ∧ vw (fa x y) = rI (vw x + vw y) ∧ Ok (fl x y) ∧ vw (fl x y) = vw x + vw y - rI (vw x + vw y) := by
  have e0 : fa x y = fw (vw x + vw y) := fa_fw hx.1 hy (.inl hx.2)
  obtain ⟨t1, t2⟩ := vw_round (z := vw x + vw y) (by omega)
  refine ⟨by rw [e0]; exact t2, by rw [e0]; exact t1, ?_⟩
  unfold fl
  rw [e0]
  by_cases hg : geq x y = true
  · rw [if_pos hg]
    have hm : y % 9223372036854775808 ≤ x % 9223372036854775808 := by
      unfold geq at hg
      simp only [Bool.and_eq_true, decide_eq_true_eq] at hg
      exact hg.2
    obtain ⟨c1, c2, c3, _⟩ := loss_core hx hy hm (by omega)
    rw [c1]
    exact ⟨c3, c2⟩
  · rw [if_neg hg]
    have hm : x % 9223372036854775808 < y % 9223372036854775808 := by
      unfold geq at hg
      rw [fin_not_nan hx.1, fin_not_nan hy] at hg
      simp only [Bool.not_false, Bool.true_and, decide_eq_true_eq] at hg
      omega
    have hyo : Ok y := ⟨hy, by rintro rfl; omega⟩
    obtain ⟨c1, c2, c3, _⟩ := loss_core hyo hx.1 (by omega) (by omega)
    rw [Int.add_comm (vw y) (vw x)] at c1 c2 c3
    rw [c1]
    exact ⟨c3, c2⟩
end Go.Proofs.Ytdlaloakochfeaa.Soft
