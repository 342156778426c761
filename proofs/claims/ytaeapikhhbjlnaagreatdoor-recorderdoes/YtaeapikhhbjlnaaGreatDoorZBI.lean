/- WHAT ROUNDING LOSES OF A SUM IS A FLOAT. Own work of the verifier. -/
import Derived.Test.YtaeapikhhbjlnaaGreatDoorZBH
namespace Go.Proofs.YtaeapikhhbjlnaaGreatDoor.Soft

theorem rep_le {n k j : Nat} (h : n = k * 2 ^ j) (hk : k ≤ 9007199254740992) : Rep n := by
  rcases Nat.lt_or_eq_of_le hk with c | c
  · exact ⟨k, j, h, c⟩
  · refine ⟨4503599627370496, j + 1, ?_, by decide⟩
    rw [h, c, Nat.pow_succ]
    generalize 2 ^ j = q
    omega
theorem abs_mul (a b : Nat) (p : Nat) : (((a * p : Nat) : Int) - ((b * p : Nat) : Int)).natAbs = ((a : Int) - (b : Int)).natAbs * p := by
  rw [Int.natCast_mul, Int.natCast_mul, ← Int.sub_mul, Int.natAbs_mul, Int.natAbs_natCast]
/-- The greater one first: what is lost, and the difference on the way to it, are floats. -/
theorem fast_two {ma ua mb ub N : Nat} (ha : ma < 9007199254740992) (hb : mb < 9007199254740992) (hu : ub ≤ ua) (_hn : ua = 0 ∨ 4503599627370496 ≤ ma) (hBA : mb * 2 ^ ub ≤ ma * 2 ^ ua)
    (hN : N = ma * 2 ^ ua + mb * 2 ^ ub ∨ N = ma * 2 ^ ua - mb * 2 ^ ub) :
    ((N : Int) - (rN N : Int)).natAbs ≤ mb * 2 ^ ub ∧ Rep ((N : Int) - (rN N : Int)).natAbs ∧ Rep (((ma * 2 ^ ua : Nat) : Int) - (rN N : Int)).natAbs := by
  have hpu := pow_pos' ub
  have eA : ma * 2 ^ ua = ma * 2 ^ (ua - ub) * 2 ^ ub := by rw [Nat.mul_assoc, ← Nat.pow_add, show ua - ub + ub = ua from by omega]
  have hrB : Rep (mb * 2 ^ ub) := ⟨mb, ub, rfl, hb⟩
  obtain ⟨n0, hn0⟩ : ∃ n0, N = n0 * 2 ^ ub := by
    rcases hN with h | h
    · exact ⟨ma * 2 ^ (ua - ub) + mb, by rw [h, eA, Nat.add_mul]⟩
    · exact ⟨ma * 2 ^ (ua - ub) - mb, by rw [h, eA, Nat.sub_mul]⟩
  have hAN : (((ma * 2 ^ ua : Nat) : Int) - (N : Int)).natAbs = mb * 2 ^ ub := by
    rcases hN with h | h
    · rw [h]; omega
    · rw [h]; omega
  by_cases hex : rN N = N
  · rw [hex]
    refine ⟨by omega, ?_, by rw [hAN]; exact hrB⟩
    rw [show (N : Int) - (N : Int) = 0 from by omega]
    exact ⟨0, 0, rfl, by decide⟩
  · have hbig : 9007199254740992 ≤ N := by
      rcases Nat.lt_or_ge N 9007199254740992 with c | c
      · exact absurd (rN_small c) hex
      · exact c
    obtain ⟨D, hD1, h1, h2, h3, _⟩ := rN_big hbig
    have hD : ub < D := by
      rcases Nat.lt_or_ge ub D with c | c
      · exact c
      · exfalso
        apply hex
        rw [h3]
        have e : N = n0 * 2 ^ (ub - D) * 2 ^ D := by rw [hn0, Nat.mul_assoc, ← Nat.pow_add, show ub - D + D = ub from by omega]
        have := rne_mul n0 ub D c
        rw [← hn0] at this
        rw [this, ← e]
    have eT : rN N = rne N D * 2 ^ (D - ub) * 2 ^ ub := by rw [h3, Nat.mul_assoc, ← Nat.pow_add, show D - ub + ub = D from by omega]
    have hee : ((N : Int) - (rN N : Int)).natAbs = ((n0 : Int) - ((rne N D * 2 ^ (D - ub) : Nat) : Int)).natAbs * 2 ^ ub := by
      rw [eT, ← abs_mul, ← hn0]
    have hsym : ((N : Int) - (rN N : Int)).natAbs = (((rne N D * 2 ^ D : Nat) : Int) - (N : Int)).natAbs := by rw [h3]; omega
    -- what is lost is at most the smaller one
    have hlost : ((N : Int) - (rN N : Int)).natAbs ≤ mb * 2 ^ ub := by
      rcases Nat.lt_or_ge ua D with c | c
      · have hnear := (rne_near N D 0).2
        rw [← hsym] at hnear
        have hA : ma * 2 ^ ua + 2 ^ ua ≤ 2 ^ (53 + ua) := by
          rw [Nat.pow_add, two_pow_53, ← Nat.succ_mul]
          exact Nat.mul_le_mul_right _ ha
        have hNA : 2 ^ (53 + ua) ≤ N := Nat.le_trans (Nat.pow_le_pow_right (by decide) (by omega)) h1
        have hD2 : D ≤ ua + 1 := by
          rcases Nat.lt_or_ge (ua + 1) D with k | k
          · exfalso
            have h5 : 2 ^ (53 + ua + 1) ≤ 2 ^ (52 + D) := Nat.pow_le_pow_right (by decide) (by omega)
            rw [Nat.pow_succ] at h5
            have hua := pow_pos' ua
            rcases hN with h | h <;> omega
          · exact k
        have hDe : 2 ^ D = 2 ^ ua * 2 := by rw [show D = ua + 1 from by omega, Nat.pow_succ]
        rw [hDe] at hnear
        have hBu : 2 ^ ua ≤ mb * 2 ^ ub := by
          rcases hN with h | h <;> omega
        omega
      · have e : ma * 2 ^ ua = ma * 2 ^ (ua - D) * 2 ^ D := by rw [Nat.mul_assoc, ← Nat.pow_add, show ua - D + D = ua from by omega]
        have hnear := (rne_near N D (ma * 2 ^ (ua - D))).1
        rw [← e, hAN, ← hsym] at hnear
        exact hnear
    refine ⟨hlost, ?_, ?_⟩
    · rw [hee] at hlost
      exact ⟨_, ub, hee, Nat.lt_of_le_of_lt (Nat.le_of_mul_le_mul_right hlost hpu) hb⟩
    · rcases Nat.lt_or_ge ua D with c | c
      · -- the sum went one bit up
        have eT2 : rN N = rne N D * 2 ^ (D - ua) * 2 ^ ua := by rw [h3, Nat.mul_assoc, ← Nat.pow_add, show D - ua + ua = D from by omega]
        have hda : (((ma * 2 ^ ua : Nat) : Int) - (rN N : Int)).natAbs = ((ma : Int) - ((rne N D * 2 ^ (D - ua) : Nat) : Int)).natAbs * 2 ^ ua := by rw [eT2, ← abs_mul]
        have hA : ma * 2 ^ ua + 2 ^ ua ≤ 2 ^ (53 + ua) := by
          rw [Nat.pow_add, two_pow_53, ← Nat.succ_mul]
          exact Nat.mul_le_mul_right _ ha
        have hNA : 2 ^ (53 + ua) ≤ N := Nat.le_trans (Nat.pow_le_pow_right (by decide) (by omega)) h1
        have hnear := (rne_near N D 0).2
        rw [← hsym] at hnear
        have hua := pow_pos' ua
        have hD2 : D ≤ ua + 1 := by
          rcases Nat.lt_or_ge (ua + 1) D with k | k
          · exfalso
            have h5 : 2 ^ (53 + ua + 1) ≤ 2 ^ (52 + D) := Nat.pow_le_pow_right (by decide) (by omega)
            rw [Nat.pow_succ] at h5
            rcases hN with h | h <;> omega
          · exact k
        have hDe : 2 ^ D = 2 ^ ua * 2 := by rw [show D = ua + 1 from by omega, Nat.pow_succ]
        rw [hDe] at hnear
        have hbd : (((ma * 2 ^ ua : Nat) : Int) - (rN N : Int)).natAbs ≤ 2 ^ (53 + ua) := by
          rcases hN with h | h <;> omega
        rw [hda, Nat.pow_add, two_pow_53] at hbd
        exact rep_le hda (Nat.le_of_mul_le_mul_right hbd hua)
      · have e : ma * 2 ^ ua = ma * 2 ^ (ua - D) * 2 ^ D := by rw [Nat.mul_assoc, ← Nat.pow_add, show ua - D + D = ua from by omega]
        have hda : (((ma * 2 ^ ua : Nat) : Int) - (rN N : Int)).natAbs = (((ma * 2 ^ (ua - D) : Nat) : Int) - ((rne N D : Nat) : Int)).natAbs * 2 ^ D := by rw [h3, e, ← abs_mul]
        have hbd : (((ma * 2 ^ ua : Nat) : Int) - (rN N : Int)).natAbs ≤ 2 * (mb * 2 ^ ub) := by omega
        have hbd2 : 2 * (mb * 2 ^ ub) ≤ 9007199254740992 * 2 ^ D := by
          have h5 : 2 ^ (ub + 1) ≤ 2 ^ D := Nat.pow_le_pow_right (by decide) hD
          rw [Nat.pow_succ] at h5
          have h6 : mb * 2 ^ ub ≤ 9007199254740992 * 2 ^ ub := Nat.mul_le_mul_right _ (Nat.le_of_lt hb)
          omega
        rw [hda] at hbd
        exact rep_le hda (Nat.le_of_mul_le_mul_right (Nat.le_trans hbd hbd2) (pow_pos' D))
end Go.Proofs.YtaeapikhhbjlnaaGreatDoor.Soft
/- LOSSES ARE EXACT, by words. Own work of the verifier. -/
namespace Go.Proofs.YtaeapikhhbjlnaaGreatDoor.Soft

/-- Rounding, of either sign. -/
def rI (z : Int) : Int := if z < 0 then -(rN z.natAbs : Int) else (rN z.natAbs : Int)
theorem rN_zero : rN 0 = 0 := rN_small (by decide)
theorem rI_sign (s : Bool) (N : Nat) : rI (if s then -(N : Int) else (N : Int)) = if s then -(rN N : Int) else (rN N : Int) := by
  unfold rI
  cases s
  · simp only [Bool.false_eq_true, if_false]; rw [if_neg (by omega), Int.natAbs_natCast]
  · simp only [if_true]
    by_cases h : N = 0
    · subst h; rw [if_neg (by decide)]; simp [rN_zero]
    · rw [if_pos (by omega), Int.natAbs_neg, Int.natAbs_natCast]
theorem rI_err (z : Int) : 9007199254740992 * (rI z - z).natAbs ≤ z.natAbs := by
  have := rN_err z.natAbs
  unfold rI
  split <;> omega
theorem vw_round {z : Int} (h : 4 * z.natAbs < TOP) : vw (fw z) = rI z ∧ Ok (fw z) := by
  obtain ⟨h1, h2⟩ := rN_top h
  refine ⟨?_, fw_ok (by rw [h1]; exact h2)⟩
  unfold fw rI
  rw [vw_sw _ (by rw [h1]; omega), h1]
  unfold sv rN
  by_cases hz : z < 0
  · rw [decide_eq_true hz, if_pos rfl, if_pos hz]
  · rw [decide_eq_false hz, if_neg (by decide), if_neg hz]
theorem sum_shape (s t : Bool) (a b : Nat) (h : b ≤ a) : ∃ N, (N = uV a + uV b ∨ N = uV a - uV b) ∧ sv s a + sv t b = (if s then -(N : Int) else (N : Int)) := by
  have hu := uV_le h
  unfold sv
  cases s <;> cases t
  · exact ⟨uV a + uV b, .inl rfl, by simp only [Bool.false_eq_true, if_false]; omega⟩
  · exact ⟨uV a - uV b, .inr rfl, by simp only [Bool.false_eq_true, if_false, if_true]; omega⟩
  · exact ⟨uV a - uV b, .inr rfl, by simp only [Bool.false_eq_true, if_false, if_true]; omega⟩
  · exact ⟨uV a + uV b, .inl rfl, by simp only [if_true]; omega⟩
theorem up_norm (a : Nat) : upOf a = 0 ∨ 4503599627370496 ≤ magOf a := by
  rcases Nat.eq_zero_or_pos (upOf a) with h | h
  · exact .inl h
  · exact .inr (mag_norm h)
/-- The two differences, for the greater one first. -/
theorem exact_two (s t : Bool) (a b : Nat) (h : b ≤ a) :
    Rep (sv s a - rI (sv s a + sv t b)).natAbs ∧ Rep (sv s a + sv t b - rI (sv s a + sv t b)).natAbs ∧ (sv s a + sv t b - rI (sv s a + sv t b)).natAbs ≤ uV b := by
  obtain ⟨N, hN, hz⟩ := sum_shape s t a b h
  have hBA : magOf b * 2 ^ upOf b ≤ magOf a * 2 ^ upOf a := by rw [uV_eq, uV_eq]; exact uV_le h
  obtain ⟨h1, h2, h3⟩ := fast_two (mag_lt a) (mag_lt b) (up_mono h) (up_norm a) hBA (N := N) (by rw [uV_eq, uV_eq]; exact hN)
  rw [uV_eq] at h1 h3
  rw [hz, rI_sign]
  unfold sv
  cases s
  · simp only [Bool.false_eq_true, if_false]
    exact ⟨h3, h2, h1⟩
  · simp only [if_true]
    have e1 : (-(uV a : Int) - -(rN N : Int)).natAbs = ((uV a : Int) - (rN N : Int)).natAbs := by omega
    have e2 : (-(N : Int) - -(rN N : Int)).natAbs = ((N : Int) - (rN N : Int)).natAbs := by omega
    rw [e1, e2]
    exact ⟨h3, h2, h1⟩
theorem vw_abs (s : Bool) {a : Nat} (h : a < 9223372036854775808) : (vw (sw s a)).natAbs = uV a := by
  rw [vw_sw s h]; unfold sv; cases s <;> simp
/-- The loss, the greater one first. -/
theorem loss_core {x y : Nat} (hx : Ok x) (hy : Fin y) (hm : y % 9223372036854775808 ≤ x % 9223372036854775808) (hb : 16 * (vw x).natAbs < TOP) :
    fa (fa x (neg (fw (vw x + vw y)))) y = fw (vw x + vw y - rI (vw x + vw y)) ∧ vw (fw (vw x + vw y - rI (vw x + vw y))) = vw x + vw y - rI (vw x + vw y) ∧ Ok (fw (vw x + vw y - rI (vw x + vw y))) ∧
      (vw x + vw y - rI (vw x + vw y)).natAbs ≤ (vw y).natAbs ∧ (vw y).natAbs ≤ (vw x).natAbs := by
  obtain ⟨s, a, rfl, ha⟩ := fin_cases hx.1
  obtain ⟨t, b, rfl, hbb⟩ := fin_cases hy
  rw [sw_mod s (by omega), sw_mod t (by omega)] at hm
  obtain ⟨r1, r2, r3⟩ := exact_two s t a b hm
  have hle := uV_le hm
  have va := vw_abs s (show a < 9223372036854775808 by omega)
  have vb := vw_abs t (show b < 9223372036854775808 by omega)
  have e1 := vw_sw s (show a < 9223372036854775808 by omega)
  have e2 := vw_sw t (show b < 9223372036854775808 by omega)
  rw [← e1, ← e2] at r1 r2 r3
  have hfx := hx.1
  have hox := hx.2
  clear e1 e2 hx
  generalize sw s a = x at *
  generalize sw t b = y at *
  have err := rI_err (vw x + vw y)
  generalize hz : vw x + vw y = z at *
  obtain ⟨t1, t2⟩ := vw_round (z := z) (by omega)
  have n1 : vw (neg (fw z)) = - rI z := by rw [vw_neg t2.1.1, t1]
  obtain ⟨d1, d2⟩ := vw_fw (z := vw x - rI z) r1 (by omega)
  obtain ⟨l1, l2⟩ := vw_fw (z := z - rI z) r2 (by omega)
  refine ⟨?_, l1, l2, by omega, by omega⟩
  rw [fa_fw hfx (fin_neg t2.1) (.inl hox), n1, show vw x + - rI z = vw x - rI z from by omega]
  rw [fa_fw d2.1 hy (.inl d2.2), d1]
  congr 1
  omega
/-- A sum and its loss. -/
theorem two_sum {x y : Nat} (hx : Ok x) (hy : Fin y) (hb : 32 * ((vw x).natAbs + (vw y).natAbs) < TOP) :
    Ok (fa x y) ∧ vw (fa x y) = rI (vw x + vw y) ∧ Ok (fl x y) ∧ vw (fl x y) = vw x + vw y - rI (vw x + vw y) := by
  have e0 : fa x y = fw (vw x + vw y) := fa_fw hx.1 hy (.inl hx.2)
  obtain ⟨t1, t2⟩ := vw_round (z := vw x + vw y) (by omega)
  refine ⟨by rw [e0]; exact t2, by rw [e0]; exact t1, ?_⟩
  unfold fl
  rw [e0]
  by_cases hg : geq x y = true
  · rw [if_pos hg]
    have hm : y % 9223372036854775808 ≤ x % 9223372036854775808 := by
      unfold geq at hg
      simp only [Bool.and_eq_true, decide_eq_true_eq] at hg
      exact hg.2
    obtain ⟨c1, c2, c3, _⟩ := loss_core hx hy hm (by omega)
    rw [c1]
    exact ⟨c3, c2⟩
  · rw [if_neg hg]
    have hm : x % 9223372036854775808 < y % 9223372036854775808 := by
      unfold geq at hg
      rw [fin_not_nan hx.1, fin_not_nan hy] at hg
      simp only [Bool.not_false, Bool.true_and, decide_eq_true_eq] at hg
      omega
    have hyo : Ok y := ⟨hy, by rintro rfl; omega⟩
    obtain ⟨c1, c2, c3, _⟩ := loss_core hyo hx.1 (by omega) (by omega)
    rw [Int.add_comm (vw y) (vw x)] at c1 c2 c3
    rw [c1]
    exact ⟨c3, c2⟩
end Go.Proofs.YtaeapikhhbjlnaaGreatDoor.Soft
/- HOW FAR A PAIR IS OFF. Own work of the verifier. -/
namespace Go.Proofs.YtaeapikhhbjlnaaGreatDoor.Soft

/-- A pair of the exact sum X, of magnitudes that come to A, behind m roundings. -/
structure Acc (p : Nat × Nat) (X : Int) (A m : Nat) : Prop where
  s : Ok p.1
  c : Ok p.2
  i1 : 2 * (9007199254740992 * (X - vw p.1).natAbs) ≤ 3 * (m * A)
  i2 : 2 * (9007199254740992 * (9007199254740992 * (vw p.2 - (X - vw p.1)).natAbs)) ≤ 3 * (m * (m * A))
  xa : X.natAbs ≤ A
theorem acc_zero : Acc (0, 0) 0 0 0 := by
  refine ⟨ok_zero, ok_zero, ?_, ?_, by decide⟩
  · rw [vw_zero]; decide
  · rw [vw_zero]; decide
theorem mul_lim {m A : Nat} (h : 3 * m ≤ 9007199254740992) : 3 * (m * A) ≤ 9007199254740992 * A := by
  rw [← Nat.mul_assoc]; exact Nat.mul_le_mul_right _ h
/-- What follows of it. -/
theorem acc_small {p : Nat × Nat} {X : Int} {A m : Nat} (h : Acc p X A m) (hm : 3 * m ≤ 9007199254740992) :
    2 * (X - vw p.1).natAbs ≤ A ∧ 2 * (9007199254740992 * (vw p.2 - (X - vw p.1)).natAbs) ≤ 3 * (m * A) ∧ 2 * (vw p.2 - (X - vw p.1)).natAbs ≤ A := by
  have l1 := mul_lim (A := A) hm
  have l2 := mul_lim (A := m * A) hm
  have i1 := h.i1
  have i2 := h.i2
  generalize (X - vw p.1).natAbs = E at *
  generalize (vw p.2 - (X - vw p.1)).natAbs = D at *
  generalize hq : m * A = q at *
  have l3 : 3 * (m * q) ≤ 9007199254740992 * q := l2
  have a1 : 2 * E ≤ A := by omega
  have a2 : 2 * (9007199254740992 * D) ≤ q := by omega
  exact ⟨a1, by omega, by omega⟩
/-- The arithmetic of one more float. -/
theorem put_arith {E D n e1 k e2 E' D' XA A V mA mmA mV mmV : Nat} (i1 : 2 * (9007199254740992 * E) ≤ 3 * mA) (i2 : 2 * (9007199254740992 * (9007199254740992 * D)) ≤ 3 * mmA) (xa : XA ≤ A) (a1 : 2 * E ≤ A) (a2 : 2 * (9007199254740992 * D) ≤ 3 * mA)
    (t1 : n ≤ XA + E + V) (t2 : E' ≤ E + e1) (t3 : k ≤ E' + D) (t4 : D' ≤ e2 + D) (r1 : 9007199254740992 * e1 ≤ n) (r2 : 9007199254740992 * e2 ≤ k) :
    2 * (9007199254740992 * E') ≤ 3 * (mA + mV + A + V) ∧ 2 * (9007199254740992 * (9007199254740992 * D')) ≤ 3 * (mmA + mmV + 2 * mA + 2 * mV + A + V) := by
  have h1 : 2 * (9007199254740992 * E') ≤ 3 * (mA + mV + A + V) := by omega
  refine ⟨h1, ?_⟩
  have h2 : 9007199254740992 * D' ≤ 9007199254740992 * D + E' + D := by omega
  have h3 : 2 * (9007199254740992 * (9007199254740992 * D')) ≤ 2 * (9007199254740992 * (9007199254740992 * D)) + 2 * (9007199254740992 * E') + 2 * (9007199254740992 * D) := by omega
  omega
theorem tri_put (X s c v r R : Int) : (s + v).natAbs ≤ X.natAbs + (X - s).natAbs + v.natAbs ∧ (X + v - r).natAbs ≤ (X - s).natAbs + (r - (s + v)).natAbs ∧ (c + (s + v - r)).natAbs ≤ (X + v - r).natAbs + (c - (X - s)).natAbs ∧ (R - (X + v - r)).natAbs ≤ (R - (c + (s + v - r))).natAbs + (c - (X - s)).natAbs ∧ s.natAbs ≤ X.natAbs + (X - s).natAbs := by
  refine ⟨?_, ?_, ?_, ?_, ?_⟩ <;> omega
theorem bnd_put {A V T E D XA S E' k e1 n : Nat} (hT : 1024 * (A + V) < T) (a1 : 2 * E ≤ A) (a3 : 2 * D ≤ A) (xa : XA ≤ A) (t5 : S ≤ XA + E) (t1 : n ≤ XA + E + V) (t2 : E' ≤ E + e1) (t3 : k ≤ E' + D) (r1 : 9007199254740992 * e1 ≤ n) : 32 * (S + V) < T ∧ 4 * k < T := by
  have h1 : e1 ≤ n := by omega
  constructor <;> omega
theorem acc_put {p : Nat × Nat} {X : Int} {A m x : Nat} (h : Acc p X A m) (hx : Fin x) (hm : 3 * m ≤ 9007199254740992) (hT : 1024 * (A + (vw x).natAbs) < TOP) : Acc (putW p x) (X + vw x) (A + (vw x).natAbs) (m + 1) := by
  obtain ⟨a1, a2, a3⟩ := acc_small h hm
  have xa := h.xa
  have hs := h.s
  have hc := h.c
  have er := rI_err (vw p.1 + vw x)
  obtain ⟨q1, q2, q3, q4, q5⟩ := tri_put X (vw p.1) (vw p.2) (vw x) (rI (vw p.1 + vw x)) (rI (vw p.2 + (vw p.1 + vw x - rI (vw p.1 + vw x))))
  obtain ⟨g1, g2⟩ := bnd_put hT a1 a3 xa q5 q1 q2 q3 er
  obtain ⟨s1, s2, f1, f2⟩ := two_sum hs hx g1
  have e0 : fa p.2 (fl p.1 x) = fw (vw p.2 + vw (fl p.1 x)) := fa_fw hc.1 f1.1 (.inl hc.2)
  obtain ⟨t1, t2⟩ := vw_round (z := vw p.2 + vw (fl p.1 x)) (by rw [f2]; exact g2)
  have er2 := rI_err (vw p.2 + vw (fl p.1 x))
  rw [f2] at er2 t1
  have key := put_arith (V := (vw x).natAbs) (mV := m * (vw x).natAbs) (mmV := m * (m * (vw x).natAbs)) h.i1 h.i2 xa a1 a2 q1 q2 q3 q4 er er2
  clear q1 q2 q3 q4 q5 g1 g2 a1 a2 a3 er er2
  refine ⟨s1, by show Ok (fa p.2 (fl p.1 x)); rw [e0]; exact t2, ?_, ?_, ?_⟩
  rotate_left 2
  · show (X + vw x).natAbs ≤ A + (vw x).natAbs
    clear key
    omega
  · show 2 * (9007199254740992 * (X + vw x - vw (fa p.1 x)).natAbs) ≤ _
    rw [s2]
    refine Nat.le_trans key.1 (Nat.le_of_eq ?_)
    simp only [Nat.add_mul, Nat.mul_add, Nat.one_mul]
    generalize m * A = q1
    generalize m * (vw x).natAbs = q2
    omega
  · show 2 * (9007199254740992 * (9007199254740992 * (vw (fa p.2 (fl p.1 x)) - (X + vw x - vw (fa p.1 x))).natAbs)) ≤ _
    rw [e0, f2, t1, s2]
    refine Nat.le_trans key.2 (Nat.le_of_eq ?_)
    simp only [Nat.add_mul, Nat.mul_add, Nat.one_mul]
    generalize m * (m * A) = q3
    generalize m * (m * (vw x).natAbs) = q4
    generalize m * A = q1
    generalize m * (vw x).natAbs = q2
    omega
end Go.Proofs.YtaeapikhhbjlnaaGreatDoor.Soft
/- HOW FAR MERGED PAIRS ARE OFF, and what a pair comes to. Own work of the verifier. -/
namespace Go.Proofs.YtaeapikhhbjlnaaGreatDoor.Soft

theorem tri_merge (X1 X2 s c r d t g R : Int) : (s + r).natAbs ≤ X1.natAbs + X2.natAbs + (X1 - s).natAbs + (X2 - r).natAbs ∧ (X1 + X2 - t).natAbs ≤ (X1 - s).natAbs + (X2 - r).natAbs + (t - (s + r)).natAbs ∧
    (c + d).natAbs ≤ (X1 - s).natAbs + (X2 - r).natAbs + (c - (X1 - s)).natAbs + (d - (X2 - r)).natAbs ∧ (g + (s + r - t)).natAbs ≤ (X1 + X2 - t).natAbs + (c - (X1 - s)).natAbs + (d - (X2 - r)).natAbs + (g - (c + d)).natAbs ∧
    (R - (X1 + X2 - t)).natAbs ≤ (R - (g + (s + r - t))).natAbs + (g - (c + d)).natAbs + (c - (X1 - s)).natAbs + (d - (X2 - r)).natAbs ∧ s.natAbs ≤ X1.natAbs + (X1 - s).natAbs ∧ r.natAbs ≤ X2.natAbs + (X2 - r).natAbs := by
  have f2 := Int.natAbs_add_le
  have f3 : ∀ a b c : Int, (a + (b + c)).natAbs ≤ a.natAbs + b.natAbs + c.natAbs := fun a b c => by have := f2 a (b + c); have := f2 b c; omega
  have f4 : ∀ a b c d : Int, (a + (b + (c + d))).natAbs ≤ a.natAbs + b.natAbs + c.natAbs + d.natAbs := fun a b c d => by have := f3 a b (c + d); have := f2 c d; omega
  have ng : ∀ a : Int, (-a).natAbs = a.natAbs := fun a => Int.natAbs_neg a
  refine ⟨?_, ?_, ?_, ?_, ?_, ?_, ?_⟩
  · have h := f4 X1 X2 (-(X1 - s)) (-(X2 - r))
    rw [ng, ng, show X1 + (X2 + (-(X1 - s) + -(X2 - r))) = s + r from by omega] at h
    exact h
  · have h := f3 (X1 - s) (X2 - r) (-(t - (s + r)))
    rw [ng, show X1 - s + (X2 - r + -(t - (s + r))) = X1 + X2 - t from by omega] at h
    exact h
  · have h := f4 (X1 - s) (X2 - r) (c - (X1 - s)) (d - (X2 - r))
    rw [show X1 - s + (X2 - r + (c - (X1 - s) + (d - (X2 - r)))) = c + d from by omega] at h
    exact h
  · have h := f4 (X1 + X2 - t) (c - (X1 - s)) (d - (X2 - r)) (g - (c + d))
    rw [show X1 + X2 - t + (c - (X1 - s) + (d - (X2 - r) + (g - (c + d)))) = g + (s + r - t) from by omega] at h
    exact h
  · have h := f4 (R - (g + (s + r - t))) (g - (c + d)) (c - (X1 - s)) (d - (X2 - r))
    rw [show R - (g + (s + r - t)) + (g - (c + d) + (c - (X1 - s) + (d - (X2 - r)))) = R - (X1 + X2 - t) from by omega] at h
    exact h
  · have h := f2 X1 (-(X1 - s))
    rw [ng, show X1 + -(X1 - s) = s from by omega] at h
    exact h
  · have h := f2 X2 (-(X2 - r))
    rw [ng, show X2 + -(X2 - r) = r from by omega] at h
    exact h
theorem ar1 {U E1 E2 n e1 E' XA1 XA2 A1 A2 P Q : Nat} (i1 : 2 * (U * E1) ≤ 3 * P) (j1 : 2 * (U * E2) ≤ 3 * Q) (x1 : XA1 ≤ A1) (x2 : XA2 ≤ A2) (a1 : 2 * E1 ≤ A1) (b1 : 2 * E2 ≤ A2) (t1 : n ≤ XA1 + XA2 + E1 + E2) (t2 : E' ≤ E1 + E2 + e1) (r1 : U * e1 ≤ n) : 2 * (U * E') ≤ 3 * (P + Q) + 3 * (A1 + A2) := by
  have h := Nat.mul_le_mul_left U t2
  rw [Nat.mul_add, Nat.mul_add] at h
  generalize U * E1 = u1 at *
  generalize U * E2 = u2 at *
  generalize U * e1 = u3 at *
  generalize U * E' = u4 at *
  have h2 : n ≤ A1 + A2 + E1 + E2 := by omega
  have h3 : 2 * u3 ≤ 3 * (A1 + A2) := by omega
  omega
theorem ar2 {U E1 E2 D1 D2 A1 A2 h eg : Nat} (a1 : 2 * E1 ≤ A1) (b1 : 2 * E2 ≤ A2) (a3 : 2 * D1 ≤ A1) (b3 : 2 * D2 ≤ A2) (t3 : h ≤ E1 + E2 + D1 + D2) (r2 : U * eg ≤ h) : U * eg ≤ A1 + A2 := by
  generalize U * eg = u at *
  omega
theorem ar3 {U E1 E2 D1 D2 E' k h eg G : Nat} (t3 : h ≤ E1 + E2 + D1 + D2) (t4 : k ≤ E' + D1 + D2 + eg) (g : U * eg ≤ G) : U * (k + h) ≤ U * E' + 2 * (U * D1) + 2 * (U * D2) + G + U * E1 + U * E2 := by
  have h1 : k + h ≤ E' + D1 + D2 + eg + (E1 + E2 + D1 + D2) := Nat.add_le_add t4 t3
  have h2 := Nat.mul_le_mul_left U h1
  simp only [Nat.mul_add] at h2
  rw [Nat.mul_add]
  omega
theorem ar4 {U D1 D2 k h eg ek D' : Nat} (t5 : D' ≤ ek + eg + D1 + D2) (r2 : U * eg ≤ h) (r3 : U * ek ≤ k) : U * (U * D') ≤ U * (k + h) + U * (U * D1) + U * (U * D2) := by
  have h1 := Nat.mul_le_mul_left U t5
  simp only [Nat.mul_add] at h1
  have h2 : U * D' ≤ k + h + U * D1 + U * D2 := by omega
  have h3 := Nat.mul_le_mul_left U h2
  simp only [Nat.mul_add] at h3 ⊢
  exact h3
theorem ar5 {uuD' ukh uuD1 uuD2 uE' uD1 uD2 G uE1 uE2 A1 A2 P Q P' Q' PP QQ : Nat} (i1 : 2 * uE1 ≤ 3 * P) (j1 : 2 * uE2 ≤ 3 * Q) (i2 : 2 * uuD1 ≤ 3 * PP) (j2 : 2 * uuD2 ≤ 3 * QQ) (a2 : 2 * uD1 ≤ 3 * P) (b2 : 2 * uD2 ≤ 3 * Q)
    (h1 : 2 * uE' ≤ 3 * (P + Q) + 3 * (A1 + A2)) (hG : G = A1 + A2) (h5 : ukh ≤ uE' + 2 * uD1 + 2 * uD2 + G + uE1 + uE2) (h6 : uuD' ≤ ukh + uuD1 + uuD2) : 2 * uuD' ≤ 3 * (PP + QQ + 4 * P + 4 * Q + 4 * P' + 4 * Q' + 4 * A1 + 4 * A2) := by
  have k1 : 2 * ukh ≤ 12 * P + 12 * Q + 5 * (A1 + A2) := by omega
  have k2 : 2 * uuD' ≤ 12 * P + 12 * Q + 5 * (A1 + A2) + 3 * PP + 3 * QQ := by omega
  omega
theorem merge_arith {E1 E2 D1 D2 n e1 E' h eg k ek D' XA1 XA2 A1 A2 P Q P' Q' PP QQ : Nat} (i1 : 2 * (9007199254740992 * E1) ≤ 3 * P) (j1 : 2 * (9007199254740992 * E2) ≤ 3 * Q)
    (i2 : 2 * (9007199254740992 * (9007199254740992 * D1)) ≤ 3 * PP) (j2 : 2 * (9007199254740992 * (9007199254740992 * D2)) ≤ 3 * QQ) (x1 : XA1 ≤ A1) (x2 : XA2 ≤ A2) (a1 : 2 * E1 ≤ A1) (b1 : 2 * E2 ≤ A2) (a2 : 2 * (9007199254740992 * D1) ≤ 3 * P) (b2 : 2 * (9007199254740992 * D2) ≤ 3 * Q) (a3 : 2 * D1 ≤ A1) (b3 : 2 * D2 ≤ A2)
    (t1 : n ≤ XA1 + XA2 + E1 + E2) (t2 : E' ≤ E1 + E2 + e1) (t3 : h ≤ E1 + E2 + D1 + D2) (t4 : k ≤ E' + D1 + D2 + eg) (t5 : D' ≤ ek + eg + D1 + D2) (r1 : 9007199254740992 * e1 ≤ n) (r2 : 9007199254740992 * eg ≤ h) (r3 : 9007199254740992 * ek ≤ k) :
    2 * (9007199254740992 * E') ≤ 3 * (P + P' + Q' + Q + 2 * A1 + 2 * A2) ∧ 2 * (9007199254740992 * (9007199254740992 * D')) ≤ 3 * (PP + QQ + 4 * P + 4 * Q + 4 * P' + 4 * Q' + 4 * A1 + 4 * A2) := by
  have h1 := ar1 i1 j1 x1 x2 a1 b1 t1 t2 r1
  have h4 := ar2 a1 b1 a3 b3 t3 r2
  have h5 := ar3 t3 t4 h4
  have h6 := ar4 t5 r2 r3
  refine ⟨?_, ar5 i1 j1 i2 j2 a2 b2 h1 rfl h5 h6⟩
  clear i1 j1 i2 j2 x1 x2 a1 b1 a2 b2 a3 b3 t1 t2 t3 t4 t5 r1 r2 r3 h4 h5 h6
  omega
theorem bnd_merge {A1 A2 T E1 E2 D1 D2 XA1 XA2 S1 S2 n e1 E' h eg k : Nat} (hT : 1024 * (A1 + A2) < T) (x1 : XA1 ≤ A1) (x2 : XA2 ≤ A2) (a1 : 2 * E1 ≤ A1) (b1 : 2 * E2 ≤ A2) (a3 : 2 * D1 ≤ A1) (b3 : 2 * D2 ≤ A2) (s1 : S1 ≤ XA1 + E1) (s2 : S2 ≤ XA2 + E2)
    (t1 : n ≤ XA1 + XA2 + E1 + E2) (t2 : E' ≤ E1 + E2 + e1) (t3 : h ≤ E1 + E2 + D1 + D2) (t4 : k ≤ E' + D1 + D2 + eg) (r1 : 9007199254740992 * e1 ≤ n) (r2 : 9007199254740992 * eg ≤ h) : 32 * (S1 + S2) < T ∧ 4 * h < T ∧ 4 * k < T := by
  have h1 : e1 ≤ n := by clear hT x1 x2 a1 b1 a3 b3 s1 s2 t1 t2 t3 t4 r2; omega
  have h2 : eg ≤ h := by clear hT x1 x2 a1 b1 a3 b3 s1 s2 t1 t2 t3 t4 r1; omega
  clear r1 r2
  have n1 : n ≤ 2 * (A1 + A2) := by clear hT a3 b3 s1 s2 t2 t3 t4 h1 h2; omega
  have n2 : h ≤ A1 + A2 := by clear hT x1 x2 s1 s2 t1 t2 t4 h1 h2 n1; omega
  have n3 : E' ≤ 3 * (A1 + A2) := by clear hT x1 x2 a3 b3 s1 s2 t1 t3 t4 h2 n2; omega
  have n4 : k ≤ 6 * (A1 + A2) := by clear hT x1 x2 a1 b1 s1 s2 t1 t2 t3 h1 n1; omega
  have n5 : S1 + S2 ≤ 2 * (A1 + A2) := by clear hT a3 b3 t1 t2 t3 t4 h1 h2 n1 n2 n3 n4; omega
  clear x1 x2 a1 b1 a3 b3 s1 s2 t1 t2 t3 t4 h1 h2 n1 n3
  refine ⟨?_, ?_, ?_⟩ <;> omega
theorem acc_merge {p q : Nat × Nat} {X1 X2 : Int} {A1 A2 m1 m2 : Nat} (h1 : Acc p X1 A1 m1) (h2 : Acc q X2 A2 m2) (hm1 : 3 * m1 ≤ 9007199254740992) (hm2 : 3 * m2 ≤ 9007199254740992) (hT : 1024 * (A1 + A2) < TOP) :
    Acc (mergeW p q) (X1 + X2) (A1 + A2) (m1 + m2 + 2) := by
  obtain ⟨a1, a2, a3⟩ := acc_small h1 hm1
  obtain ⟨b1, b2, b3⟩ := acc_small h2 hm2
  have er := rI_err (vw p.1 + vw q.1)
  have eg := rI_err (vw p.2 + vw q.2)
  obtain ⟨q1, q2, q3, q4, q5, q6, q7⟩ := tri_merge X1 X2 (vw p.1) (vw p.2) (vw q.1) (vw q.2) (rI (vw p.1 + vw q.1)) (rI (vw p.2 + vw q.2)) (rI (rI (vw p.2 + vw q.2) + (vw p.1 + vw q.1 - rI (vw p.1 + vw q.1))))
  obtain ⟨g1, g2, g3⟩ := bnd_merge hT h1.xa h2.xa a1 b1 a3 b3 q6 q7 q1 q2 q3 q4 er eg
  obtain ⟨s1, s2, f1, f2⟩ := two_sum h1.s h2.s.1 g1
  have c0 : fa p.2 q.2 = fw (vw p.2 + vw q.2) := fa_fw h1.c.1 h2.c.1 (.inl h1.c.2)
  obtain ⟨u1, u2⟩ := vw_round g2
  have e0 : fa (fa p.2 q.2) (fl p.1 q.1) = fw (rI (vw p.2 + vw q.2) + (vw p.1 + vw q.1 - rI (vw p.1 + vw q.1))) := by
    rw [c0, fa_fw u2.1 f1.1 (.inl u2.2), u1, f2]
  obtain ⟨t1, t2⟩ := vw_round g3
  have ek := rI_err (rI (vw p.2 + vw q.2) + (vw p.1 + vw q.1 - rI (vw p.1 + vw q.1)))
  have key := merge_arith (P' := m1 * A2) (Q' := m2 * A1) h1.i1 h2.i1 h1.i2 h2.i2 h1.xa h2.xa a1 b1 a2 b2 a3 b3 q1 q2 q3 q4 q5 er eg ek
  have xa := h1.xa
  have xb := h2.xa
  clear q1 q2 q3 q4 q5 q6 q7 g1 g2 g3 a1 a2 a3 b1 b2 b3 er eg ek u1 u2
  refine ⟨s1, by show Ok (fa (fa p.2 q.2) (fl p.1 q.1)); rw [e0]; exact t2, ?_, ?_, ?_⟩
  · show 2 * (9007199254740992 * (X1 + X2 - vw (fa p.1 q.1)).natAbs) ≤ _
    rw [s2]
    refine Nat.le_trans key.1 (Nat.le_of_eq ?_)
    simp only [Nat.add_mul, Nat.mul_add]
    generalize m1 * A1 = z1
    generalize m1 * A2 = z2
    generalize m2 * A1 = z3
    generalize m2 * A2 = z4
    omega
  · show 2 * (9007199254740992 * (9007199254740992 * (vw (fa (fa p.2 q.2) (fl p.1 q.1)) - (X1 + X2 - vw (fa p.1 q.1))).natAbs)) ≤ _
    rw [e0, t1, s2]
    refine Nat.le_trans key.2 ?_
    simp only [Nat.add_mul, Nat.mul_add, Nat.mul_left_comm m1 2, Nat.mul_left_comm m2 2]
    generalize m1 * A1 = z1
    generalize m1 * A2 = z2
    generalize m2 * A1 = z3
    generalize m2 * A2 = z4
    clear key
    omega
  · show (X1 + X2).natAbs ≤ A1 + A2
    clear key
    omega
end Go.Proofs.YtaeapikhhbjlnaaGreatDoor.Soft
/- SUMMARIES: no sum of floats that may be recorded is a NaN. Own work of the verifier. -/
namespace Go.Proofs.YtaeapikhhbjlnaaGreatDoor
open Go.RowKit Soft

def UM : Nat := uV 8930638061075693568
theorem may_mag : magOf 8930638061075693568 = 4503599627370496 ∧ upOf 8930638061075693568 = 1982 := by decide +kernel
/-- So many words that may be recorded stay below the top. -/
theorem low_top {c A : Nat} (hc : c ≤ 4503599627370496) (hA : A ≤ c * UM) : 1024 * A < TOP := by
  unfold UM at hA
  have e := uV_eq 8930638061075693568
  obtain ⟨h1, h2⟩ := may_mag
  have ht := top_ge (D := upOf 8930638061075693568 + 64) (by rw [h2]; decide)
  rw [h1] at e
  rw [show 52 + (upOf 8930638061075693568 + 64) = upOf 8930638061075693568 + 116 from by omega, Nat.pow_add] at ht
  rw [← e] at hA
  have hp : 0 < 2 ^ upOf 8930638061075693568 := Nat.pow_pos (by decide)
  clear h2 e
  generalize upOf 8930638061075693568 = u at *
  generalize 2 ^ u = X at *
  have h3 : c * (4503599627370496 * X) ≤ 4503599627370496 * (4503599627370496 * X) := Nat.mul_le_mul_right _ hc
  have h4 : X * 2 ^ 116 = 83076749736557242056487941267521536 * X := by rw [Nat.mul_comm]
  rw [h4] at ht
  omega
theorem may_abs {x : Nat} (hx : x < 18446744073709551616) (h : mayB x = true) : (vw x).natAbs ≤ UM := by
  unfold mayB at h
  have h' := of_decide_eq_true h
  unfold vw
  have hu : ∀ y, y ≤ 8930638061075693568 → uV y ≤ UM := fun y hy => uV_le hy
  by_cases c : x < 9223372036854775808
  · rw [if_pos c, Int.natAbs_natCast]
    exact hu x (by omega)
  · rw [if_neg c, Int.natAbs_neg, Int.natAbs_natCast]
    have hy : x - 9223372036854775808 ≤ 8930638061075693568 := by omega
    exact hu (x - 9223372036854775808) hy
/-- What a summary's row holds: k floats that may be recorded. -/
structure SumOk (k s c mn mx : Nat) : Prop where
  acc : ∃ X A, Acc (s, c) X A k ∧ A ≤ k * UM
  hmn : mn < 18446744073709551616
  hmx : mx < 18446744073709551616
  n1 : Pr.isN mn = false
  n2 : Pr.isN mx = false
theorem SumOk.zero : SumOk 0 0 0 9218868437227405312 18442240474082181120 := ⟨⟨0, 0, acc_zero, Nat.zero_le _⟩, by decide, by decide, by decide, by decide⟩
theorem SumOk.hs {k s c mn mx : Nat} (h : SumOk k s c mn mx) : s < 18446744073709551616 := by obtain ⟨X, A, h1, _⟩ := h.acc; exact h1.s.1.1
theorem SumOk.hc {k s c mn mx : Nat} (h : SumOk k s c mn mx) : c < 18446744073709551616 := by obtain ⟨X, A, h1, _⟩ := h.acc; exact h1.c.1.1
theorem may_not {x : Nat} (h : mayB x = true) : Pr.isN x = false := by
  unfold mayB at h
  have := of_decide_eq_true h
  unfold Pr.isN
  exact decide_eq_false (by omega)
/-- One float more. -/
theorem SumOk.put {k s c mn mx x : Nat} (h : SumOk k s c mn mx) (hk : k < 70368744177664) (hx : x < 18446744073709551616) (hm : mayB x = true) : SumOk (k + 1) (Soft.fa s x) (Soft.fa c (Soft.fl s x)) (if keyN x < keyN mn then x else mn) (if keyN mx < keyN x then x else mx) := by
  obtain ⟨X, A, h1, h2⟩ := h.acc
  have h3 := may_abs hx hm
  have h5 : A + (vw x).natAbs ≤ (k + 1) * UM := by rw [Nat.add_mul, Nat.one_mul]; omega
  have hf : Soft.Fin x := ⟨hx, by unfold mayB at hm; have := of_decide_eq_true hm; omega⟩
  have h6 := acc_put h1 hf (by omega) (low_top (c := k + 1) (by omega) h5)
  refine ⟨⟨_, _, h6, h5⟩, ?_, ?_, ?_, ?_⟩
  · split
    · exact hx
    · exact h.hmn
  · split
    · exact hx
    · exact h.hmx
  · split
    · exact may_not hm
    · exact h.n1
  · split
    · exact may_not hm
    · exact h.n2
theorem one_eq {r z : Nat} (h : Soft.one r = z) (hz : Soft.isn z = false) : r = z := by
  rw [← h] at hz ⊢
  rw [isn_one] at hz
  exact (one_of_not hz).symm
theorem SumOk.fs {k s c mn mx : Nat} (h : SumOk k s c mn mx) : Soft.isn s = false := by obtain ⟨X, A, h1, _⟩ := h.acc; exact fin_not_nan h1.s.1
theorem SumOk.fc {k s c mn mx : Nat} (h : SumOk k s c mn mx) : Soft.isn c = false := by obtain ⟨X, A, h1, _⟩ := h.acc; exact fin_not_nan h1.c.1
/-- What the code's Sample leaves is what the document's leaves. -/
theorem SumOk.same {k s c mn mx x r d : Nat} {kk : Int} (h : SumOk k s c mn mx) (hk : k < 70368744177664) (hx : x < 18446744073709551616) (hm : mayB x = true) (h1 : Soft.one r = Soft.fa s x) (h2 : Soft.one d = Soft.fa c (Soft.fl s x)) : sRow (wrap64 (kk + 1)) r d (mnF x mn) (mxF x mx) = smD kk s c mn mx x := by
  have hp := h.put hk hx hm
  rw [one_eq h1 hp.fs, one_eq h2 hp.fc, mn_key (by rw [may_not hm]; decide) (by rw [h.n1]; decide), mx_key (by rw [may_not hm]; decide) (by rw [h.n2]; decide)]
  rfl
/-- Pairs, one merged behind the other. -/
def mgS (S : Nat → Nat × Nat) : Nat → Nat × Nat
  | 0 => (0, 0)
  | i + 1 => mergeW (mgS S i) (S i)
theorem mg_fin {S : Nat → Nat × Nat} {K : Nat → Nat} (n : Nat) (hn : n ≤ 16) (h : ∀ i, i < n → K i < 70368744177664 ∧ ∃ X A, Acc (S i) X A (K i) ∧ A ≤ K i * UM) : ∃ X A m c, Acc (mgS S n) X A m ∧ A ≤ c * UM ∧ m ≤ n * 70368744177666 ∧ c ≤ n * 70368744177664 := by
  induction n with
  | zero => exact ⟨0, 0, 0, 0, acc_zero, by simp, by simp, by simp⟩
  | succ n ih =>
    obtain ⟨X, A, m, c, h1, h2, h3, h4⟩ := ih (by omega) (fun i hi => h i (by omega))
    obtain ⟨hk, X', A', h5, h6⟩ := h n (Nat.lt_succ_self _)
    have h7 : A + A' ≤ (c + K n) * UM := by rw [Nat.add_mul]; omega
    exact ⟨_, _, _, c + K n, acc_merge h1 h5 (by omega) (by omega) (low_top (c := c + K n) (by omega) h7), h7, by omega, by omega⟩
end Go.Proofs.YtaeapikhhbjlnaaGreatDoor
