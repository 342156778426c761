/- WHAT ROUNDING LOSES OF A SUM IS A FLOAT. Own work of the verifier. -/
import Derived.Test.YtfnohbalkpponaaGreatDoorZBH
namespace Go.Proofs.YtfnohbalkpponaaGreatDoor.Soft

theorem rep_le {n k j : Nat} (h : n = k * 2 ^ j) (hk : k ≤ 9007199254740992) : Rep n := by
  rcases Nat.lt_or_eq_of_le hk with c | c
  · exact ⟨k, j, h, c⟩
  · refine ⟨4503599627370496, j + 1, ?_, by decide⟩
    rw [h, c, Nat.pow_succ]
    generalize 2 ^ j = q
    omega
theorem abs_mul (a b : Nat) (p : Nat) : (((a * p : Nat) : Int) - ((b * p : Nat) : Int)).natAbs = ((a : Int) - (b : Int)).natAbs * p := by
  rw [Int.natCast_mul, Int.natCast_mul, ← Int.sub_mul, Int.natAbs_mul, Int.natAbs_natCast]
/-- The greater one first: what is lost, and the difference on the way to it, are floats. -/
theorem fast_two {ma ua mb ub N : Nat} (ha : ma < 9007199254740992) (hb : mb < 9007199254740992) (hu : ub ≤ ua) (_hn : ua = 0 ∨ 4503599627370496 ≤ ma) (hBA : mb * 2 ^ ub ≤ ma * 2 ^ ua)
    (hN : N = ma * 2 ^ ua + mb * 2 ^ ub ∨ N = ma * 2 ^ ua - mb * 2 ^ ub) :
    ((N : Int) - (rN N : Int)).natAbs ≤ mb * 2 ^ ub ∧ Rep ((N : Int) - (rN N : Int)).natAbs ∧ Rep (((ma * 2 ^ ua : Nat) : Int) - (rN N : Int)).natAbs := by
  have hpu := pow_pos' ub
  have eA : ma * 2 ^ ua = ma * 2 ^ (ua - ub) * 2 ^ ub := by rw [Nat.mul_assoc, ← Nat.pow_add, show ua - ub + ub = ua from by omega]
  have hrB : Rep (mb * 2 ^ ub) := ⟨mb, ub, rfl, hb⟩
  obtain ⟨n0, hn0⟩ : ∃ n0, N = n0 * 2 ^ ub := by
    rcases hN with h | h
    · exact ⟨ma * 2 ^ (ua - ub) + mb, by rw [h, eA, Nat.add_mul]⟩
    · exact ⟨ma * 2 ^ (ua - ub) - mb, by rw [h, eA, Nat.sub_mul]⟩
  have hAN : (((ma * 2 ^ ua : Nat) : Int) - (N : Int)).natAbs = mb * 2 ^ ub := by
    rcases hN with h | h
    · rw [h]; omega
    · rw [h]; omega
  by_cases hex : rN N = N
  · rw [hex]
    refine ⟨by omega, ?_, by rw [hAN]; exact hrB⟩
    rw [show (N : Int) - (N : Int) = 0 from by omega]
    exact ⟨0, 0, rfl, by decide⟩
  · have hbig : 9007199254740992 ≤ N := by
      rcases Nat.lt_or_ge N 9007199254740992 with c | c
      · exact absurd (rN_small c) hex
      · exact c
    obtain ⟨D, hD1, h1, h2, h3, _⟩ := rN_big hbig
    have hD : ub < D := by
      rcases Nat.lt_or_ge ub D with c | c
      · exact c
      · exfalso
        apply hex
        rw [h3]
        have e : N = n0 * 2 ^ (ub - D) * 2 ^ D := by rw [hn0, Nat.mul_assoc, ← Nat.pow_add, show ub - D + D = ub from by omega]
        have := rne_mul n0 ub D c
        rw [← hn0] at this
        rw [this, ← e]
    have eT : rN N = rne N D * 2 ^ (D - ub) * 2 ^ ub := by rw [h3, Nat.mul_assoc, ← Nat.pow_add, show D - ub + ub = D from by omega]
    have hee : ((N : Int) - (rN N : Int)).natAbs = ((n0 : Int) - ((rne N D * 2 ^ (D - ub) : Nat) : Int)).natAbs * 2 ^ ub := by
      rw [eT, ← abs_mul, ← hn0]
    have hsym : ((N : Int) - (rN N : Int)).natAbs = (((rne N D * 2 ^ D : Nat) : Int) - (N : Int)).natAbs := by rw [h3]; omega
    -- what is lost is at most the smaller one
    have hlost : ((N : Int) - (rN N : Int)).natAbs ≤ mb * 2 ^ ub := by
      rcases Nat.lt_or_ge ua D with c | c
      · have hnear := (rne_near N D 0).2
        rw [← hsym] at hnear
        have hA : ma * 2 ^ ua + 2 ^ ua ≤ 2 ^ (53 + ua) := by
          rw [Nat.pow_add, two_pow_53, ← Nat.succ_mul]
          exact Nat.mul_le_mul_right _ ha
        have hNA : 2 ^ (53 + ua) ≤ N := Nat.le_trans (Nat.pow_le_pow_right (by decide) (by omega)) h1
        have hD2 : D ≤ ua + 1 := by
          rcases Nat.lt_or_ge (ua + 1) D with k | k
          · exfalso
            have h5 : 2 ^ (53 + ua + 1) ≤ 2 ^ (52 + D) := Nat.pow_le_pow_right (by decide) (by omega)
            rw [Nat.pow_succ] at h5
            have hua := pow_pos' ua
            rcases hN with h | h <;> omega
          · exact k
        have hDe : 2 ^ D = 2 ^ ua * 2 := by rw [show D = ua + 1 from by omega, Nat.pow_succ]
        rw [hDe] at hnear
        have hBu : 2 ^ ua ≤ mb * 2 ^ ub := by
          rcases hN with h | h <;> omega
        omega
      · have e : ma * 2 ^ ua = ma * 2 ^ (ua - D) * 2 ^ D := by rw [Nat.mul_assoc, ← Nat.pow_add, show ua - D + D = ua from by omega]
        have hnear := (rne_near N D (ma * 2 ^ (ua - D))).1
        rw [← e, hAN, ← hsym] at hnear
        exact hnear
    refine ⟨hlost, ?_, ?_⟩
    · rw [hee] at hlost
      exact ⟨_, ub, hee, Nat.lt_of_le_of_lt (Nat.le_of_mul_le_mul_right hlost hpu) hb⟩
    · rcases Nat.lt_or_ge ua D with c | c
      · -- the sum went one bit up
        have eT2 : rN N = rne N D * 2 ^ (D - ua) * 2 ^ ua := by rw [h3, Nat.mul_assoc, ← Nat.pow_add, show D - ua + ua = D from by omega]
        have hda : (((ma * 2 ^ ua : Nat) : Int) - (rN N : Int)).natAbs = ((ma : Int) - ((rne N D * 2 ^ (D - ua) : Nat) : Int)).natAbs * 2 ^ ua := by rw [eT2, ← abs_mul]
        have hA : ma * 2 ^ ua + 2 ^ ua ≤ 2 ^ (53 + ua) := by
          rw [Nat.pow_add, two_pow_53, ← Nat.succ_mul]
          exact Nat.mul_le_mul_right _ ha
        have hNA : 2 ^ (53 + ua) ≤ N := Nat.le_trans (Nat.pow_le_pow_right (by decide) (by omega)) h1
        have hnear := (rne_near N D 0).2
        rw [← hsym] at hnear
        have hua := pow_pos' ua
        have hD2 : D ≤ ua + 1 := by
          rcases Nat.lt_or_ge (ua + 1) D with k | k
          · exfalso
            have h5 : 2 ^ (53 + ua + 1) ≤ 2 ^ (52 + D) := Nat.pow_le_pow_right (by decide) (by omega)
            rw [Nat.pow_succ] at h5
            rcases hN with h | h <;> omega
          · exact k
        have hDe : 2 ^ D = 2 ^ ua * 2 := by rw [show D = ua + 1 from by omega, Nat.pow_succ]
        rw [hDe] at hnear
        have hbd : (((ma * 2 ^ ua : Nat) : Int) - (rN N : Int)).natAbs ≤ 2 ^ (53 + ua) := by
          rcases hN with h | h <;> omega
        rw [hda, Nat.pow_add, two_pow_53] at hbd
        exact rep_le hda (Nat.le_of_mul_le_mul_right hbd hua)
      · have e : ma * 2 ^ ua = ma * 2 ^ (ua - D) * 2 ^ D := by rw [Nat.mul_assoc, ← Nat.pow_add, show ua - D + D = ua from by omega]
        have hda : (((ma * 2 ^ ua : Nat) : Int) - (rN N : Int)).natAbs = (((ma * 2 ^ (ua - D) : Nat) : Int) - ((rne N D : Nat) : Int)).natAbs * 2 ^ D := by rw [h3, e, ← abs_mul]
        have hbd : (((ma * 2 ^ ua : Nat) : Int) - (rN N : Int)).natAbs ≤ 2 * (mb * 2 ^ ub) := by omega
        have hbd2 : 2 * (mb * 2 ^ ub) ≤ 9007199254740992 * 2 ^ D := by
          have h5 : 2 ^ (ub + 1) ≤ 2 ^ D := Nat.pow_le_pow_right (by decide) hD
          rw [Nat.pow_succ] at h5
          have h6 : mb * 2 ^ ub ≤ 9007199254740992 * 2 ^ ub := Nat.mul_le_mul_right _ (Nat.le_of_lt hb)
          omega
        rw [hda] at hbd
        exact rep_le hda (Nat.le_of_mul_le_mul_right (Nat.le_trans hbd hbd2) (pow_pos' D))
end Go.Proofs.YtfnohbalkpponaaGreatDoor.Soft
/- LOSSES ARE EXACT, by words. Own work of the verifier. -/
namespace Go.Proofs.YtfnohbalkpponaaGreatDoor.Soft

/-- Rounding, of either sign. -/
def rI (z : Int) : Int := if z < 0 then -(rN z.natAbs : Int) else (rN z.natAbs : Int)
theorem rN_zero : rN 0 = 0 := rN_small (by decide)
theorem rI_sign (s : Bool) (N : Nat) : rI (if s then -(N : Int) else (N : Int)) = if s then -(rN N : Int) else (rN N : Int) := by
  unfold rI
  cases s
  · simp only [Bool.false_eq_true, if_false]; rw [if_neg (by omega), Int.natAbs_natCast]
  · simp only [if_true]
    by_cases h : N = 0
    · subst h; rw [if_neg (by decide)]; simp [rN_zero]
    · rw [if_pos (by omega), Int.natAbs_neg, Int.natAbs_natCast]
theorem rI_err (z : Int) : 9007199254740992 * (rI z - z).natAbs ≤ z.natAbs := by
  have := rN_err z.natAbs
  unfold rI
  split <;> omega
theorem vw_round {z : Int} (h : 4 * z.natAbs < TOP) : vw (fw z) = rI z ∧ Ok (fw z) := by
  obtain ⟨h1, h2⟩ := rN_top h
  refine ⟨?_, fw_ok (by rw [h1]; exact h2)⟩
  unfold fw rI
  rw [vw_sw _ (by rw [h1]; omega), h1]
  unfold sv rN
  by_cases hz : z < 0
  · rw [decide_eq_true hz, if_pos rfl, if_pos hz]
  · rw [decide_eq_false hz, if_neg (by decide), if_neg hz]
theorem sum_shape (s t : Bool) (a b : Nat) (h : b ≤ a) : ∃ N, (N = uV a + uV b ∨ N = uV a - uV b) ∧ sv s a + sv t b = (if s then -(N : Int) else (N : Int)) := by
  have hu := uV_le h
  unfold sv
  cases s <;> cases t
  · exact ⟨uV a + uV b, .inl rfl, by simp only [Bool.false_eq_true, if_false]; omega⟩
  · exact ⟨uV a - uV b, .inr rfl, by simp only [Bool.false_eq_true, if_false, if_true]; omega⟩
  · exact ⟨uV a - uV b, .inr rfl, by simp only [Bool.false_eq_true, if_false, if_true]; omega⟩
  · exact ⟨uV a + uV b, .inl rfl, by simp only [if_true]; omega⟩
theorem up_norm (a : Nat) : upOf a = 0 ∨ 4503599627370496 ≤ magOf a := by
  rcases Nat.eq_zero_or_pos (upOf a) with h | h
  · exact .inl h
  · exact .inr (mag_norm h)
/-- The two differences, for the greater one first. -/
theorem exact_two (s t : Bool) (a b : Nat) (h : b ≤ a) :
    Rep (sv s a - rI (sv s a + sv t b)).natAbs ∧ Rep (sv s a + sv t b - rI (sv s a + sv t b)).natAbs ∧ (sv s a + sv t b - rI (sv s a + sv t b)).natAbs ≤ uV b := by
  obtain ⟨N, hN, hz⟩ := sum_shape s t a b h
  have hBA : magOf b * 2 ^ upOf b ≤ magOf a * 2 ^ upOf a := by rw [uV_eq, uV_eq]; exact uV_le h
  obtain ⟨h1, h2, h3⟩ := fast_two (mag_lt a) (mag_lt b) (up_mono h) (up_norm a) hBA (N := N) (by rw [uV_eq, uV_eq]; exact hN)
  rw [uV_eq] at h1 h3
  rw [hz, rI_sign]
  unfold sv
  cases s
  · simp only [Bool.false_eq_true, if_false]
    exact ⟨h3, h2, h1⟩
  · simp only [if_true]
    have e1 : (-(uV a : Int) - -(rN N : Int)).natAbs = ((uV a : Int) - (rN N : Int)).natAbs := by omega
    have e2 : (-(N : Int) - -(rN N : Int)).natAbs = ((N : Int) - (rN N : Int)).natAbs := by omega
    rw [e1, e2]
    exact ⟨h3, h2, h1⟩
theorem vw_abs (s : Bool) {a : Nat} (h : a < 9223372036854775808) : (vw (sw s a)).natAbs = uV a := by
  rw [vw_sw s h]; unfold sv; cases s <;> simp
/-- The loss, the greater one first. -/
theorem loss_core {x y : Nat} (hx : Ok x) (hy : Fin y) (hm : y % 9223372036854775808 ≤ x % 9223372036854775808) (hb : 16 * (vw x).natAbs < TOP) :
    fa (fa x (neg (fw (vw x + vw y)))) y = fw (vw x + vw y - rI (vw x + vw y)) ∧ vw (fw (vw x + vw y - rI (vw x + vw y))) = vw x + vw y - rI (vw x + vw y) ∧ Ok (fw (vw x + vw y - rI (vw x + vw y))) ∧
      (vw x + vw y - rI (vw x + vw y)).natAbs ≤ (vw y).natAbs ∧ (vw y).natAbs ≤ (vw x).natAbs := by
  obtain ⟨s, a, rfl, ha⟩ := fin_cases hx.1
  obtain ⟨t, b, rfl, hbb⟩ := fin_cases hy
  rw [sw_mod s (by omega), sw_mod t (by omega)] at hm
  obtain ⟨r1, r2, r3⟩ := exact_two s t a b hm
  have hle := uV_le hm
  have va := vw_abs s (show a < 9223372036854775808 by omega)
  have vb := vw_abs t (show b < 9223372036854775808 by omega)
  have e1 := vw_sw s (show a < 9223372036854775808 by omega)
  have e2 := vw_sw t (show b < 9223372036854775808 by omega)
  rw [← e1, ← e2] at r1 r2 r3
  have hfx := hx.1
  have hox := hx.2
  clear e1 e2 hx
  generalize sw s a = x at *
  generalize sw t b = y at *
  have err := rI_err (vw x + vw y)
  generalize hz : vw x + vw y = z at *
  obtain ⟨t1, t2⟩ := vw_round (z := z) (by omega)
  have n1 : vw (neg (fw z)) = - rI z := by rw [vw_neg t2.1.1, t1]
  obtain ⟨d1, d2⟩ := vw_fw (z := vw x - rI z) r1 (by omega)
  obtain ⟨l1, l2⟩ := vw_fw (z := z - rI z) r2 (by omega)
  refine ⟨?_, l1, l2, by omega, by omega⟩
  rw [fa_fw hfx (fin_neg t2.1) (.inl hox), n1, show vw x + - rI z = vw x - rI z from by omega]
  rw [fa_fw d2.1 hy (.inl d2.2), d1]
  congr 1
  omega
/-- A sum and its loss. -/
theorem two_sum {x y : Nat} (hx : Ok x) (hy : Fin y) (hb : 32 * ((vw x).natAbs + (vw y).natAbs) < TOP) :
    Ok (fa x y) ∧ vw (fa x y) = rI (vw x + vw y) ∧ Ok (fl x y) ∧ vw (fl x y) = vw x + vw y - rI (vw x + vw y) := by
  have e0 : fa x y = fw (vw x + vw y) := fa_fw hx.1 hy (.inl hx.2)
  obtain ⟨t1, t2⟩ := vw_round (z := vw x + vw y) (by omega)
  refine ⟨by rw [e0]; exact t2, by rw [e0]; exact t1, ?_⟩
  unfold fl
  rw [e0]
  by_cases hg : geq x y = true
  · rw [if_pos hg]
    have hm : y % 9223372036854775808 ≤ x % 9223372036854775808 := by
      unfold geq at hg
      simp only [Bool.and_eq_true, decide_eq_true_eq] at hg
      exact hg.2
    obtain ⟨c1, c2, c3, _⟩ := loss_core hx hy hm (by omega)
    rw [c1]
    exact ⟨c3, c2⟩
  · rw [if_neg hg]
    have hm : x % 9223372036854775808 < y % 9223372036854775808 := by
      unfold geq at hg
      rw [fin_not_nan hx.1, fin_not_nan hy] at hg
      simp only [Bool.not_false, Bool.true_and, decide_eq_true_eq] at hg
      omega
    have hyo : Ok y := ⟨hy, by rintro rfl; omega⟩
    obtain ⟨c1, c2, c3, _⟩ := loss_core hyo hx.1 (by omega) (by omega)
    rw [Int.add_comm (vw y) (vw x)] at c1 c2 c3
    rw [c1]
    exact ⟨c3, c2⟩
end Go.Proofs.YtfnohbalkpponaaGreatDoor.Soft
/- HOW FAR A PAIR IS OFF. Own work of the verifier. -/
namespace Go.Proofs.YtfnohbalkpponaaGreatDoor.Soft

/-- A pair of the exact sum X, of magnitudes that come to A, behind m roundings. -/
structure Acc (p : Nat × Nat) (X : Int) (A m : Nat) : Prop where
  s : Ok p.1
  c : Ok p.2
  i1 : 2 * (9007199254740992 * (X - vw p.1).natAbs) ≤ 3 * (m * A)
  i2 : 2 * (9007199254740992 * (9007199254740992 * (vw p.2 - (X - vw p.1)).natAbs)) ≤ 3 * (m * (m * A))
  xa : X.natAbs ≤ A
theorem acc_zero : Acc (0, 0) 0 0 0 := by
  refine ⟨ok_zero, ok_zero, ?_, ?_, by decide⟩
  · rw [vw_zero]; decide
  · rw [vw_zero]; decide
theorem mul_lim {m A : Nat} (h : 3 * m ≤ 9007199254740992) : 3 * (m * A) ≤ 9007199254740992 * A := by
  rw [← Nat.mul_assoc]; exact Nat.mul_le_mul_right _ h
/-- What follows of it. -/
theorem acc_small {p : Nat × Nat} {X : Int} {A m : Nat} (h : Acc p X A m) (hm : 3 * m ≤ 9007199254740992) :
    2 * (X - vw p.1).natAbs ≤ A ∧ 2 * (9007199254740992 * (vw p.2 - (X - vw p.1)).natAbs) ≤ 3 * (m * A) ∧ 2 * (vw p.2 - (X - vw p.1)).natAbs ≤ A := by
  have l1 := mul_lim (A := A) hm
  have l2 := mul_lim (A := m * A) hm
  have i1 := h.i1
  have i2 := h.i2
  generalize (X - vw p.1).natAbs = E at *
  generalize (vw p.2 - (X - vw p.1)).natAbs = D at *
  generalize hq : m * A = q at *
  have l3 : 3 * (m * q) ≤ 9007199254740992 * q := l2
  have a1 : 2 * E ≤ A := by omega
  have a2 : 2 * (9007199254740992 * D) ≤ q := by omega
  exact ⟨a1, by omega, by omega⟩
/-- The arithmetic of one more float. -/
theorem put_arith {E D n e1 k e2 E' D' XA A V mA mmA mV mmV : Nat} (i1 : 2 * (9007199254740992 * E) ≤ 3 * mA) (i2 : 2 * (9007199254740992 * (9007199254740992 * D)) ≤ 3 * mmA) (xa : XA ≤ A) (a1 : 2 * E ≤ A) (a2 : 2 * (9007199254740992 * D) ≤ 3 * mA)
    (t1 : n ≤ XA + E + V) (t2 : E' ≤ E + e1) (t3 : k ≤ E' + D) (t4 : D' ≤ e2 + D) (r1 : 9007199254740992 * e1 ≤ n) (r2 : 9007199254740992 * e2 ≤ k) :
    2 * (9007199254740992 * E') ≤ 3 * (mA + mV + A + V) ∧ 2 * (9007199254740992 * (9007199254740992 * D')) ≤ 3 * (mmA + mmV + 2 * mA + 2 * mV + A + V) := by
  have h1 : 2 * (9007199254740992 * E') ≤ 3 * (mA + mV + A + V) := by omega
  refine ⟨h1, ?_⟩
  have h2 : 9007199254740992 * D' ≤ 9007199254740992 * D + E' + D := by omega
  have h3 : 2 * (9007199254740992 * (9007199254740992 * D')) ≤ 2 * (9007199254740992 * (9007199254740992 * D)) + 2 * (9007199254740992 * E') + 2 * (9007199254740992 * D) := by omega
  omega
theorem tri_put (X s c v r R : Int) : (s + v).natAbs ≤ X.natAbs + (X - s).natAbs + v.natAbs ∧ (X + v - r).natAbs ≤ (X - s).natAbs + (r - (s + v)).natAbs ∧ (c + (s + v - r)).natAbs ≤ (X + v - r).natAbs + (c - (X - s)).natAbs ∧ (R - (X + v - r)).natAbs ≤ (R - (c + (s + v - r))).natAbs + (c - (X - s)).natAbs ∧ s.natAbs ≤ X.natAbs + (X - s).natAbs := by
  refine ⟨?_, ?_, ?_, ?_, ?_⟩ <;> omega
theorem bnd_put {A V T E D XA S E' k e1 n : Nat} (hT : 1024 * (A + V) < T) (a1 : 2 * E ≤ A) (a3 : 2 * D ≤ A) (xa : XA ≤ A) (t5 : S ≤ XA + E) (t1 : n ≤ XA + E + V) (t2 : E' ≤ E + e1) (t3 : k ≤ E' + D) (r1 : 9007199254740992 * e1 ≤ n) : 32 * (S + V) < T ∧ 4 * k < T := by
  have h1 : e1 ≤ n := by omega
  constructor <;> omega
theorem acc_put {p : Nat × Nat} {X : Int} {A m x : Nat} (h : Acc p X A m) (hx : Fin x) (hm : 3 * m ≤ 9007199254740992) (hT : 1024 * (A + (vw x).natAbs) < TOP) : Acc (putW p x) (X + vw x) (A + (vw x).natAbs) (m + 1) := by
  obtain ⟨a1, a2, a3⟩ := acc_small h hm
  have xa := h.xa
  have hs := h.s
  have hc := h.c
  have er := rI_err (vw p.1 + vw x)
  obtain ⟨q1, q2, q3, q4, q5⟩ := tri_put X (vw p.1) (vw p.2) (vw x) (rI (vw p.1 + vw x)) (rI (vw p.2 + (vw p.1 + vw x - rI (vw p.1 + vw x))))
  obtain ⟨g1, g2⟩ := bnd_put hT a1 a3 xa q5 q1 q2 q3 er
  obtain ⟨s1, s2, f1, f2⟩ := two_sum hs hx g1
  have e0 : fa p.2 (fl p.1 x) = fw (vw p.2 + vw (fl p.1 x)) := fa_fw hc.1 f1.1 (.inl hc.2)
  obtain ⟨t1, t2⟩ := vw_round (z := vw p.2 + vw (fl p.1 x)) (by rw [f2]; exact g2)
  have er2 := rI_err (vw p.2 + vw (fl p.1 x))
  rw [f2] at er2 t1
  have key := put_arith (V := (vw x).natAbs) (mV := m * (vw x).natAbs) (mmV := m * (m * (vw x).natAbs)) h.i1 h.i2 xa a1 a2 q1 q2 q3 q4 er er2
  clear q1 q2 q3 q4 q5 g1 g2 a1 a2 a3 er er2
  refine ⟨s1, by show Ok (fa p.2 (fl p.1 x)); rw [e0]; exact t2, ?_, ?_, ?_⟩
  rotate_left 2
  · show (X + vw x).natAbs ≤ A + (vw x).natAbs
    clear key
    omega
  · show 2 * (9007199254740992 * (X + vw x - vw (fa p.1 x)).natAbs) ≤ _
    rw [s2]
    refine Nat.le_trans key.1 (Nat.le_of_eq ?_)
    simp only [Nat.add_mul, Nat.mul_add, Nat.one_mul]
    generalize m * A = q1
    generalize m * (vw x).natAbs = q2
    omega
  · show 2 * (9007199254740992 * (9007199254740992 * (vw (fa p.2 (fl p.1 x)) - (X + vw x - vw (fa p.1 x))).natAbs)) ≤ _
    rw [e0, f2, t1, s2]
    refine Nat.le_trans key.2 (Nat.le_of_eq ?_)
    simp only [Nat.add_mul, Nat.mul_add, Nat.one_mul]
    generalize m * (m * A) = q3
    generalize m * (m * (vw x).natAbs) = q4
    generalize m * A = q1
    generalize m * (vw x).natAbs = q2
    omega
end Go.Proofs.YtfnohbalkpponaaGreatDoor.Soft
/- HOW FAR MERGED PAIRS ARE OFF, and what a pair comes to. Own work of the verifier. -/
namespace Go.Proofs.YtfnohbalkpponaaGreatDoor.Soft

end Go.Proofs.YtfnohbalkpponaaGreatDoor.Soft
/- SUMMARIES: no sum of floats that may be recorded is a NaN. Own work of the verifier. -/
namespace Go.Proofs.YtfnohbalkpponaaGreatDoor
open Go.RowKit Soft

def UM : Nat := uV 8930638061075693568
theorem may_mag : magOf 8930638061075693568 = 4503599627370496 ∧ upOf 8930638061075693568 = 1982 := by decide +kernel
/-- So many words that may be recorded stay below the top. -/
theorem low_top {c A : Nat} (hc : c ≤ 4503599627370496) (hA : A ≤ c * UM) : 1024 * A < TOP := by
  unfold UM at hA
  have e := uV_eq 8930638061075693568
  obtain ⟨h1, h2⟩ := may_mag
  have ht := top_ge (D := upOf 8930638061075693568 + 64) (by rw [h2]; decide)
  rw [h1] at e
  rw [show 52 + (upOf 8930638061075693568 + 64) = upOf 8930638061075693568 + 116 from by omega, Nat.pow_add] at ht
  rw [← e] at hA
  have hp : 0 < 2 ^ upOf 8930638061075693568 := Nat.pow_pos (by decide)
  clear h2 e
  generalize upOf 8930638061075693568 = u at *
  generalize 2 ^ u = X at *
  have h3 : c * (4503599627370496 * X) ≤ 4503599627370496 * (4503599627370496 * X) := Nat.mul_le_mul_right _ hc
  have h4 : X * 2 ^ 116 = 83076749736557242056487941267521536 * X := by rw [Nat.mul_comm]
  rw [h4] at ht
  omega
theorem may_abs {x : Nat} (hx : x < 18446744073709551616) (h : mayB x = true) : (vw x).natAbs ≤ UM := by
  unfold mayB at h
  have h' := of_decide_eq_true h
  unfold vw
  have hu : ∀ y, y ≤ 8930638061075693568 → uV y ≤ UM := fun y hy => uV_le hy
  by_cases c : x < 9223372036854775808
  · rw [if_pos c, Int.natAbs_natCast]
    exact hu x (by omega)
  · rw [if_neg c, Int.natAbs_neg, Int.natAbs_natCast]
    have hy : x - 9223372036854775808 ≤ 8930638061075693568 := by omega
    exact hu (x - 9223372036854775808) hy
/-- What a summary's row holds: k floats that may be recorded. -/
structure SumOk (k s c mn mx : Nat) : Prop where
  acc : ∃ X A, Acc (s, c) X A k ∧ A ≤ k * UM
  hmn : mn < 18446744073709551616
  hmx : mx < 18446744073709551616
  n1 : Pr.isN mn = false
  n2 : Pr.isN mx = false
theorem SumOk.zero : SumOk 0 0 0 9218868437227405312 18442240474082181120 := ⟨⟨0, 0, acc_zero, Nat.zero_le _⟩, by decide, by decide, by decide, by decide⟩
theorem SumOk.hs {k s c mn mx : Nat} (h : SumOk k s c mn mx) : s < 18446744073709551616 := by obtain ⟨X, A, h1, _⟩ := h.acc; exact h1.s.1.1
theorem SumOk.hc {k s c mn mx : Nat} (h : SumOk k s c mn mx) : c < 18446744073709551616 := by obtain ⟨X, A, h1, _⟩ := h.acc; exact h1.c.1.1
theorem may_not {x : Nat} (h : mayB x = true) : Pr.isN x = false := by
  unfold mayB at h
  have := of_decide_eq_true h
  unfold Pr.isN
  exact decide_eq_false (by omega)
/-- One float more. -/
theorem SumOk.put {k s c mn mx x : Nat} (h : SumOk k s c mn mx) (hk : k < 70368744177664) (hx : x < 18446744073709551616) (hm : mayB x = true) : SumOk (k + 1) (Soft.fa s x) (Soft.fa c (Soft.fl s x)) (if keyN x < keyN mn then x else mn) (if keyN mx < keyN x then x else mx) := by
  obtain ⟨X, A, h1, h2⟩ := h.acc
  have h3 := may_abs hx hm
  have h5 : A + (vw x).natAbs ≤ (k + 1) * UM := by rw [Nat.add_mul, Nat.one_mul]; omega
  have hf : Soft.Fin x := ⟨hx, by unfold mayB at hm; have := of_decide_eq_true hm; omega⟩
  have h6 := acc_put h1 hf (by omega) (low_top (c := k + 1) (by omega) h5)
  refine ⟨⟨_, _, h6, h5⟩, ?_, ?_, ?_, ?_⟩
  · split
    · exact hx
    · exact h.hmn
  · split
    · exact hx
    · exact h.hmx
  · split
    · exact may_not hm
    · exact h.n1
  · split
    · exact may_not hm
    · exact h.n2
theorem one_eq {r z : Nat} (h : Soft.one r = z) (hz : Soft.isn z = false) : r = z := by
  rw [← h] at hz ⊢
  rw [isn_one] at hz
  exact (one_of_not hz).symm
theorem SumOk.fs {k s c mn mx : Nat} (h : SumOk k s c mn mx) : Soft.isn s = false := by obtain ⟨X, A, h1, _⟩ := h.acc; exact fin_not_nan h1.s.1
theorem SumOk.fc {k s c mn mx : Nat} (h : SumOk k s c mn mx) : Soft.isn c = false := by obtain ⟨X, A, h1, _⟩ := h.acc; exact fin_not_nan h1.c.1
/-- What the code's Sample leaves is what the document's leaves. -/
theorem SumOk.same {k s c mn mx x r d : Nat} {kk : Int} (h : SumOk k s c mn mx) (hk : k < 70368744177664) (hx : x < 18446744073709551616) (hm : mayB x = true) (h1 : Soft.one r = Soft.fa s x) (h2 : Soft.one d = Soft.fa c (Soft.fl s x)) : sRow (wrap64 (kk + 1)) r d (mnF x mn) (mxF x mx) = smD kk s c mn mx x := by
  have hp := h.put hk hx hm
  rw [one_eq h1 hp.fs, one_eq h2 hp.fc, mn_key (by rw [may_not hm]; decide) (by rw [h.n1]; decide), mx_key (by rw [may_not hm]; decide) (by rw [h.n2]; decide)]
  rfl
end Go.Proofs.YtfnohbalkpponaaGreatDoor
