/- THE SCALING AS A LINEAR FUNCTION, but for less than 1. Own work of the verifier. -/
import Derived.Test.YtoaaijohmfaphaaGreatDoorSAE
import Derived.Test.YtoaaijohmfaphaaGreatDoorSAF
namespace Go.Proofs.YtoaaijohmfaphaaGreatDoor.Rl
open Go.RowKit

def NN (x hi lo : Nat) : Nat := x * hi - x * lo / 18446744073709551616
def cutD (N D : Nat) : Nat := N / D ||| b2n (decide (1 < N % D))
theorem div_parts (D a R : Nat) (h : R < D) : (D * a + R) / D = a ∧ (D * a + R) % D = R :=
  ⟨by rw [Nat.mul_add_div (by omega), Nat.div_eq_of_lt h, Nat.add_zero], by rw [Nat.mul_add_mod, Nat.mod_eq_of_lt h]⟩
theorem carry_le (x lo : Nat) (hx : x < 18446744073709551616) (hlo : lo < 18446744073709551616) : x * lo / 18446744073709551616 ≤ 18446744073709551614 := by
  have h1 : x * lo ≤ 18446744073709551615 * 18446744073709551615 := Nat.mul_le_mul (by omega) (by omega)
  omega
theorem usc_form (x hi lo s : Nat) (hx : x < 18446744073709551616) (h0 : 1 ≤ hi) (hhi : hi < 18446744073709551616) (hlo : lo < 18446744073709551616) :
    usc x hi lo s = cutD (NN x hi lo) (18446744073709551616 * 2 ^ s) := by
  have hT : 0 < 2 ^ s := Nat.pow_pos (by decide)
  have hq := carry_le x lo hx hlo
  have hqx : x * lo / 18446744073709551616 ≤ x * hi := by
    have h1 : x * lo ≤ x * 18446744073709551616 := Nat.mul_le_mul_left _ (by omega)
    have h2 : x * 1 ≤ x * hi := Nat.mul_le_mul_left _ h0
    omega
  have hh : x * hi / 18446744073709551616 < 18446744073709551616 := by
    have h1 : x * hi ≤ 18446744073709551615 * 18446744073709551615 := Nat.mul_le_mul (by omega) (by omega)
    omega
  unfold usc cutD NN
  generalize x * lo / 18446744073709551616 = q at *
  generalize x * hi = P at *
  generalize 2 ^ s = T at *
  have hP : P = 18446744073709551616 * (P / 18446744073709551616) + P % 18446744073709551616 := (Nat.div_add_mod _ _).symm
  have hr : P % 18446744073709551616 < 18446744073709551616 := Nat.mod_lt _ (by decide)
  generalize P / 18446744073709551616 = h at *
  generalize P % 18446744073709551616 = r at *
  have hd : h = T * (h / T) + h % T := (Nat.div_add_mod _ _).symm
  have hc : h % T < T := Nat.mod_lt _ hT
  generalize h / T = a at *
  generalize h % T = c at *
  by_cases hz : c = 0
  · subst hz
    rw [Nat.add_zero] at hd
    rw [if_pos (by rw [hd, Nat.mul_comm])]
    by_cases hb : r < q
    · have ha : 1 ≤ a := by
        rcases Nat.eq_zero_or_pos a with h' | h'
        · subst h'; omega
        · exact h'
      obtain ⟨b, rfl⟩ : ∃ b, a = b + 1 := ⟨a - 1, by omega⟩
      have hN : P - q = 18446744073709551616 * T * b + (18446744073709551616 * T + r - q) := by
        have e1 : 18446744073709551616 * h = 18446744073709551616 * T * b + 18446744073709551616 * T := by rw [hd, ← Nat.mul_assoc, Nat.mul_add, Nat.mul_one]
        omega
      have e2 : h = T * b + T := by rw [hd, Nat.mul_add, Nat.mul_one]
      obtain ⟨k1, k2⟩ := div_parts (18446744073709551616 * T) b (18446744073709551616 * T + r - q) (by omega)
      rw [hN, k1, k2, decide_eq_true hb, show (h + 18446744073709551616 - b2n true) % 18446744073709551616 = T * b + (T - 1) from by show (h + 18446744073709551616 - 1) % 18446744073709551616 = _; omega, (div_parts T b (T - 1) (by omega)).1, decide_eq_true (show 1 < (r + 18446744073709551616 - q) % 18446744073709551616 from by omega), decide_eq_true (show 1 < 18446744073709551616 * T + r - q from by omega)]
    · have hN : P - q = 18446744073709551616 * T * a + (r - q) := by
        have e1 : 18446744073709551616 * h = 18446744073709551616 * T * a := by rw [hd, ← Nat.mul_assoc]
        omega
      obtain ⟨k1, k2⟩ := div_parts (18446744073709551616 * T) a (r - q) (by omega)
      rw [hN, k1, k2, decide_eq_false hb, show (h + 18446744073709551616 - b2n false) % 18446744073709551616 = T * a + 0 from by show (h + 18446744073709551616 - 0) % 18446744073709551616 = _; omega, (div_parts T a 0 hT).1, show (r + 18446744073709551616 - q) % 18446744073709551616 = r - q from by omega]
  · rw [if_neg (by rw [Nat.mul_comm]; omega)]
    have hN : P - q = 18446744073709551616 * T * a + (18446744073709551616 * c + r - q) := by
      have e1 : 18446744073709551616 * h = 18446744073709551616 * T * a + 18446744073709551616 * c := by rw [hd, Nat.mul_add, ← Nat.mul_assoc]
      omega
    obtain ⟨k1, k2⟩ := div_parts (18446744073709551616 * T) a (18446744073709551616 * c + r - q) (by omega)
    rw [hN, k1, k2, decide_eq_true (show 1 < 18446744073709551616 * c + r - q from by omega)]
    rfl
theorem NN_ceil (x hi lo : Nat) (h : lo ≤ hi * 18446744073709551616) : x * (hi * 18446744073709551616 - lo) ≤ NN x hi lo * 18446744073709551616 ∧ NN x hi lo * 18446744073709551616 < x * (hi * 18446744073709551616 - lo) + 18446744073709551616 := by
  unfold NN
  rw [Nat.mul_sub, ← Nat.mul_assoc]
  have h1 : x * lo ≤ x * hi * 18446744073709551616 := by rw [Nat.mul_assoc]; exact Nat.mul_le_mul_left _ h
  generalize x * lo = A at *
  generalize x * hi = B at *
  omega
theorem cutD_cases (N D : Nat) (hD : 0 < D) : ∃ Q R, N = D * Q + R ∧ R < D ∧ (cutD N D = Q ∧ (R ≤ 1 ∨ Q % 2 = 1) ∨ cutD N D = Q + 1 ∧ Q % 2 = 0 ∧ 1 < R) := by
  refine ⟨N / D, N % D, (Nat.div_add_mod _ _).symm, Nat.mod_lt _ hD, ?_⟩
  unfold cutD
  generalize N / D = Q
  generalize N % D = R
  by_cases h : 1 < R
  · rw [decide_eq_true h]
    rcases Nat.mod_two_eq_zero_or_one Q with k | k
    · refine Or.inr ⟨?_, k, h⟩
      show Q ||| 1 = Q + 1
      obtain ⟨q, rfl⟩ : ∃ q, Q = 2 * q := ⟨Q / 2, by omega⟩
      rw [show 2 * q = 2 ^ 1 * q from by rw [Nat.pow_one], ← Nat.two_pow_add_eq_or_of_lt (by decide : 1 < 2 ^ 1)]
    · refine Or.inl ⟨?_, Or.inr k⟩
      show Q ||| 1 = Q
      obtain ⟨q, rfl⟩ : ∃ q, Q = 2 * q + 1 := ⟨Q / 2, by omega⟩
      rw [show 2 * q + 1 = 2 ^ 1 * q ||| 1 from by rw [← Nat.two_pow_add_eq_or_of_lt (by decide : 1 < 2 ^ 1), Nat.pow_one], Nat.or_assoc, Nat.or_self]
  · rw [decide_eq_false h]
    exact Or.inl ⟨Nat.or_zero _, Or.inl (by omega)⟩
end Go.Proofs.YtoaaijohmfaphaaGreatDoor.Rl
/- THE DIGITS LIE BETWEEN THE ENDS. Own work of the verifier. -/
namespace Go.Proofs.YtoaaijohmfaphaaGreatDoor.Rl
open Go.RowKit

theorem dLow_small (u odd : Nat) (hu : u < 18446744073709551600) (ho : odd ≤ 1) : dLow u odd = (u + odd + 3) / 4 := by unfold dLow; omega
theorem dHigh_small (u odd : Nat) (hu : u < 18446744073709551600) (h1 : 1 ≤ u) (ho : odd ≤ 1) : dHigh u odd = (u - odd) / 4 := by unfold dHigh; omega
theorem dMid_small (u : Nat) (hu : u < 18446744073709551600) : dMid u = (u + 1 + u / 4 % 2) / 4 := by unfold dMid; omega
theorem high_low (u odd : Nat) (hu : u < 18446744073709551600) (h1 : 1 ≤ u) (ho : odd ≤ 1) : dHigh u odd < dLow u (1 - odd) := by
  rw [dLow_small _ _ hu (by omega), dHigh_small _ _ hu h1 ho]
  omega
theorem q_le {D a r b t : Nat} (_hr : r < D) (ht : t < D) (h : D * a + r ≤ D * b + t) : a ≤ b ∧ (a = b → r ≤ t) := by
  constructor
  · apply Nat.le_of_not_lt
    intro k
    have := Nat.mul_le_mul_left D (show b + 1 ≤ a from k)
    rw [Nat.mul_add, Nat.mul_one] at this
    omega
  · rintro rfl; omega
theorem low_high (D Nn Nx odd : Nat) (hD : 4 ≤ D) (hw : Nn + 4 * D + 2 ≤ Nx) (ho : odd ≤ 1) (hu : cutD Nn D < 18446744073709551600) (hv : cutD Nx D < 18446744073709551600) (hv1 : 1 ≤ cutD Nx D) :
    dLow (cutD Nn D) odd ≤ dHigh (cutD Nx D) odd := by
  rw [dLow_small _ _ hu ho, dHigh_small _ _ hv hv1 ho]
  obtain ⟨Qn, Rn, n1, n2, n3⟩ := cutD_cases Nn D (by omega)
  obtain ⟨Qx, Rx, x1, x2, x3⟩ := cutD_cases Nx D (by omega)
  have k : Qn + 4 ≤ Qx ∧ (Qn + 4 = Qx → Rn + 2 ≤ Rx) := by
    have e : D * (Qn + 4) = D * Qn + 4 * D := by rw [Nat.mul_add, Nat.mul_comm D 4]
    constructor
    · exact (q_le n2 x2 (show D * (Qn + 4) + Rn ≤ D * Qx + Rx from by omega)).1
    · rintro h
      rw [← h] at x1
      omega
  obtain ⟨k1, k2⟩ := k
  rcases n3 with ⟨a, b⟩ | ⟨a, b, c⟩ <;> rcases x3 with ⟨a', b'⟩ | ⟨a', b', c'⟩ <;> rw [a, a'] <;> omega
theorem mid_between (D Nn Nm Nx odd : Nat) (hD : 4 ≤ D) (h1 : Nn + Nx ≤ 2 * Nm + 1) (h2 : 2 * Nm ≤ Nn + Nx + 1) (ho : odd ≤ 1) (hu : cutD Nn D < 18446744073709551600) (hu1 : 1 ≤ cutD Nn D) (hm : cutD Nm D < 18446744073709551600) (hv : cutD Nx D < 18446744073709551600) (hv1 : 1 ≤ cutD Nx D)
    (hlt : dLow (cutD Nn D) odd < dHigh (cutD Nx D) odd) : dLow (cutD Nn D) odd ≤ dMid (cutD Nm D) ∧ dMid (cutD Nm D) ≤ dHigh (cutD Nx D) odd := by
  rw [dLow_small _ _ hu ho, dHigh_small _ _ hv hv1 ho] at *
  rw [dMid_small _ hm]
  obtain ⟨Qn, Rn, n1, n2, n3⟩ := cutD_cases Nn D (by omega)
  obtain ⟨Qm, Rm, m1, m2, m3⟩ := cutD_cases Nm D (by omega)
  obtain ⟨Qx, Rx, x1, x2, x3⟩ := cutD_cases Nx D (by omega)
  generalize hj : (cutD Nn D + odd + 3) / 4 = j at *
  generalize hk : (cutD Nx D - odd) / 4 = k at *
  have hj1 : 1 ≤ j := by omega
  obtain ⟨i, rfl⟩ : ∃ i, j = i + 1 := ⟨j - 1, by omega⟩
  -- the lower end
  have a1 : 4 * i ≤ Qn := by rcases n3 with ⟨a, b⟩ | ⟨a, b, c⟩ <;> rw [a] at hj <;> omega
  have a2 : Qn < 4 * i + 4 ∨ Qn = 4 * i + 4 ∧ Rn ≤ 1 := by rcases n3 with ⟨a, b⟩ | ⟨a, b, c⟩ <;> rw [a] at hj <;> omega
  have a3 : 4 * k ≤ Qx := by rcases x3 with ⟨a, b⟩ | ⟨a, b, c⟩ <;> rw [a] at hk <;> omega
  have a4 : Qx < 4 * k + 4 ∨ Qx = 4 * k + 4 ∧ Rx ≤ 1 := by rcases x3 with ⟨a, b⟩ | ⟨a, b, c⟩ <;> rw [a] at hk <;> omega
  have b1 : D * (4 * i) ≤ Nn := by have := Nat.mul_le_mul_left D a1; omega
  have b2 : Nn ≤ D * (4 * i + 4) + 1 := by
    rcases a2 with h | ⟨h, h'⟩
    · have := Nat.mul_le_mul_left D (show Qn + 1 ≤ 4 * i + 4 from h); rw [Nat.mul_add, Nat.mul_one] at this; omega
    · rw [h] at n1; omega
  have b3 : D * (4 * k) ≤ Nx := by have := Nat.mul_le_mul_left D a3; omega
  have b4 : Nx ≤ D * (4 * k + 4) + 1 := by
    rcases a4 with h | ⟨h, h'⟩
    · have := Nat.mul_le_mul_left D (show Qx + 1 ≤ 4 * k + 4 from h); rw [Nat.mul_add, Nat.mul_one] at this; omega
    · rw [h] at x1; omega
  have c1 : D * (4 * (i + 1)) ≤ Nm := by
    have e1 : D * (4 * (i + 2)) ≤ D * (4 * k) := Nat.mul_le_mul_left D (by omega)
    have e2 : D * (4 * (i + 2)) = D * (4 * i) + D * 8 := by rw [← Nat.mul_add]; congr 1
    have e3 : D * (4 * (i + 1)) = D * (4 * i) + D * 4 := by rw [← Nat.mul_add]; congr 1
    omega
  have c2 : Nm ≤ D * (4 * k) + 1 := by
    have e1 : D * (4 * i + 4) ≤ D * (4 * k - 4) := Nat.mul_le_mul_left D (by omega)
    have e2 : D * (4 * k - 4) + D * 4 = D * (4 * k) := by rw [← Nat.mul_add]; congr 1; omega
    have e3 : D * (4 * k + 4) = D * (4 * k) + D * 4 := by rw [← Nat.mul_add]
    omega
  have d1 : 4 * (i + 1) ≤ Qm := (q_le (show 0 < D from by omega) m2 (show D * (4 * (i + 1)) + 0 ≤ D * Qm + Rm from by omega)).1
  have d2 : Qm ≤ 4 * k ∧ (Qm = 4 * k → Rm ≤ 1) := q_le m2 (show 1 < D from by omega) (show D * Qm + Rm ≤ D * (4 * k) + 1 from by omega)
  obtain ⟨d2, d3⟩ := d2
  rcases m3 with ⟨a, b⟩ | ⟨a, b, c⟩ <;> rw [a] <;> omega
def inUnits (r : Nat × Int) (p : Int) : Nat := if r.2 = -p then r.1 else r.1 * 10
theorem pick_in (m mn mx odd : Nat) (e p : Int) (hlh : dLow (scl mn e p) odd ≤ dHigh (scl mx e p) odd)
    (hmid : dLow (scl mn e p) odd < dHigh (scl mx e p) odd → dLow (scl mn e p) odd ≤ dMid (scl m e p) ∧ dMid (scl m e p) ≤ dHigh (scl mx e p) odd) :
    dLow (scl mn e p) odd ≤ inUnits (pick m mn mx odd e p) p ∧ inUnits (pick m mn mx odd e p) p ≤ dHigh (scl mx e p) odd ∧ ((pick m mn mx odd e p).2 = -p ∨ (pick m mn mx odd e p).2 = -p + 1) := by
  unfold pick inUnits
  generalize dLow (scl mn e p) odd = L at *
  generalize dHigh (scl mx e p) odd = H at *
  generalize dMid (scl m e p) = M at *
  split
  · simp only
    rw [if_neg (by omega)]
    refine ⟨by omega, by omega, Or.inr (by omega)⟩
  · split
    · rename_i h
      simp only
      rw [if_pos trivial]
      exact ⟨(hmid h).1, (hmid h).2, Or.inl trivial⟩
    · simp only
      rw [if_pos trivial]
      exact ⟨Nat.le_refl _, hlh, Or.inl trivial⟩
end Go.Proofs.YtoaaijohmfaphaaGreatDoor.Rl
/- HOW WIDE THE INTERVAL OF A FLOAT IS, in units of the scale. Own work of the verifier. -/
namespace Go.Proofs.YtoaaijohmfaphaaGreatDoor.Rl
open Go.RowKit

def okW (g : Nat) (e p : Int) : Bool := decide ((4 * (18446744073709551616 * 2 ^ sOf e p) + 3) * 18446744073709551616 ≤ 2 * g * (tabHi (p + 348).toNat * 18446744073709551616 - tabLo (p + 348).toNat))
theorem wide_norm (e : Int) (h0 : -1085 ≤ e) (h1 : e ≤ 1000) (hz : e ≠ -11) : okW 1024 e (-(l10 (e + 11))) = true := by
  have h : (List.range 2086).all (fun i => i == 1074 || okW 1024 ((i : Int) - 1085) (-(l10 ((i : Int) - 1085 + 11)))) = true := by decide +kernel
  have := List.all_eq_true.1 h (e + 1085).toNat (List.mem_range.2 (by omega))
  rw [show (((e + 1085).toNat : Nat) : Int) - 1085 = e from by omega, Bool.or_eq_true] at this
  rcases this with k | k
  · have := eq_of_beq k; omega
  · exact k
theorem wide_sub (e : Int) (h0 : -1137 ≤ e) (h1 : e ≤ -1086) : okW (2 ^ (-1075 - e).toNat) e (-(l10 (-1074))) = true := by
  have h : (List.range 52).all (fun i => okW (2 ^ (-1075 - ((i : Int) - 1137)).toNat) ((i : Int) - 1137) (-(l10 (-1074)))) = true := by decide +kernel
  have := List.all_eq_true.1 h (e + 1137).toNat (List.mem_range.2 (by omega))
  rw [show (((e + 1137).toNat : Nat) : Int) - 1137 = e from by omega] at this
  exact this
theorem scl_form (x : Nat) (e p : Int) (hx : x < 18446744073709551616) (hp0 : -348 ≤ p) (hp1 : p ≤ 347) :
    scl x e p = cutD (NN x (tabHi (p + 348).toNat) (tabLo (p + 348).toNat)) (18446744073709551616 * 2 ^ sOf e p) := by
  have h1 := tab_fit (p + 348).toNat (by omega)
  have h2 := tab_top (p + 348).toNat (by omega)
  exact usc_form x _ _ _ hx (by omega) h1.1 h1.2
theorem sym_ends (x g hi lo : Nat) (hg : g ≤ x) (h : lo ≤ hi * 18446744073709551616) :
    NN (x - g) hi lo + NN (x + g) hi lo ≤ 2 * NN x hi lo + 1 ∧ 2 * NN x hi lo ≤ NN (x - g) hi lo + NN (x + g) hi lo + 1 := by
  have a := NN_ceil (x - g) hi lo h
  have b := NN_ceil (x + g) hi lo h
  have c := NN_ceil x hi lo h
  generalize hi * 18446744073709551616 - lo = C at *
  have e1 : (x - g) * C + (x + g) * C = 2 * (x * C) := by rw [← Nat.add_mul, show x - g + (x + g) = 2 * x from by omega, Nat.mul_assoc]
  omega
theorem wide_ends (x g : Nat) (e p : Int) (hg : g ≤ x) (hp0 : -348 ≤ p) (hp1 : p ≤ 347) (h : okW g e p = true) :
    NN (x - g) (tabHi (p + 348).toNat) (tabLo (p + 348).toNat) + 4 * (18446744073709551616 * 2 ^ sOf e p) + 2 ≤ NN (x + g) (tabHi (p + 348).toNat) (tabLo (p + 348).toNat) := by
  have h1 := tab_fit (p + 348).toNat (by omega)
  have h2 := tab_top (p + 348).toNat (by omega)
  have a := NN_ceil (x - g) (tabHi (p + 348).toNat) (tabLo (p + 348).toNat) (by omega)
  have b := NN_ceil (x + g) (tabHi (p + 348).toNat) (tabLo (p + 348).toNat) (by omega)
  have w := of_decide_eq_true h
  generalize tabHi (p + 348).toNat * 18446744073709551616 - tabLo (p + 348).toNat = C at *
  have e1 : (x + g) * C = (x - g) * C + 2 * g * C := by rw [← Nat.add_mul]; congr 1; omega
  generalize 18446744073709551616 * 2 ^ sOf e p = D at *
  generalize 2 * g * C = G at *
  generalize (x - g) * C = X at *
  rw [e1] at b
  omega
theorem pick_sym (x g odd : Nat) (e p : Int) (hx0 : 4611686018427387904 ≤ x - g) (hg : g ≤ x) (hx : x + g < 18446744073709551616) (ho : odd ≤ 1) (hE : okE e p = true) (hW : okW g e p = true) :
    dLow (scl (x - g) e p) odd ≤ inUnits (pick x (x - g) (x + g) odd e p) p ∧ inUnits (pick x (x - g) (x + g) odd e p) p ≤ dHigh (scl (x + g) e p) odd ∧ ((pick x (x - g) (x + g) odd e p).2 = -p ∨ (pick x (x - g) (x + g) odd e p).2 = -p + 1) := by
  have hE' := hE
  unfold okE at hE'
  simp only [Bool.and_eq_true, decide_eq_true_eq] at hE'
  obtain ⟨⟨⟨s0, s1⟩, hp0⟩, hp1⟩ := hE'
  have u1 := scl_between (x - g) e p hx0 (by omega) hE
  have u2 := scl_between x e p (by omega) (by omega) hE
  have u3 := scl_between (x + g) e p (by omega) hx hE
  have hw := wide_ends x g e p hg hp0 hp1 hW
  have h1 := tab_fit (p + 348).toNat (by omega)
  have h2 := tab_top (p + 348).toNat (by omega)
  have hs := sym_ends x g (tabHi (p + 348).toNat) (tabLo (p + 348).toNat) hg (by omega)
  have hT : 0 < 2 ^ sOf e p := Nat.pow_pos (by decide)
  have f1 := scl_form (x - g) e p (by omega) hp0 hp1
  have f2 := scl_form x e p (by omega) hp0 hp1
  have f3 := scl_form (x + g) e p hx hp0 hp1
  have v1 := u1
  have v2 := u2
  have v3 := u3
  rw [f1] at v1
  rw [f2] at v2
  rw [f3] at v3
  apply pick_in
  · rw [f1, f3]
    exact low_high _ _ _ odd (by omega) hw ho (by omega) (by omega) (by omega)
  · intro hlt
    rw [f1, f3] at hlt
    rw [f1, f2, f3]
    exact mid_between _ _ _ _ odd (by omega) hs.1 hs.2 ho (by omega) (by omega) (by omega) (by omega) (by omega) hlt
end Go.Proofs.YtoaaijohmfaphaaGreatDoor.Rl
/- AT POWERS OF TWO: the digits rise, worked out. Own work of the verifier. -/
namespace Go.Proofs.YtoaaijohmfaphaaGreatDoor.Rl
open Go.RowKit

def ltV (r t : Nat × Int) : Bool := decide (r.1 * 10 ^ (r.2 + 400).toNat < t.1 * 10 ^ (t.2 + 400).toNat)
theorem rise_to (e : Int) (h0 : -1084 ≤ e) (h1 : e ≤ 960) : ltV (shortF 18446744073709549568 (e - 1)) (shortF 9223372036854775808 e) = true := by
  have h : (List.range 2045).all (fun i => ltV (shortF 18446744073709549568 ((i : Int) - 1084 - 1)) (shortF 9223372036854775808 ((i : Int) - 1084))) = true := by decide +kernel
  have := List.all_eq_true.1 h (e + 1084).toNat (List.mem_range.2 (by omega))
  rw [show (((e + 1084).toNat : Nat) : Int) - 1084 = e from by omega] at this
  exact this
theorem rise_from (e : Int) (h0 : -1084 ≤ e) (h1 : e ≤ 960) : ltV (shortF 9223372036854775808 e) (shortF 9223372036854777856 e) = true := by
  have h : (List.range 2045).all (fun i => ltV (shortF 9223372036854775808 ((i : Int) - 1084)) (shortF 9223372036854777856 ((i : Int) - 1084))) = true := by decide +kernel
  have := List.all_eq_true.1 h (e + 1084).toNat (List.mem_range.2 (by omega))
  rw [show (((e + 1084).toNat : Nat) : Int) - 1084 = e from by omega] at this
  exact this
end Go.Proofs.YtoaaijohmfaphaaGreatDoor.Rl
/- WHOLE NUMBERS FROM 2^52 ON: the ends are halves. Own work of the verifier. -/
namespace Go.Proofs.YtoaaijohmfaphaaGreatDoor.Rl
open Go.RowKit

theorem tab_one : tabHi 348 = 9223372036854775808 ∧ tabLo 348 = 0 := by decide +kernel
theorem scl_eleven (y : Nat) (hy : y < 36028797018963968) : scl (y * 512) (-11) 0 = y := by
  rw [scl_form _ _ _ (by omega) (by decide) (by decide), show ((0 : Int) + 348).toNat = 348 from by decide, tab_one.1, tab_one.2, show sOf (-11) 0 = 8 from by decide]
  unfold cutD NN
  rw [show y * 512 * 9223372036854775808 - y * 512 * 0 / 18446744073709551616 = 18446744073709551616 * 2 ^ 8 * y + 0 from by omega]
  rw [(div_parts (18446744073709551616 * 2 ^ 8) y 0 (by decide)).1, (div_parts (18446744073709551616 * 2 ^ 8) y 0 (by decide)).2]
  exact Nat.or_zero _
theorem pick_eleven (f odd : Nat) (h0 : 4503599627370496 ≤ f) (h1 : f < 9007199254740992) (ho : odd ≤ 1) :
    dLow (scl (f * 2048 - 1024) (-11) 0) odd = f ∧ dHigh (scl (f * 2048 + 1024) (-11) 0) odd = f ∧ inUnits (pick (f * 2048) (f * 2048 - 1024) (f * 2048 + 1024) odd (-11) 0) 0 = f := by
  have a : dLow (scl (f * 2048 - 1024) (-11) 0) odd = f := by
    rw [show f * 2048 - 1024 = (4 * f - 2) * 512 from by omega, scl_eleven _ (by omega), dLow_small _ _ (by omega) ho]; omega
  have b : dHigh (scl (f * 2048 + 1024) (-11) 0) odd = f := by
    rw [show f * 2048 + 1024 = (4 * f + 2) * 512 from by omega, scl_eleven _ (by omega), dHigh_small _ _ (by omega) (by omega) ho]; omega
  have c := pick_in (f * 2048) (f * 2048 - 1024) (f * 2048 + 1024) odd (-11) 0 (by omega) (by omega)
  exact ⟨a, b, by omega⟩
end Go.Proofs.YtoaaijohmfaphaaGreatDoor.Rl
/- WITHIN A BINADE the values rise. Own work of the verifier. -/
namespace Go.Proofs.YtoaaijohmfaphaaGreatDoor.Rl
open Go.RowKit

theorem units_val (r : Nat × Int) (p : Int) (hp : p ≤ 400) (hr : r.2 = -p ∨ r.2 = -p + 1) : r.1 * 10 ^ (r.2 + 400).toNat = inUnits r p * 10 ^ (-p + 400).toNat := by
  unfold inUnits
  rcases hr with h | h
  · rw [if_pos h, h]
  · rw [if_neg (by omega), h, show (-p + 1 + 400).toNat = (-p + 400).toNat + 1 from by omega, Nat.pow_succ, Nat.mul_assoc, Nat.mul_comm 10]
theorem ltV_of (r t : Nat × Int) (p : Int) (hp : p ≤ 400) (hr : r.2 = -p ∨ r.2 = -p + 1) (ht : t.2 = -p ∨ t.2 = -p + 1) (h : inUnits r p < inUnits t p) : ltV r t = true := by
  unfold ltV
  rw [units_val r p hp hr, units_val t p hp ht]
  exact decide_eq_true (Nat.mul_lt_mul_of_pos_right h (Nat.pow_pos (by decide)))
theorem pick_two (m mn mx odd : Nat) (e p : Int) : (pick m mn mx odd e p).2 = -p ∨ (pick m mn mx odd e p).2 = -p + 1 := by
  unfold pick
  split
  · exact Or.inr (by show -(p - 1) = -p + 1; omega)
  · split
    · exact Or.inl rfl
    · exact Or.inl rfl
theorem short_norm (f : Nat) (e : Int) (hf : f ≠ 4503599627370496 ∨ e = -1085) (he : -1085 ≤ e) : shortF (f * 2048) e = pick (f * 2048) (f * 2048 - 1024) (f * 2048 + 1024) (f % 2) e (-(l10 (e + 11))) := by
  unfold shortF
  rw [if_neg (by omega), if_pos he, Nat.mul_div_cancel _ (by decide)]
theorem rise_in (f : Nat) (e : Int) (hf0 : 4503599627370496 < f ∨ f = 4503599627370496 ∧ e = -1085) (hf1 : f + 1 < 9007199254740992) (he0 : -1085 ≤ e) (he1 : e ≤ 1000) : ltV (shortF (f * 2048) e) (shortF ((f + 1) * 2048) e) = true := by
  rw [short_norm f e (by omega) he0, short_norm (f + 1) e (by omega) he0]
  have hE := (ok_norm e he0 he1).1
  have hp : -(l10 (e + 11)) ≤ 347 := by
    unfold okE at hE
    simp only [Bool.and_eq_true, decide_eq_true_eq] at hE
    exact hE.2
  refine ltV_of _ _ (-(l10 (e + 11))) (by omega) (pick_two ..) (pick_two ..) ?_
  by_cases hz : e = -11
  · subst hz
    have a := (pick_eleven f (f % 2) (by omega) (by omega) (by omega)).2.2
    have b := (pick_eleven (f + 1) ((f + 1) % 2) (by omega) (by omega) (by omega)).2.2
    rw [show -(l10 (-11 + 11)) = 0 from by decide, a, b]
    omega
  · have hW := wide_norm e he0 he1 hz
    have a := (pick_sym (f * 2048) 1024 (f % 2) e _ (by omega) (by omega) (by omega) (by omega) hE hW).2.1
    have b := (pick_sym ((f + 1) * 2048) 1024 ((f + 1) % 2) e _ (by omega) (by omega) (by omega) (by omega) hE hW).1
    have u := scl_between (f * 2048 + 1024) e _ (by omega) (by omega) hE
    have c := high_low (scl (f * 2048 + 1024) e (-(l10 (e + 11)))) (f % 2) (by omega) (by omega) (by omega)
    rw [show (f + 1) * 2048 - 1024 = f * 2048 + 1024 from by omega, show (f + 1) % 2 = 1 - f % 2 from by omega] at b
    rw [show (f + 1) * 2048 - 1024 = f * 2048 + 1024 from by omega, show (f + 1) % 2 = 1 - f % 2 from by omega]
    exact Nat.lt_of_le_of_lt a (Nat.lt_of_lt_of_le c b)
end Go.Proofs.YtoaaijohmfaphaaGreatDoor.Rl
/- AT POWERS OF TWO BELOW THE LEAST NORMAL FLOAT, and at that one. Own work of the verifier. -/
namespace Go.Proofs.YtoaaijohmfaphaaGreatDoor.Rl
open Go.RowKit

theorem rise_sub (k : Nat) (h0 : 1 ≤ k) (h1 : k ≤ 52) : ltV (shortF ((2 ^ k - 1) * 2 ^ (64 - k)) (-1074 - ((64 - k : Nat) : Int))) (shortF 9223372036854775808 (-1074 - ((63 - k : Nat) : Int))) = true := by
  have h : (List.range 53).all (fun k => k == 0 || ltV (shortF ((2 ^ k - 1) * 2 ^ (64 - k)) (-1074 - ((64 - k : Nat) : Int))) (shortF 9223372036854775808 (-1074 - ((63 - k : Nat) : Int)))) = true := by decide +kernel
  have := List.all_eq_true.1 h k (List.mem_range.2 (by omega))
  rw [Bool.or_eq_true] at this
  rcases this with q | q
  · have := eq_of_beq q; omega
  · exact q
end Go.Proofs.YtoaaijohmfaphaaGreatDoor.Rl
/- BELOW THE LEAST NORMAL FLOAT the values rise too. Own work of the verifier. -/
namespace Go.Proofs.YtoaaijohmfaphaaGreatDoor.Rl
open Go.RowKit

theorem short_low (f z : Nat) (hz : 12 ≤ z) : shortF (f * 2 ^ z) (-1074 - (z : Int)) = pick (f * 2 ^ z) (f * 2 ^ z - 2 ^ (z - 1)) (f * 2 ^ z + 2 ^ (z - 1)) (f % 2) (-1074 - (z : Int)) (-(l10 (-1074))) := by
  unfold shortF
  rw [if_neg (by omega), if_neg (by omega), show (-1075 - (-1074 - (z : Int))).toNat = z - 1 from by omega, show (-1074 - (-1074 - (z : Int))).toNat = z from by omega, Nat.mul_div_cancel _ (Nat.pow_pos (by decide))]
theorem rise_low (f z : Nat) (hz0 : 12 ≤ z) (hz1 : z ≤ 63) (h0 : 9223372036854775808 ≤ f * 2 ^ z) (h1 : (f + 2) * 2 ^ z ≤ 18446744073709551616) :
    ltV (shortF (f * 2 ^ z) (-1074 - (z : Int))) (shortF ((f + 1) * 2 ^ z) (-1074 - (z : Int))) = true := by
  rw [short_low f z hz0, short_low (f + 1) z hz0]
  have hE := ok_sub (-1074 - (z : Int)) (by omega) (by omega)
  have hW := wide_sub (-1074 - (z : Int)) (by omega) (by omega)
  rw [show (-1075 - (-1074 - (z : Int))).toNat = z - 1 from by omega] at hW
  refine ltV_of _ _ (-(l10 (-1074))) (by decide) (pick_two ..) (pick_two ..) ?_
  have hg : 2 ^ (z - 1) ≤ 4611686018427387904 := by
    have : 2 ^ (z - 1) ≤ 2 ^ 62 := Nat.pow_le_pow_right (by decide) (by omega)
    exact this
  have hg0 : 0 < 2 ^ (z - 1) := Nat.pow_pos (by decide)
  have e1 : (f + 1) * 2 ^ z = f * 2 ^ z + 2 ^ z := by rw [Nat.add_mul, Nat.one_mul]
  have e2 : (f + 2) * 2 ^ z = f * 2 ^ z + 2 * 2 ^ z := by rw [Nat.add_mul]
  have e3 : 2 ^ z = 2 * 2 ^ (z - 1) := by rw [← Nat.pow_succ', show (z - 1).succ = z from by omega]
  have a := (pick_sym (f * 2 ^ z) (2 ^ (z - 1)) (f % 2) _ _ (by omega) (by omega) (by omega) (by omega) hE hW).2.1
  have b := (pick_sym ((f + 1) * 2 ^ z) (2 ^ (z - 1)) ((f + 1) % 2) _ _ (by omega) (by omega) (by omega) (by omega) hE hW).1
  have u := scl_between (f * 2 ^ z + 2 ^ (z - 1)) _ _ (by omega) (by omega) hE
  have c := high_low (scl (f * 2 ^ z + 2 ^ (z - 1)) (-1074 - (z : Int)) (-(l10 (-1074)))) (f % 2) (by omega) (by omega) (by omega)
  rw [show (f + 1) % 2 = 1 - f % 2 from by omega] at b ⊢
  have e4 : (f + 1) * 2 ^ z - 2 ^ (z - 1) = f * 2 ^ z + 2 ^ (z - 1) := by omega
  rw [e4] at b ⊢
  exact Nat.lt_of_le_of_lt a (Nat.lt_of_lt_of_le c b)
end Go.Proofs.YtoaaijohmfaphaaGreatDoor.Rl
/- THE VALUES RISE from float to float. Own work of the verifier. -/
namespace Go.Proofs.YtoaaijohmfaphaaGreatDoor.Rl
open Go.RowKit

theorem lt_exp {a b : Nat} (h : 2 ^ a < 2 ^ b) : a < b := (Nat.pow_lt_pow_iff_right (by decide : 1 < 2)).1 h
theorem sd_low (a : Nat) (h1 : a < 4503599627370496) : sd a = shortF (a * 2 ^ (64 - Lib.bitLen a)) (-1074 - ((64 - Lib.bitLen a : Nat) : Int)) := by
  unfold sd
  rw [if_pos (by omega), Nat.mod_eq_of_lt h1]
theorem sd_norm (a : Nat) (h0 : 4503599627370496 ≤ a) (h1 : a < 9218868437227405312) : sd a = shortF ((4503599627370496 + a % 4503599627370496) * 2048) ((a / 4503599627370496 : Nat) - 1086) := by
  unfold sd
  rw [if_neg (by omega), show a / 4503599627370496 % 2048 = a / 4503599627370496 from by omega]
theorem rise_next (a : Nat) (h0 : 1 ≤ a) (h1 : a + 1 < 9218868437227405312) : ltV (sd a) (sd (a + 1)) = true := by
  by_cases c1 : a < 4503599627370496
  · obtain ⟨l1, l2, l3⟩ := len_bounds a (by omega) (by omega)
    have k52 : Lib.bitLen a ≤ 52 := by
      have : Lib.bitLen a - 1 < 52 := lt_exp (Nat.lt_of_le_of_lt l2 (by rw [show (2 : Nat) ^ 52 = 4503599627370496 from by decide]; exact c1))
      omega
    rw [sd_low a c1]
    by_cases c2 : a + 1 < 2 ^ Lib.bitLen a
    · have c3 : a + 1 < 4503599627370496 := by
        have : 2 ^ Lib.bitLen a ≤ 2 ^ 52 := Nat.pow_le_pow_right (by decide) k52
        rw [show (2 : Nat) ^ 52 = 4503599627370496 from by decide] at this
        omega
      obtain ⟨m1, m2, m3⟩ := len_bounds (a + 1) (by omega) (by omega)
      have e : Lib.bitLen (a + 1) = Lib.bitLen a := by
        have x1 := lt_exp (Nat.lt_of_le_of_lt m2 c2)
        have x2 := lt_exp (Nat.lt_of_le_of_lt l2 (Nat.lt_trans (Nat.lt_succ_self a) m3))
        omega
      rw [sd_low (a + 1) c3, e]
      refine rise_low a (64 - Lib.bitLen a) (by omega) (by omega) ?_ ?_
      · have := Nat.mul_le_mul_right (2 ^ (64 - Lib.bitLen a)) l2
        rw [← Nat.pow_add, show Lib.bitLen a - 1 + (64 - Lib.bitLen a) = 63 from by omega] at this
        exact this
      · have := Nat.mul_le_mul_right (2 ^ (64 - Lib.bitLen a)) (show a + 2 ≤ 2 ^ Lib.bitLen a from c2)
        rw [← Nat.pow_add, show Lib.bitLen a + (64 - Lib.bitLen a) = 64 from by omega] at this
        exact this
    · have c3 : a + 1 = 2 ^ Lib.bitLen a := by omega
      have h := rise_sub (Lib.bitLen a) (by omega) k52
      rw [show 2 ^ Lib.bitLen a - 1 = a from by omega] at h
      by_cases c4 : a + 1 < 4503599627370496
      · obtain ⟨m1, m2, m3⟩ := len_bounds (a + 1) (by omega) (by omega)
        have e : Lib.bitLen (a + 1) = Lib.bitLen a + 1 := by
          have x1 := lt_exp (show 2 ^ Lib.bitLen a < 2 ^ Lib.bitLen (a + 1) from by omega)
          have x2 : 2 ^ (Lib.bitLen (a + 1) - 1) < 2 ^ (Lib.bitLen a + 1) := by
            rw [Nat.pow_succ]
            have : 0 < 2 ^ Lib.bitLen a := Nat.pow_pos (by decide)
            omega
          have := lt_exp x2
          omega
        rw [sd_low (a + 1) c4, e, show 64 - (Lib.bitLen a + 1) = 63 - Lib.bitLen a from by omega, c3, ← Nat.pow_add, show Lib.bitLen a + (63 - Lib.bitLen a) = 63 from by omega]
        exact h
      · have e : Lib.bitLen a = 52 := by
          have x1 : ¬ Lib.bitLen a < 52 := fun k => by
            have : 2 ^ Lib.bitLen a ≤ 2 ^ 51 := Nat.pow_le_pow_right (by decide) (by omega)
            rw [show (2 : Nat) ^ 51 = 2251799813685248 from by decide] at this
            omega
          omega
        have e2 : a + 1 = 4503599627370496 := by omega
        rw [e2, sd_norm 4503599627370496 (by decide) (by decide)]
        rw [e] at h ⊢
        exact h
  · rw [sd_norm a (by omega) (by omega), sd_norm (a + 1) (by omega) h1]
    by_cases c2 : a % 4503599627370496 + 1 < 4503599627370496
    · rw [show (a + 1) / 4503599627370496 = a / 4503599627370496 from by omega, show (a + 1) % 4503599627370496 = a % 4503599627370496 + 1 from by omega]
      by_cases c3 : a % 4503599627370496 = 0 ∧ 2 ≤ a / 4503599627370496
      · have h := rise_from ((a / 4503599627370496 : Nat) - 1086) (by omega) (by omega)
        rw [c3.1]
        exact h
      · exact rise_in (4503599627370496 + a % 4503599627370496) _ (by omega) (by omega) (by omega) (by omega)
    · have h := rise_to ((a / 4503599627370496 : Nat) - 1085) (by omega) (by omega)
      rw [show (a + 1) / 4503599627370496 = a / 4503599627370496 + 1 from by omega, show (a + 1) % 4503599627370496 = 0 from by omega, show a % 4503599627370496 = 4503599627370495 from by omega, show (((a / 4503599627370496 + 1 : Nat) : Int) - 1086) = ((a / 4503599627370496 : Nat) : Int) - 1085 from by omega]
      rw [show (((a / 4503599627370496 : Nat) : Int) - 1085 - 1) = ((a / 4503599627370496 : Nat) : Int) - 1086 from by omega] at h
      exact h
theorem rise_all {a b : Nat} (h0 : 1 ≤ a) (h : a < b) (h1 : b < 9218868437227405312) : ltV (sd a) (sd b) = true := by
  induction b with
  | zero => omega
  | succ b ih =>
    by_cases e : a = b
    · subst e; exact rise_next a h0 h1
    · have i := of_decide_eq_true (ih (by omega) (by omega))
      have j := of_decide_eq_true (rise_next b (by omega) h1)
      exact decide_eq_true (Nat.lt_trans i j)
end Go.Proofs.YtoaaijohmfaphaaGreatDoor.Rl
/- NO MORE THAN 17 DIGITS. Own work of the verifier. -/
namespace Go.Proofs.YtoaaijohmfaphaaGreatDoor.Rl
open Go.RowKit

theorem pick_17 (x g odd : Nat) (e p : Int) (hx0 : 4611686018427387904 ≤ x - g) (hg : g ≤ x) (hg1 : 1024 ≤ g) (hx : x + g < 18446744073709551616) (ho : odd ≤ 1) (hE : okE e p = true) (hlh : dLow (scl (x - g) e p) odd ≤ dHigh (scl (x + g) e p) odd)
    (hmid : dLow (scl (x - g) e p) odd < dHigh (scl (x + g) e p) odd → dMid (scl x e p) ≤ dHigh (scl (x + g) e p) odd) : (pick x (x - g) (x + g) odd e p).1 < 100000000000000000 := by
  have hE' := hE
  unfold okE at hE'
  simp only [Bool.and_eq_true, decide_eq_true_eq] at hE'
  obtain ⟨⟨⟨s0, s1⟩, hp0⟩, hp1⟩ := hE'
  have u1 := scl_between (x - g) e p hx0 (by omega) hE
  have u3 := scl_between (x + g) e p (by omega) hx hE
  have h1 := tab_fit (p + 348).toNat (by omega)
  have h2 := tab_top (p + 348).toNat (by omega)
  have f1 := scl_form (x - g) e p (by omega) hp0 hp1
  have f3 := scl_form (x + g) e p hx hp0 hp1
  have a := NN_ceil (x - g) (tabHi (p + 348).toNat) (tabLo (p + 348).toNat) (by omega)
  have b := NN_ceil (x + g) (tabHi (p + 348).toNat) (tabLo (p + 348).toNat) (by omega)
  have hT : 0 < 2 ^ sOf e p := Nat.pow_pos (by decide)
  have key : dHigh (scl (x + g) e p) odd ≤ dLow (scl (x - g) e p) odd + 8 → dHigh (scl (x + g) e p) odd < 100000000000000000 := by
    intro hn
    rw [dHigh_small _ _ (by omega) (by omega) ho, dLow_small _ _ (by omega) ho] at hn
    rw [dHigh_small _ _ (by omega) (by omega) ho]
    generalize tabHi (p + 348).toNat * 18446744073709551616 - tabLo (p + 348).toNat = C at *
    have e1 : (x + g) * C = (x - g) * C + 2 * g * C := by rw [← Nat.add_mul]; congr 1; omega
    have e2 : (x + g) * C ≤ 9007199254740992 * (2 * g * C) := by rw [← Nat.mul_assoc]; exact Nat.mul_le_mul_right _ (by omega)
    have hD : 18446744073709551616 ≤ 18446744073709551616 * 2 ^ sOf e p := by omega
    obtain ⟨Qn, Rn, n1, n2, n3⟩ := cutD_cases (NN (x - g) (tabHi (p + 348).toNat) (tabLo (p + 348).toNat)) (18446744073709551616 * 2 ^ sOf e p) (by omega)
    obtain ⟨Qx, Rx, x1, x2, x3⟩ := cutD_cases (NN (x + g) (tabHi (p + 348).toNat) (tabLo (p + 348).toNat)) (18446744073709551616 * 2 ^ sOf e p) (by omega)
    rw [← f1] at n3
    rw [← f3] at x3
    generalize scl (x - g) e p = Un at *
    generalize scl (x + g) e p = Ux at *
    generalize NN (x - g) (tabHi (p + 348).toNat) (tabLo (p + 348).toNat) = Nn at *
    generalize NN (x + g) (tabHi (p + 348).toNat) (tabLo (p + 348).toNat) = Nx at *
    generalize 18446744073709551616 * 2 ^ sOf e p = D at *
    have q1 : Qx ≤ Qn + 41 := by omega
    have q2 : D * Qx ≤ D * Qn + D * 41 := by rw [← Nat.mul_add]; exact Nat.mul_le_mul_left _ q1
    have q3 : D * Qx ≤ D * 378302368699121664 := by
      generalize 2 * g * C = G at *
      generalize (x - g) * C = X at *
      omega
    have q4 : Qx ≤ 378302368699121664 := Nat.le_of_mul_le_mul_left q3 (by omega)
    omega
  unfold pick
  generalize dLow (scl (x - g) e p) odd = L at *
  have hH := dHigh_small (scl (x + g) e p) odd (by omega) (by omega) ho
  have hH2 : dHigh (scl (x + g) e p) odd ≤ 144115188075855873 := by rw [hH]; omega
  generalize dHigh (scl (x + g) e p) odd = H at *
  generalize dMid (scl x e p) = M at *
  split
  · show H / 10 < _; omega
  · have k := key (by omega)
    split
    · rename_i h; have := hmid h; show M < _; omega
    · show L < _; omega
end Go.Proofs.YtoaaijohmfaphaaGreatDoor.Rl
/- NO MORE THAN 17 DIGITS, whatever the float. Own work of the verifier. -/
namespace Go.Proofs.YtoaaijohmfaphaaGreatDoor.Rl
open Go.RowKit

theorem sym_17 (x g odd : Nat) (e p : Int) (hx0 : 4611686018427387904 ≤ x - g) (hg : g ≤ x) (hg1 : 1024 ≤ g) (hx : x + g < 18446744073709551616) (ho : odd ≤ 1) (hE : okE e p = true) (hW : okW g e p = true) :
    (pick x (x - g) (x + g) odd e p).1 < 100000000000000000 := by
  have hE' := hE
  unfold okE at hE'
  simp only [Bool.and_eq_true, decide_eq_true_eq] at hE'
  obtain ⟨⟨⟨s0, s1⟩, hp0⟩, hp1⟩ := hE'
  have u1 := scl_between (x - g) e p hx0 (by omega) hE
  have u2 := scl_between x e p (by omega) (by omega) hE
  have u3 := scl_between (x + g) e p (by omega) hx hE
  have hw := wide_ends x g e p hg hp0 hp1 hW
  have h1 := tab_fit (p + 348).toNat (by omega)
  have h2 := tab_top (p + 348).toNat (by omega)
  have hs := sym_ends x g (tabHi (p + 348).toNat) (tabLo (p + 348).toNat) hg (by omega)
  have hT : 0 < 2 ^ sOf e p := Nat.pow_pos (by decide)
  have f1 := scl_form (x - g) e p (by omega) hp0 hp1
  have f2 := scl_form x e p (by omega) hp0 hp1
  have f3 := scl_form (x + g) e p hx hp0 hp1
  have v1 := u1
  have v2 := u2
  have v3 := u3
  rw [f1] at v1
  rw [f2] at v2
  rw [f3] at v3
  apply pick_17 x g odd e p hx0 hg hg1 hx ho hE
  · rw [f1, f3]
    exact low_high _ _ _ odd (by omega) hw ho (by omega) (by omega) (by omega)
  · intro hlt
    rw [f1, f3] at hlt
    rw [f2, f3]
    exact (mid_between _ _ _ _ odd (by omega) hs.1 hs.2 ho (by omega) (by omega) (by omega) (by omega) (by omega) hlt).2
theorem two_17 (e : Int) (h0 : -1084 ≤ e) (h1 : e ≤ 960) : (shortF 9223372036854775808 e).1 < 100000000000000000 := by
  have h : (List.range 2045).all (fun i => decide ((shortF 9223372036854775808 ((i : Int) - 1084)).1 < 100000000000000000)) = true := by decide +kernel
  have := List.all_eq_true.1 h (e + 1084).toNat (List.mem_range.2 (by omega))
  rw [show (((e + 1084).toNat : Nat) : Int) - 1084 = e from by omega] at this
  exact of_decide_eq_true this
theorem norm_17 (f : Nat) (e : Int) (hf0 : 4503599627370496 ≤ f) (hf1 : f < 9007199254740992) (he0 : -1085 ≤ e) (he1 : e ≤ 960) : (shortF (f * 2048) e).1 < 100000000000000000 := by
  by_cases c : f = 4503599627370496 ∧ e ≠ -1085
  · obtain ⟨rfl, c2⟩ := c
    exact two_17 e (by omega) he1
  · rw [short_norm f e (by omega) he0]
    by_cases hz : e = -11
    · subst hz
      obtain ⟨a, b, _⟩ := pick_eleven f (f % 2) hf0 hf1 (by omega)
      rw [show -(l10 (-11 + 11)) = 0 from by decide]
      unfold pick
      rw [a, b]
      split
      · show f / 10 < _; omega
      · rw [if_neg (Nat.lt_irrefl _)]; show f < _; omega
    · exact sym_17 (f * 2048) 1024 (f % 2) e _ (by omega) (by omega) (by omega) (by omega) (by omega) (ok_norm e he0 (by omega)).1 (wide_norm e he0 (by omega) hz)
theorem low_17 (f z : Nat) (hz0 : 12 ≤ z) (hz1 : z ≤ 63) (h0 : 9223372036854775808 ≤ f * 2 ^ z) (h1 : (f + 1) * 2 ^ z ≤ 18446744073709551616) : (shortF (f * 2 ^ z) (-1074 - (z : Int))).1 < 100000000000000000 := by
  rw [short_low f z hz0]
  have hE := ok_sub (-1074 - (z : Int)) (by omega) (by omega)
  have hW := wide_sub (-1074 - (z : Int)) (by omega) (by omega)
  rw [show (-1075 - (-1074 - (z : Int))).toNat = z - 1 from by omega] at hW
  have hg : 2 ^ (z - 1) ≤ 4611686018427387904 := by
    have : 2 ^ (z - 1) ≤ 2 ^ 62 := Nat.pow_le_pow_right (by decide) (by omega)
    exact this
  have hg0 : 2 ^ 11 ≤ 2 ^ (z - 1) := Nat.pow_le_pow_right (by decide) (by omega)
  have e1 : (f + 1) * 2 ^ z = f * 2 ^ z + 2 ^ z := by rw [Nat.add_mul, Nat.one_mul]
  have e3 : 2 ^ z = 2 * 2 ^ (z - 1) := by rw [← Nat.pow_succ', show (z - 1).succ = z from by omega]
  rw [show (2 : Nat) ^ 11 = 2048 from by decide] at hg0
  exact sym_17 (f * 2 ^ z) (2 ^ (z - 1)) (f % 2) _ _ (by omega) (by omega) (by omega) (by omega) (by omega) hE hW
theorem sd_17 (x : Nat) (h0 : x % 9223372036854775808 ≠ 0) (h1 : x % 9223372036854775808 < 9218868437227405312) : (sd x).1 < 100000000000000000 := by
  by_cases hs : x % 9223372036854775808 < 4503599627370496
  · obtain ⟨l1, l2, l3⟩ := len_bounds (x % 4503599627370496) (by omega) (by omega)
    have k52 : Lib.bitLen (x % 4503599627370496) ≤ 52 := by
      have : Lib.bitLen (x % 4503599627370496) - 1 < 52 := lt_exp (Nat.lt_of_le_of_lt l2 (by rw [show (2 : Nat) ^ 52 = 4503599627370496 from by decide]; omega))
      omega
    unfold sd
    rw [if_pos hs]
    refine low_17 (x % 4503599627370496) (64 - Lib.bitLen (x % 4503599627370496)) (by omega) (by omega) ?_ ?_
    · have := Nat.mul_le_mul_right (2 ^ (64 - Lib.bitLen (x % 4503599627370496))) l2
      rw [← Nat.pow_add, show Lib.bitLen (x % 4503599627370496) - 1 + (64 - Lib.bitLen (x % 4503599627370496)) = 63 from by omega] at this
      exact this
    · have := Nat.mul_le_mul_right (2 ^ (64 - Lib.bitLen (x % 4503599627370496))) (show x % 4503599627370496 + 1 ≤ 2 ^ Lib.bitLen (x % 4503599627370496) from l3)
      rw [← Nat.pow_add, show Lib.bitLen (x % 4503599627370496) + (64 - Lib.bitLen (x % 4503599627370496)) = 64 from by omega] at this
      exact this
  · unfold sd
    rw [if_neg hs]
    exact norm_17 (4503599627370496 + x % 4503599627370496) _ (by omega) (by omega) (by omega) (by omega)
end Go.Proofs.YtoaaijohmfaphaaGreatDoor.Rl
