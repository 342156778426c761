/- WHOLE NUMBERS AS FLOATS; one float alone. Own work of the verifier. -/
import Derived.Test.YtdlaloakochfeaaSoftMath11
namespace Go.Proofs.Ytdlaloakochfeaa.Soft

theorem top_ge {D : Nat} (h : D ≤ 2046) : 2 ^ (52 + D) ≤ TOP := by
  unfold TOP uV
  rw [if_neg (by decide)]
  have hE : 9218868437227405312 / 4503599627370496 - 1 = 2046 := by decide
  have hF : 4503599627370496 + 9218868437227405312 % 4503599627370496 = 4503599627370496 := by decide
  rw [hF]
  generalize 9218868437227405312 / 4503599627370496 - 1 = E at *
  rw [Nat.pow_add, two_pow_52]
  exact Nat.mul_le_mul_left _ (Nat.pow_le_pow_right (by decide) (by omega))
def KU : Nat := 1074
theorem KU_eq : KU = 1074 := rfl
/-- One, in units. -/
def UN : Nat := 2 ^ KU
theorem UN_pos : 0 < UN := pow_pos' KU
theorem UN_eq : UN = 2 ^ KU := rfl
theorem rep_pow {m K : Nat} (h : m ≤ 9007199254740992) (hK : K ≤ 2000) : Rep (m * 2 ^ K) ∧ m * 2 ^ K < TOP := by
  constructor
  · rcases Nat.lt_or_eq_of_le h with c | c
    · exact ⟨m, K, rfl, c⟩
    · refine ⟨4503599627370496, K + 1, ?_, by decide⟩
      rw [c, Nat.pow_succ]
      generalize 2 ^ K = q
      omega
  · have h1 : m * 2 ^ K ≤ 2 ^ 53 * 2 ^ K := Nat.mul_le_mul_right _ (by rw [two_pow_53]; exact h)
    rw [← Nat.pow_add] at h1
    have h3 : 2 ^ (53 + K) < 2 ^ (52 + (K + 2)) := Nat.pow_lt_pow_right (by decide) (by omega)
    have h4 := top_ge (D := K + 2) (by omega)
    omega
theorem rep_unit {m : Nat} (h : m ≤ 9007199254740992) : Rep (m * UN) ∧ m * UN < TOP := by
  rw [UN_eq]
  exact rep_pow h (by rw [KU_eq]; decide)
/-- A whole number as a float. -/
def iw (z : Int) : Nat := fw (z * (UN : Int))
def Lim (z : Int) : Prop := -9007199254740992 ≤ z ∧ z ≤ 9007199254740992
theorem natAbs_unit (z : Int) : (z * (UN : Int)).natAbs = z.natAbs * UN := by rw [Int.natAbs_mul, Int.natAbs_natCast]
theorem vw_iw {z : Int} (h : Lim z) : vw (iw z) = z * (UN : Int) ∧ Ok (iw z) := by
  obtain ⟨h1, h2⟩ := rep_unit (m := z.natAbs) (by obtain ⟨a, b⟩ := h; omega)
  exact vw_fw (by rw [natAbs_unit]; exact h1) (by rw [natAbs_unit]; exact h2)
theorem fw_zero : fw 0 = 0 := by decide +kernel
theorem iw_zero : iw 0 = 0 := by unfold iw; rw [Int.zero_mul]; exact fw_zero
theorem add_iw {x y : Int} (hx : Lim x) (hy : Lim y) : fa (iw x) (iw y) = iw (x + y) := by
  obtain ⟨a1, a2⟩ := vw_iw hx
  obtain ⟨b1, b2⟩ := vw_iw hy
  rw [fa_fw a2.1 b2.1 (.inl a2.2), a1, b1]
  unfold iw; rw [Int.add_mul]
theorem sub_iw {x y : Int} (hx : Lim x) (hy : Lim y) : fa (iw x) (neg (iw y)) = iw (x - y) := by
  obtain ⟨a1, a2⟩ := vw_iw hx
  obtain ⟨b1, b2⟩ := vw_iw hy
  rw [fa_fw a2.1 (fin_neg b2.1) (.inl a2.2), a1, vw_neg b2.1.1, b1]
  unfold iw; rw [Int.sub_mul]; rfl
theorem fl_iw {x y : Int} (hx : Lim x) (hy : Lim y) (hs : Lim (x + y)) : fl (iw x) (iw y) = 0 := by
  have e1 : Lim (-y) := ⟨by have := hy.2; omega, by have := hy.1; omega⟩
  have e2 : Lim (-x) := ⟨by have := hx.2; omega, by have := hx.1; omega⟩
  unfold fl
  rw [add_iw hx hy, sub_iw hx hs, sub_iw hy hs, show x - (x + y) = -y from by omega, show y - (x + y) = -x from by omega, add_iw e1 hy, add_iw e2 hx]
  rw [show -y + y = 0 from by omega, show -x + x = 0 from by omega, iw_zero]
  split <;> rfl
theorem fin_not_nan {x : Nat} (h : Fin x) : isn x = false := by
  unfold isn; exact decide_eq_false (by have := h.2; omega)
theorem ofInt_iw {n : Int} (h : Lim n) : floatOfInt .f64 n = iw n := by
  show Ieee.double.nearest (decide (n < 0)) n.natAbs 0 = _
  unfold iw fw
  rw [natAbs_unit]
  have hU : (0 : Int) < (UN : Int) := by have := UN_pos; omega
  have hd : decide (n * (UN : Int) < 0) = decide (n < 0) := by
    apply decide_eq_decide.2
    constructor
    · intro k
      rcases Int.lt_or_le n 0 with c | c
      · exact c
      · have := Int.mul_nonneg c (Int.le_of_lt hU); omega
    · intro k; exact Int.mul_neg_of_neg_of_pos k hU
  rw [hd]
  by_cases hz : n.natAbs = 0
  · have : n = 0 := by omega
    subst this
    rw [show (0 : Int).natAbs = 0 from rfl, Nat.zero_mul, nrung_zero]
    unfold Ieee.Format.nearest
    rw [if_pos rfl, word_sw]
  · have := nearest_rung (decide (n < 0)) n.natAbs KU hz
    rw [show (-1074 + (KU : Int)) = 0 from by rw [KU_eq]; rfl] at this
    rw [this, word_sw]
    rfl
theorem order_eq {x y : Nat} (hx : Fin x) (hy : Fin y) (h : vw x = vw y) : Ieee.double.order x y = some .eq := by
  obtain ⟨s, a, rfl, ha⟩ := fin_cases hx
  obtain ⟨t, b, rfl, hb⟩ := fin_cases hy
  rw [vw_sw s (by omega), vw_sw t (by omega)] at h
  rw [order_sw s t a b ha hb, h]
  simp
theorem fin_zero : Fin 0 := ⟨by decide, by decide⟩
theorem ok_zero : Ok 0 := ⟨fin_zero, by decide⟩
theorem vw_zero : vw 0 = 0 := by decide +kernel
/-- A float that may be recorded, alone. -/
theorem of_alone {x : Nat} (h : Fin x) : ofW [x] = (fw (vw x), 0) ∧ fa (fw (vw x)) 0 = fw (vw x) ∧ Ok (fw (vw x)) ∧ vw (fw (vw x)) = vw x := by
  obtain ⟨v1, v2⟩ := vw_fw (vw_rep h) (vw_bound h)
  have e0 : fa 0 x = fw (vw x) := by rw [fa_fw fin_zero h (.inl (by decide)), vw_zero, Int.zero_add]
  have n1 : vw (neg (fw (vw x))) = - vw x := by rw [vw_neg v2.1.1, v1]
  have rn : Rep (- vw x).natAbs ∧ (- vw x).natAbs < TOP := by rw [Int.natAbs_neg]; exact ⟨vw_rep h, vw_bound h⟩
  have el : fl 0 x = 0 := by
    unfold fl
    rw [e0]
    by_cases hg : geq 0 x = true
    · rw [if_pos hg, fa_fw fin_zero (fin_neg v2.1) (.inl (by decide)), vw_zero, Int.zero_add, n1]
      obtain ⟨w1, w2⟩ := vw_fw rn.1 rn.2
      rw [fa_fw w2.1 h (.inl w2.2), w1, show - vw x + vw x = 0 from by omega, fw_zero]
    · have hx : x ≠ 9223372036854775808 := by
        rintro rfl
        exact hg (by decide +kernel)
      rw [if_neg hg, fa_fw h (fin_neg v2.1) (.inl hx), n1, show vw x + - vw x = 0 from by omega, fw_zero]
      decide +kernel
  refine ⟨?_, ?_, v2, v1⟩
  · show putW (0, 0) x = _
    unfold putW
    show (fa 0 x, fa 0 (fl 0 x)) = _
    rw [e0, el, show fa 0 0 = 0 from by decide +kernel]
  · rw [fa_fw v2.1 fin_zero (.inl v2.2), v1, vw_zero, Int.add_zero]
end Go.Proofs.Ytdlaloakochfeaa.Soft
