/- WHAT FLOATS STAND FOR, in units of the least one: sums. Own work of the verifier. -/
import Derived.Test.YtdlaloakochfeaaSoftMath10
namespace Go.Proofs.Ytdlaloakochfeaa.Soft

/-- The float of a whole number of units: no -0. -/
def fw (z : Int) : Nat := sw (decide (z < 0)) (nrung z.natAbs)
/-- What a word of a finite float stands for. -/
def vw (x : Nat) : Int := if x < 9223372036854775808 then (uV x : Int) else -(uV (x - 9223372036854775808) : Int)
theorem vw_sw (s : Bool) {a : Nat} (h : a < 9223372036854775808) : vw (sw s a) = sv s a := by
  unfold vw sv sw
  cases s
  · simp only [Bool.false_eq_true, if_false]; rw [if_pos h]
  · simp only [if_true]; rw [if_neg (by omega), Nat.add_sub_cancel_left]
/-- A word of a finite float, and none of -0. -/
def Fin (x : Nat) : Prop := x < 18446744073709551616 ∧ x % 9223372036854775808 < 9218868437227405312
def Ok (x : Nat) : Prop := Fin x ∧ x ≠ 9223372036854775808
theorem fin_sw {s : Bool} {a : Nat} (h : a < 9218868437227405312) : Fin (sw s a) := ⟨sw_lt s (by omega), by rw [sw_mod s (by omega)]; exact h⟩
theorem fin_cases {x : Nat} (h : Fin x) : ∃ s a, x = sw s a ∧ a < 9218868437227405312 := by
  obtain ⟨s, a, rfl, ha⟩ := sw_of x h.1
  exact ⟨s, a, rfl, by have := h.2; rw [sw_mod s ha] at this; exact this⟩
theorem uV_eq_zero {a : Nat} (h : uV a = 0) : a = 0 := by
  rcases Nat.eq_zero_or_pos a with k | k
  · exact k
  · have := uV_pos k; omega
theorem sw_t0 : sw true 0 = 9223372036854775808 := by decide +kernel
/-- The sum, by what they stand for. -/
theorem fa_fw {x y : Nat} (hx : Fin x) (hy : Fin y) (h : x ≠ 9223372036854775808 ∨ y ≠ 9223372036854775808) : fa x y = fw (vw x + vw y) := by
  obtain ⟨s, a, rfl, ha⟩ := fin_cases hx
  obtain ⟨t, b, rfl, hb⟩ := fin_cases hy
  unfold fa
  rw [add_fin s t a b ha hb, vw_sw s (by omega), vw_sw t (by omega)]
  show addW s t a b = _
  unfold addW fw
  by_cases hz : sv s a + sv t b = 0
  · rw [if_pos hz, hz]
    have : (s && t) = false := by
      cases s <;> cases t <;> try rfl
      exfalso
      unfold sv at hz
      simp only [if_true] at hz
      have e1 : a = 0 := uV_eq_zero (by omega)
      have e2 : b = 0 := uV_eq_zero (by omega)
      subst e1; subst e2
      rcases h with h | h <;> exact h sw_t0
    rw [this, decide_eq_false (by omega), show (0 : Int).natAbs = 0 from rfl, nrung_zero]
  · rw [if_neg hz]
theorem nrung_big {N : Nat} (h : 9007199254740992 ≤ N) (h0 : nrung N = 0) : False := by
  have h3 : nr N = 0 := by
    rw [nrung_nr] at h0
    rcases Nat.le_total (nr N) 9218868437227405312 with c | c
    · rw [Nat.min_eq_left c] at h0; exact h0
    · rw [Nat.min_eq_right c] at h0; exact absurd h0 (by decide)
  unfold nr at h3
  rw [if_neg (by omega)] at h3
  have hlog : 53 ≤ N.log2 := (Nat.le_log2 (by omega)).2 (by rw [two_pow_53]; exact h)
  have h4 : N.log2 - 52 = 0 := by
    rcases Nat.eq_zero_or_pos (N.log2 - 52) with c | c
    · exact c
    · have := Nat.le_mul_of_pos_left 4503599627370496 c; omega
  omega
theorem sw_f0 : sw false 0 = 0 := by decide +kernel
theorem sw_ne {s : Bool} {a : Nat} (ha : a < 9223372036854775808) (h : s = true → a ≠ 0) : sw s a ≠ 9223372036854775808 := by
  intro e
  have m := sw_mod s ha
  rw [e, Nat.mod_self] at m
  subst m
  cases s
  · rw [sw_f0] at e; exact absurd e (by decide)
  · exact h rfl rfl
theorem nrung_ne {N : Nat} (h : N ≠ 0) : nrung N ≠ 0 := by
  intro e
  rcases Nat.lt_or_ge N 9007199254740992 with c | c
  · rw [nrung_small c] at e; exact h e
  · exact nrung_big c e
theorem fw_ok {z : Int} (h : nrung z.natAbs < 9218868437227405312) : Ok (fw z) := by
  refine ⟨fin_sw h, ?_⟩
  exact sw_ne (by omega) (fun hz => nrung_ne (by have := of_decide_eq_true hz; omega))
theorem vw_fw {z : Int} (h : Rep z.natAbs) (hN : z.natAbs < TOP) : vw (fw z) = z ∧ Ok (fw z) := by
  obtain ⟨h1, h2⟩ := nrung_rep h hN
  refine ⟨?_, fw_ok h2⟩
  unfold fw
  rw [vw_sw _ (by omega)]
  unfold sv
  rw [h1]
  by_cases hz : z < 0
  · rw [decide_eq_true hz, if_pos rfl]; omega
  · rw [decide_eq_false hz, if_neg (by decide)]; omega
theorem fw_vw {x : Nat} (h : Ok x) : fw (vw x) = x := by
  obtain ⟨s, a, rfl, ha⟩ := fin_cases h.1
  have e := (nrung_rep (rep_uV a) (by
    have := uV_mono ha
    rw [top_uV] at this
    exact this)).1
  have ea : nrung (uV a) = a := by
    rcases Nat.lt_trichotomy (nrung (uV a)) a with c | c | c
    · have := uV_mono c; omega
    · exact c
    · have := uV_mono c; omega
  rw [vw_sw s (by omega)]
  unfold fw sv
  cases s
  · simp only [Bool.false_eq_true, if_false]
    rw [decide_eq_false (by omega), Int.natAbs_natCast, ea]
  · simp only [if_true]
    have h0 : a ≠ 0 := fun c => h.2 (by rw [c]; exact sw_t0)
    have := uV_pos (show 0 < a by omega)
    rw [decide_eq_true (by omega), Int.natAbs_neg, Int.natAbs_natCast, ea]
theorem vw_neg {x : Nat} (h : x < 18446744073709551616) : vw (neg x) = - vw x := by
  obtain ⟨s, a, rfl, ha⟩ := sw_of x h
  rw [neg_sw s ha, vw_sw _ ha, vw_sw _ ha]
  unfold sv; cases s <;> simp
theorem fin_neg {x : Nat} (h : Fin x) : Fin (neg x) := by
  obtain ⟨s, a, rfl, ha⟩ := fin_cases h
  rw [neg_sw s (by omega)]
  exact fin_sw ha
theorem vw_bound {x : Nat} (h : Fin x) : (vw x).natAbs < TOP := by
  obtain ⟨s, a, rfl, ha⟩ := fin_cases h
  rw [vw_sw s (by omega)]
  have h1 := uV_mono ha
  rw [top_uV] at h1
  unfold sv; cases s <;> simp <;> omega
theorem vw_rep {x : Nat} (h : Fin x) : Rep (vw x).natAbs := by
  obtain ⟨s, a, rfl, ha⟩ := fin_cases h
  rw [vw_sw s (by omega)]
  have := rep_uV a
  unfold sv; cases s <;> simpa using this
end Go.Proofs.Ytdlaloakochfeaa.Soft
