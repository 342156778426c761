/- WHAT THE SHORTEST DIGITS LIE BETWEEN. Own work of the verifier. -/
import Derived.Test.YtmejmohambhaaaaGreatDoorL4b
namespace Go.Proofs.YtmejmohambhaaaaGreatDoor
open Go.RowKit

theorem tab_top : ∀ i, i < 696 → 9223372036854775808 ≤ tabHi i := by
  have h : (List.range 696).all (fun i => decide (9223372036854775808 ≤ tabHi i)) = true := by decide +kernel
  intro i hi
  have := List.all_eq_true.1 h i (List.mem_range.2 hi)
  simpa using this
def sOf (e p : Int) : Nat := ((-(e + l2 p + 3)) % 64).toNat
def okE (e p : Int) : Bool := decide (5 ≤ sOf e p) && decide (sOf e p ≤ 58) && decide (-348 ≤ p) && decide (p ≤ 347)
theorem ok_norm (e : Int) (h0 : -1085 ≤ e) (h1 : e ≤ 1000) : okE e (-(l10 (e + 11))) = true ∧ okE e (-(skw (e + 11))) = true := by
  have h : (List.range 2086).all (fun i => okE ((i : Int) - 1085) (-(l10 ((i : Int) - 1085 + 11))) && okE ((i : Int) - 1085) (-(skw ((i : Int) - 1085 + 11)))) = true := by decide +kernel
  have := List.all_eq_true.1 h (e + 1085).toNat (List.mem_range.2 (by omega))
  rw [show (((e + 1085).toNat : Nat) : Int) - 1085 = e from by omega] at this
  simpa using this
theorem ok_sub (e : Int) (h0 : -1137 ≤ e) (h1 : e ≤ -1086) : okE e (-(l10 (-1074))) = true := by
  have h : (List.range 52).all (fun i => okE ((i : Int) - 1137) (-(l10 (-1074)))) = true := by decide +kernel
  have := List.all_eq_true.1 h (e + 1137).toNat (List.mem_range.2 (by omega))
  rw [show (((e + 1137).toNat : Nat) : Int) - 1137 = e from by omega] at this
  exact this
theorem or_le (a : Nat) (b : Bool) : a ≤ a ||| b2n b ∧ a ||| b2n b ≤ a + 1 := by
  refine ⟨Nat.left_le_or, ?_⟩
  cases b
  · show a ||| 0 ≤ a + 1
    simp
  · show a ||| 1 ≤ a + 1
    have : a ||| 1 = a / 2 * 2 + 1 := by
      apply Nat.eq_of_testBit_eq
      intro i
      rw [Nat.testBit_or]
      cases i with
      | zero => simp [Nat.testBit_zero]
      | succ i =>
        rw [Nat.testBit_succ, Nat.testBit_succ, Nat.testBit_succ, show (a / 2 * 2 + 1) / 2 = a / 2 from by omega, show 1 / 2 = 0 from rfl]
        simp
    omega
theorem usc_between (x hi lo s : Nat) (hx0 : 4611686018427387904 ≤ x) (hx : x < 18446744073709551616) (h0 : 9223372036854775808 ≤ hi) (hhi : hi < 18446744073709551616) (hs0 : 5 ≤ s) (hs : s ≤ 58) :
    7 ≤ usc x hi lo s ∧ usc x hi lo s ≤ 576460752303423489 := by
  have hA0 : 2305843009213693952 ≤ x * hi / 18446744073709551616 := by
    rw [Nat.le_div_iff_mul_le (by decide)]
    exact Nat.le_trans (by decide) (Nat.mul_le_mul hx0 h0)
  have hA1 : x * hi / 18446744073709551616 < 18446744073709551616 := Nat.div_lt_of_lt_mul (Nat.mul_lt_mul'' hx hhi)
  have p0 : 2 ^ s ≤ 2 ^ 58 := Nat.pow_le_pow_right (by decide) hs
  have p1 : 2 ^ 5 ≤ 2 ^ s := Nat.pow_le_pow_right (by decide) hs0
  have key : ∀ H, 2305843009213693951 ≤ H → H < 18446744073709551616 → 7 ≤ H / 2 ^ s ∧ H / 2 ^ s ≤ 576460752303423488 := by
    intro H a b
    constructor
    · rw [Nat.le_div_iff_mul_le (by omega)]
      have : 7 * 2 ^ s ≤ 7 * 2 ^ 58 := Nat.mul_le_mul_left _ p0
      omega
    · have : H / 2 ^ s ≤ H / 2 ^ 5 := Nat.div_le_div_left p1 (by decide)
      omega
  unfold usc
  generalize x * hi / 18446744073709551616 = A at *
  split
  · have hb := b2n_le (decide (x * hi % 18446744073709551616 < x * lo / 18446744073709551616))
    generalize b2n (decide (x * hi % 18446744073709551616 < x * lo / 18446744073709551616)) = b at *
    have hH : (A + 18446744073709551616 - b) % 18446744073709551616 = A - b := by omega
    rw [hH]
    obtain ⟨k1, k2⟩ := key (A - b) (by omega) (by omega)
    obtain ⟨o1, o2⟩ := or_le ((A - b) / 2 ^ s) (decide (1 < (x * hi % 18446744073709551616 + 18446744073709551616 - x * lo / 18446744073709551616) % 18446744073709551616))
    omega
  · obtain ⟨k1, k2⟩ := key A (by omega) hA1
    obtain ⟨o1, o2⟩ := or_le (A / 2 ^ s) true
    have : b2n true = 1 := rfl
    rw [this] at o1 o2
    omega
theorem scl_between (x : Nat) (e p : Int) (hx0 : 4611686018427387904 ≤ x) (hx : x < 18446744073709551616) (h : okE e p = true) : 7 ≤ scl x e p ∧ scl x e p ≤ 576460752303423489 := by
  unfold okE at h
  simp only [Bool.and_eq_true, decide_eq_true_eq] at h
  obtain ⟨⟨⟨a, b⟩, c⟩, d⟩ := h
  exact usc_between _ _ _ _ hx0 hx (tab_top _ (by omega)) (tab_fit _ (by omega)).1 a b
theorem pick_between (m mn mx odd : Nat) (e p : Int) (hm0 : 4611686018427387904 ≤ m) (hm1 : m < 18446744073709551616) (hn0 : 4611686018427387904 ≤ mn) (hn1 : mn < 18446744073709551616) (hx0 : 4611686018427387904 ≤ mx) (hx1 : mx < 18446744073709551616) (ho : odd ≤ 1) (h : okE e p = true) :
    1 ≤ (pick m mn mx odd e p).1 ∧ (pick m mn mx odd e p).1 < 288230376151711744 ∧ -350 ≤ (pick m mn mx odd e p).2 ∧ (pick m mn mx odd e p).2 ≤ 350 := by
  obtain ⟨a1, a2⟩ := scl_between m e p hm0 hm1 h
  obtain ⟨b1, b2⟩ := scl_between mn e p hn0 hn1 h
  obtain ⟨c1, c2⟩ := scl_between mx e p hx0 hx1 h
  unfold okE at h
  simp only [Bool.and_eq_true, decide_eq_true_eq] at h
  obtain ⟨⟨⟨_, _⟩, p0⟩, p1⟩ := h
  have dm : 1 ≤ dMid (scl m e p) ∧ dMid (scl m e p) < 288230376151711744 := by
    unfold dMid
    have : scl m e p / 4 % 2 < 2 := Nat.mod_lt _ (by decide)
    generalize scl m e p / 4 % 2 = q at *
    omega
  have dl : 2 ≤ dLow (scl mn e p) odd ∧ dLow (scl mn e p) odd < 288230376151711744 := by unfold dLow; omega
  have dh : dHigh (scl mx e p) odd < 288230376151711744 := by unfold dHigh; omega
  unfold pick
  generalize dMid (scl m e p) = A at *
  generalize dLow (scl mn e p) odd = L at *
  generalize dHigh (scl mx e p) odd = R at *
  split
  · refine ⟨?_, ?_, ?_, ?_⟩ <;> simp only <;> omega
  · split
    · refine ⟨?_, ?_, ?_, ?_⟩ <;> simp only <;> omega
    · refine ⟨?_, ?_, ?_, ?_⟩ <;> simp only <;> omega
/-- The digits and the exponent that shortFloat tells lie in these bounds. -/
theorem short_between (m : Nat) (e : Int) (hm0 : 9223372036854775808 ≤ m) (hm1 : m < 18446744073709551616) (hn : -1085 ≤ e → m ≤ 18446744073709549568) (hd : e < -1085 → m + 2 ^ (-1075 - e).toNat < 18446744073709551616) (he0 : -1137 ≤ e) (he1 : e ≤ 1000) :
    1 ≤ (shortF m e).1 ∧ (shortF m e).1 < 288230376151711744 ∧ -350 ≤ (shortF m e).2 ∧ (shortF m e).2 ≤ 350 := by
  unfold shortF
  split
  · rename_i h
    exact pick_between _ _ _ _ _ _ (by omega) hm1 (by omega) (by omega) (by omega) (by omega) (by decide) (ok_norm e (by omega) he1).2
  · split
    · rename_i h
      have := hn h
      exact pick_between _ _ _ _ _ _ (by omega) hm1 (by omega) (by omega) (by omega) (by omega) (by omega) (ok_norm e h he1).1
    · rename_i h
      have h1 := hd (by omega)
      have h2 : 2 ^ (-1075 - e).toNat ≤ 4611686018427387904 := by
        have : 2 ^ (-1075 - e).toNat ≤ 2 ^ 62 := Nat.pow_le_pow_right (by decide) (by omega)
        exact this
      generalize 2 ^ (-1075 - e).toNat = T at *
      exact pick_between _ _ _ _ _ _ (by omega) hm1 (by omega) (by omega) (by omega) h1 (by omega) (ok_sub e he0 (by omega))
end Go.Proofs.YtmejmohambhaaaaGreatDoor
