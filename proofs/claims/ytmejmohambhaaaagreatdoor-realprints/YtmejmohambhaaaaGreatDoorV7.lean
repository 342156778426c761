/- WITHIN A BINADE the values rise. Own work of the verifier. -/
import Derived.Test.YtmejmohambhaaaaGreatDoorV4
import Derived.Test.YtmejmohambhaaaaGreatDoorV6
namespace Go.Proofs.YtmejmohambhaaaaGreatDoor
open Go.RowKit

theorem units_val (r : Nat × Int) (p : Int) (hp : p ≤ 400) (hr : r.2 = -p ∨ r.2 = -p + 1) : r.1 * 10 ^ (r.2 + 400).toNat = inUnits r p * 10 ^ (-p + 400).toNat := by
  unfold inUnits
  rcases hr with h | h
  · rw [if_pos h, h]
  · rw [if_neg (by omega), h, show (-p + 1 + 400).toNat = (-p + 400).toNat + 1 from by omega, Nat.pow_succ, Nat.mul_assoc, Nat.mul_comm 10]
theorem ltV_of (r t : Nat × Int) (p : Int) (hp : p ≤ 400) (hr : r.2 = -p ∨ r.2 = -p + 1) (ht : t.2 = -p ∨ t.2 = -p + 1) (h : inUnits r p < inUnits t p) : ltV r t = true := by
  unfold ltV
  rw [units_val r p hp hr, units_val t p hp ht]
  exact decide_eq_true (Nat.mul_lt_mul_of_pos_right h (Nat.pow_pos (by decide)))
theorem pick_two (m mn mx odd : Nat) (e p : Int) : (pick m mn mx odd e p).2 = -p ∨ (pick m mn mx odd e p).2 = -p + 1 := by
  unfold pick
  split
  · exact Or.inr (by show -(p - 1) = -p + 1; omega)
  · split
    · exact Or.inl rfl
    · exact Or.inl rfl
theorem short_norm (f : Nat) (e : Int) (hf : f ≠ 4503599627370496 ∨ e = -1085) (he : -1085 ≤ e) : shortF (f * 2048) e = pick (f * 2048) (f * 2048 - 1024) (f * 2048 + 1024) (f % 2) e (-(l10 (e + 11))) := by
  unfold shortF
  rw [if_neg (by omega), if_pos he, Nat.mul_div_cancel _ (by decide)]
theorem rise_in (f : Nat) (e : Int) (hf0 : 4503599627370496 < f ∨ f = 4503599627370496 ∧ e = -1085) (hf1 : f + 1 < 9007199254740992) (he0 : -1085 ≤ e) (he1 : e ≤ 1000) : ltV (shortF (f * 2048) e) (shortF ((f + 1) * 2048) e) = true := by
  rw [short_norm f e (by omega) he0, short_norm (f + 1) e (by omega) he0]
  have hE := (ok_norm e he0 he1).1
  have hp : -(l10 (e + 11)) ≤ 347 := by
    unfold okE at hE
    simp only [Bool.and_eq_true, decide_eq_true_eq] at hE
    exact hE.2
  refine ltV_of _ _ (-(l10 (e + 11))) (by omega) (pick_two ..) (pick_two ..) ?_
  by_cases hz : e = -11
  · subst hz
    have a := (pick_eleven f (f % 2) (by omega) (by omega) (by omega)).2.2
    have b := (pick_eleven (f + 1) ((f + 1) % 2) (by omega) (by omega) (by omega)).2.2
    rw [show -(l10 (-11 + 11)) = 0 from by decide, a, b]
    omega
  · have hW := wide_norm e he0 he1 hz
    have a := (pick_sym (f * 2048) 1024 (f % 2) e _ (by omega) (by omega) (by omega) (by omega) hE hW).2.1
    have b := (pick_sym ((f + 1) * 2048) 1024 ((f + 1) % 2) e _ (by omega) (by omega) (by omega) (by omega) hE hW).1
    have u := scl_between (f * 2048 + 1024) e _ (by omega) (by omega) hE
    have c := high_low (scl (f * 2048 + 1024) e (-(l10 (e + 11)))) (f % 2) (by omega) (by omega) (by omega)
    rw [show (f + 1) * 2048 - 1024 = f * 2048 + 1024 from by omega, show (f + 1) % 2 = 1 - f % 2 from by omega] at b
    rw [show (f + 1) * 2048 - 1024 = f * 2048 + 1024 from by omega, show (f + 1) % 2 = 1 - f % 2 from by omega]
    exact Nat.lt_of_le_of_lt a (Nat.lt_of_lt_of_le c b)
end Go.Proofs.YtmejmohambhaaaaGreatDoor
