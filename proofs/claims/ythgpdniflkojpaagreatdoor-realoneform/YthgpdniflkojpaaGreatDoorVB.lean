/- AT POWERS OF TWO: the digits rise, worked out. Own work of the verifier. -/
import Derived.Test.YthgpdniflkojpaaGreatDoorVA
namespace Go.Proofs.YthgpdniflkojpaaGreatDoor
open Go.RowKit

/-- How the values of two digits and exponents stand. -/
def ltV (r t : Nat × Int) : Bool := decide (r.1 * 10 ^ (r.2 + 400).toNat < t.1 * 10 ^ (t.2 + 400).toNat)
theorem rise_to (e : Int) (h0 : -1084 ≤ e) (h1 : e ≤ 960) : ltV (shortF 18446744073709549568 (e - 1)) (shortF 9223372036854775808 e) = true := by
  have h : (List.range 2045).all (fun i => ltV (shortF 18446744073709549568 ((i : Int) - 1084 - 1)) (shortF 9223372036854775808 ((i : Int) - 1084))) = true := by decide +kernel
  have := List.all_eq_true.1 h (e + 1084).toNat (List.mem_range.2 (by omega))
  rw [show (((e + 1084).toNat : Nat) : Int) - 1084 = e from by omega] at this
  exact this
theorem rise_from (e : Int) (h0 : -1084 ≤ e) (h1 : e ≤ 960) : ltV (shortF 9223372036854775808 e) (shortF 9223372036854777856 e) = true := by
  have h : (List.range 2045).all (fun i => ltV (shortF 9223372036854775808 ((i : Int) - 1084)) (shortF 9223372036854777856 ((i : Int) - 1084))) = true := by decide +kernel
  have := List.all_eq_true.1 h (e + 1084).toNat (List.mem_range.2 (by omega))
  rw [show (((e + 1084).toNat : Nat) : Int) - 1084 = e from by omega] at this
  exact this
end Go.Proofs.YthgpdniflkojpaaGreatDoor
/- WHOLE NUMBERS FROM 2^52 ON: the ends are halves. Own work of the verifier. -/
namespace Go.Proofs.YthgpdniflkojpaaGreatDoor
open Go.RowKit

theorem tab_one : tabHi 348 = 9223372036854775808 ∧ tabLo 348 = 0 := by decide +kernel
theorem scl_eleven (y : Nat) (hy : y < 36028797018963968) : scl (y * 512) (-11) 0 = y := by
  rw [scl_form _ _ _ (by omega) (by decide) (by decide), show ((0 : Int) + 348).toNat = 348 from by decide, tab_one.1, tab_one.2, show sOf (-11) 0 = 8 from by decide]
  unfold cutD NN
  rw [show y * 512 * 9223372036854775808 - y * 512 * 0 / 18446744073709551616 = 18446744073709551616 * 2 ^ 8 * y + 0 from by omega]
  rw [(div_parts (18446744073709551616 * 2 ^ 8) y 0 (by decide)).1, (div_parts (18446744073709551616 * 2 ^ 8) y 0 (by decide)).2]
  exact Nat.or_zero _
theorem pick_eleven (f odd : Nat) (h0 : 4503599627370496 ≤ f) (h1 : f < 9007199254740992) (ho : odd ≤ 1) :
    dLow (scl (f * 2048 - 1024) (-11) 0) odd = f ∧ dHigh (scl (f * 2048 + 1024) (-11) 0) odd = f ∧ inUnits (pick (f * 2048) (f * 2048 - 1024) (f * 2048 + 1024) odd (-11) 0) 0 = f := by
  have a : dLow (scl (f * 2048 - 1024) (-11) 0) odd = f := by
    rw [show f * 2048 - 1024 = (4 * f - 2) * 512 from by omega, scl_eleven _ (by omega), dLow_small _ _ (by omega) ho]; omega
  have b : dHigh (scl (f * 2048 + 1024) (-11) 0) odd = f := by
    rw [show f * 2048 + 1024 = (4 * f + 2) * 512 from by omega, scl_eleven _ (by omega), dHigh_small _ _ (by omega) (by omega) ho]; omega
  have c := pick_in (f * 2048) (f * 2048 - 1024) (f * 2048 + 1024) odd (-11) 0 (by omega) (by omega)
  exact ⟨a, b, by omega⟩
end Go.Proofs.YthgpdniflkojpaaGreatDoor
/- WITHIN A BINADE the values rise. Own work of the verifier. -/
namespace Go.Proofs.YthgpdniflkojpaaGreatDoor
open Go.RowKit

theorem units_val (r : Nat × Int) (p : Int) (hp : p ≤ 400) (hr : r.2 = -p ∨ r.2 = -p + 1) : r.1 * 10 ^ (r.2 + 400).toNat = inUnits r p * 10 ^ (-p + 400).toNat := by
  unfold inUnits
  rcases hr with h | h
  · rw [if_pos h, h]
  · rw [if_neg (by omega), h, show (-p + 1 + 400).toNat = (-p + 400).toNat + 1 from by omega, Nat.pow_succ, Nat.mul_assoc, Nat.mul_comm 10]
theorem ltV_of (r t : Nat × Int) (p : Int) (hp : p ≤ 400) (hr : r.2 = -p ∨ r.2 = -p + 1) (ht : t.2 = -p ∨ t.2 = -p + 1) (h : inUnits r p < inUnits t p) : ltV r t = true := by
  unfold ltV
  rw [units_val r p hp hr, units_val t p hp ht]
  exact decide_eq_true (Nat.mul_lt_mul_of_pos_right h (Nat.pow_pos (by decide)))
theorem pick_two (m mn mx odd : Nat) (e p : Int) : (pick m mn mx odd e p).2 = -p ∨ (pick m mn mx odd e p).2 = -p + 1 := by
  unfold pick
  split
  · exact Or.inr (by show -(p - 1) = -p + 1; omega)
  · split
    · exact Or.inl rfl
    · exact Or.inl rfl
theorem short_norm (f : Nat) (e : Int) (hf : f ≠ 4503599627370496 ∨ e = -1085) (he : -1085 ≤ e) : shortF (f * 2048) e = pick (f * 2048) (f * 2048 - 1024) (f * 2048 + 1024) (f % 2) e (-(l10 (e + 11))) := by
  unfold shortF
  rw [if_neg (by omega), if_pos he, Nat.mul_div_cancel _ (by decide)]
theorem rise_in (f : Nat) (e : Int) (hf0 : 4503599627370496 < f ∨ f = 4503599627370496 ∧ e = -1085) (hf1 : f + 1 < 9007199254740992) (he0 : -1085 ≤ e) (he1 : e ≤ 1000) : ltV (shortF (f * 2048) e) (shortF ((f + 1) * 2048) e) = true := by
  rw [short_norm f e (by omega) he0, short_norm (f + 1) e (by omega) he0]
  have hE := (ok_norm e he0 he1).1
  have hp : -(l10 (e + 11)) ≤ 347 := by
    unfold okE at hE
    simp only [Bool.and_eq_true, decide_eq_true_eq] at hE
    exact hE.2
  refine ltV_of _ _ (-(l10 (e + 11))) (by omega) (pick_two ..) (pick_two ..) ?_
  by_cases hz : e = -11
  · subst hz
    have a := (pick_eleven f (f % 2) (by omega) (by omega) (by omega)).2.2
    have b := (pick_eleven (f + 1) ((f + 1) % 2) (by omega) (by omega) (by omega)).2.2
    rw [show -(l10 (-11 + 11)) = 0 from by decide, a, b]
    omega
  · have hW := wide_norm e he0 he1 hz
    have a := (pick_sym (f * 2048) 1024 (f % 2) e _ (by omega) (by omega) (by omega) (by omega) hE hW).2.1
    have b := (pick_sym ((f + 1) * 2048) 1024 ((f + 1) % 2) e _ (by omega) (by omega) (by omega) (by omega) hE hW).1
    have u := scl_between (f * 2048 + 1024) e _ (by omega) (by omega) hE
    have c := high_low (scl (f * 2048 + 1024) e (-(l10 (e + 11)))) (f % 2) (by omega) (by omega) (by omega)
    rw [show (f + 1) * 2048 - 1024 = f * 2048 + 1024 from by omega, show (f + 1) % 2 = 1 - f % 2 from by omega] at b
    rw [show (f + 1) * 2048 - 1024 = f * 2048 + 1024 from by omega, show (f + 1) % 2 = 1 - f % 2 from by omega]
    exact Nat.lt_of_le_of_lt a (Nat.lt_of_lt_of_le c b)
end Go.Proofs.YthgpdniflkojpaaGreatDoor
/- AT POWERS OF TWO BELOW THE LEAST NORMAL FLOAT, and at that one. Own work of the verifier. -/
namespace Go.Proofs.YthgpdniflkojpaaGreatDoor
open Go.RowKit

theorem rise_sub (k : Nat) (h0 : 1 ≤ k) (h1 : k ≤ 52) : ltV (shortF ((2 ^ k - 1) * 2 ^ (64 - k)) (-1074 - ((64 - k : Nat) : Int))) (shortF 9223372036854775808 (-1074 - ((63 - k : Nat) : Int))) = true := by
  have h : (List.range 53).all (fun k => k == 0 || ltV (shortF ((2 ^ k - 1) * 2 ^ (64 - k)) (-1074 - ((64 - k : Nat) : Int))) (shortF 9223372036854775808 (-1074 - ((63 - k : Nat) : Int)))) = true := by decide +kernel
  have := List.all_eq_true.1 h k (List.mem_range.2 (by omega))
  rw [Bool.or_eq_true] at this
  rcases this with q | q
  · have := eq_of_beq q; omega
  · exact q
end Go.Proofs.YthgpdniflkojpaaGreatDoor
/- BELOW THE LEAST NORMAL FLOAT the values rise too. Own work of the verifier. -/
namespace Go.Proofs.YthgpdniflkojpaaGreatDoor
open Go.RowKit

theorem short_low (f z : Nat) (hz : 12 ≤ z) : shortF (f * 2 ^ z) (-1074 - (z : Int)) = pick (f * 2 ^ z) (f * 2 ^ z - 2 ^ (z - 1)) (f * 2 ^ z + 2 ^ (z - 1)) (f % 2) (-1074 - (z : Int)) (-(l10 (-1074))) := by
  unfold shortF
  rw [if_neg (by omega), if_neg (by omega), show (-1075 - (-1074 - (z : Int))).toNat = z - 1 from by omega, show (-1074 - (-1074 - (z : Int))).toNat = z from by omega, Nat.mul_div_cancel _ (Nat.pow_pos (by decide))]
theorem rise_low (f z : Nat) (hz0 : 12 ≤ z) (hz1 : z ≤ 63) (h0 : 9223372036854775808 ≤ f * 2 ^ z) (h1 : (f + 2) * 2 ^ z ≤ 18446744073709551616) :
    ltV (shortF (f * 2 ^ z) (-1074 - (z : Int))) (shortF ((f + 1) * 2 ^ z) (-1074 - (z : Int))) = true := by
  rw [short_low f z hz0, short_low (f + 1) z hz0]
  have hE := ok_sub (-1074 - (z : Int)) (by omega) (by omega)
  have hW := wide_sub (-1074 - (z : Int)) (by omega) (by omega)
  rw [show (-1075 - (-1074 - (z : Int))).toNat = z - 1 from by omega] at hW
  refine ltV_of _ _ (-(l10 (-1074))) (by decide) (pick_two ..) (pick_two ..) ?_
  have hg : 2 ^ (z - 1) ≤ 4611686018427387904 := by
    have : 2 ^ (z - 1) ≤ 2 ^ 62 := Nat.pow_le_pow_right (by decide) (by omega)
    exact this
  have hg0 : 0 < 2 ^ (z - 1) := Nat.pow_pos (by decide)
  have e1 : (f + 1) * 2 ^ z = f * 2 ^ z + 2 ^ z := by rw [Nat.add_mul, Nat.one_mul]
  have e2 : (f + 2) * 2 ^ z = f * 2 ^ z + 2 * 2 ^ z := by rw [Nat.add_mul]
  have e3 : 2 ^ z = 2 * 2 ^ (z - 1) := by rw [← Nat.pow_succ', show (z - 1).succ = z from by omega]
  have a := (pick_sym (f * 2 ^ z) (2 ^ (z - 1)) (f % 2) _ _ (by omega) (by omega) (by omega) (by omega) hE hW).2.1
  have b := (pick_sym ((f + 1) * 2 ^ z) (2 ^ (z - 1)) ((f + 1) % 2) _ _ (by omega) (by omega) (by omega) (by omega) hE hW).1
  have u := scl_between (f * 2 ^ z + 2 ^ (z - 1)) _ _ (by omega) (by omega) hE
  have c := high_low (scl (f * 2 ^ z + 2 ^ (z - 1)) (-1074 - (z : Int)) (-(l10 (-1074)))) (f % 2) (by omega) (by omega) (by omega)
  rw [show (f + 1) % 2 = 1 - f % 2 from by omega] at b ⊢
  have e4 : (f + 1) * 2 ^ z - 2 ^ (z - 1) = f * 2 ^ z + 2 ^ (z - 1) := by omega
  rw [e4] at b ⊢
  exact Nat.lt_of_le_of_lt a (Nat.lt_of_lt_of_le c b)
end Go.Proofs.YthgpdniflkojpaaGreatDoor
