/- AT POWERS OF TWO: the digits rise, worked out. Own work of the verifier. -/
import Derived.Test.YtmejmohambhaaaaGreatDoorVA
namespace Go.Proofs.YtmejmohambhaaaaGreatDoor
open Go.RowKit

/-- How the values of two digits and exponents stand. -/
def ltV (r t : Nat × Int) : Bool := decide (r.1 * 10 ^ (r.2 + 400).toNat < t.1 * 10 ^ (t.2 + 400).toNat)
theorem rise_to (e : Int) (h0 : -1084 ≤ e) (h1 : e ≤ 960) : ltV (shortF 18446744073709549568 (e - 1)) (shortF 9223372036854775808 e) = true := by
  have h : (List.range 2045).all (fun i => ltV (shortF 18446744073709549568 ((i : Int) - 1084 - 1)) (shortF 9223372036854775808 ((i : Int) - 1084))) = true := by decide +kernel
  have := List.all_eq_true.1 h (e + 1084).toNat (List.mem_range.2 (by omega))
  rw [show (((e + 1084).toNat : Nat) : Int) - 1084 = e from by omega] at this
  exact this
theorem rise_from (e : Int) (h0 : -1084 ≤ e) (h1 : e ≤ 960) : ltV (shortF 9223372036854775808 e) (shortF 9223372036854777856 e) = true := by
  have h : (List.range 2045).all (fun i => ltV (shortF 9223372036854775808 ((i : Int) - 1084)) (shortF 9223372036854777856 ((i : Int) - 1084))) = true := by decide +kernel
  have := List.all_eq_true.1 h (e + 1084).toNat (List.mem_range.2 (by omega))
  rw [show (((e + 1084).toNat : Nat) : Int) - 1084 = e from by omega] at this
  exact this
end Go.Proofs.YtmejmohambhaaaaGreatDoor
