/- AT POWERS OF TWO BELOW THE LEAST NORMAL FLOAT, and at that one. Own work of the verifier. -/
import Derived.Test.YtmejmohambhaaaaGreatDoorV4
namespace Go.Proofs.YtmejmohambhaaaaGreatDoor
open Go.RowKit

theorem rise_sub (k : Nat) (h0 : 1 ≤ k) (h1 : k ≤ 52) : ltV (shortF ((2 ^ k - 1) * 2 ^ (64 - k)) (-1074 - ((64 - k : Nat) : Int))) (shortF 9223372036854775808 (-1074 - ((63 - k : Nat) : Int))) = true := by
  have h : (List.range 53).all (fun k => k == 0 || ltV (shortF ((2 ^ k - 1) * 2 ^ (64 - k)) (-1074 - ((64 - k : Nat) : Int))) (shortF 9223372036854775808 (-1074 - ((63 - k : Nat) : Int)))) = true := by decide +kernel
  have := List.all_eq_true.1 h k (List.mem_range.2 (by omega))
  rw [Bool.or_eq_true] at this
  rcases this with q | q
  · have := eq_of_beq q; omega
  · exact q
end Go.Proofs.YtmejmohambhaaaaGreatDoor
