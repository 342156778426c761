/- WHOLE NUMBERS FROM 2^52 ON: the ends are halves. Own work of the verifier. -/
import Derived.Test.YtmejmohambhaaaaGreatDoorVA
namespace Go.Proofs.YtmejmohambhaaaaGreatDoor
open Go.RowKit

theorem tab_one : tabHi 348 = 9223372036854775808 ∧ tabLo 348 = 0 := by decide +kernel
theorem scl_eleven (y : Nat) (hy : y < 36028797018963968) : scl (y * 512) (-11) 0 = y := by
  rw [scl_form _ _ _ (by omega) (by decide) (by decide), show ((0 : Int) + 348).toNat = 348 from by decide, tab_one.1, tab_one.2, show sOf (-11) 0 = 8 from by decide]
  unfold cutD NN
  rw [show y * 512 * 9223372036854775808 - y * 512 * 0 / 18446744073709551616 = 18446744073709551616 * 2 ^ 8 * y + 0 from by omega]
  rw [(div_parts (18446744073709551616 * 2 ^ 8) y 0 (by decide)).1, (div_parts (18446744073709551616 * 2 ^ 8) y 0 (by decide)).2]
  exact Nat.or_zero _
theorem pick_eleven (f odd : Nat) (h0 : 4503599627370496 ≤ f) (h1 : f < 9007199254740992) (ho : odd ≤ 1) :
    dLow (scl (f * 2048 - 1024) (-11) 0) odd = f ∧ dHigh (scl (f * 2048 + 1024) (-11) 0) odd = f ∧ inUnits (pick (f * 2048) (f * 2048 - 1024) (f * 2048 + 1024) odd (-11) 0) 0 = f := by
  have a : dLow (scl (f * 2048 - 1024) (-11) 0) odd = f := by
    rw [show f * 2048 - 1024 = (4 * f - 2) * 512 from by omega, scl_eleven _ (by omega), dLow_small _ _ (by omega) ho]; omega
  have b : dHigh (scl (f * 2048 + 1024) (-11) 0) odd = f := by
    rw [show f * 2048 + 1024 = (4 * f + 2) * 512 from by omega, scl_eleven _ (by omega), dHigh_small _ _ (by omega) (by omega) ho]; omega
  have c := pick_in (f * 2048) (f * 2048 - 1024) (f * 2048 + 1024) odd (-11) 0 (by omega) (by omega)
  exact ⟨a, b, by omega⟩
end Go.Proofs.YtmejmohambhaaaaGreatDoor
