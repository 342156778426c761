/- THE DOCUMENT's SUM OF TWO FLOATS. Own work of the verifier. -/
import Derived.Test.YtdlaloakochfeaaQ2
import Derived.Test.YtdlaloakochfeaaSoftMath8
namespace Go.Proofs.Ytdlaloakochfeaa
open Go.RowKit Soft

theorem sign_sw (s : Bool) (A : Nat) (h : A < 9223372036854775808) : bits .and .u64 ((sw s A : Nat) : Int) 9223372036854775808 = if s then 9223372036854775808 else 0 := by
  rw [sign_bit _ (sw_lt s h)]
  cases s
  · rw [if_neg (by decide)]; show ((A / 9223372036854775808 * 9223372036854775808 : Nat) : Int) = 0; omega
  · rw [if_pos rfl]; show (((9223372036854775808 + A) / 9223372036854775808 * 9223372036854775808 : Nat) : Int) = _; omega
theorem clear_sw (s : Bool) (A : Nat) (h : A < 9223372036854775808) : bits .andNot .u64 ((sw s A : Nat) : Int) 9223372036854775808 = (A : Int) := by
  rw [clear_sign _ (sw_lt s h), sw_mod s h]
end Go.Proofs.Ytdlaloakochfeaa
