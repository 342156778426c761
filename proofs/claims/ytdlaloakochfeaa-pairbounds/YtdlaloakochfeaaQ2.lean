/- THE DOCUMENT's ROUNDING. Own work of the verifier. -/
import Derived.Test.YtdlaloakochfeaaQ1
import Derived.Test.YtdlaloakochfeaaSoftMath7
namespace Go.Proofs.Ytdlaloakochfeaa
open Go.RowKit Soft

theorem half_w (M : Nat) (h : M < 18446744073709551616) : bits .or .u64 ((M : Int) / 2) ((M % 2 : Nat) : Int) = (ss M 1 : Nat) := by
  have := u64_or_nat (M / 2) (M % 2) (by omega) (by omega)
  rw [show ((M : Int) / 2) = ((M / 2 : Nat) : Int) from by omega, this, ss_one]
theorem join_w (E f : Nat) (hE : E < 4096) (hf : f < 4503599627370496) : bits .or .u64 ((E : Int) * 4503599627370496) (f : Int) = ((E * 4503599627370496 + f : Nat) : Int) := by
  have := u64_or_nat (E * 4503599627370496) f (by omega) (by omega)
  rw [show ((E : Int) * 4503599627370496) = ((E * 4503599627370496 : Nat) : Int) from by omega, this, nat_join 52 _ _ (by rw [show (2 : Nat) ^ 52 = 4503599627370496 from by decide]; omega) (by rw [show (2 : Nat) ^ 52 = 4503599627370496 from by decide]; exact hf)]
theorem sw_t (V : Nat) : ((sw true V : Nat) : Int) = 9223372036854775808 + (V : Int) := by unfold sw; rw [if_pos rfl]; omega
theorem sw_f (V : Nat) : ((sw false V : Nat) : Int) = (V : Int) := rfl
end Go.Proofs.Ytdlaloakochfeaa
