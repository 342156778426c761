/- AtMost, the code's. Own work of the verifier. -/
import Derived.Test.YthgfeghgcickhaaGreatDoorYBB
import Derived.Test.YthgfeghgcickhaaGreatDoorYAV
import Derived.Test.YthgfeghgcickhaaGreatDoorYAK
namespace Go.Proofs.YthgfeghgcickhaaGreatDoor
open Go.RowKit Go.Shelf

attribute [local go_sem] Oper.semAt_some


end Go.Proofs.YthgfeghgcickhaaGreatDoor
/- THE FACTS OF THE QUANTILES' LAW. Own work of the verifier. -/
namespace Go.Proofs.YthgfeghgcickhaaGreatDoor
open Go.RowKit

end Go.Proofs.YthgfeghgcickhaaGreatDoor
/- Rank and Quantile, the code's. Own work of the verifier. -/
namespace Go.Proofs.YthgfeghgcickhaaGreatDoor
open Go.RowKit

theorem cmul64_any (x y : Int) (hx0 : 0 ≤ x) (hx : x < 18446744073709551616) (hy0 : 0 ≤ y) (hy : y < 18446744073709551616) (w : World) :
    Calls Tryz.prog 118 #[.int .u64 x, .int .u64 y] w fun e w' => e = .returned (.tuple #[.int .u64 (hiOf (x * y)), .int .u64 (loOf (x * y))]) ∧ w' = w := by
  obtain ⟨x, rfl⟩ := Int.eq_ofNat_of_zero_le hx0
  obtain ⟨y, rfl⟩ := Int.eq_ofNat_of_zero_le hy0
  refine (Tryz.bits_Mul64 x y (by omega) (by omega) w).mono ?_
  rintro e w' ⟨rfl, rfl⟩
  refine ⟨?_, rfl⟩
  unfold hiOf loOf
  rw [← Int.natCast_mul]
  simp only [Int.natCast_ediv, Int.natCast_emod]
  rfl
set_option maxHeartbeats 400000 in
theorem cmul_any (x y : Int) (hx0 : 0 ≤ x) (hx : x < 18446744073709551616) (hy0 : 0 ≤ y) (hy : y < 18446744073709551616) (w : World) :
    Calls Tryz.prog 91 #[.int .u64 x, .int .u64 y] w fun e w' => e = .returned (.tuple #[.int .u64 (hiOf (x * y)), .int .u64 (loOf (x * y))]) ∧ w' = w := by
  go_enter Tryz.func91, Tryz.ntmps91
  go_wp2_with fail
  refine (cmul64_any x y hx0 hx hy0 hy _).mono ?_
  rintro e w1 ⟨rfl, rfl⟩
  go_wp2
  go_ret2
  exact ⟨rfl, rfl⟩
end Go.Proofs.YthgfeghgcickhaaGreatDoor
