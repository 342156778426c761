/- PARTS: what two come to. Own work of the verifier. -/
import Derived.Test.YtpllckgpolhafaaGreatDoorS1
namespace Go.Proofs.YtpllckgpolhafaaGreatDoor
open Go.RowKit

/-- Of x of a and y of b, the one at an end. -/
def endF (n n' x y : Nat) (side : Int) : Nat := if n = 0 then y else if n' = 0 then x else if Pr.sg (Pr.rk y) (Pr.rk x) = side then y else x
theorem endF_lt {n n' x y : Nat} {side : Int} (hx : x < 18446744073709551616) (hy : y < 18446744073709551616) : endF n n' x y side < 18446744073709551616 := by
  unfold endF; repeat' split
  all_goals assumption
set_option maxHeartbeats 1000000 in
theorem end_any (ah al bh bl : Int) (v v' : Value) (n n' s c u d mn mx mn' mx' x y : Nat) (side : Int) (hx : x < 18446744073709551616) (hy : y < 18446744073709551616) (w : World) :
    Calls Tryz.prog 63 #[part ah al v n s c mn mx, part bh bl v' n' u d mn' mx', .float .f64 x, .float .f64 y, .int .i64 side] w fun e w' => e = .returned (.float .f64 (endF n n' x y side)) ∧ Below w.heap.size w w' := by
  have HC : Hid _ := Pr.compare_any y x hy hx
  unfold endF
  generalize Pr.sg (Pr.rk y) (Pr.rk x) = z at *
  by_cases h0 : n = 0
  · subst h0
    rw [if_pos rfl]
    go_enter Tryz.func63, Tryz.ntmps63
    go_wp2_with fail
    go_ret
    exact ⟨rfl, bel2 _ _ _⟩
  · have t0 : ((n : Int) == 0) = false := by simp; omega
    rw [if_neg h0]
    by_cases h1 : n' = 0
    · subst h1
      rw [if_pos rfl]
      go_enter Tryz.func63, Tryz.ntmps63
      go_wp2_with fail
      go_ret
      exact ⟨rfl, bel2 _ _ _⟩
    · have t1 : ((n' : Int) == 0) = false := by simp; omega
      rw [if_neg h1]
      by_cases h2 : z = side
      · have t2 : (z == side) = true := by simp [h2]
        rw [if_pos h2]
        clear h2
        go_enter Tryz.func63, Tryz.ntmps63
        go_wp2_with (go_at_call 91; with_reducible refine (HC.out _).mono ?_; rintro e w ⟨rfl, rfl⟩)
        go_ret
        exact ⟨rfl, bel2 _ _ _⟩
      · have t2 : (z == side) = false := by simp [h2]
        rw [if_neg h2]
        clear h2
        go_enter Tryz.func63, Tryz.ntmps63
        go_wp2_with (go_at_call 91; with_reducible refine (HC.out _).mono ?_; rintro e w ⟨rfl, rfl⟩)
        go_ret
        exact ⟨rfl, bel2 _ _ _⟩
end Go.Proofs.YtpllckgpolhafaaGreatDoor
