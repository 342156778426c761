/- THE CELLS: Cells. Own work of the verifier. -/
import Derived.Test.YtpllckgpolhafaaGreatDoorS9
namespace Go.Proofs.YtpllckgpolhafaaGreatDoor
open Go.RowKit

theorem unlaid_counter (p : Int) (w : World) : Calls Tryz.prog 18 #[.int .i64 1, .int .i64 p] w fun e w' => e = .returned (.iface 130 (.pointer (some ⟨w.heap.size, 0, none⟩))) ∧ w' = w.alloc (.cells #[.slice none 0 0, .slice none 0 0] 135) := by
  go_enter Tryz.func18, Tryz.ntmps18
  go_wp2
  go_ret
  exact ⟨rfl, rfl⟩
theorem unlaid_histogram (p : Int) (w : World) : Calls Tryz.prog 18 #[.int .i64 2, .int .i64 p] w fun e w' => e = .returned (.iface 136 (.pointer (some ⟨w.heap.size, 0, none⟩))) ∧ w' = w.alloc (.cells #[.slice none 0 0, .slice none 0 0, .int .i64 p] 138) := by
  go_enter Tryz.func18, Tryz.ntmps18
  go_wp2
  go_ret
  exact ⟨rfl, rfl⟩
theorem unlaid_summary (p : Int) (w : World) : Calls Tryz.prog 18 #[.int .i64 3, .int .i64 p] w fun e w' => e = .returned (.iface 139 (.pointer (some ⟨w.heap.size, 0, none⟩))) ∧ w' = w.alloc (.cells #[.slice none 0 0, .slice none 0 0] 140) := by
  go_enter Tryz.func18, Tryz.ntmps18
  go_wp2
  go_ret
  exact ⟨rfl, rfl⟩
theorem three_0 {W : World} {b : Nat} {u v x : Value} {t : TypeId} (h : W.heap[b]? = some (.cells #[u, v, x] t (0, 0))) : W.cell? ⟨b, 0, none⟩ = some u := by simp [World.cell?, h]
theorem three_1 {W : World} {b : Nat} {u v x : Value} {t : TypeId} (h : W.heap[b]? = some (.cells #[u, v, x] t (0, 0))) : W.cell? ⟨b, 1, none⟩ = some v := by simp [World.cell?, h]
theorem three_2 {W : World} {b : Nat} {u v x : Value} {t : TypeId} (h : W.heap[b]? = some (.cells #[u, v, x] t (0, 0))) : W.cell? ⟨b, 2, none⟩ = some x := by simp [World.cell?, h]
theorem unlaid_none (k p : Int) (h1 : ¬ k = 1) (h2 : ¬ k = 2) (h3 : ¬ k = 3) (w : World) : Calls Tryz.prog 18 #[.int .i64 k, .int .i64 p] w fun e w' => e = .returned .nilIface ∧ w' = w := by
  have t1 : (k == 1) = false := by simpa using h1
  have t2 : (k == 2) = false := by simpa using h2
  have t3 : (k == 3) = false := by simpa using h3
  go_enter Tryz.func18, Tryz.ntmps18
  go_wp2
  go_ret
  exact ⟨rfl, rfl⟩
/-- How many cells a row has. -/
def widF (k p : Int) : Nat := if k = 1 then 2 else if k = 2 then Lg p + 2 else if k = 3 then 5 else 0
theorem widF_le (k p : Int) : widF k p ≤ 1048578 := by
  have := Lg_le p
  unfold widF; repeat' split
  all_goals omega
theorem mul_small {s : Int} {q : Nat} (h1 : 1 ≤ s) (h2 : s ≤ 16) (hq : q ≤ 1048578) : 0 ≤ 2 * s * (q : Int) ∧ 2 * s * (q : Int) ≤ 33554496 := by
  have a : 2 * s * (q : Int) ≤ 32 * (q : Int) := Int.mul_le_mul_of_nonneg_right (by omega) (by omega)
  have b : 0 ≤ 2 * s * (q : Int) := Int.mul_nonneg (by omega) (by omega)
  omega
/-- How many words. -/
def celF (k s p : Int) : Int := if okS s p then 2 * s * (widF k p : Nat) else 0
theorem cells_none (k s p : Int) (h1 : ¬ k = 1) (h2 : ¬ k = 2) (h3 : ¬ k = 3) (w : World) : Calls Tryz.prog 20 #[.int .i64 k, .int .i64 s, .int .i64 p] w fun e w' => e = .returned (.int .i64 0) ∧ Below w.heap.size w w' := by
  have HU : Hid (∀ W, _) := unlaid_none k p h1 h2 h3
  go_enter Tryz.func20, Tryz.ntmps20
  go_wp2_with (go_at_call 18; with_reducible refine (HU.out _).mono ?_; rintro e w ⟨rfl, rfl⟩)
  go_ret
  exact ⟨rfl, Below.refl _ _⟩
set_option maxHeartbeats 1000000 in
theorem cells_counter (s p : Int) (w : World) : Calls Tryz.prog 20 #[.int .i64 1, .int .i64 s, .int .i64 p] w fun e w' => e = .returned (.int .i64 (celF 1 s p)) ∧ Below w.heap.size w w' := by
  have HU : Hid (∀ W, _) := unlaid_counter p
  have HY : Hid (∀ W, _) := smay_any s p
  unfold celF
  by_cases h : okS s p
  · rw [decide_eq_true h] at HY
    rw [if_pos h, show widF 1 p = 2 from by simp [widF]]
    obtain ⟨h1, h2, h3, h4⟩ := h
    have hw1 : IntKind.i64.wrap (2 * s) = 2 * s := by rw [IntKind.wrap_i64]; omega
    have HWd : Hid (∀ W, Calls Tryz.prog 218 #[.pointer (some ⟨w.heap.size, 0, none⟩)] W fun e w' => e = .returned (.int .i64 2) ∧ w' = W) := fun W => cwidth_any _ W
    have hw2 : IntKind.i64.wrap (2 * s * 2) = 2 * s * 2 := by rw [IntKind.wrap_i64]; omega
    go_enter Tryz.func20, Tryz.ntmps20
    go_wp2_with (first | (go_at_call 18; with_reducible refine (HU.out _).mono ?_; rintro e w1 ⟨rfl, rfl⟩) | (go_at_call 19; with_reducible refine (HY.out _).mono ?_; rintro e w1 ⟨rfl, rfl⟩) | (go_at_call 218; with_reducible refine (HWd.out _).mono ?_; rintro e w1 ⟨rfl, rfl⟩))
    go_ret
    exact ⟨rfl, bel1 _ _⟩
  · rw [decide_eq_false h] at HY
    rw [if_neg h]
    go_enter Tryz.func20, Tryz.ntmps20
    go_wp2_with (first | (go_at_call 18; with_reducible refine (HU.out _).mono ?_; rintro e w1 ⟨rfl, rfl⟩) | (go_at_call 19; with_reducible refine (HY.out _).mono ?_; rintro e w1 ⟨rfl, rfl⟩))
    go_ret
    exact ⟨rfl, bel1 _ _⟩
set_option maxHeartbeats 1000000 in
theorem cells_histogram (s p : Int) (w : World) : Calls Tryz.prog 20 #[.int .i64 2, .int .i64 s, .int .i64 p] w fun e w' => e = .returned (.int .i64 (celF 2 s p)) ∧ Below w.heap.size w w' := by
  have HU : Hid (∀ W, _) := unlaid_histogram p
  have HY : Hid (∀ W, _) := smay_any s p
  unfold celF
  by_cases h : okS s p
  · rw [decide_eq_true h] at HY
    rw [if_pos h, show widF 2 p = Lg p + 2 from by simp [widF]]
    obtain ⟨h1, h2, h3, h4⟩ := h
    have hw1 : IntKind.i64.wrap (2 * s) = 2 * s := by rw [IntKind.wrap_i64]; omega
    have hlg := Lg_le p
    obtain ⟨q, hq⟩ : ∃ q, Lg p + 2 = q := ⟨_, rfl⟩
    rw [hq]
    have HWd : Hid (Calls Tryz.prog 226 #[.pointer (some ⟨w.heap.size, 0, none⟩)] (w.alloc (.cells #[.slice none 0 0, .slice none 0 0, .int .i64 p] 138)) fun e w' => e = .returned (.int .i64 ((q : Nat) : Int)) ∧ w' = (w.alloc (.cells #[.slice none 0 0, .slice none 0 0, .int .i64 p] 138))) := by
      have := hwidth_any w.heap.size p (w.alloc (.cells #[.slice none 0 0, .slice none 0 0, .int .i64 p] 138)) (three_2 (new_1 w _))
      rw [hq] at this
      exact this
    have hw2 : IntKind.i64.wrap (2 * s * (q : Int)) = 2 * s * (q : Int) := by rw [IntKind.wrap_i64]; have := mul_small h1 h2 (by omega : q ≤ 1048578); omega
    go_enter Tryz.func20, Tryz.ntmps20
    go_wp2_with (first | (go_at_call 18; with_reducible refine (HU.out _).mono ?_; rintro e w1 ⟨rfl, rfl⟩) | (go_at_call 19; with_reducible refine (HY.out _).mono ?_; rintro e w1 ⟨rfl, rfl⟩) | (go_at_call 226; with_reducible refine HWd.out.mono ?_; rintro e w1 ⟨rfl, rfl⟩))
    go_ret
    exact ⟨rfl, bel1 _ _⟩
  · rw [decide_eq_false h] at HY
    rw [if_neg h]
    go_enter Tryz.func20, Tryz.ntmps20
    go_wp2_with (first | (go_at_call 18; with_reducible refine (HU.out _).mono ?_; rintro e w1 ⟨rfl, rfl⟩) | (go_at_call 19; with_reducible refine (HY.out _).mono ?_; rintro e w1 ⟨rfl, rfl⟩))
    go_ret
    exact ⟨rfl, bel1 _ _⟩
set_option maxHeartbeats 1000000 in
theorem cells_summary (s p : Int) (w : World) : Calls Tryz.prog 20 #[.int .i64 3, .int .i64 s, .int .i64 p] w fun e w' => e = .returned (.int .i64 (celF 3 s p)) ∧ Below w.heap.size w w' := by
  have HU : Hid (∀ W, _) := unlaid_summary p
  have HY : Hid (∀ W, _) := smay_any s p
  unfold celF
  by_cases h : okS s p
  · rw [decide_eq_true h] at HY
    rw [if_pos h, show widF 3 p = 5 from by simp [widF]]
    obtain ⟨h1, h2, h3, h4⟩ := h
    have hw1 : IntKind.i64.wrap (2 * s) = 2 * s := by rw [IntKind.wrap_i64]; omega
    have HWd : Hid (∀ W, Calls Tryz.prog 232 #[.pointer (some ⟨w.heap.size, 0, none⟩)] W fun e w' => e = .returned (.int .i64 5) ∧ w' = W) := fun W => swidth_any _ W
    have hw2 : IntKind.i64.wrap (2 * s * 5) = 2 * s * 5 := by rw [IntKind.wrap_i64]; omega
    go_enter Tryz.func20, Tryz.ntmps20
    go_wp2_with (first | (go_at_call 18; with_reducible refine (HU.out _).mono ?_; rintro e w1 ⟨rfl, rfl⟩) | (go_at_call 19; with_reducible refine (HY.out _).mono ?_; rintro e w1 ⟨rfl, rfl⟩) | (go_at_call 232; with_reducible refine (HWd.out _).mono ?_; rintro e w1 ⟨rfl, rfl⟩))
    go_ret
    exact ⟨rfl, bel1 _ _⟩
  · rw [decide_eq_false h] at HY
    rw [if_neg h]
    go_enter Tryz.func20, Tryz.ntmps20
    go_wp2_with (first | (go_at_call 18; with_reducible refine (HU.out _).mono ?_; rintro e w1 ⟨rfl, rfl⟩) | (go_at_call 19; with_reducible refine (HY.out _).mono ?_; rintro e w1 ⟨rfl, rfl⟩))
    go_ret
    exact ⟨rfl, bel1 _ _⟩
end Go.Proofs.YtpllckgpolhafaaGreatDoor
