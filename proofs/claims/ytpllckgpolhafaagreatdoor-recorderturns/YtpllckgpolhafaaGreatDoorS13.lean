/- New, where it is refused; Kind; Add; the calls whose answers the document fixes. Own work of the verifier. -/
import Derived.Test.YtpllckgpolhafaaGreatDoorS12c
namespace Go.Proofs.YtpllckgpolhafaaGreatDoor
open Go.RowKit

theorem new_none (k s p : Int) (h1 : ¬ k = 1) (h2 : ¬ k = 2) (h3 : ¬ k = 3) (w : World) : Calls Tryz.prog 7 #[.int .i64 k, .int .i64 s, .int .i64 p] w fun e w' => e = .returned (.tuple #[.pointer none, .int .i64 7]) ∧ Below w.heap.size w w' := by
  have HU : Hid (∀ W, _) := unlaid_none k p h1 h2 h3
  go_enter Tryz.func7, Tryz.ntmps7
  go_wp2_with (go_at_call 18; with_reducible refine (HU.out _).mono ?_; rintro e w ⟨rfl, rfl⟩)
  go_ret2
  exact ⟨rfl, Below.refl _ _⟩
theorem new_arg_counter (s p : Int) (h : ¬ okS s p) (w : World) : Calls Tryz.prog 7 #[.int .i64 1, .int .i64 s, .int .i64 p] w fun e w' => e = .returned (.tuple #[.pointer none, .int .i64 1]) ∧ Below w.heap.size w w' := by
  have HU : Hid (∀ W, _) := unlaid_counter p
  have HY : Hid (∀ W, _) := smay_any s p
  rw [decide_eq_false h] at HY
  clear h
  go_enter Tryz.func7, Tryz.ntmps7
  go_wp2_with (first | (go_at_call 18; with_reducible refine (HU.out _).mono ?_; rintro e w1 ⟨rfl, rfl⟩) | (go_at_call 19; with_reducible refine (HY.out _).mono ?_; rintro e w1 ⟨rfl, rfl⟩))
  go_ret2
  exact ⟨rfl, bel1 _ _⟩
theorem new_room_counter (s p : Int) (h : okS s p) (hc : 1048576 < celF 1 s p) (w : World) : Calls Tryz.prog 7 #[.int .i64 1, .int .i64 s, .int .i64 p] w fun e w' => e = .returned (.tuple #[.pointer none, .int .i64 13]) ∧ Below w.heap.size w w' := by
  have HU : Hid (∀ W, _) := unlaid_counter p
  have HY : Hid (∀ W, _) := smay_any s p
  have HC : Hid (∀ W, Calls Tryz.prog 20 #[.int .i64 1, .int .i64 s, .int .i64 p] W fun e w' => e = .returned (.int .i64 (celF 1 s p)) ∧ Hid (Below W.heap.size W w')) := fun W => cells_counter s p W
  rw [decide_eq_true h] at HY
  clear h
  generalize celF 1 s p = q at *
  go_enter Tryz.func7, Tryz.ntmps7
  go_wp2_with (first | (go_at_call 18; with_reducible refine (HU.out _).mono ?_; rintro e w1 ⟨rfl, rfl⟩) | (go_at_call 19; with_reducible refine (HY.out _).mono ?_; rintro e w1 ⟨rfl, rfl⟩) | (go_at_call 20; with_reducible refine (HC.out _).mono ?_; rintro e w2 ⟨rfl, HB2⟩))
  go_ret2
  exact ⟨rfl, bt (bel1 _ _) HB2.out⟩
theorem new_arg_histogram (s p : Int) (h : ¬ okS s p) (w : World) : Calls Tryz.prog 7 #[.int .i64 2, .int .i64 s, .int .i64 p] w fun e w' => e = .returned (.tuple #[.pointer none, .int .i64 1]) ∧ Below w.heap.size w w' := by
  have HU : Hid (∀ W, _) := unlaid_histogram p
  have HY : Hid (∀ W, _) := smay_any s p
  rw [decide_eq_false h] at HY
  clear h
  go_enter Tryz.func7, Tryz.ntmps7
  go_wp2_with (first | (go_at_call 18; with_reducible refine (HU.out _).mono ?_; rintro e w1 ⟨rfl, rfl⟩) | (go_at_call 19; with_reducible refine (HY.out _).mono ?_; rintro e w1 ⟨rfl, rfl⟩))
  go_ret2
  exact ⟨rfl, bel1 _ _⟩
theorem new_room_histogram (s p : Int) (h : okS s p) (hc : 1048576 < celF 2 s p) (w : World) : Calls Tryz.prog 7 #[.int .i64 2, .int .i64 s, .int .i64 p] w fun e w' => e = .returned (.tuple #[.pointer none, .int .i64 13]) ∧ Below w.heap.size w w' := by
  have HU : Hid (∀ W, _) := unlaid_histogram p
  have HY : Hid (∀ W, _) := smay_any s p
  have HC : Hid (∀ W, Calls Tryz.prog 20 #[.int .i64 2, .int .i64 s, .int .i64 p] W fun e w' => e = .returned (.int .i64 (celF 2 s p)) ∧ Hid (Below W.heap.size W w')) := fun W => cells_histogram s p W
  rw [decide_eq_true h] at HY
  clear h
  generalize celF 2 s p = q at *
  go_enter Tryz.func7, Tryz.ntmps7
  go_wp2_with (first | (go_at_call 18; with_reducible refine (HU.out _).mono ?_; rintro e w1 ⟨rfl, rfl⟩) | (go_at_call 19; with_reducible refine (HY.out _).mono ?_; rintro e w1 ⟨rfl, rfl⟩) | (go_at_call 20; with_reducible refine (HC.out _).mono ?_; rintro e w2 ⟨rfl, HB2⟩))
  go_ret2
  exact ⟨rfl, bt (bel1 _ _) HB2.out⟩
theorem new_arg_summary (s p : Int) (h : ¬ okS s p) (w : World) : Calls Tryz.prog 7 #[.int .i64 3, .int .i64 s, .int .i64 p] w fun e w' => e = .returned (.tuple #[.pointer none, .int .i64 1]) ∧ Below w.heap.size w w' := by
  have HU : Hid (∀ W, _) := unlaid_summary p
  have HY : Hid (∀ W, _) := smay_any s p
  rw [decide_eq_false h] at HY
  clear h
  go_enter Tryz.func7, Tryz.ntmps7
  go_wp2_with (first | (go_at_call 18; with_reducible refine (HU.out _).mono ?_; rintro e w1 ⟨rfl, rfl⟩) | (go_at_call 19; with_reducible refine (HY.out _).mono ?_; rintro e w1 ⟨rfl, rfl⟩))
  go_ret2
  exact ⟨rfl, bel1 _ _⟩
theorem new_room_summary (s p : Int) (h : okS s p) (hc : 1048576 < celF 3 s p) (w : World) : Calls Tryz.prog 7 #[.int .i64 3, .int .i64 s, .int .i64 p] w fun e w' => e = .returned (.tuple #[.pointer none, .int .i64 13]) ∧ Below w.heap.size w w' := by
  have HU : Hid (∀ W, _) := unlaid_summary p
  have HY : Hid (∀ W, _) := smay_any s p
  have HC : Hid (∀ W, Calls Tryz.prog 20 #[.int .i64 3, .int .i64 s, .int .i64 p] W fun e w' => e = .returned (.int .i64 (celF 3 s p)) ∧ Hid (Below W.heap.size W w')) := fun W => cells_summary s p W
  rw [decide_eq_true h] at HY
  clear h
  generalize celF 3 s p = q at *
  go_enter Tryz.func7, Tryz.ntmps7
  go_wp2_with (first | (go_at_call 18; with_reducible refine (HU.out _).mono ?_; rintro e w1 ⟨rfl, rfl⟩) | (go_at_call 19; with_reducible refine (HY.out _).mono ?_; rintro e w1 ⟨rfl, rfl⟩) | (go_at_call 20; with_reducible refine (HC.out _).mono ?_; rintro e w2 ⟨rfl, HB2⟩))
  go_ret2
  exact ⟨rfl, bt (bel1 _ _) HB2.out⟩
set_option maxHeartbeats 1000000 in
theorem addSum_five (g : Nat) (w : World) (h : RowW w g [0, 0]) : Calls Tryz.prog 220 #[.pointer none, .slice (some ⟨g, 0, none⟩) 2 2, .int .i64 5] w fun e w' => e = .returned (.tuple #[]) ∧ Hid (RowW w' g [5, 0]) ∧ Hid (Mid g (g + 1) w w') := by
  have HA : Hid (∀ _ : Unit, _) := fun _ => wadd_row g 0 [0, 0] 0 5 w h (by simp) rfl (by decide) (by decide) [5, 0] (by rw [show wrap64 ((0 : Int) + 5) = 5 from by unfold wrap64; omega]; rfl)
  have ha := add64_0 0 5 (by decide) (by decide)
  clear h
  go_enter Tryz.func220, Tryz.ntmps220
  go_wp2_with (go_at_call 56; with_reducible refine (HA.out ()).mono ?_; rintro e w1 ⟨rfl, HR1, HM1⟩)
  first | go_end0 | refine bodyPost_ret (results_none rfl _ _ _) rfl ?_
  exact ⟨rfl, HR1, HM1⟩
set_option maxHeartbeats 1000000 in
theorem row_one (c h g cap : Nat) (w : World) (h0 : w.cell? ⟨c, 0, none⟩ = some (.slice (some ⟨h, 0, none⟩) 2 cap)) (h1 : w.cell? ⟨h, 1, none⟩ = some (.slice (some ⟨g, 0, none⟩) 2 2)) : Calls Tryz.prog 219 #[.pointer (some ⟨c, 0, none⟩), .int .i64 0, .int .i64 1, .bool true] w fun e w' => e = .returned (.tuple #[.slice (some ⟨g, 0, none⟩) 2 2, .int .i64 0]) ∧ w' = w := by
  have HB : Hid (∀ W, _) := isbuf_any 0 (by decide) (by decide)
  go_enter Tryz.func219, Tryz.ntmps219
  go_wp2_with (go_at_call 37; refine (HB.out _).mono ?_; rintro e w1 ⟨rfl, rfl⟩)
  go_ret2
  exact ⟨rfl, rfl⟩
set_option maxHeartbeats 1000000 in
theorem cadd_five (c h g cap : Nat) (w : World) (h0 : w.cell? ⟨c, 0, none⟩ = some (.slice (some ⟨h, 0, none⟩) 2 cap)) (h1 : w.cell? ⟨h, 1, none⟩ = some (.slice (some ⟨g, 0, none⟩) 2 2)) (hr : RowW w g [0, 0]) : Calls Tryz.prog 211 #[.pointer (some ⟨c, 0, none⟩), .pointer none, .int .i64 0, .int .i64 1, .int .i64 5] w fun e w' => e = .returned (.int .i64 0) ∧ Hid (RowW w' g [5, 0]) ∧ Hid (Mid g (g + 1) w w') := by
  have HR : Hid (∀ _ : Unit, _) := fun _ => row_one c h g cap w h0 h1
  have HA : Hid (∀ _ : Unit, _) := fun _ => addSum_five g w hr
  clear hr
  go_enter Tryz.func211, Tryz.ntmps211
  go_wp2_with (first | (go_at_call 219; refine (HR.out ()).mono ?_; rintro e w1 ⟨rfl, rfl⟩) | (go_at_call 220; refine (HA.out ()).mono ?_; rintro e w1 ⟨rfl, HR1, HM1⟩))
  go_ret
  exact ⟨rfl, HR1, HM1⟩
set_option maxHeartbeats 1000000 in
theorem sadd_five (s c h g cap : Nat) (w : World) (hs : w.cell? ⟨s, 0, none⟩ = some (.iface 130 (.pointer (some ⟨c, 0, none⟩)))) (h0 : w.cell? ⟨c, 0, none⟩ = some (.slice (some ⟨h, 0, none⟩) 2 cap)) (h1 : w.cell? ⟨h, 1, none⟩ = some (.slice (some ⟨g, 0, none⟩) 2 2)) (hr : RowW w g [0, 0]) : Calls Tryz.prog 33 #[.pointer (some ⟨s, 0, none⟩), .pointer none, .int .i64 0, .int .i64 1, .int .i64 5] w fun e w' => e = .returned (.int .i64 0) ∧ Hid (RowW w' g [5, 0]) ∧ Hid (Mid g (g + 1) w w') := by
  have HA : Hid (∀ _ : Unit, _) := fun _ => cadd_five c h g cap w h0 h1 hr
  clear hr h0 h1
  go_enter Tryz.func33, Tryz.ntmps33
  go_wp2_with (go_at_call 211; refine (HA.out ()).mono ?_; rintro e w1 ⟨rfl, HR1, HM1⟩)
  go_ret
  exact ⟨rfl, HR1, HM1⟩
end Go.Proofs.YtpllckgpolhafaaGreatDoor
