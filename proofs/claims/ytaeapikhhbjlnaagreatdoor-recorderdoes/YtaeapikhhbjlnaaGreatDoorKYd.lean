/- THE LAW's steps: drains. Own work of the verifier. -/
import Derived.Test.YtaeapikhhbjlnaaGreatDoorZBX
namespace Go.Proofs.YtaeapikhhbjlnaaGreatDoor
open Go.RowKit

section
variable (K : Kx) (hK : K.Ok) (t : Nat) (ht : t + 1 < 70368744177664) (on oid N : Int) (X : Nat) (w : World) (H : StE K t w)
include hK ht H
set_option maxRecDepth 10000 in
set_option maxHeartbeats 4000000 in
theorem step_drain :
    Calls Tryz.prog 11 #[ptr K.wb, .agg #[.int .i64 8, .int .i64 on, .int .i64 oid, .int .i64 N, .float .f64 X]] w fun e w' => e = .returned (.bool true) ∧ Hid (StE K (t + 2) w') := by
  obtain ⟨w1, hw1⟩ : ∃ w1, w.alloc (.cells #[.int .i64 8, .int .i64 on, .int .i64 oid, .int .i64 N, .float .f64 X] 42) = w1 := ⟨_, rfl⟩
  have ho : w1.heap[w.heap.size]? = some (.cells (opC 8 on oid N X) 42 (0, 0)) := by rw [← hw1]; exact new_1 _ _
  obtain ⟨o0, o1, o2, o3, o4⟩ := op_cells ho
  have H1 := H.chg0 (W' := w1) (by rw [← hw1]; exact Chg.of_below (bel1 _ _))
  have HE1 : Hid (StE K (t + 2) w1) := H1.mono (by omega)
  obtain ⟨a, r0, r1, lv, rv, Rs, Is, C, H2⟩ := id H1
  obtain ⟨_, _, sao, sc, hsv⟩ := slv_form H2
  have l2 := H2.ls.lw.2.2.1
  rw [hsv] at l2
  have hf : K.SL.length ≤ 20 := hK.few
  have HDr : Hid (∀ id b : Nat, id < K.SL.length → b < 2 → Calls Tryz.prog 12 #[ptr K.wb, .int .i64 (id : Int), .int .i64 (b : Int)] w1.drew fun e w' => e = .returned (.bool true) ∧ Hid (StE K t w')) := fun id b h1 h2 => drain_law K hK t (by omega) id b h1 h2 w1.drew (H1.chg0 (drew0 w1))
  have Hw1 : Hid (w.alloc (.cells #[.int .i64 8, .int .i64 on, .int .i64 oid, .int .i64 N, .float .f64 X] 42) = w1) := hw1
  clear H H1 H2 hw1 ho hK ht hsv
  by_cases hS : K.SL.length = 0
  · have hS2 : ¬ (0 : Int) < (K.SL.length : Int) := by omega
    clear HDr
    generalize K.SL.length = m at *
    go_enter Tryz.func11, Tryz.ntmps11
    go_upto_region 1 with fail
    have hw1 := Hw1.out
    simp only [hw1]
    clear hw1 Hw1
    go_wp2_with fail
    go_ret
    exact ⟨rfl, HE1⟩
  · have hS2 : (0 : Int) < (K.SL.length : Int) := by omega
    have HP1 : Hid (∀ W : World, _) := fun W => pick_any oid K.SL.length (by omega) (by omega) W
    have HP2 : Hid (∀ W : World, _) := fun W => pick_any N 2 (by decide) (by decide) W
    generalize K.SL.length = m at *
    go_enter Tryz.func11, Tryz.ntmps11
    go_upto_region 1 with fail
    have hw1 := Hw1.out
    simp only [hw1]
    clear hw1 Hw1
    go_upto_region 26 with fail
    go_region_with (first
      | (go_at_call 38; with_reducible refine Calls.mono (HP1.out _) ?_; rintro e w2 ⟨id, rfl, hid, rfl⟩)
      | (go_at_call 38; with_reducible refine Calls.mono (HP2.out _) ?_; rintro e w3 ⟨b, rfl, hb, rfl⟩)
      | (go_at_call 12; with_reducible refine Calls.mono (HDr.out id b hid hb) ?_; rintro e w4 ⟨rfl, H4⟩))
    all_goals
      go_wp2_with fail
      go_ret
      exact ⟨rfl, StE.mono H4.out (by omega)⟩
end
end Go.Proofs.YtaeapikhhbjlnaaGreatDoor
