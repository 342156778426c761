/- The calls whose answers the document fixes. Own work of the verifier. -/
import Derived.Test.YthhoklgfgandpaaY7
namespace Go.Proofs.Ythhoklgfgandpaa
open Go.RowKit

def L0 : List Cn := [(1, 2), (3, 1), (8, 4)]
theorem L0_wc : Wc L0 := by
  intro c hc
  simp [L0] at hc
  rcases hc with rfl | rfl | rfl <;> decide
theorem L0_may : MayIs 2 L0 0 := by
  refine Or.inr ⟨by decide, Or.inr ⟨fun j hj => ?_, by decide⟩⟩
  have : j = 0 ∨ j = 1 ∨ j = 2 := by have : L0.length = 3 := rfl; omega
  rcases this with rfl | rfl | rfl <;> decide
theorem L0_q : qF 2 L0 1 2 = (9, 0) := by decide +kernel
theorem L0_r : rkF 7 1 2 = (4, 0) := by decide +kernel
theorem L0_t : tot L0 = 7 := by decide
set_option maxRecDepth 10000 in
set_option maxHeartbeats 2000000 in
theorem fixed_any (w : World) : Calls Try.prog 8 #[] w fun e w' => e = .returned (.bool true) ∧ Below w.heap.size w w' := by
  obtain ⟨W0, hW0⟩ : ∃ W0, w.alloc (.cells #[.int .i64 1, .int .u64 2, .int .i64 3, .int .u64 1, .int .i64 8, .int .u64 4] 49) = W0 := ⟨_, rfl⟩
  have hb0 : Below w.heap.size w W0 := by rw [← hW0]; exact bel1 _ _
  have hS : SN W0 (.slice (some ⟨w.heap.size, 0, none⟩) 3 3) L0 := by
    have hh : W0.heap[w.heap.size]? = some (.cells #[.int .i64 1, .int .u64 2, .int .i64 3, .int .u64 1, .int .i64 8, .int .u64 4] 49 (0, 0)) := by rw [← hW0]; exact World.alloc_heap_new w _
    refine Or.inr ⟨w.heap.size, 0, 3, rfl, Nat.le_refl _, fun i hi => ?_⟩
    have : i = 0 ∨ i = 1 ∨ i = 2 := by have : L0.length = 3 := rfl; omega
    rcases this with rfl | rfl | rfl <;> (simp [World.cell?, hh, L0])
  have HQ : Hid (∀ W, Below W0.heap.size W0 W → Calls Try.prog 20 #[.int .i64 2, .slice (some ⟨w.heap.size, 0, none⟩) 3 3, .int .i64 1, .int .i64 2] W fun e w' => e = two 9 0 ∧ Below W.heap.size W w') := fun W h => by
    have := cquant_ok W _ 2 L0 (hS.below h) L0_wc (by decide) L0_may 1 2 (by decide)
    rw [L0_q] at this
    exact this
  have HR : Hid (∀ W, Calls Try.prog 18 #[.int .u64 7, .int .i64 1, .int .i64 2] W fun e w' => e = twoU 4 0 ∧ Below W.heap.size W w') := fun W => by
    have := crank_any 7 1 2 (by decide) (by decide) W
    rw [L0_r] at this
    exact this
  have HT : Hid (∀ W, Below W0.heap.size W0 W → Calls Try.prog 13 #[.slice (some ⟨w.heap.size, 0, none⟩) 3 3] W fun e w' => e = .returned (.int .u64 7) ∧ Below W.heap.size W w') := fun W h => by
    have := total_any W _ L0 (hS.below h) L0_wc (by decide)
    rw [L0_t] at this
    exact this
  have HM : Hid (∀ W, Below W0.heap.size W0 W → Calls Try.prog 11 #[.int .i64 0, .slice (some ⟨w.heap.size, 0, none⟩) 3 3] W fun e w' => e = .returned (.int .i64 1) ∧ Below W.heap.size W w') := fun W h => may_any W _ L0 0 1 (hS.below h) L0_wc (by decide) (Or.inl ⟨by decide, rfl⟩)
  have hr0 := Below.refl W0.heap.size W0
  clear hS
  go_enter Try.func8, Try.ntmps8
  go_wp2_with fail
  clear hW0
  refine Calls.mono (HQ.out _ hr0) ?_
  rintro e w1 ⟨rfl, hk1⟩
  go_wp2_with (first
    | (go_at_call 18; with_reducible refine (HR.out _).mono ?_; rintro e w2 ⟨rfl, hk2⟩; have hk2' := bt hk1 hk2)
    | (go_at_call 13; with_reducible refine (HT.out _ hk2').mono ?_; rintro e w3 ⟨rfl, hk3⟩; have hk3' := bt hk2' hk3)
    | (go_at_call 11; with_reducible refine (HM.out _ hk3').mono ?_; rintro e w4 ⟨rfl, hk4⟩; have hk4' := bt hk3' hk4))
  go_ret
  exact ⟨rfl, bt hb0 hk4'⟩
theorem told_now : Told := ⟨may_any, fun W n num den hn hd => crank_any n num den hn hd W, fun W v L p num den h hW hl hx hd => cquant_ok W v p L h hW hl hx num den hd, fun W v L p x h hW hl hx => most_ok W v L p x h hW hl hx, fixed_any⟩
end Go.Proofs.Ythhoklgfgandpaa
