/- WideFloats: THE WALK. Own work of the verifier. -/
import Derived.Test.YtbobhjgndgaoaaaDoorF5
import Derived.Test.YtbobhjgndgaoaaaDoorT12
import Derived.Deep.RegionHeld3
namespace Go.Proofs.YtbobhjgndgaoaaaDoor
open Go.RowKit Go.Sort

theorem keep2 {w W W1 : World} {x0 x1 : Value} (hb : Below W.heap.size W W1)
    (h : W.cell? ⟨w.heap.size, 0, none⟩ = some x0 ∧ W.cell? ⟨w.heap.size, 1, none⟩ = some x1 ∧ w.heap.size < W.heap.size ∧ Below w.heap.size w W ∧ Tab W) :
    W1.cell? ⟨w.heap.size, 0, none⟩ = some x0 ∧ W1.cell? ⟨w.heap.size, 1, none⟩ = some x1 ∧ w.heap.size < W1.heap.size ∧ Below w.heap.size w W1 ∧ Tab W1 := by
  obtain ⟨h1, h2, h3, h4, h5⟩ := h
  refine ⟨?_, ?_, Nat.lt_of_lt_of_le h3 hb.size, h4.trans (hb.mono h4.size), h5.below hb⟩
  · rw [hb.cell (p := ⟨w.heap.size, 0, none⟩) h3, h1]
  · rw [hb.cell (p := ⟨w.heap.size, 1, none⟩) h3, h2]

set_option maxHeartbeats 4000000 in
set_option maxRecDepth 100000 in
theorem floats_walk (ah al : Int) (h1 : Wf ah al) (w : World) (htab : Tab w) :
    Calls Tryd.prog 6 #[.agg #[.int .i64 ah, .int .u64 al]] w fun e w' => e = .returned (.bool true) ∧ Below w.heap.size w w' := by
  have hS0 : (w.alloc (.cells #[.int .i64 ah, .int .u64 al] 25)).cell? ⟨w.heap.size, 0, none⟩ = some (.int .i64 ah) ∧ (w.alloc (.cells #[.int .i64 ah, .int .u64 al] 25)).cell? ⟨w.heap.size, 1, none⟩ = some (.int .u64 al) ∧
      w.heap.size < (w.alloc (.cells #[.int .i64 ah, .int .u64 al] 25)).heap.size ∧ Below w.heap.size w (w.alloc (.cells #[.int .i64 ah, .int .u64 al] 25)) ∧ Tab (w.alloc (.cells #[.int .i64 ah, .int .u64 al] 25)) :=
    ⟨by simp [go_sem], by simp [go_sem], by simp, bel1 w _, htab.alloc _⟩
  have HF : Hid _ := fun W => float_any ah al h1 W
  have HR : Hid _ := fun W => reffloat_any ah al h1 W
  generalize fbits (val ah al) = F at *
  go_enter Tryd.func6, Tryd.ntmps6
  go_wp2
  go_region_held3 (fun W => W.cell? ⟨w.heap.size, 0, none⟩ = some (.int .i64 ah) ∧ W.cell? ⟨w.heap.size, 1, none⟩ = some (.int .u64 al) ∧ w.heap.size < W.heap.size ∧ Below w.heap.size w W ∧ Tab W)
    (first | assumption | exact keep2 (by assumption) (by assumption) | exact keep2 (Below.drew (Below.refl _ _)) hS0)
    (first
      | simp only [f64bits]
      | (go_at_call 29; refine (HF.out _).mono ?_; rintro e w1 ⟨rfl, hb⟩)
      | (go_at_call 30; refine (HR.out _).mono ?_; rintro e w1 ⟨rfl, hb⟩)
      | (go_at_call 9; refine (fixed_any _ (And.right (And.right (And.right (And.right (by assumption)))))).mono ?_; rintro z w3 ⟨rfl, hb⟩))
  rename_i hS
  have B := hS.2.2.2.1
  go_wp2
  go_ret
  exact ⟨rfl, B⟩
end Go.Proofs.YtbobhjgndgaoaaaDoor
