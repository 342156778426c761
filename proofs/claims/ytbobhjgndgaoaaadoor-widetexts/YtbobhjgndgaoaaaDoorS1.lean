/- WideSums: THE WALK. Own work of the verifier. -/
import Derived.Test.YtbobhjgndgaoaaaDoorT12
import Derived.Deep.RegionHeld3
namespace Go.Proofs.YtbobhjgndgaoaaaDoor
open Go.RowKit Go.Sort

/-- Two numbers lie in the call's own blocks; what was there before stands. -/
theorem keep4 {w : World} {W W1 : World} {x0 x1 y0 y1 : Value} (hb : Below W.heap.size W W1)
    (h : W.cell? ⟨w.heap.size, 0, none⟩ = some x0 ∧ W.cell? ⟨w.heap.size, 1, none⟩ = some x1 ∧ W.cell? ⟨w.heap.size + 1, 0, none⟩ = some y0 ∧ W.cell? ⟨w.heap.size + 1, 1, none⟩ = some y1 ∧ w.heap.size + 1 < W.heap.size ∧ Below w.heap.size w W) :
    W1.cell? ⟨w.heap.size, 0, none⟩ = some x0 ∧ W1.cell? ⟨w.heap.size, 1, none⟩ = some x1 ∧ W1.cell? ⟨w.heap.size + 1, 0, none⟩ = some y0 ∧ W1.cell? ⟨w.heap.size + 1, 1, none⟩ = some y1 ∧ w.heap.size + 1 < W1.heap.size ∧ Below w.heap.size w W1 := by
  obtain ⟨h1, h2, h3, h4, h5, h6⟩ := h
  refine ⟨?_, ?_, ?_, ?_, Nat.lt_of_lt_of_le h5 hb.size, h6.trans (hb.mono h6.size)⟩
  · rw [hb.cell (p := ⟨w.heap.size, 0, none⟩) (by show w.heap.size < _; omega), h1]
  · rw [hb.cell (p := ⟨w.heap.size, 1, none⟩) (by show w.heap.size < _; omega), h2]
  · rw [hb.cell (p := ⟨w.heap.size + 1, 0, none⟩) (by show w.heap.size + 1 < _; omega), h3]
  · rw [hb.cell (p := ⟨w.heap.size + 1, 1, none⟩) (by show w.heap.size + 1 < _; omega), h4]
theorem start4 (w : World) (x0 x1 y0 y1 : Value) (t : TypeId) : ((w.alloc (.cells #[x0, x1] t)).alloc (.cells #[y0, y1] t)).cell? ⟨w.heap.size, 0, none⟩ = some x0 ∧ ((w.alloc (.cells #[x0, x1] t)).alloc (.cells #[y0, y1] t)).cell? ⟨w.heap.size, 1, none⟩ = some x1 ∧
    ((w.alloc (.cells #[x0, x1] t)).alloc (.cells #[y0, y1] t)).cell? ⟨w.heap.size + 1, 0, none⟩ = some y0 ∧ ((w.alloc (.cells #[x0, x1] t)).alloc (.cells #[y0, y1] t)).cell? ⟨w.heap.size + 1, 1, none⟩ = some y1 ∧ w.heap.size + 1 < ((w.alloc (.cells #[x0, x1] t)).alloc (.cells #[y0, y1] t)).heap.size ∧ Below w.heap.size w ((w.alloc (.cells #[x0, x1] t)).alloc (.cells #[y0, y1] t)) := by
  refine ⟨?_, ?_, ?_, ?_, ?_, bel2 w _ _⟩ <;> simp [go_sem]

set_option maxHeartbeats 4000000 in
set_option maxRecDepth 100000 in
theorem sums_walk (ah al bh bl n : Int) (h1 : Wf ah al) (h2 : Wf bh bl) (n0 : -9223372036854775808 ≤ n) (n1 : n ≤ 9223372036854775807) (w : World) (htab : Tab w) :
    Calls Tryd.prog 4 #[.agg #[.int .i64 ah, .int .u64 al], .agg #[.int .i64 bh, .int .u64 bl], .int .i64 n] w fun e w' => e = .returned (.bool true) ∧ Below w.heap.size w w' := by
  have hcs : cmp (val ah al) (val ah al) = 0 := cmp_eq
  have hS0 := start4 w (.int .i64 ah) (.int .u64 al) (.int .i64 bh) (.int .u64 bl) 25
  go_enter Tryd.func4, Tryd.ntmps4
  go_wp2
  go_region_held3 (fun W => W.cell? ⟨w.heap.size, 0, none⟩ = some (.int .i64 ah) ∧ W.cell? ⟨w.heap.size, 1, none⟩ = some (.int .u64 al) ∧ W.cell? ⟨w.heap.size + 1, 0, none⟩ = some (.int .i64 bh) ∧ W.cell? ⟨w.heap.size + 1, 1, none⟩ = some (.int .u64 bl) ∧ w.heap.size + 1 < W.heap.size ∧ Below w.heap.size w W)
    (first | exact keep4 (by assumption) (by assumption) | exact keep4 (Below.drew (Below.refl _ _)) hS0)
    (first
      | (go_at_call 10; refine (add_any _ _ _ _ h1 h2 _).mono ?_; rintro e w1 ⟨rfl, hb⟩)
      | (go_at_call 11; refine (refadd_any _ _ _ _ h1 h2 _).mono ?_; rintro e w1 ⟨rfl, hb⟩)
      | (go_at_call 12; refine (sub_any _ _ _ _ h1 h2 _).mono ?_; rintro e w1 ⟨rfl, hb⟩)
      | (go_at_call 13; refine (refsub_any _ _ _ _ h1 h2 _).mono ?_; rintro e w1 ⟨rfl, hb⟩)
      | (go_at_call 14; refine (neg_any _ _ h1 _).mono ?_; rintro e w1 ⟨rfl, hb⟩)
      | (go_at_call 15; refine (refneg_any _ _ h1 _).mono ?_; rintro e w1 ⟨rfl, hb⟩))
  rename_i hS1
  clear hS0
  go_wp2
  go_region_held3 (fun W => W.cell? ⟨w.heap.size, 0, none⟩ = some (.int .i64 ah) ∧ W.cell? ⟨w.heap.size, 1, none⟩ = some (.int .u64 al) ∧ W.cell? ⟨w.heap.size + 1, 0, none⟩ = some (.int .i64 bh) ∧ W.cell? ⟨w.heap.size + 1, 1, none⟩ = some (.int .u64 bl) ∧ w.heap.size + 1 < W.heap.size ∧ Below w.heap.size w W)
    (first | exact keep4 (by assumption) (by assumption) | exact keep4 (Below.drew (Below.refl _ _)) hS1)
    (first
      | (go_at_call 16; refine (cmp_any _ _ _ _ (by first | exact h1 | exact h2) (by first | exact h2 | exact h1) _).mono ?_; rintro e w1 ⟨rfl, hb⟩)
      | (go_at_call 17; refine (refcmp_any _ _ _ _ h1 h2 _).mono ?_; rintro e w1 ⟨rfl, hb⟩)
      | (go_at_call 18; refine (sign_any _ _ h1 _).mono ?_; rintro e w1 ⟨rfl, hb⟩)
      | (go_at_call 19; refine (refsign_any _ _ h1 _).mono ?_; rintro e w1 ⟨rfl, hb⟩))
  rename_i hS2
  have B2 := hS2.2.2.2.2.2
  clear hS1 hS2
  have u0 : 0 ≤ IntKind.u64.wrap n := by rw [IntKind.wrap_u64]; omega
  have u1 : IntKind.u64.wrap n < 18446744073709551616 := by rw [IntKind.wrap_u64]; omega
  go_wp2_with fail
  refine (of_any n n0 n1 _).mono ?_
  rintro e w3 ⟨rfl, hb3⟩
  have B3 := B2.trans (hb3.mono B2.size)
  clear B2 hb3
  go_wp2_with fail
  refine (refof_any n n0 n1 _).mono ?_
  rintro e w4 ⟨rfl, hb4⟩
  have B4 := B3.trans (hb4.mono B3.size)
  clear B3 hb4
  go_wp2_with fail
  refine (uns_any _ u0 u1 _).mono ?_
  rintro e w5 ⟨rfl, hb5⟩
  have B5 := B4.trans (hb5.mono B4.size)
  clear B4 hb5
  go_wp2_with fail
  refine (refuns_any _ u0 u1 _).mono ?_
  rintro e w6 ⟨rfl, hb6⟩
  have B6 := B5.trans (hb6.mono B5.size)
  clear B5 hb6
  go_wp2_with fail
  refine (fixed_any _ (htab.below B6)).mono ?_
  rintro e w7 ⟨rfl, hb7⟩
  go_wp2
  go_ret
  exact ⟨rfl, B6.trans (hb7.mono B6.size)⟩
end Go.Proofs.YtbobhjgndgaoaaaDoor
