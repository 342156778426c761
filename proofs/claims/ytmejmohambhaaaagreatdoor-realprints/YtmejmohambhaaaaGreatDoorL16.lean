/- ParseFloat AT TWO TEXTS. Own work of the verifier. -/
import Derived.Test.YtmejmohambhaaaaGreatDoorL15
import Derived.WalkMore
namespace Go.Proofs.YtmejmohambhaaaaGreatDoor
open Go.RowKit Go.Sort

set_option maxHeartbeats 1000000 in
theorem special_tenth (w : World) : Calls Tryz.prog 110 #[.string ⟨#[48, 46, 49]⟩] w fun e w' => e = .returned (.tuple #[.float .f64 0, .int .i64 0, .bool false]) ∧ w' = w := by
  go_enter Tryz.func110, Tryz.ntmps110
  go_wp2
  go_ret3
  exact ⟨rfl, rfl⟩
set_option maxHeartbeats 1000000 in
theorem special_one (w : World) : Calls Tryz.prog 110 #[.string ⟨#[49, 46, 48]⟩] w fun e w' => e = .returned (.tuple #[.float .f64 0, .int .i64 0, .bool false]) ∧ w' = w := by
  go_enter Tryz.func110, Tryz.ntmps110
  go_wp2
  go_ret3
  exact ⟨rfl, rfl⟩
set_option maxHeartbeats 4000000 in
set_option maxRecDepth 100000 in
theorem read_tenth (w : World) : Calls Tryz.prog 111 #[.string ⟨#[48, 46, 49]⟩] w fun e w' => e = .returned (.tuple #[.int .u64 1, .int .i64 (-1), .bool false, .bool false, .bool false, .int .i64 3, .bool true]) ∧ Below w.heap.size w w' := by
  have hL := Tryz.internal_strconv_lower 46
  have HL : Hid _ := hL
  clear hL
  go_enter Tryz.func111, Tryz.ntmps111
  go_wp2_with fail
  go_step3
  go_wp2_with (first
    | (go_at_call 91; refine (HL.out _).mono ?_; rintro e w ⟨rfl, rfl⟩)
    | fail)
  go_step3
  go_wp2_with (first
    | (go_at_call 91; refine (HL.out _).mono ?_; rintro e w ⟨rfl, rfl⟩)
    | fail)
  go_rounds 4
  go_wp2_with (first
    | (go_at_call 91; refine (HL.out _).mono ?_; rintro e w ⟨rfl, rfl⟩)
    | fail)
  rw [Exit.noGoto_ret]
  show bodyPost _ _ _ _ _ _
  simp [bodyPost, results, Tryz.results111, go_sem]
  exact ⟨by decide, Below.refl _ _⟩
set_option maxHeartbeats 4000000 in
set_option maxRecDepth 100000 in
theorem read_one (w : World) : Calls Tryz.prog 111 #[.string ⟨#[49, 46, 48]⟩] w fun e w' => e = .returned (.tuple #[.int .u64 10, .int .i64 (-1), .bool false, .bool false, .bool false, .int .i64 3, .bool true]) ∧ Below w.heap.size w w' := by
  have hL := Tryz.internal_strconv_lower 46
  have HL : Hid _ := hL
  clear hL
  go_enter Tryz.func111, Tryz.ntmps111
  go_wp2_with fail
  go_step3
  go_wp2_with (first
    | (go_at_call 91; refine (HL.out _).mono ?_; rintro e w ⟨rfl, rfl⟩)
    | fail)
  go_step3
  go_wp2_with (first
    | (go_at_call 91; refine (HL.out _).mono ?_; rintro e w ⟨rfl, rfl⟩)
    | fail)
  go_rounds 4
  go_wp2_with (first
    | (go_at_call 91; refine (HL.out _).mono ?_; rintro e w ⟨rfl, rfl⟩)
    | fail)
  rw [Exit.noGoto_ret]
  show bodyPost _ _ _ _ _ _
  simp [bodyPost, results, Tryz.results111, go_sem]
  exact ⟨by decide, Below.refl _ _⟩
/-- The table of powers of ten, as floats. -/
def P10 (w : World) : Prop := ∃ b o, w.cell? ⟨12, 0, none⟩ = some (.slice (some ⟨b, o, none⟩) 23 23) ∧ w.cell? ⟨b, o + 1, none⟩ = some (.float .f64 4621819117588971520)
theorem lt_of_cell' {w : World} {a : Addr} {v : Value} (h : w.cell? a = some v) : a.block < w.heap.size := by
  unfold World.cell? at h
  rcases Nat.lt_or_ge a.block w.heap.size with k | k
  · exact k
  · rw [Array.getElem?_eq_none k] at h; simp at h
theorem P10.below {w w' : World} (h : P10 w) (hb : Below w.heap.size w w') : P10 w' := by
  obtain ⟨b, o, p1, p2⟩ := h
  exact ⟨b, o, by rw [(bcell hb).1 _ _ (lt_of_cell p1), p1], by rw [(bcell hb).1 _ _ (lt_of_cell p2), p2]⟩
end Go.Proofs.YtmejmohambhaaaaGreatDoor
