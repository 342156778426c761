import Derived.Test.YtbobhjgndgaoaaaDoorT11
namespace Go.Proofs.YtbobhjgndgaoaaaDoor
open Go.RowKit Go.Sort

theorem isText_007 : isText [48, 48, 55] = false := by decide +kernel
theorem itoa_2_64 : Lib.itoa 18446744073709551616 = [49, 56, 52, 52, 54, 55, 52, 52, 48, 55, 51, 55, 48, 57, 53, 53, 49, 54, 49, 54] := by
  rw [show (18446744073709551616 : Int) = ((18446744073709551616 : Nat) : Int) from rfl, Lib.itoa_nonneg]
  simp [dec_big, dec_small]
theorem num_2_64 : num 18446744073709551616 = .agg #[.int .i64 1, .int .u64 0] := by
  rw [num_of (h := 1) (l := 0) (by decide)]
set_option maxHeartbeats 2000000 in
set_option maxRecDepth 100000 in
theorem fixed_any (w : World) (htab : Tab w) :
    Calls Tryd.prog 9 #[] w fun e w' => e = .returned (.bool true) ∧ Below w.heap.size w w' := by
  have k1 := uns_any 18446744073709551615 (by decide) (by decide)
  have k2 := of_any 1 (by decide) (by decide)
  have k3 := add_any (hiOf 18446744073709551615) (loOf 18446744073709551615) (hiOf 1) (loOf 1) (wf_of ⟨by decide, by decide⟩) (wf_of ⟨by decide, by decide⟩)
  rw [val_hl, val_hl, show rnd (18446744073709551615 + 1) = 18446744073709551616 from by decide, num_2_64] at k3
  have k4 := parse_short ⟨#[48, 48, 55]⟩ (by decide)
  rw [if_neg (by decide +kernel)] at k4
  have k5 := print_any 1 0 ⟨by decide, by decide, by decide, by decide⟩
  have k6 := of_any (-1) (by decide) (by decide)
  have k7 := sign_any (hiOf (-1)) (loOf (-1)) (wf_of ⟨by decide, by decide⟩)
  rw [val_hl, show cmp (-1) 0 = -1 from by decide] at k7
  rw [show val 1 0 = 18446744073709551616 from by decide, itoa_2_64] at k5
  have K1 : Hid _ := k1
  have K2 : Hid _ := k2
  have K3 : Hid _ := k3
  have K4 : Hid _ := k4
  have K5 : Hid _ := k5
  have K6 : Hid _ := k6
  have K7 : Hid _ := k7
  clear k1 k2 k3 k4 k5 k6 k7
  go_enter Tryd.func9, Tryd.ntmps9
  go_wp2_with fail
  refine (K1.out _).mono ?_
  rintro e w1 ⟨rfl, hb1⟩
  go_wp2_with fail
  refine (K2.out _).mono ?_
  rintro e w2 ⟨rfl, hb2⟩
  go_wp2_with fail
  refine (K3.out _).mono ?_
  rintro e w3 ⟨rfl, hb3⟩
  have B3 : Below w.heap.size w w3 := (hb1.trans (hb2.mono hb1.size)).trans (hb3.mono (Nat.le_trans hb1.size hb2.size))
  clear hb1 hb2 hb3
  go_wp2_with fail
  refine (K4.out _ ((htab.below B3).alloc _)).mono ?_
  rintro e w4 ⟨rfl, hb4⟩
  obtain ⟨x1, x2, x3, x4, x5⟩ := own2 hb4
  have x1' : ∀ ob, (w4.alloc ob).cell? ⟨w3.heap.size, 0, none⟩ = some (.int .i64 1) := fun ob => by
    rw [(bel1 w4 ob).cell (p := ⟨w3.heap.size, 0, none⟩) x5, x1]
  have x2' : ∀ ob, (w4.alloc ob).cell? ⟨w3.heap.size, 1, none⟩ = some (.int .u64 0) := fun ob => by
    rw [(bel1 w4 ob).cell (p := ⟨w3.heap.size, 1, none⟩) x5, x2]
  have B4 : Below w.heap.size w w4 := B3.trans (((bel1 w3 _).trans (hb4.mono (by simp))).mono B3.size)
  clear hb4 x1 x2 x3 x4 x5 B3
  go_wp2_with fail
  refine (K5.out _ ((htab.below B4).alloc _)).mono ?_
  rintro e w5 ⟨rfl, hb5⟩
  have B5 : Below w.heap.size w w5 := B4.trans (((bel1 w4 _).trans (hb5.mono (by simp))).mono B4.size)
  go_wp2_with fail
  refine (K6.out _).mono ?_
  rintro e w6 ⟨rfl, hb6⟩
  go_wp2_with fail
  refine (K7.out _).mono ?_
  rintro e w7 ⟨rfl, hb7⟩
  go_wp2
  go_ret
  exact ⟨rfl, (B5.trans (hb6.mono B5.size)).trans (hb7.mono (Nat.le_trans B5.size hb6.size))⟩
end Go.Proofs.YtbobhjgndgaoaaaDoor
