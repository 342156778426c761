import Derived.Test.YtbobhjgndgaoaaaDoorT8
namespace Go.Proofs.YtbobhjgndgaoaaaDoor
open Go.RowKit Go.Sort

theorem mag_0 (n : Int) : 0 ≤ mag n := by unfold mag; split <;> omega
theorem mag_le {ah al : Int} (h1 : Wf ah al) : 0 ≤ hiOf (mag (val ah al)) ∧ hiOf (mag (val ah al)) ≤ 9223372036854775808 ∧ 0 ≤ loOf (mag (val ah al)) ∧ loOf (mag (val ah al)) < 18446744073709551616 := by
  obtain ⟨_, _, _, _⟩ := h1
  unfold mag hiOf loOf val; split <;> omega
theorem itoa_neg' {n : Int} (h : n < 0) : Lib.itoa n = 45 :: Lib.decDigits (mag n).toNat := by
  unfold Lib.itoa mag; rw [if_pos h, if_pos h, show n.natAbs = (-n).toNat from by omega]
theorem itoa_pos' {n : Int} (h : ¬ n < 0) : Lib.itoa n = Lib.decDigits (mag n).toNat := by
  unfold Lib.itoa mag; rw [if_neg h, if_neg h]
theorem dec_len (N : Nat) (h : N ≤ 170141183460469231731687303715884105728) : (Lib.decDigits N).length ≤ 39 := by
  rw [Lib.decDigits_length]; exact nDigits_le_pow 38 _ (by rw [show (10 : Nat) ^ (38 + 1) = 1000000000000000000000000000000000000000 from by decide]; omega)
theorem val_neg {ah al : Int} (h1 : Wf ah al) : val ah al < 0 ↔ ah < 0 := by
  obtain ⟨_, _, _, _⟩ := h1; unfold val; omega

set_option maxHeartbeats 1000000 in
set_option maxRecDepth 100000 in
theorem print_any (ah al : Int) (h1 : Wf ah al) (w : World) (htab : Tab w) :
    Calls Tryd.prog 26 #[.agg #[.int .i64 ah, .int .u64 al]] w fun e w' =>
      e = .returned (.string ⟨(Lib.itoa (val ah al)).toArray⟩) ∧ Below w.heap.size w w' := by
  obtain ⟨m0, m1, m2, m3⟩ := mag_le h1
  have hd := fun W => digits_any _ _ m0 m1 m2 m3 W
  rw [val_hl] at hd
  have HD : Hid _ := hd
  have HM : Hid _ := mag_any ah al h1
  have hl : (Lib.decDigits (mag (val ah al)).toNat).length ≤ 39 := dec_len _ (by obtain ⟨_, _, _, _⟩ := h1; unfold mag val; split <;> omega)
  clear hd
  by_cases hn : ah < 0
  · rw [itoa_neg' ((val_neg h1).2 hn)]
    generalize Lib.decDigits (mag (val ah al)).toNat = D at *
    generalize hiOf (mag (val ah al)) = mh at *
    generalize loOf (mag (val ah al)) = ml at *
    have c1 : ∀ W, (Op.stringOp .add ⟨#[45]⟩ ⟨D.toArray⟩).run Tryd.prog W = .ok (.string ⟨(45 :: D).toArray⟩) W := fun W => run_string_add_lists W [45] D (by decide) (by omega)
    clear h1
    go_enter Tryd.func26, Tryd.ntmps26
    go_wp2_with fail
    refine (HM.out _).mono ?_
    rintro e w1 ⟨rfl, hb1⟩
    go_wp2_with fail
    refine (HD.out _ ((htab.alloc _).below hb1)).mono ?_
    rintro e w2 ⟨rfl, hb2⟩
    have hc : w2.cell? ⟨w.heap.size, 0, none⟩ = some (.int .i64 ah) := by
      rw [hb2.cell (p := ⟨w.heap.size, 0, none⟩) (by have := hb1.size; simp at this; simp; omega), hb1.cell (p := ⟨w.heap.size, 0, none⟩) (by simp)]
      simp [go_sem]
    go_wp2
    go_ret
    exact ⟨rfl, ((bel1 w _).trans (hb1.mono (by simp))).trans (hb2.mono (by have := hb1.size; simp at this; omega))⟩
  · rw [itoa_pos' (fun h => hn ((val_neg h1).1 h))]
    generalize Lib.decDigits (mag (val ah al)).toNat = D at *
    generalize hiOf (mag (val ah al)) = mh at *
    generalize loOf (mag (val ah al)) = ml at *
    clear h1
    go_enter Tryd.func26, Tryd.ntmps26
    go_wp2_with fail
    refine (HM.out _).mono ?_
    rintro e w1 ⟨rfl, hb1⟩
    go_wp2_with fail
    refine (HD.out _ ((htab.alloc _).below hb1)).mono ?_
    rintro e w2 ⟨rfl, hb2⟩
    have hc : w2.cell? ⟨w.heap.size, 0, none⟩ = some (.int .i64 ah) := by
      rw [hb2.cell (p := ⟨w.heap.size, 0, none⟩) (by have := hb1.size; simp at this; simp; omega), hb1.cell (p := ⟨w.heap.size, 0, none⟩) (by simp)]
      simp [go_sem]
    go_wp2
    go_ret
    exact ⟨rfl, ((bel1 w _).trans (hb1.mono (by simp))).trans (hb2.mono (by have := hb1.size; simp at this; omega))⟩
end Go.Proofs.YtbobhjgndgaoaaaDoor
