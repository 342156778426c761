/- THE CELLS: Drain. Own work of the verifier. -/
import Derived.Test.YtpllckgpolhafaaGreatDoorS3
namespace Go.Proofs.YtpllckgpolhafaaGreatDoor
open Go.RowKit

theorem isbuf_any (b : Int) (h0 : 0 ≤ b) (h1 : b < 2) (w : World) : Calls Tryz.prog 37 #[.int .i64 b] w fun e w' => e = .returned (.bool true) ∧ w' = w := by
  go_enter Tryz.func37, Tryz.ntmps37
  go_wp2
  go_ret
  exact ⟨rfl, rfl⟩
set_option maxHeartbeats 1000000 in
theorem rows_any (c : Nat) (b : Nat) (hb : b < 2) (v : Value) (w : World) (hc : w.cell? ⟨c, b, none⟩ = some v) : Calls Tryz.prog 216 #[.pointer (some ⟨c, 0, none⟩), .int .i64 (b : Int)] w fun e w' => e = .returned v ∧ w' = w := by
  rcases (show b = 0 ∨ b = 1 by omega) with rfl | rfl
  · go_enter Tryz.func216, Tryz.ntmps216
    go_wp2
    go_ret
    exact ⟨rfl, rfl⟩
  · go_enter Tryz.func216, Tryz.ntmps216
    go_wp2
    go_ret
    exact ⟨rfl, rfl⟩
/-- The sum of counters' parts, brought round. -/
abbrev cnt (t : Int) (v : Value) : Value := part (hiOf t) (loOf t) v 0 0 0 0 0
theorem one_zero {r : Nat} (h : Soft.one r = 0) : r = 0 := by
  unfold Soft.one at h
  split at h
  · cases h
  · exact h
theorem fa_zero : Soft.fa 0 0 = 0 := by decide +kernel
theorem fl_zero : Soft.fl 0 0 = 0 := by decide +kernel
theorem merge_of_nil {O : List Cn} (h : IsMerge O ([] ++ [])) : O = [] := h.uniq isMerge_nil
theorem cnt_merge (t hi lo : Int) (v : Value) (w : World) (ht : InR t) (hw : Wf hi lo) (hv : SN w v []) :
    Calls Tryz.prog 38 #[cnt t v, part hi lo (.slice none 0 0) 0 0 0 0 0] w fun e w' => ∃ ao k cap, e = .returned (cnt (rnd (t + val hi lo)) (.slice ao k cap)) ∧ Hid (SN w' (.slice ao k cap) []) ∧ Hid (Below w.heap.size w w') := by
  refine Calls.mono (cpmerge_any (hiOf t) (loOf t) hi lo v (.slice none 0 0) 0 0 0 0 0 0 0 0 0 0 [] [] w (wf_of ht) hw hv (Or.inl ⟨rfl, rfl⟩) (fun c hc => by cases hc) (by simp) (by simp) (by decide) (by decide) (by decide) (by decide) (by decide) (by decide) (by decide) (by decide)) ?_
  rintro e w' ⟨v'', O, r, q, rfl, hI, hG, _, _, h1, h2⟩
  obtain rfl := merge_of_nil hI
  rw [fa_zero] at h1 h2
  rw [fl_zero, fa_zero] at h2
  obtain rfl := one_zero h1
  obtain rfl := one_zero h2
  obtain ⟨ao, k, cap, rfl⟩ := gc_form hG
  refine ⟨ao, k, cap, ?_, hG.sn, hG.below⟩
  rw [val_hl t]
  rfl
end Go.Proofs.YtpllckgpolhafaaGreatDoor
