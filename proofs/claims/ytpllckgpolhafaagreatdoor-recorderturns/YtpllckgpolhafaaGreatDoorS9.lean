/- THE CELLS: how many. Own work of the verifier. -/
import Derived.Test.YtpllckgpolhafaaGreatDoorS8
import Derived.Test.YtpllckgpolhafaaGreatDoorS6
import Derived.Test.YtpllckgpolhafaaGreatDoorPA
namespace Go.Proofs.YtpllckgpolhafaaGreatDoor
open Go.RowKit

/-- How many buckets. -/
def Lg (p : Int) : Nat := if 1 ≤ p ∧ p ≤ 14 then (64 - p.toNat) * 2 ^ p.toNat else 0
theorem Lg_le (p : Int) : Lg p ≤ 1048576 := by
  unfold Lg; split
  · exact len_le _ (by omega)
  · omega
theorem Lg_pos (p : Int) : 0 < Lg p ↔ (1 ≤ p ∧ p ≤ 14) := by
  unfold Lg; split
  · rename_i h
    exact ⟨fun _ => h, fun _ => Nat.mul_pos (by omega) (Nat.pow_pos (by decide))⟩
  · rename_i h; exact ⟨fun k => by omega, fun k => absurd k h⟩
theorem length_any (p : Int) (w : World) : Calls Tryz.prog 40 #[.int .i64 p] w fun e w' => e = .returned (.int .i64 (Lg p : Nat)) ∧ w' = w := by
  unfold Lg
  by_cases h : 1 ≤ p ∧ p ≤ 14
  · rw [if_pos h]
    obtain ⟨q, rfl⟩ := Int.eq_ofNat_of_zero_le (by omega : 0 ≤ p)
    exact len_yes q (by omega) (by omega) w
  · rw [if_neg h]
    exact len_no p h w
theorem rlength_any (p : Int) (w : World) : Calls Tryz.prog 65 #[.int .i64 p] w fun e w' => e = .returned (.int .i64 (Lg p : Nat)) ∧ w' = w := by
  unfold Lg
  by_cases h : 1 ≤ p ∧ p ≤ 14
  · rw [if_pos h]
    obtain ⟨q, rfl⟩ := Int.eq_ofNat_of_zero_le (by omega : 0 ≤ p)
    exact rlen_yes q (by omega) (by omega) w
  · rw [if_neg h]
    exact rlen_no p h w
/-- May there be so many stripes, and that precision? -/
abbrev okS (s p : Int) : Prop := 1 ≤ s ∧ s ≤ 16 ∧ 1 ≤ p ∧ p ≤ 14
set_option maxHeartbeats 1000000 in
theorem smay_any (s p : Int) (w : World) : Calls Tryz.prog 19 #[.int .i64 s, .int .i64 p] w fun e w' => e = .returned (.bool (decide (okS s p))) ∧ w' = w := by
  have HL : Hid (∀ W, _) := length_any p
  have HP := Lg_pos p
  by_cases h1 : 1 ≤ s
  · by_cases h2 : s ≤ 16
    · by_cases h3 : 1 ≤ p ∧ p ≤ 14
      · have hp : 0 < Lg p := HP.2 h3
        have hp' : (0 : Int) < (Lg p : Int) := by omega
        rw [decide_eq_true (⟨h1, h2, h3.1, h3.2⟩ : okS s p)]
        clear HP h3
        generalize Lg p = q at *
        go_enter Tryz.func19, Tryz.ntmps19
        go_wp2_with (go_at_call 40; with_reducible refine (HL.out _).mono ?_; rintro e w ⟨rfl, rfl⟩)
        go_ret
        exact ⟨rfl, rfl⟩
      · have hp : Lg p = 0 := by have := mt HP.1 h3; omega
        rw [decide_eq_false (fun k : okS s p => h3 ⟨k.2.2.1, k.2.2.2⟩)]
        rw [hp] at HL
        clear HP h3 hp
        go_enter Tryz.func19, Tryz.ntmps19
        go_wp2_with (go_at_call 40; with_reducible refine (HL.out _).mono ?_; rintro e w ⟨rfl, rfl⟩)
        go_ret
        exact ⟨rfl, rfl⟩
    · rw [decide_eq_false (fun k : okS s p => h2 k.2.1)]
      clear HP
      go_enter Tryz.func19, Tryz.ntmps19
      go_wp2_with fail
      go_ret
      exact ⟨rfl, rfl⟩
  · rw [decide_eq_false (fun k : okS s p => h1 k.1)]
    clear HP
    go_enter Tryz.func19, Tryz.ntmps19
    go_wp2_with fail
    go_ret
    exact ⟨rfl, rfl⟩
theorem cwidth_any (p : Value) (w : World) : Calls Tryz.prog 218 #[p] w fun e w' => e = .returned (.int .i64 2) ∧ w' = w := by
  go_enter Tryz.func218, Tryz.ntmps218
  go_wp2
  go_ret
  exact ⟨rfl, rfl⟩
theorem swidth_any (p : Value) (w : World) : Calls Tryz.prog 232 #[p] w fun e w' => e = .returned (.int .i64 5) ∧ w' = w := by
  go_enter Tryz.func232, Tryz.ntmps232
  go_wp2
  go_ret
  exact ⟨rfl, rfl⟩
theorem hwidth_any (c : Nat) (p : Int) (w : World) (hc : w.cell? ⟨c, 2, none⟩ = some (.int .i64 p)) : Calls Tryz.prog 226 #[.pointer (some ⟨c, 0, none⟩)] w fun e w' => e = .returned (.int .i64 ((Lg p + 2 : Nat) : Int)) ∧ w' = w := by
  have HL : Hid (∀ W, _) := length_any p
  have hl := Lg_le p
  generalize Lg p = q at *
  go_enter Tryz.func226, Tryz.ntmps226
  go_wp2_with (go_at_call 40; with_reducible refine (HL.out _).mono ?_; rintro e w ⟨rfl, rfl⟩)
  go_ret
  exact ⟨congrArg (fun z => Ending.returned (Value.int .i64 z)) (by omega), rfl⟩
end Go.Proofs.YtpllckgpolhafaaGreatDoor
