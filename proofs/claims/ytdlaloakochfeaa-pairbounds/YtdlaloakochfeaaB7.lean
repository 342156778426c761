/- THE MAGNITUDE OF A FLOAT as a whole number of units; exact sums. Own work of the verifier. -/
import Derived.Test.YtdlaloakochfeaaB6
namespace Go.Proofs.Ytdlaloakochfeaa
open Go.RowKit Soft

theorem bv_two (m : Nat) (_h : m < 18446744073709551616) : bv [m % 4294967296, m / 4294967296] = m := by
  simp only [bv]; omega
theorem b32_two (m : Nat) (h : m < 18446744073709551616) : B32 [m % 4294967296, m / 4294967296] := by
  intro x hx
  simp at hx
  omega
theorem rb_two (w : World) (lo hi : Nat) (h : B32 [lo, hi]) : RB (w.alloc (.cells #[.int .u32 (lo : Int), .int .u32 (hi : Int)] 44)) (some ⟨w.heap.size, 0, none⟩) w.heap.size 0 2 [lo, hi] := by
  refine ⟨fun _ => rfl, Nat.le_refl _, by decide, h, ?_⟩
  intro i hi'
  match i, hi' with
  | 0, _ => simp [go_sem]
  | 1, _ => simp [go_sem]
set_option maxHeartbeats 2000000 in
theorem whole_any (x : Nat) (hx : x < 18446744073709551616) (w : World) :
    Calls Try.prog 19 #[.int .u64 (x : Int)] w fun e w' => ∃ v, e = .returned v ∧ Below w.heap.size w w' ∧ BigIn w' v (uV (x % 9223372036854775808)) := by
  have hP := parts_any x hx
  have hm : magOf (x % 9223372036854775808) < 18446744073709551616 := by unfold magOf; split <;> omega
  have hu : upOf (x % 9223372036854775808) ≤ 2047 := by unfold upOf; split <;> omega
  have HV : Hid (uV (x % 9223372036854775808) = magOf (x % 9223372036854775808) * 2 ^ upOf (x % 9223372036854775808)) := (uV_eq _).symm
  generalize uV (x % 9223372036854775808) = V at *
  generalize magOf (x % 9223372036854775808) = m at *
  generalize upOf (x % 9223372036854775808) = u at *
  obtain ⟨q, r, hq, hr, rfl⟩ : ∃ q r : Nat, q ≤ 100 ∧ r < 32 ∧ u = 32 * q + r := ⟨u / 32, u % 32, by omega, by omega, by omega⟩
  have s1 : IntKind.u32.wrap (m : Int) = ((m % 4294967296 : Nat) : Int) := by rw [IntKind.wrap_u32']; omega
  have s2 : (m : Int) / 4294967296 = ((m / 4294967296 : Nat) : Int) := by omega
  have s3 : IntKind.u32.wrap ((m / 4294967296 : Nat) : Int) = ((m / 4294967296 : Nat) : Int) := by rw [IntKind.wrap_u32']; omega
  have HB : Hid (bv [m % 4294967296, m / 4294967296] = m ∧ B32 [m % 4294967296, m / 4294967296]) := ⟨bv_two m hm, b32_two m hm⟩
  generalize m % 4294967296 = lo at *
  generalize m / 4294967296 = hi at *
  generalize hn : 32 * q + r = n at *
  have s4 : (-1074 + (n : Int)) - (-1074) = (n : Int) := by omega
  have hn1 : n ≤ 4000 := by omega
  have hUp : ∀ w : World, Calls Try.prog 25 #[.slice (some ⟨w.heap.size, 0, none⟩) 2 2, .int .i64 (n : Int)] (w.alloc (.cells #[.int .u32 (lo : Int), .int .u32 (hi : Int)] 44)) fun e w' => ∃ v, e = .returned v ∧ Below (w.alloc (.cells #[.int .u32 (lo : Int), .int .u32 (hi : Int)] 44)).heap.size (w.alloc (.cells #[.int .u32 (lo : Int), .int .u32 (hi : Int)] 44)) w' ∧ BigIn w' v (bv [lo, hi] * 2 ^ (32 * q + r)) := fun w => up_lit (rb_two w lo hi HB.out.2) q r (n : Int) (by rw [hn]) hq hr (by show 2 ≤ 100000000; omega)
  rw [HB.out.1, hn, ← HV.out] at hUp
  go_enter Try.func19, Try.ntmps19
  go_wp2_with (first
    | (go_at_call 28; with_reducible refine (hP _).mono ?_; rintro e w' ⟨rfl, rfl⟩)
    | (go_at_call 25; with_reducible refine (hUp _).mono ?_; rintro e w4 ⟨v4, rfl, hB4, hI4⟩))
  go_ret
  exact ⟨_, rfl, (bel1 _ _).trans (hB4.mono (by simp)), hI4⟩
end Go.Proofs.Ytdlaloakochfeaa
