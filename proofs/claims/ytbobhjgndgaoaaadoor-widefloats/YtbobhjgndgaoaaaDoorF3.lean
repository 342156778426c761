/- THE DOCUMENT's FLOAT: how many bits a magnitude has, and its halves. Own work of the verifier. -/
import Derived.Test.YtbobhjgndgaoaaaDoorF2
import Derived.Test.YtbobhjgndgaoaaaDoorU1
namespace Go.Proofs.YtbobhjgndgaoaaaDoor
open Go.RowKit Go.Sort

/-- The two words of a magnitude, k bits lower. -/
def hw (N k : Nat) : Nat := N / 2 ^ k / 18446744073709551616
def lw (N k : Nat) : Nat := N / 2 ^ k % 18446744073709551616
theorem shr_succ (N k : Nat) : N / 2 ^ (k + 1) = N / 2 ^ k / 2 := by rw [Nat.pow_succ, Nat.div_div_eq_div_mul]
theorem half_words (N k : Nat) (_ : N < 340282366920938463463374607431768211456) :
    bits .or .u64 ((lw N k : Int) / 2) (IntKind.u64.wrap ((hw N k : Int) * 9223372036854775808)) = (lw N (k + 1) : Int) ∧ (hw N k : Int) / 2 = (hw N (k + 1) : Int) := by
  have hM : N / 2 ^ k ≤ N := Nat.div_le_self _ _
  unfold hw lw
  rw [shr_succ]
  generalize N / 2 ^ k = M at *
  constructor
  · have e1 : ((M % 18446744073709551616 : Nat) : Int) / 2 = ((M % 18446744073709551616 / 2 : Nat) : Int) := by omega
    have e2 : IntKind.u64.wrap (((M / 18446744073709551616 : Nat) : Int) * 9223372036854775808) = ((M / 18446744073709551616 % 2 * 9223372036854775808 : Nat) : Int) := by rw [IntKind.wrap_u64]; omega
    rw [e1, e2, u64_or_nat _ _ (by omega) (by omega), Nat.or_comm, nat_join 63 _ _ (by rw [show (2 : Nat) ^ 63 = 9223372036854775808 from by decide]; omega) (by rw [show (2 : Nat) ^ 63 = 9223372036854775808 from by decide]; omega)]
    omega
  · omega
theorem words_bound (N k : Nat) (h : N < 340282366920938463463374607431768211456) : hw N k < 18446744073709551616 ∧ lw N k < 18446744073709551616 ∧ N / 2 ^ k = hw N k * 18446744073709551616 + lw N k := by
  have hM : N / 2 ^ k ≤ N := Nat.div_le_self _ _
  unfold hw lw
  generalize N / 2 ^ k = M at *
  omega
theorem words_end (N k : Nat) (h1 : N / 2 ^ k = 0) (h2 : k ≠ 0) (h3 : N / 2 ^ (k - 1) ≠ 0) : k = N.log2 + 1 := by
  have hp : 0 < 2 ^ k := Nat.pow_pos (by decide)
  have hq : 0 < 2 ^ (k - 1) := Nat.pow_pos (by decide)
  have a : N < 2 ^ k := by rw [Nat.div_eq_zero_iff] at h1; omega
  have b : 2 ^ (k - 1) ≤ N := by
    rcases Nat.lt_or_ge N (2 ^ (k - 1)) with c | c
    · exact absurd (Nat.div_eq_of_lt c) h3
    · exact c
  have hne : N ≠ 0 := by omega
  have : N.log2 = k - 1 := by rw [Nat.log2_eq_iff hne]; exact ⟨b, by rw [show k - 1 + 1 = k from by omega]; exact a⟩
  omega

set_option maxHeartbeats 2000000 in
set_option maxRecDepth 100000 in
theorem refbits_any (N : Nat) (hN : N ≠ 0) (hN2 : N < 340282366920938463463374607431768211456) (w : World) :
    Calls Tryd.prog 45 #[.int .u64 (hw N 0 : Int), .int .u64 (lw N 0 : Int)] w fun e w' => e = .returned (.int .i64 ((N.log2 + 1 : Nat) : Int)) ∧ w' = w := by
  have HW : Hid _ := fun k => half_words N k hN2
  have HB : Hid _ := fun k => words_bound N k hN2
  have HE : Hid _ := fun k => words_end N k
  have HZ : Hid (N / 2 ^ 0 ≠ 0) := by unfold Hid; simpa using hN
  have HL : Hid (∀ k, N / 2 ^ k ≠ 0 → k ≤ 128) := by
    intro k hk
    rcases Nat.lt_or_ge 128 k with c | c
    · exfalso; apply hk
      apply Nat.div_eq_of_lt
      calc N < 2 ^ 128 := by rw [show (2 : Nat) ^ 128 = 340282366920938463463374607431768211456 from by decide]; exact hN2
        _ ≤ 2 ^ k := Nat.pow_le_pow_right (by decide) (by omega)
    · exact c
  clear hN2 hN
  go_enter Tryd.func45, Tryd.ntmps45
  go_wp2
  go_loop [0, 1, 5] (fun a b c => ∃ k : Nat, a = .int .u64 (hw N k : Int) ∧ b = .int .u64 (lw N k : Int) ∧ c = .int .i64 (k : Int) ∧ Hid (k = 0 ∨ N / 2 ^ (k - 1) ≠ 0)) (fun a b _ => (intOf a * 18446744073709551616 + intOf b).toNat)
  case atStart => exact ⟨0, rfl, rfl, rfl, Or.inl rfl⟩
  case round =>
    obtain ⟨k, rfl, rfl, rfl, hk⟩ := hrel
    have hb := HB.out k
    by_cases hz : N / 2 ^ k = 0
    · have z1 : (hw N k : Int) = 0 := by omega
      have z2 : (lw N k : Int) = 0 := by omega
      have hk0 : k ≠ 0 := by intro e; subst e; exact HZ.out hz
      have e : Hid _ := HE.out k hz hk0 (hk.out.resolve_left hk0)
      rw [z1, z2]
      clear hb z1 z2 hz
      go_wp2
      go_ret
      rw [show ((N.log2 : Int) + 1) = (k : Int) from by have := e.out; omega]
      exact ⟨rfl, rfl⟩
    · have hl := HL.out k hz
      have hb' := HB.out (k + 1)
      have hs := shr_succ N k
      have hd : N / 2 ^ (k + 1) < N / 2 ^ k := by omega
      obtain ⟨s1, s2⟩ := HW.out k
      have hgo : ((hw N k : Int) != 0) = true ∨ ((hw N k : Int) != 0) = false ∧ ((lw N k : Int) != 0) = true := by
        by_cases c : hw N k = 0
        · right; rw [c]; refine ⟨rfl, ?_⟩; rw [bne_iff_ne]; omega
        · left; rw [bne_iff_ne]; omega
      have HM : Hid (hw N (k + 1) * 18446744073709551616 + lw N (k + 1) < hw N k * 18446744073709551616 + lw N k) := by unfold Hid; omega
      have HK : Hid (N / 2 ^ (k + 1 - 1) ≠ 0) := hz
      clear hb hb' hs hd hz
      rcases hgo with g1 | ⟨g1, g2⟩
      all_goals
        go_wp2
        go_round
        case rel => exact ⟨k + 1, rfl, rfl, by go_num, Or.inr HK.out⟩
        case measure => have := HM.out; simp [intOf]; omega
end Go.Proofs.YtbobhjgndgaoaaaDoor
