/- THE BOUND, as Near asks it. Own work of the verifier. -/
import Derived.Test.YtdlaloakochfeaaB10
namespace Go.Proofs.Ytdlaloakochfeaa
open Go.RowKit Soft

theorem ap_abs (P N : Nat) : ap P N = ((P : Int) - (N : Int)).natAbs := by unfold ap; omega
theorem ap_off {P N s : Nat} (hs : s < 18446744073709551616) : ap (P + pv (neg s)) (N + nv (neg s)) = (vw s - ((P : Int) - (N : Int))).natAbs := by
  rw [ap_abs]
  have h1 := vw_pn (neg s)
  rw [vw_neg hs] at h1
  generalize pv (neg s) = a at *
  generalize nv (neg s) = b at *
  generalize vw s = z at *
  omega
theorem sq_le {m A : Nat} (h : 3 ≤ m ∨ A = 0) : 3 * (m * A) ≤ m * (m * A) := by
  rcases h with h | h
  · exact Nat.mul_le_mul_right _ h
  · subst h; simp
theorem near_ok {p : Nat × Nat} {P N m k m2 : Nat} (h : Acc p ((P : Int) - (N : Int)) (P + N) m) (hm : 3 * m ≤ 9007199254740992) (hT : 1024 * (P + N) < TOP)
    (hb : 3 * (m * (m * (P + N))) + 3 * (m * (P + N)) ≤ 2 * ((P + N) * m2 * m2 * k)) : nearB P N (fa p.1 p.2) k m2 = true := by
  obtain ⟨h1, h2⟩ := acc_total h hm hT
  have hs : fa p.1 p.2 < 18446744073709551616 := h1.1.1
  unfold nearB
  rw [ap_off hs, ap_abs]
  generalize (vw (fa p.1 p.2) - ((P : Int) - (N : Int))).natAbs = F at *
  generalize ((P : Int) - (N : Int)).natAbs = x at *
  generalize 3 * (m * (m * (P + N))) = a at *
  generalize 3 * (m * (P + N)) = b at *
  generalize (P + N) * m2 * m2 * k = c at *
  have : ¬ (c + x * 9007199254740992 < F * 81129638414606681695789005144064) := by omega
  rw [decide_eq_false this]; rfl
theorem near_group {p : Nat × Nat} {P N m : Nat} (h : Acc p ((P : Int) - (N : Int)) (P + N) m) (hm : 3 * m ≤ 9007199254740992) (hT : 1024 * (P + N) < TOP) (h3 : 3 ≤ m ∨ P + N = 0) : nearB P N (fa p.1 p.2) 2 m = true := by
  refine near_ok h hm hT ?_
  have e := sq_le h3
  rw [show (P + N) * m * m * 2 = 2 * (m * (m * (P + N))) from by rw [Nat.mul_comm (P + N) m, Nat.mul_comm (m * (P + N)) m, Nat.mul_comm _ 2]]
  generalize m * (m * (P + N)) = a at *
  generalize m * (P + N) = b at *
  omega
theorem near_whole {p : Nat × Nat} {P N m M : Nat} (h : Acc p ((P : Int) - (N : Int)) (P + N) m) (hM : m ≤ 2 * M) (hm : 6 * M ≤ 9007199254740992) (hT : 1024 * (P + N) < TOP) (h3 : 1 ≤ M ∨ P + N = 0) : nearB P N (fa p.1 p.2) 16 M = true := by
  refine near_ok h (by omega) hT ?_
  generalize P + N = A at *
  have e1 : m * A ≤ 2 * (M * A) := by rw [← Nat.mul_assoc]; exact Nat.mul_le_mul_right _ hM
  have e2 : m * (m * A) ≤ 2 * M * (2 * (M * A)) := Nat.mul_le_mul hM e1
  have e3 : 2 * M * (2 * (M * A)) = 4 * (M * (M * A)) := by rw [Nat.mul_comm 2 M, Nat.mul_assoc, ← Nat.mul_assoc 2 2, Nat.mul_left_comm]
  have e4 : M * A ≤ M * (M * A) := by
    rcases h3 with c | c
    · have := Nat.mul_le_mul_right (M * A) c
      rw [Nat.one_mul] at this
      exact this
    · subst c; simp
  rw [show A * M * M * 16 = 16 * (M * (M * A)) from by rw [Nat.mul_comm A M, Nat.mul_comm (M * A) M, Nat.mul_comm _ 16]]
  rw [e3] at e2
  generalize m * (m * A) = a at *
  generalize m * A = b at *
  generalize M * (M * A) = c at *
  generalize M * A = d at *
  omega
end Go.Proofs.Ytdlaloakochfeaa
