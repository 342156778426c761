/- HOW FAR A PAIR IS OFF. Own work of the verifier. -/
import Derived.Test.YtdlaloakochfeaaSoftMath15
namespace Go.Proofs.Ytdlaloakochfeaa.Soft

/-- A pair of the exact sum X, of magnitudes that come to A, behind m roundings. -/
structure Acc (p : Nat × Nat) (X : Int) (A m : Nat) : Prop where
  s : Ok p.1
  c : Ok p.2
  i1 : 2 * (9007199254740992 * (X - vw p.1).natAbs) ≤ 3 * (m * A)
  i2 : 2 * (9007199254740992 * (9007199254740992 * (vw p.2 - (X - vw p.1)).natAbs)) ≤ 3 * (m * (m * A))
  xa : X.natAbs ≤ A
theorem acc_zero : Acc (0, 0) 0 0 0 := by
  refine ⟨ok_zero, ok_zero, ?_, ?_, by decide⟩
  · rw [vw_zero]; decide
  · rw [vw_zero]; decide
theorem mul_lim {m A : Nat} (h : 3 * m ≤ 9007199254740992) : 3 * (m * A) ≤ 9007199254740992 * A := by
  rw [← Nat.mul_assoc]; exact Nat.mul_le_mul_right _ h
/-- What follows of it. -/
theorem acc_small {p : Nat × Nat} {X : Int} {A m : Nat} (h : Acc p X A m) (hm : 3 * m ≤ 9007199254740992) :
    2 * (X - vw p.1).natAbs ≤ A ∧ 2 * (9007199254740992 * (vw p.2 - (X - vw p.1)).natAbs) ≤ 3 * (m * A) ∧ 2 * (vw p.2 - (X - vw p.1)).natAbs ≤ A := by
  have l1 := mul_lim (A := A) hm
  have l2 := mul_lim (A := m * A) hm
  have i1 := h.i1
  have i2 := h.i2
  generalize (X - vw p.1).natAbs = E at *
  generalize (vw p.2 - (X - vw p.1)).natAbs = D at *
  generalize hq : m * A = q at *
  have l3 : 3 * (m * q) ≤ 9007199254740992 * q := l2
  have a1 : 2 * E ≤ A := by omega
  have a2 : 2 * (9007199254740992 * D) ≤ q := by omega
  exact ⟨a1, by omega, by omega⟩
/-- The arithmetic of one more float. -/
theorem put_arith {E D n e1 k e2 E' D' XA A V mA mmA mV mmV : Nat} (i1 : 2 * (9007199254740992 * E) ≤ 3 * mA) (i2 : 2 * (9007199254740992 * (9007199254740992 * D)) ≤ 3 * mmA) (xa : XA ≤ A) (a1 : 2 * E ≤ A) (a2 : 2 * (9007199254740992 * D) ≤ 3 * mA)
    (t1 : n ≤ XA + E + V) (t2 : E' ≤ E + e1) (t3 : k ≤ E' + D) (t4 : D' ≤ e2 + D) (r1 : 9007199254740992 * e1 ≤ n) (r2 : 9007199254740992 * e2 ≤ k) :
    2 * (9007199254740992 * E') ≤ 3 * (mA + mV + A + V) ∧ 2 * (9007199254740992 * (9007199254740992 * D')) ≤ 3 * (mmA + mmV + 2 * mA + 2 * mV + A + V) := by
  have h1 : 2 * (9007199254740992 * E') ≤ 3 * (mA + mV + A + V) := by omega
  refine ⟨h1, ?_⟩
  have h2 : 9007199254740992 * D' ≤ 9007199254740992 * D + E' + D := by omega
  have h3 : 2 * (9007199254740992 * (9007199254740992 * D')) ≤ 2 * (9007199254740992 * (9007199254740992 * D)) + 2 * (9007199254740992 * E') + 2 * (9007199254740992 * D) := by omega
  omega
theorem tri_put (X s c v r R : Int) : (s + v).natAbs ≤ X.natAbs + (X - s).natAbs + v.natAbs ∧ (X + v - r).natAbs ≤ (X - s).natAbs + (r - (s + v)).natAbs ∧ (c + (s + v - r)).natAbs ≤ (X + v - r).natAbs + (c - (X - s)).natAbs ∧ (R - (X + v - r)).natAbs ≤ (R - (c + (s + v - r))).natAbs + (c - (X - s)).natAbs ∧ s.natAbs ≤ X.natAbs + (X - s).natAbs := by
  refine ⟨?_, ?_, ?_, ?_, ?_⟩ <;> omega
theorem bnd_put {A V T E D XA S E' k e1 n : Nat} (hT : 1024 * (A + V) < T) (a1 : 2 * E ≤ A) (a3 : 2 * D ≤ A) (xa : XA ≤ A) (t5 : S ≤ XA + E) (t1 : n ≤ XA + E + V) (t2 : E' ≤ E + e1) (t3 : k ≤ E' + D) (r1 : 9007199254740992 * e1 ≤ n) : 32 * (S + V) < T ∧ 4 * k < T := by
  have h1 : e1 ≤ n := by omega
  constructor <;> omega
theorem acc_put {p : Nat × Nat} {X : Int} {A m x : Nat} (h : Acc p X A m) (hx : Fin x) (hm : 3 * m ≤ 9007199254740992) (hT : 1024 * (A + (vw x).natAbs) < TOP) : Acc (putW p x) (X + vw x) (A + (vw x).natAbs) (m + 1) := by
  obtain ⟨a1, a2, a3⟩ := acc_small h hm
  have xa := h.xa
  have hs := h.s
  have hc := h.c
  have er := rI_err (vw p.1 + vw x)
  obtain ⟨q1, q2, q3, q4, q5⟩ := tri_put X (vw p.1) (vw p.2) (vw x) (rI (vw p.1 + vw x)) (rI (vw p.2 + (vw p.1 + vw x - rI (vw p.1 + vw x))))
  obtain ⟨g1, g2⟩ := bnd_put hT a1 a3 xa q5 q1 q2 q3 er
  obtain ⟨s1, s2, f1, f2⟩ := two_sum hs hx g1
  have e0 : fa p.2 (fl p.1 x) = fw (vw p.2 + vw (fl p.1 x)) := fa_fw hc.1 f1.1 (.inl hc.2)
  obtain ⟨t1, t2⟩ := vw_round (z := vw p.2 + vw (fl p.1 x)) (by rw [f2]; exact g2)
  have er2 := rI_err (vw p.2 + vw (fl p.1 x))
  rw [f2] at er2 t1
  have key := put_arith (V := (vw x).natAbs) (mV := m * (vw x).natAbs) (mmV := m * (m * (vw x).natAbs)) h.i1 h.i2 xa a1 a2 q1 q2 q3 q4 er er2
  clear q1 q2 q3 q4 q5 g1 g2 a1 a2 a3 er er2
  refine ⟨s1, by show Ok (fa p.2 (fl p.1 x)); rw [e0]; exact t2, ?_, ?_, ?_⟩
  rotate_left 2
  · show (X + vw x).natAbs ≤ A + (vw x).natAbs
    clear key
    omega
  · show 2 * (9007199254740992 * (X + vw x - vw (fa p.1 x)).natAbs) ≤ _
    rw [s2]
    refine Nat.le_trans key.1 (Nat.le_of_eq ?_)
    simp only [Nat.add_mul, Nat.mul_add, Nat.one_mul]
    generalize m * A = q1
    generalize m * (vw x).natAbs = q2
    omega
  · show 2 * (9007199254740992 * (9007199254740992 * (vw (fa p.2 (fl p.1 x)) - (X + vw x - vw (fa p.1 x))).natAbs)) ≤ _
    rw [e0, f2, t1, s2]
    refine Nat.le_trans key.2 (Nat.le_of_eq ?_)
    simp only [Nat.add_mul, Nat.mul_add, Nat.one_mul]
    generalize m * (m * A) = q3
    generalize m * (m * (vw x).natAbs) = q4
    generalize m * A = q1
    generalize m * (vw x).natAbs = q2
    omega
end Go.Proofs.Ytdlaloakochfeaa.Soft
