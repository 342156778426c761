/- HOW FAR MERGED PAIRS ARE OFF, and what a pair comes to. Own work of the verifier. -/
import Derived.Test.YtdlaloakochfeaaSoftMath16
namespace Go.Proofs.Ytdlaloakochfeaa.Soft

theorem tri_merge (X1 X2 s c r d t g R : Int) : (s + r).natAbs ≤ X1.natAbs + X2.natAbs + (X1 - s).natAbs + (X2 - r).natAbs ∧ (X1 + X2 - t).natAbs ≤ (X1 - s).natAbs + (X2 - r).natAbs + (t - (s + r)).natAbs ∧
    (c + d).natAbs ≤ (X1 - s).natAbs + (X2 - r).natAbs + (c - (X1 - s)).natAbs + (d - (X2 - r)).natAbs ∧ (g + (s + r - t)).natAbs ≤ (X1 + X2 - t).natAbs + (c - (X1 - s)).natAbs + (d - (X2 - r)).natAbs + (g - (c + d)).natAbs ∧
    (R - (X1 + X2 - t)).natAbs ≤ (R - (g + (s + r - t))).natAbs + (g - (c + d)).natAbs + (c - (X1 - s)).natAbs + (d - (X2 - r)).natAbs ∧ s.natAbs ≤ X1.natAbs + (X1 - s).natAbs ∧ r.natAbs ≤ X2.natAbs + (X2 - r).natAbs := by
  have f2 := Int.natAbs_add_le
  have f3 : ∀ a b c : Int, (a + (b + c)).natAbs ≤ a.natAbs + b.natAbs + c.natAbs := fun a b c => by have := f2 a (b + c); have := f2 b c; omega
  have f4 : ∀ a b c d : Int, (a + (b + (c + d))).natAbs ≤ a.natAbs + b.natAbs + c.natAbs + d.natAbs := fun a b c d => by have := f3 a b (c + d); have := f2 c d; omega
  have ng : ∀ a : Int, (-a).natAbs = a.natAbs := fun a => Int.natAbs_neg a
  refine ⟨?_, ?_, ?_, ?_, ?_, ?_, ?_⟩
  · have h := f4 X1 X2 (-(X1 - s)) (-(X2 - r))
    rw [ng, ng, show X1 + (X2 + (-(X1 - s) + -(X2 - r))) = s + r from by omega] at h
    exact h
  · have h := f3 (X1 - s) (X2 - r) (-(t - (s + r)))
    rw [ng, show X1 - s + (X2 - r + -(t - (s + r))) = X1 + X2 - t from by omega] at h
    exact h
  · have h := f4 (X1 - s) (X2 - r) (c - (X1 - s)) (d - (X2 - r))
    rw [show X1 - s + (X2 - r + (c - (X1 - s) + (d - (X2 - r)))) = c + d from by omega] at h
    exact h
  · have h := f4 (X1 + X2 - t) (c - (X1 - s)) (d - (X2 - r)) (g - (c + d))
    rw [show X1 + X2 - t + (c - (X1 - s) + (d - (X2 - r) + (g - (c + d)))) = g + (s + r - t) from by omega] at h
    exact h
  · have h := f4 (R - (g + (s + r - t))) (g - (c + d)) (c - (X1 - s)) (d - (X2 - r))
    rw [show R - (g + (s + r - t)) + (g - (c + d) + (c - (X1 - s) + (d - (X2 - r)))) = R - (X1 + X2 - t) from by omega] at h
    exact h
  · have h := f2 X1 (-(X1 - s))
    rw [ng, show X1 + -(X1 - s) = s from by omega] at h
    exact h
  · have h := f2 X2 (-(X2 - r))
    rw [ng, show X2 + -(X2 - r) = r from by omega] at h
    exact h
theorem ar1 {U E1 E2 n e1 E' XA1 XA2 A1 A2 P Q : Nat} (i1 : 2 * (U * E1) ≤ 3 * P) (j1 : 2 * (U * E2) ≤ 3 * Q) (x1 : XA1 ≤ A1) (x2 : XA2 ≤ A2) (a1 : 2 * E1 ≤ A1) (b1 : 2 * E2 ≤ A2) (t1 : n ≤ XA1 + XA2 + E1 + E2) (t2 : E' ≤ E1 + E2 + e1) (r1 : U * e1 ≤ n) : 2 * (U * E') ≤ 3 * (P + Q) + 3 * (A1 + A2) := by
  have h := Nat.mul_le_mul_left U t2
  rw [Nat.mul_add, Nat.mul_add] at h
  generalize U * E1 = u1 at *
  generalize U * E2 = u2 at *
  generalize U * e1 = u3 at *
  generalize U * E' = u4 at *
  have h2 : n ≤ A1 + A2 + E1 + E2 := by omega
  have h3 : 2 * u3 ≤ 3 * (A1 + A2) := by omega
  omega
theorem ar2 {U E1 E2 D1 D2 A1 A2 h eg : Nat} (a1 : 2 * E1 ≤ A1) (b1 : 2 * E2 ≤ A2) (a3 : 2 * D1 ≤ A1) (b3 : 2 * D2 ≤ A2) (t3 : h ≤ E1 + E2 + D1 + D2) (r2 : U * eg ≤ h) : U * eg ≤ A1 + A2 := by
  generalize U * eg = u at *
  omega
theorem ar3 {U E1 E2 D1 D2 E' k h eg G : Nat} (t3 : h ≤ E1 + E2 + D1 + D2) (t4 : k ≤ E' + D1 + D2 + eg) (g : U * eg ≤ G) : U * (k + h) ≤ U * E' + 2 * (U * D1) + 2 * (U * D2) + G + U * E1 + U * E2 := by
  have h1 : k + h ≤ E' + D1 + D2 + eg + (E1 + E2 + D1 + D2) := Nat.add_le_add t4 t3
  have h2 := Nat.mul_le_mul_left U h1
  simp only [Nat.mul_add] at h2
  rw [Nat.mul_add]
  omega
theorem ar4 {U D1 D2 k h eg ek D' : Nat} (t5 : D' ≤ ek + eg + D1 + D2) (r2 : U * eg ≤ h) (r3 : U * ek ≤ k) : U * (U * D') ≤ U * (k + h) + U * (U * D1) + U * (U * D2) := by
  have h1 := Nat.mul_le_mul_left U t5
  simp only [Nat.mul_add] at h1
  have h2 : U * D' ≤ k + h + U * D1 + U * D2 := by omega
  have h3 := Nat.mul_le_mul_left U h2
  simp only [Nat.mul_add] at h3 ⊢
  exact h3
theorem ar5 {uuD' ukh uuD1 uuD2 uE' uD1 uD2 G uE1 uE2 A1 A2 P Q P' Q' PP QQ : Nat} (i1 : 2 * uE1 ≤ 3 * P) (j1 : 2 * uE2 ≤ 3 * Q) (i2 : 2 * uuD1 ≤ 3 * PP) (j2 : 2 * uuD2 ≤ 3 * QQ) (a2 : 2 * uD1 ≤ 3 * P) (b2 : 2 * uD2 ≤ 3 * Q)
    (h1 : 2 * uE' ≤ 3 * (P + Q) + 3 * (A1 + A2)) (hG : G = A1 + A2) (h5 : ukh ≤ uE' + 2 * uD1 + 2 * uD2 + G + uE1 + uE2) (h6 : uuD' ≤ ukh + uuD1 + uuD2) : 2 * uuD' ≤ 3 * (PP + QQ + 4 * P + 4 * Q + 4 * P' + 4 * Q' + 4 * A1 + 4 * A2) := by
  have k1 : 2 * ukh ≤ 12 * P + 12 * Q + 5 * (A1 + A2) := by omega
  have k2 : 2 * uuD' ≤ 12 * P + 12 * Q + 5 * (A1 + A2) + 3 * PP + 3 * QQ := by omega
  omega
theorem merge_arith {E1 E2 D1 D2 n e1 E' h eg k ek D' XA1 XA2 A1 A2 P Q P' Q' PP QQ : Nat} (i1 : 2 * (9007199254740992 * E1) ≤ 3 * P) (j1 : 2 * (9007199254740992 * E2) ≤ 3 * Q)
    (i2 : 2 * (9007199254740992 * (9007199254740992 * D1)) ≤ 3 * PP) (j2 : 2 * (9007199254740992 * (9007199254740992 * D2)) ≤ 3 * QQ) (x1 : XA1 ≤ A1) (x2 : XA2 ≤ A2) (a1 : 2 * E1 ≤ A1) (b1 : 2 * E2 ≤ A2) (a2 : 2 * (9007199254740992 * D1) ≤ 3 * P) (b2 : 2 * (9007199254740992 * D2) ≤ 3 * Q) (a3 : 2 * D1 ≤ A1) (b3 : 2 * D2 ≤ A2)
    (t1 : n ≤ XA1 + XA2 + E1 + E2) (t2 : E' ≤ E1 + E2 + e1) (t3 : h ≤ E1 + E2 + D1 + D2) (t4 : k ≤ E' + D1 + D2 + eg) (t5 : D' ≤ ek + eg + D1 + D2) (r1 : 9007199254740992 * e1 ≤ n) (r2 : 9007199254740992 * eg ≤ h) (r3 : 9007199254740992 * ek ≤ k) :
    2 * (9007199254740992 * E') ≤ 3 * (P + P' + Q' + Q + 2 * A1 + 2 * A2) ∧ 2 * (9007199254740992 * (9007199254740992 * D')) ≤ 3 * (PP + QQ + 4 * P + 4 * Q + 4 * P' + 4 * Q' + 4 * A1 + 4 * A2) := by
  have h1 := ar1 i1 j1 x1 x2 a1 b1 t1 t2 r1
  have h4 := ar2 a1 b1 a3 b3 t3 r2
  have h5 := ar3 t3 t4 h4
  have h6 := ar4 t5 r2 r3
  refine ⟨?_, ar5 i1 j1 i2 j2 a2 b2 h1 rfl h5 h6⟩
  clear i1 j1 i2 j2 x1 x2 a1 b1 a2 b2 a3 b3 t1 t2 t3 t4 t5 r1 r2 r3 h4 h5 h6
  omega
theorem bnd_merge {A1 A2 T E1 E2 D1 D2 XA1 XA2 S1 S2 n e1 E' h eg k : Nat} (hT : 1024 * (A1 + A2) < T) (x1 : XA1 ≤ A1) (x2 : XA2 ≤ A2) (a1 : 2 * E1 ≤ A1) (b1 : 2 * E2 ≤ A2) (a3 : 2 * D1 ≤ A1) (b3 : 2 * D2 ≤ A2) (s1 : S1 ≤ XA1 + E1) (s2 : S2 ≤ XA2 + E2)
    (t1 : n ≤ XA1 + XA2 + E1 + E2) (t2 : E' ≤ E1 + E2 + e1) (t3 : h ≤ E1 + E2 + D1 + D2) (t4 : k ≤ E' + D1 + D2 + eg) (r1 : 9007199254740992 * e1 ≤ n) (r2 : 9007199254740992 * eg ≤ h) : 32 * (S1 + S2) < T ∧ 4 * h < T ∧ 4 * k < T := by
  have h1 : e1 ≤ n := by clear hT x1 x2 a1 b1 a3 b3 s1 s2 t1 t2 t3 t4 r2; omega
  have h2 : eg ≤ h := by clear hT x1 x2 a1 b1 a3 b3 s1 s2 t1 t2 t3 t4 r1; omega
  clear r1 r2
  have n1 : n ≤ 2 * (A1 + A2) := by clear hT a3 b3 s1 s2 t2 t3 t4 h1 h2; omega
  have n2 : h ≤ A1 + A2 := by clear hT x1 x2 s1 s2 t1 t2 t4 h1 h2 n1; omega
  have n3 : E' ≤ 3 * (A1 + A2) := by clear hT x1 x2 a3 b3 s1 s2 t1 t3 t4 h2 n2; omega
  have n4 : k ≤ 6 * (A1 + A2) := by clear hT x1 x2 a1 b1 s1 s2 t1 t2 t3 h1 n1; omega
  have n5 : S1 + S2 ≤ 2 * (A1 + A2) := by clear hT a3 b3 t1 t2 t3 t4 h1 h2 n1 n2 n3 n4; omega
  clear x1 x2 a1 b1 a3 b3 s1 s2 t1 t2 t3 t4 h1 h2 n1 n3
  refine ⟨?_, ?_, ?_⟩ <;> omega
theorem acc_merge {p q : Nat × Nat} {X1 X2 : Int} {A1 A2 m1 m2 : Nat} (h1 : Acc p X1 A1 m1) (h2 : Acc q X2 A2 m2) (hm1 : 3 * m1 ≤ 9007199254740992) (hm2 : 3 * m2 ≤ 9007199254740992) (hT : 1024 * (A1 + A2) < TOP) :
    Acc (mergeW p q) (X1 + X2) (A1 + A2) (m1 + m2 + 2) := by
  obtain ⟨a1, a2, a3⟩ := acc_small h1 hm1
  obtain ⟨b1, b2, b3⟩ := acc_small h2 hm2
  have er := rI_err (vw p.1 + vw q.1)
  have eg := rI_err (vw p.2 + vw q.2)
  obtain ⟨q1, q2, q3, q4, q5, q6, q7⟩ := tri_merge X1 X2 (vw p.1) (vw p.2) (vw q.1) (vw q.2) (rI (vw p.1 + vw q.1)) (rI (vw p.2 + vw q.2)) (rI (rI (vw p.2 + vw q.2) + (vw p.1 + vw q.1 - rI (vw p.1 + vw q.1))))
  obtain ⟨g1, g2, g3⟩ := bnd_merge hT h1.xa h2.xa a1 b1 a3 b3 q6 q7 q1 q2 q3 q4 er eg
  obtain ⟨s1, s2, f1, f2⟩ := two_sum h1.s h2.s.1 g1
  have c0 : fa p.2 q.2 = fw (vw p.2 + vw q.2) := fa_fw h1.c.1 h2.c.1 (.inl h1.c.2)
  obtain ⟨u1, u2⟩ := vw_round g2
  have e0 : fa (fa p.2 q.2) (fl p.1 q.1) = fw (rI (vw p.2 + vw q.2) + (vw p.1 + vw q.1 - rI (vw p.1 + vw q.1))) := by
    rw [c0, fa_fw u2.1 f1.1 (.inl u2.2), u1, f2]
  obtain ⟨t1, t2⟩ := vw_round g3
  have ek := rI_err (rI (vw p.2 + vw q.2) + (vw p.1 + vw q.1 - rI (vw p.1 + vw q.1)))
  have key := merge_arith (P' := m1 * A2) (Q' := m2 * A1) h1.i1 h2.i1 h1.i2 h2.i2 h1.xa h2.xa a1 b1 a2 b2 a3 b3 q1 q2 q3 q4 q5 er eg ek
  have xa := h1.xa
  have xb := h2.xa
  clear q1 q2 q3 q4 q5 q6 q7 g1 g2 g3 a1 a2 a3 b1 b2 b3 er eg ek u1 u2
  refine ⟨s1, by show Ok (fa (fa p.2 q.2) (fl p.1 q.1)); rw [e0]; exact t2, ?_, ?_, ?_⟩
  · show 2 * (9007199254740992 * (X1 + X2 - vw (fa p.1 q.1)).natAbs) ≤ _
    rw [s2]
    refine Nat.le_trans key.1 (Nat.le_of_eq ?_)
    simp only [Nat.add_mul, Nat.mul_add]
    generalize m1 * A1 = z1
    generalize m1 * A2 = z2
    generalize m2 * A1 = z3
    generalize m2 * A2 = z4
    omega
  · show 2 * (9007199254740992 * (9007199254740992 * (vw (fa (fa p.2 q.2) (fl p.1 q.1)) - (X1 + X2 - vw (fa p.1 q.1))).natAbs)) ≤ _
    rw [e0, t1, s2]
    refine Nat.le_trans key.2 ?_
    simp only [Nat.add_mul, Nat.mul_add, Nat.mul_left_comm m1 2, Nat.mul_left_comm m2 2]
    generalize m1 * A1 = z1
    generalize m1 * A2 = z2
    generalize m2 * A1 = z3
    generalize m2 * A2 = z4
    clear key
    omega
  · show (X1 + X2).natAbs ≤ A1 + A2
    clear key
    omega
/-- What a pair comes to, and how far that is off. -/
theorem acc_total {p : Nat × Nat} {X : Int} {A m : Nat} (h : Acc p X A m) (hm : 3 * m ≤ 9007199254740992) (hT : 1024 * A < TOP) :
    Ok (fa p.1 p.2) ∧ 2 * (9007199254740992 * (9007199254740992 * (vw (fa p.1 p.2) - X).natAbs)) ≤ 2 * (9007199254740992 * X.natAbs) + 3 * (m * (m * A)) + 3 * (m * A) := by
  obtain ⟨a1, a2, a3⟩ := acc_small h hm
  have xa := h.xa
  have i2 := h.i2
  have tri : (vw p.1 + vw p.2).natAbs ≤ X.natAbs + (vw p.2 - (X - vw p.1)).natAbs := by clear i2 a1 a2 a3 xa hT; omega
  have tri2 : (rI (vw p.1 + vw p.2) - X).natAbs ≤ (rI (vw p.1 + vw p.2) - (vw p.1 + vw p.2)).natAbs + (vw p.2 - (X - vw p.1)).natAbs := by clear i2 a1 a2 a3 xa hT tri; omega
  have er := rI_err (vw p.1 + vw p.2)
  have e0 : fa p.1 p.2 = fw (vw p.1 + vw p.2) := fa_fw h.s.1 h.c.1 (.inl h.s.2)
  obtain ⟨t1, t2⟩ := vw_round (z := vw p.1 + vw p.2) (by clear i2 a2 tri2 er; omega)
  rw [e0, t1]
  refine ⟨t2, ?_⟩
  generalize (rI (vw p.1 + vw p.2) - X).natAbs = F at *
  generalize (rI (vw p.1 + vw p.2) - (vw p.1 + vw p.2)).natAbs = e at *
  generalize (vw p.1 + vw p.2).natAbs = n at *
  generalize (vw p.2 - (X - vw p.1)).natAbs = D at *
  generalize X.natAbs = x at *
  generalize m * (m * A) = mmA at *
  generalize m * A = mA at *
  have h1 : 9007199254740992 * F ≤ x + D + 9007199254740992 * D := by omega
  have h2 : 2 * (9007199254740992 * (9007199254740992 * F)) ≤ 2 * (9007199254740992 * x) + 2 * (9007199254740992 * D) + 2 * (9007199254740992 * (9007199254740992 * D)) := by omega
  omega
/-- The empty pair changes nothing. -/
theorem merge_zero {p : Nat × Nat} {X : Int} {A m : Nat} (h : Acc p X A m) (hm : 3 * m ≤ 9007199254740992) (hT : 1024 * A < TOP) : mergeW p (0, 0) = p := by
  obtain ⟨a1, a2, a3⟩ := acc_small h hm
  have xa := h.xa
  have k0 : ∀ z, Ok z → fa z 0 = z := fun z hz => by rw [fa_fw hz.1 fin_zero (.inl hz.2), vw_zero, Int.add_zero, fw_vw hz]
  obtain ⟨_, _, f1, f2⟩ := two_sum h.s fin_zero (by rw [vw_zero]; clear a2; omega)
  have hr : rI (vw p.1) = vw p.1 := by
    unfold rI
    rw [rN_rep (vw_rep h.s.1)]
    split <;> omega
  rw [vw_zero, Int.add_zero, hr, Int.sub_self] at f2
  have el : fl p.1 0 = 0 := by rw [← fw_vw f1, f2, fw_zero]
  unfold mergeW
  show (fa p.1 0, fa (fa p.2 0) (fl p.1 0)) = p
  rw [k0 _ h.s, k0 _ h.c, el, k0 _ h.c]
end Go.Proofs.Ytdlaloakochfeaa.Soft
