/- NO MORE THAN 17 DIGITS. Own work of the verifier. -/
import Derived.Test.YtndoilgepidjeaaGreatDoorV9
namespace Go.Proofs.YtndoilgepidjeaaGreatDoor
open Go.RowKit

theorem pick_17 (x g odd : Nat) (e p : Int) (hx0 : 4611686018427387904 ≤ x - g) (hg : g ≤ x) (hg1 : 1024 ≤ g) (hx : x + g < 18446744073709551616) (ho : odd ≤ 1) (hE : okE e p = true) (hlh : dLow (scl (x - g) e p) odd ≤ dHigh (scl (x + g) e p) odd)
    (hmid : dLow (scl (x - g) e p) odd < dHigh (scl (x + g) e p) odd → dMid (scl x e p) ≤ dHigh (scl (x + g) e p) odd) : (pick x (x - g) (x + g) odd e p).1 < 100000000000000000 := by
  have hE' := hE
  unfold okE at hE'
  simp only [Bool.and_eq_true, decide_eq_true_eq] at hE'
  obtain ⟨⟨⟨s0, s1⟩, hp0⟩, hp1⟩ := hE'
  have u1 := scl_between (x - g) e p hx0 (by omega) hE
  have u3 := scl_between (x + g) e p (by omega) hx hE
  have h1 := tab_fit (p + 348).toNat (by omega)
  have h2 := tab_top (p + 348).toNat (by omega)
  have f1 := scl_form (x - g) e p (by omega) hp0 hp1
  have f3 := scl_form (x + g) e p hx hp0 hp1
  have a := NN_ceil (x - g) (tabHi (p + 348).toNat) (tabLo (p + 348).toNat) (by omega)
  have b := NN_ceil (x + g) (tabHi (p + 348).toNat) (tabLo (p + 348).toNat) (by omega)
  have hT : 0 < 2 ^ sOf e p := Nat.pow_pos (by decide)
  have key : dHigh (scl (x + g) e p) odd ≤ dLow (scl (x - g) e p) odd + 8 → dHigh (scl (x + g) e p) odd < 100000000000000000 := by
    intro hn
    rw [dHigh_small _ _ (by omega) (by omega) ho, dLow_small _ _ (by omega) ho] at hn
    rw [dHigh_small _ _ (by omega) (by omega) ho]
    generalize tabHi (p + 348).toNat * 18446744073709551616 - tabLo (p + 348).toNat = C at *
    have e1 : (x + g) * C = (x - g) * C + 2 * g * C := by rw [← Nat.add_mul]; congr 1; omega
    have e2 : (x + g) * C ≤ 9007199254740992 * (2 * g * C) := by rw [← Nat.mul_assoc]; exact Nat.mul_le_mul_right _ (by omega)
    have hD : 18446744073709551616 ≤ 18446744073709551616 * 2 ^ sOf e p := by omega
    obtain ⟨Qn, Rn, n1, n2, n3⟩ := cutD_cases (NN (x - g) (tabHi (p + 348).toNat) (tabLo (p + 348).toNat)) (18446744073709551616 * 2 ^ sOf e p) (by omega)
    obtain ⟨Qx, Rx, x1, x2, x3⟩ := cutD_cases (NN (x + g) (tabHi (p + 348).toNat) (tabLo (p + 348).toNat)) (18446744073709551616 * 2 ^ sOf e p) (by omega)
    rw [← f1] at n3
    rw [← f3] at x3
    generalize scl (x - g) e p = Un at *
    generalize scl (x + g) e p = Ux at *
    generalize NN (x - g) (tabHi (p + 348).toNat) (tabLo (p + 348).toNat) = Nn at *
    generalize NN (x + g) (tabHi (p + 348).toNat) (tabLo (p + 348).toNat) = Nx at *
    generalize 18446744073709551616 * 2 ^ sOf e p = D at *
    have q1 : Qx ≤ Qn + 41 := by omega
    have q2 : D * Qx ≤ D * Qn + D * 41 := by rw [← Nat.mul_add]; exact Nat.mul_le_mul_left _ q1
    have q3 : D * Qx ≤ D * 378302368699121664 := by
      generalize 2 * g * C = G at *
      generalize (x - g) * C = X at *
      omega
    have q4 : Qx ≤ 378302368699121664 := Nat.le_of_mul_le_mul_left q3 (by omega)
    omega
  unfold pick
  generalize dLow (scl (x - g) e p) odd = L at *
  have hH := dHigh_small (scl (x + g) e p) odd (by omega) (by omega) ho
  have hH2 : dHigh (scl (x + g) e p) odd ≤ 144115188075855873 := by rw [hH]; omega
  generalize dHigh (scl (x + g) e p) odd = H at *
  generalize dMid (scl x e p) = M at *
  split
  · show H / 10 < _; omega
  · have k := key (by omega)
    split
    · rename_i h; have := hmid h; show M < _; omega
    · show L < _; omega
end Go.Proofs.YtndoilgepidjeaaGreatDoor
