/- THE SHORTEST DIGITS of the least floats. Own work of the verifier. -/
import Derived.Test.YtmejmohambhaaaaGreatDoorL4
namespace Go.Proofs.YtmejmohambhaaaaGreatDoor
open Go.RowKit

set_option maxHeartbeats 1000000 in
set_option maxRecDepth 100000 in
theorem shortD (m mn mx odd z y : Nat) (e p : Int) (hm0 : 9223372036854775808 ≤ m) (hm1 : m < 18446744073709551616) (hz0 : 12 ≤ z) (hz1 : z ≤ 63) (hy : (z : Int) - 1 = (y : Int)) (he : e + (z : Int) = -1074) (he2 : 11 + (-1085 - e) = (z : Int)) (_he0 : -1137 ≤ e) (_he1 : e ≤ -1086)
    (T : Nat) (hT2 : (2 : Int) ^ y = (T : Int)) (hT3 : T ≤ 4611686018427387904) (R : Nat) (hR : (m : Int) / 2 ^ z = (R : Int)) (hR2 : R < 9223372036854775808) (hmn : (m : Int) - (T : Int) = (mn : Int)) (hmx : (m : Int) + (T : Int) = (mx : Int)) (hmx1 : mx < 18446744073709551616) (hodd : bits .and .i64 (R : Int) 1 = (odd : Int)) (ho : odd ≤ 1) (hp : -(l10 (-1074)) = p) (hp0 : -348 ≤ p) (hp1 : p ≤ 347)
    (w : World) (hg : 8 < w.heap.size) (hT : Pow w) :
    Calls Tryz.prog 70 #[.int .u64 (m : Int), .int .i64 e] w fun r w' => r = .returned (.tuple #[.int .u64 ((pick m mn mx odd e p).1 : Int), .int .i64 (pick m mn mx odd e p).2]) ∧ Below w.heap.size w w' := by
  have HL : Hid (∀ W, Calls Tryz.prog 65 #[.int .i64 (-1074)] W fun r w' => r = .returned (.int .i64 (-p)) ∧ w' = W) := by
    rw [show -p = l10 (-1074) from by omega]; exact log10Pow2_any (-1074) (by omega) (by omega)
  have hc : ((m : Int) == 9223372036854775808) = false ∨ ((m : Int) == 9223372036854775808) = true := by cases ((m : Int) == 9223372036854775808) <;> simp
  have hl : -2000 ≤ l2 p ∧ l2 p ≤ 2000 := by unfold l2; omega
  obtain ⟨hl0, hl1⟩ := hl
  clear hp
  obtain ⟨U1, V1, D1, U2, V2, D2, U3, D3, hS⟩ := sc_of m mn mx odd e p (by omega) (by omega) (by omega) ho hp0 hp1
  have hd1 := hS.l1
  have hd2 := hS.l2
  have hd3 := hS.l3
  obtain ⟨Q, hQ⟩ : ∃ Q : Nat, D2 / 10 = Q := ⟨_, rfl⟩
  have hQi : (D2 : Int) / 10 = (Q : Int) := by omega
  have hpk : (D1 ≤ Q * 10 ∧ pick m mn mx odd e p = (D2 / 10, -(p - 1))) ∨ (Q * 10 < D1 ∧ ((D1 < D2 ∧ pick m mn mx odd e p = (D3, -p)) ∨ (D2 ≤ D1 ∧ pick m mn mx odd e p = (D1, -p)))) := by
    have h := hS.pk
    rw [hQ] at h ⊢
    by_cases h1 : D1 ≤ Q * 10
    · rw [if_pos h1] at h; exact Or.inl ⟨h1, h⟩
    · rw [if_neg h1] at h
      by_cases h2 : D1 < D2
      · rw [if_pos h2] at h; exact Or.inr ⟨by omega, Or.inl ⟨h2, h⟩⟩
      · rw [if_neg h2] at h; exact Or.inr ⟨by omega, Or.inr ⟨by omega, h⟩⟩
  have HS : Hid _ := hS
  have HPK : Hid _ := hpk
  clear hS hpk
  go_enter Tryz.func70, Tryz.ntmps70
  rcases hc with hc | hc
  all_goals
    go_wp2_with (first
      | (go_at_call 65; with_reducible refine (HL.out _).mono ?_; rintro r w ⟨rfl, rfl⟩)
      | (go_at_call 92; with_reducible refine (HL.out _).mono ?_; rintro r w ⟨rfl, rfl⟩)
      | (go_at_call 94; with_reducible refine (log2Pow10_any p (by omega) (by omega) _).mono ?_; rintro r w ⟨rfl, rfl⟩)
      | fail)
    refine (prescale_any _ e p (l2 p) hp0 hp1 (by omega) (by omega) (by omega) (by omega) _ (by simp; omega) (pow_alloc hT hg _) (.int .u64 0) (.int .u64 0) (.int .i64 0) (by simp [go_sem]) (by simp [go_sem]) (by simp [go_sem]) (by simp [go_sem]) (by simp [go_sem]) (by simp [go_sem])).mono ?_
    rintro r w1 ⟨rfl, hw1⟩
    have hb1 : Below w.heap.size w w1 := by
      rw [hw1]; exact (((bel1 w _).setCell (Nat.le_refl _) _).setCell (Nat.le_refl _) _).setCell (Nat.le_refl _) _
    have hz1 : w.heap.size < w1.heap.size := by rw [hw1]; simp [World.setCell]
    have c0 : w1.cell? ⟨w.heap.size, 0, none⟩ = some (.int .u64 (tabHi (p + 348).toNat : Int)) := by rw [hw1]; simp [go_sem]
    have c1 : w1.cell? ⟨w.heap.size, 1, none⟩ = some (.int .u64 (tabLo (p + 348).toNat : Int)) := by rw [hw1]; simp [go_sem]
    have c2 : w1.cell? ⟨w.heap.size, 2, none⟩ = some (.int .i64 (-(e + l2 p + 3))) := by rw [hw1]; simp [go_sem]
    clear hw1
    go_wp2_with fail
    refine (HS.out.u1 _ w1 c0 c1 c2).mono ?_
    rintro r w2 ⟨rfl, hb2⟩
    obtain ⟨k2, _⟩ := bcell hb2
    have hz2 : w.heap.size < w2.heap.size := by have := hb2.size; omega
    have c0 : w2.cell? ⟨w.heap.size, 0, none⟩ = some (.int .u64 (tabHi (p + 348).toNat : Int)) := by rw [k2 _ _ hz1, c0]
    have c1 : w2.cell? ⟨w.heap.size, 1, none⟩ = some (.int .u64 (tabLo (p + 348).toNat : Int)) := by rw [k2 _ _ hz1, c1]
    have c2 : w2.cell? ⟨w.heap.size, 2, none⟩ = some (.int .i64 (-(e + l2 p + 3))) := by rw [k2 _ _ hz1, c2]
    clear k2
    go_wp2_with (first
      | (go_at_call 96; with_reducible refine (HS.out.n1 _).mono ?_; rintro r w2 ⟨rfl, rfl⟩)
      | (go_at_call 97; with_reducible refine (HS.out.d1 _).mono ?_; rintro r w2 ⟨rfl, rfl⟩)
      | fail)
    refine (HS.out.u2 _ w2 c0 c1 c2).mono ?_
    rintro r w3 ⟨rfl, hb3⟩
    obtain ⟨k3, _⟩ := bcell hb3
    have hz3 : w.heap.size < w3.heap.size := by have := hb3.size; omega
    have c0 : w3.cell? ⟨w.heap.size, 0, none⟩ = some (.int .u64 (tabHi (p + 348).toNat : Int)) := by rw [k3 _ _ hz2, c0]
    have c1 : w3.cell? ⟨w.heap.size, 1, none⟩ = some (.int .u64 (tabLo (p + 348).toNat : Int)) := by rw [k3 _ _ hz2, c1]
    have c2 : w3.cell? ⟨w.heap.size, 2, none⟩ = some (.int .i64 (-(e + l2 p + 3))) := by rw [k3 _ _ hz2, c2]
    clear k3
    have hb : Below w.heap.size w w3 := (hb1.trans (hb2.mono hb1.size)).trans (hb3.mono (by have := hb2.size; omega))
    rcases HPK.out with ⟨q1, q2⟩ | ⟨q1, ⟨q2, q3⟩ | ⟨q2, q3⟩⟩
    · go_wp2_with (first
        | (go_at_call 96; with_reducible refine (HS.out.n2 _).mono ?_; rintro r w3 ⟨rfl, rfl⟩)
        | (go_at_call 98; with_reducible refine (HS.out.d2 _).mono ?_; rintro r w3 ⟨rfl, rfl⟩)
        | fail)
      go_ret2
      exact ⟨by rw [q2, hQ]; rfl, hb⟩
    · go_wp2_with (first
        | (go_at_call 96; with_reducible refine (HS.out.n2 _).mono ?_; rintro r w3 ⟨rfl, rfl⟩)
        | (go_at_call 98; with_reducible refine (HS.out.d2 _).mono ?_; rintro r w3 ⟨rfl, rfl⟩)
        | fail)
      refine (HS.out.u3 _ w3 c0 c1 c2).mono ?_
      rintro r w4 ⟨rfl, hb4⟩
      go_wp2_with (first
        | (go_at_call 99; with_reducible refine (HS.out.d3 _).mono ?_; rintro r w4 ⟨rfl, rfl⟩)
        | fail)
      go_ret2
      exact ⟨by rw [q3]; rfl, hb.trans (hb4.mono hb.size)⟩
    · go_wp2_with (first
        | (go_at_call 96; with_reducible refine (HS.out.n2 _).mono ?_; rintro r w3 ⟨rfl, rfl⟩)
        | (go_at_call 98; with_reducible refine (HS.out.d2 _).mono ?_; rintro r w3 ⟨rfl, rfl⟩)
        | fail)
      go_ret2
      exact ⟨by rw [q3]; rfl, hb⟩
/-- shortFloat, at whatever comes of a float. -/
theorem short_any (m : Nat) (e : Int) (hm0 : 9223372036854775808 ≤ m) (hm1 : m < 18446744073709551616) (hn : -1085 ≤ e → m ≤ 18446744073709549568) (hd : e < -1085 → m % 2 ^ (-1074 - e).toNat = 0) (he0 : -1137 ≤ e) (he1 : e ≤ 1000) (w : World) (hg : 8 < w.heap.size) (hT : Pow w) :
    Calls Tryz.prog 70 #[.int .u64 (m : Int), .int .i64 e] w fun r w' => r = .returned (.tuple #[.int .u64 ((shortF m e).1 : Int), .int .i64 (shortF m e).2]) ∧ Below w.heap.size w w' := by
  unfold shortF
  by_cases h1 : m = 9223372036854775808 ∧ -1085 < e
  · rw [if_pos h1]
    obtain ⟨rfl, h2⟩ := h1
    exact shortS _ _ _ 0 e _ (by decide) (by decide) h2 he1 (by decide) (by decide) (by decide) (by decide) (by decide) rfl (by unfold skw; omega) (by unfold skw; omega) w hg hT
  · rw [if_neg h1]
    by_cases h2 : -1085 ≤ e
    · rw [if_pos h2]
      have hm2 := hn h2
      have ha := and_one_i (m / 2048) (by omega)
      rw [show ((m / 2048 : Nat) : Int) = (m : Int) / 2048 from by omega] at ha
      refine shortN m _ _ _ e _ hm0 hm2 h2 he1 ?_ (by omega) (by omega) ha (by omega) rfl (by unfold l10; omega) (by unfold l10; omega) w hg hT
      by_cases h3 : m = 9223372036854775808
      · exact Or.inr ⟨by rw [beq_iff_eq]; omega, by omega⟩
      · exact Or.inl (by rw [beq_eq_false_iff_ne]; omega)
    · rw [if_neg h2]
      obtain ⟨z, hz⟩ : ∃ z : Nat, (-1074 - e).toNat = z := ⟨_, rfl⟩
      obtain ⟨y, hy⟩ : ∃ y : Nat, (-1075 - e).toNat = y := ⟨_, rfl⟩
      have hd := hd (by omega)
      rw [hz] at hd
      rw [hz, hy]
      have hzy : z = y + 1 := by omega
      have hy62 : 2 ^ y ≤ 2 ^ 62 := Nat.pow_le_pow_right (by decide) (by omega)
      have hp : 0 < 2 ^ y := Nat.pow_pos (by decide)
      have hR : m / 2 ^ z < 9223372036854775808 := by
        rw [hzy, Nat.pow_succ]
        refine Nat.div_lt_of_lt_mul (Nat.lt_of_lt_of_le hm1 ?_)
        have := Nat.mul_le_mul_right 9223372036854775808 (show 2 ≤ 2 ^ y * 2 by omega)
        omega
      have hsum : m + 2 ^ y < 18446744073709551616 := by
        -- m is a multiple of 2^z below 2^64, so at most 2^64 - 2^z
        have e1 := Nat.div_add_mod m (2 ^ z)
        have e2 : 2 ^ z * 2 ^ (64 - z) = 18446744073709551616 := by rw [← Nat.pow_add, show z + (64 - z) = 64 from by omega]
        rw [hd, Nat.add_zero] at e1
        have e3 : m / 2 ^ z < 2 ^ (64 - z) := Nat.div_lt_of_lt_mul (by rw [e2]; exact hm1)
        have e4 : 2 ^ z * (m / 2 ^ z + 1) ≤ 2 ^ z * 2 ^ (64 - z) := Nat.mul_le_mul_left _ e3
        rw [Nat.mul_add, Nat.mul_one, e1, e2, hzy, Nat.pow_succ] at e4
        omega
      have hle : 2 ^ y ≤ m := by omega
      refine shortD m _ _ _ z y e _ hm0 hm1 (by omega) (by omega) (by omega) (by omega) (by omega) he0 (by omega) (2 ^ y) (by rw [Int.natCast_pow]; rfl) (by omega) (m / 2 ^ z) (div_cast m z) hR (by omega) (by omega) hsum (and_one_i _ hR) (by omega) rfl (by decide) (by decide) w hg hT
end Go.Proofs.YtmejmohambhaaaaGreatDoor
