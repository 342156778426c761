/- WideFollows: products and quotients undone. Own work of the verifier. -/
import Derived.Test.YtbobhjgndgaoaaaDoorT12
import Derived.Test.YtbobhjgndgaoaaaDoorP1
namespace Go.Proofs.YtbobhjgndgaoaaaDoor
open Go.RowKit Go.Sort

theorem undo_math (x y : Int) (x0 : 0 ≤ x) (x1 : x < 18446744073709551616) (y0 : 0 < y) : hiOf (x * y) < y ∧ 0 ≤ hiOf (x * y) ∧ (hiOf (x * y) * 18446744073709551616 + loOf (x * y)) / y = x ∧ (hiOf (x * y) * 18446744073709551616 + loOf (x * y)) % y = 0 := by
  have hv : hiOf (x * y) * 18446744073709551616 + loOf (x * y) = x * y := val_hl (x * y)
  have h0 : 0 ≤ x * y := Int.mul_nonneg x0 (by omega)
  have h1 : x * y < 18446744073709551616 * y := Int.mul_lt_mul_of_pos_right x1 y0
  rw [hv]
  refine ⟨?_, ?_, Int.mul_ediv_cancel _ (by omega), Int.mul_emod_left _ _⟩
  · unfold hiOf; omega
  · unfold hiOf; omega
theorem whole_math (x y q r z : Int) (_ : 0 ≤ x) (_ : x < 18446744073709551616) (y0 : 0 ≤ y) (y1 : y < 18446744073709551616) (h : q * z + r = x * 18446744073709551616 + y) :
    hiOf (rnd (val (wrap64 (hiOf (q * z))) (loOf (q * z)) + r)) = wrap64 x ∧ loOf (rnd (val (wrap64 (hiOf (q * z))) (loOf (q * z)) + r)) = y := by
  generalize q * z = p at *
  unfold wrap64
  unfold hiOf loOf rnd val
  constructor <;> omega
theorem wf_wrap (p : Int) : Wf (wrap64 (hiOf p)) (loOf p) := by
  unfold wrap64 hiOf loOf
  constructor <;> omega

set_option maxHeartbeats 4000000 in
set_option maxRecDepth 100000 in
theorem pf_walk (x y z q r e mh ml : Int) (eml : IntKind.u64.wrap (x * y) = ml) (y0 : 0 ≤ y) (_ : 0 ≤ x) (z0 : 0 ≤ z)
    (HM : Hid (∀ W, Calls Tryd.prog 31 #[.int .u64 x, .int .u64 y] W fun e w' => e = .returned (.tuple #[.int .u64 mh, .int .u64 ml]) ∧ w' = W))
    (HN : Hid (∀ W, Calls Tryd.prog 31 #[.int .u64 y, .int .u64 x] W fun e w' => e = .returned (.tuple #[.int .u64 mh, .int .u64 ml]) ∧ w' = W))
    (HD : Hid (0 < y → ∀ W, Calls Tryd.prog 33 #[.int .u64 mh, .int .u64 ml, .int .u64 y] W fun e w' => e = .returned (.tuple #[.int .u64 x, .int .u64 0, .int .i64 0]) ∧ Below W.heap.size W w'))
    (HE : Hid (∀ W, Calls Tryd.prog 33 #[.int .u64 x, .int .u64 y, .int .u64 z] W fun s w' => s = .returned (.tuple #[.int .u64 q, .int .u64 r, .int .i64 e]) ∧ Below W.heap.size W w'))
    (hc : z = 0 ∧ e = 1 ∧ q = 0 ∧ r = 0 ∨ (z == 0) = false ∧ z ≤ x ∧ e = 2 ∧ q = 0 ∧ r = 0 ∨ (z == 0) = false ∧ ¬ z ≤ x ∧ e = 0 ∧ r < z ∧ ∃ ph pl rh rl X : Int, wrap64 x = X ∧
      Hid (∀ W, Calls Tryd.prog 31 #[.int .u64 q, .int .u64 z] W fun s w' => s = .returned (.tuple #[.int .u64 ph, .int .u64 pl]) ∧ w' = W) ∧
      Hid (∀ W, Calls Tryd.prog 22 #[.int .u64 r] W fun s w' => s = .returned (.agg #[.int .i64 rh, .int .u64 rl]) ∧ Below W.heap.size W w') ∧
      Hid (∀ W, Calls Tryd.prog 10 #[.agg #[.int .i64 (wrap64 ph), .int .u64 pl], .agg #[.int .i64 rh, .int .u64 rl]] W fun s w' => s = .returned (.agg #[.int .i64 X, .int .u64 y]) ∧ Below W.heap.size W w')) (w : World) :
    Calls Tryd.prog 35 #[.int .u64 x, .int .u64 y, .int .u64 z] w fun s w' => s = .returned (.bool true) ∧ Below w.heap.size w w' := by
  by_cases hy : 0 < y
  · go_enter Tryd.func35, Tryd.ntmps35
    go_wp2_with fail
    refine (HM.out _).mono ?_
    rintro e w1 ⟨rfl, rfl⟩
    go_wp2_with fail
    refine (HN.out _).mono ?_
    rintro e w1 ⟨rfl, rfl⟩
    go_wp2_with fail
    refine (HD.out hy _).mono ?_
    rintro e w2 ⟨rfl, hb2⟩
    go_wp2_with fail
    refine (HE.out _).mono ?_
    rintro e w3 ⟨rfl, hb3⟩
    have HB : Hid _ := hb2.trans (hb3.mono hb2.size)
    clear hb2 hb3
    rcases hc with ⟨rfl, rfl, rfl, rfl⟩ | ⟨hz, hx, rfl, rfl, rfl⟩ | ⟨hz, hx, rfl, hr, ph, pl, rh, rl, X, eX, HM2, HU, HA⟩
    · go_wp2
      go_ret
      exact ⟨rfl, HB.out⟩
    · have hz2 : (z != 0) = true := by rw [bne, hz]; rfl
      have hz3 : ¬ z = 0 := by rw [beq_eq_false_iff_ne] at hz; exact hz
      go_wp2
      go_ret
      exact ⟨rfl, HB.out⟩
    · go_wp2_with fail
      refine (HM2.out _).mono ?_
      rintro e w4 ⟨rfl, rfl⟩
      go_wp2_with fail
      refine (HU.out _).mono ?_
      rintro e w5 ⟨rfl, hb5⟩
      go_wp2_with fail
      refine (HA.out _).mono ?_
      rintro e w6 ⟨rfl, hb6⟩
      have HB2 : Hid _ := hb5.trans (hb6.mono hb5.size)
      clear hb5 hb6
      go_wp2
      go_ret
      have b := HB.out
      exact ⟨rfl, (b.trans (HB2.out.mono b.size)).trans ((bel1 _ _).mono (Nat.le_trans b.size HB2.out.size))⟩
  · go_enter Tryd.func35, Tryd.ntmps35
    go_wp2_with fail
    refine (HM.out _).mono ?_
    rintro e w1 ⟨rfl, rfl⟩
    go_wp2_with fail
    refine (HN.out _).mono ?_
    rintro e w1 ⟨rfl, rfl⟩
    go_wp2_with fail
    refine (HE.out _).mono ?_
    rintro e w3 ⟨rfl, hb3⟩
    have HB : Hid _ := hb3
    clear hb3
    rcases hc with ⟨rfl, rfl, rfl, rfl⟩ | ⟨hz, hx, rfl, rfl, rfl⟩ | ⟨hz, hx, rfl, hr, ph, pl, rh, rl, X, eX, HM2, HU, HA⟩
    · go_wp2
      go_ret
      exact ⟨rfl, HB.out⟩
    · have hz2 : (z != 0) = true := by rw [bne, hz]; rfl
      have hz3 : ¬ z = 0 := by rw [beq_eq_false_iff_ne] at hz; exact hz
      go_wp2
      go_ret
      exact ⟨rfl, HB.out⟩
    · go_wp2_with fail
      refine (HM2.out _).mono ?_
      rintro e w4 ⟨rfl, rfl⟩
      go_wp2_with fail
      refine (HU.out _).mono ?_
      rintro e w5 ⟨rfl, hb5⟩
      go_wp2_with fail
      refine (HA.out _).mono ?_
      rintro e w6 ⟨rfl, hb6⟩
      have HB2 : Hid _ := hb5.trans (hb6.mono hb5.size)
      clear hb5 hb6
      go_wp2
      go_ret
      have b := HB.out
      exact ⟨rfl, (b.trans (HB2.out.mono b.size)).trans ((bel1 _ _).mono (Nat.le_trans b.size HB2.out.size))⟩
theorem followparts_any (x y z : Int) (x0 : 0 ≤ x) (x1 : x < 18446744073709551616) (y0 : 0 ≤ y) (y1 : y < 18446744073709551616) (z0 : 0 ≤ z) (z1 : z < 18446744073709551616) (w : World) :
    Calls Tryd.prog 35 #[.int .u64 x, .int .u64 y, .int .u64 z] w fun s w' => s = .returned (.bool true) ∧ Below w.heap.size w w' := by
  have HM := mul_any x y x0 x1 y0 y1
  have HN := mul_any y x y0 y1 x0 x1
  rw [Int.mul_comm y x] at HN
  have eml : IntKind.u64.wrap (x * y) = loOf (x * y) := by rw [IntKind.wrap_u64]; rfl
  have HD : 0 < y → ∀ W, Calls Tryd.prog 33 #[.int .u64 (hiOf (x * y)), .int .u64 (loOf (x * y)), .int .u64 y] W fun e w' => e = .returned (.tuple #[.int .u64 x, .int .u64 0, .int .i64 0]) ∧ Below W.heap.size W w' := by
    intro hy W
    obtain ⟨u1, u2, u3, u4⟩ := undo_math x y x0 x1 hy
    have h := div_any (hiOf (x * y)) (loOf (x * y)) y u2 (by unfold loOf; omega) (by unfold loOf; omega) u1 y1 W
    rw [u3, u4] at h
    exact h
  by_cases c1 : z = 0
  · subst c1
    exact pf_walk x y 0 0 0 1 _ _ eml y0 x0 z0 HM HN HD (div_zero x y) (Or.inl ⟨rfl, rfl, rfl, rfl⟩) w
  · by_cases c2 : z ≤ x
    · exact pf_walk x y z 0 0 2 _ _ eml y0 x0 z0 HM HN HD (div_range x y z (by omega) c2) (Or.inr (Or.inl ⟨by rw [beq_eq_false_iff_ne]; exact c1, c2, rfl, rfl, rfl⟩)) w
    · have hz : 0 < z := by omega
      have hdm := Int.mul_ediv_add_emod (x * 18446744073709551616 + y) z
      have r0 := Int.emod_nonneg (x * 18446744073709551616 + y) c1
      have r1 := Int.emod_lt_of_pos (x * 18446744073709551616 + y) hz
      have q0 : 0 ≤ (x * 18446744073709551616 + y) / z := Int.ediv_nonneg (by omega) z0
      have q1 : (x * 18446744073709551616 + y) / z < 18446744073709551616 := by
        refine Int.ediv_lt_of_lt_mul hz ?_
        have : (x + 1) * 18446744073709551616 ≤ z * 18446744073709551616 := Int.mul_le_mul_of_nonneg_right (by omega) (by decide)
        rw [Int.mul_comm 18446744073709551616 z]
        omega
      have hE := div_any x y z x0 y0 y1 (by omega) z1
      rw [Int.mul_comm z] at hdm
      obtain ⟨k1, k2⟩ := whole_math x y _ _ z x0 x1 y0 y1 hdm
      have HA := fun W => add_any _ _ _ _ (wf_wrap ((x * 18446744073709551616 + y) / z * z)) (wf_of (n := (x * 18446744073709551616 + y) % z) ⟨by omega, by omega⟩) W
      rw [val_hl] at HA
      rw [num_of ⟨k1.symm, k2.symm⟩] at HA
      exact pf_walk x y z _ _ 0 _ _ eml y0 x0 z0 HM HN HD hE (Or.inr (Or.inr ⟨by rw [beq_eq_false_iff_ne]; exact c1, c2, rfl, r1, _, _, _, _, _, rfl, mul_any _ z q0 q1 z0 z1, uns_any _ r0 (by omega), HA⟩)) w
end Go.Proofs.YtbobhjgndgaoaaaDoor
