/- THE DOCUMENT's SUM OF TWO FLOATS. Own work of the verifier. -/
import Derived.Test.YtaeapikhhbjlnaaGreatDoorZAP
namespace Go.Proofs.YtaeapikhhbjlnaaGreatDoor.Pr
open Go.RowKit Soft

set_option maxHeartbeats 4000000 in
set_option maxRecDepth 100000 in
theorem refadd_nan (x y : Nat) (hx : x < 18446744073709551616) (hy : y < 18446744073709551616) (h : isn x = true ∨ isn y = true) (w : World) :
    Calls Tryz.prog 186 #[.int .u64 (x : Int), .int .u64 (y : Int)] w fun e w' => e = .returned (.int .u64 (fa x y : Nat)) ∧ w' = w := by
  have HX : Hid _ := isNaN_any x hx
  have HY : Hid _ := isNaN_any y hy
  have HF : Hid (fa x y = aNaN) := by
    unfold Hid fa
    rcases h with h | h
    · rw [add_nan1 y hx h]; rfl
    · rw [add_nan2 x hy h]; rfl
  generalize isn x = n1 at *
  generalize isn y = n2 at *
  cases n1 <;> cases n2
  · exact absurd h (by decide)
  all_goals
    go_enter Tryz.func186, Tryz.ntmps186
    go_wp2_with (go_at_call 241; (first | (with_reducible refine (HX.out _).mono ?_) | (with_reducible refine (HY.out _).mono ?_)); rintro e w' ⟨rfl, rfl⟩)
    go_ret
    exact ⟨retI (by rw [HF.out]; rfl), rfl⟩
theorem sign_sw (s : Bool) (A : Nat) (h : A < 9223372036854775808) : bits .and .u64 ((sw s A : Nat) : Int) 9223372036854775808 = if s then 9223372036854775808 else 0 := by
  rw [sign_bit _ (sw_lt s h)]
  cases s
  · rw [if_neg (by decide)]; show ((A / 9223372036854775808 * 9223372036854775808 : Nat) : Int) = 0; omega
  · rw [if_pos rfl]; show (((9223372036854775808 + A) / 9223372036854775808 * 9223372036854775808 : Nat) : Int) = _; omega
theorem clear_sw (s : Bool) (A : Nat) (h : A < 9223372036854775808) : bits .andNot .u64 ((sw s A : Nat) : Int) 9223372036854775808 = (A : Int) := by
  rw [clear_sign _ (sw_lt s h), sw_mod s h]
set_option maxHeartbeats 4000000 in
set_option maxRecDepth 100000 in
theorem refadd_infGe (s t : Bool) (A B : Nat) (hA : A = 9218868437227405312) (hB : B ≤ 9218868437227405312) (w : World) :
    Calls Tryz.prog 186 #[.int .u64 ((sw s A : Nat) : Int), .int .u64 ((sw t B : Nat) : Int)] w fun e w' => e = .returned (.int .u64 (fa (sw s A) (sw t B) : Nat)) ∧ w' = w := by
  have HX : Hid _ := isNaN_any (sw s A) (sw_lt s (by omega))
  have HY : Hid _ := isNaN_any (sw t B) (sw_lt t (by omega))
  have HN : Hid _ := negative_any (sw s A) (sw_lt s (by omega))
  rw [isn_sw s (by omega), decide_eq_false (by omega)] at HX
  rw [isn_sw t (by omega), decide_eq_false (by omega)] at HY
  have c1 := clear_sw s A (by omega)
  have c2 := clear_sw t B (by omega)
  have hz : (((sw t B : Nat) : Int) == ((neg (sw s A) : Nat) : Int)) = true ∧ fa (sw s A) (sw t B) = aNaN ∨ (((sw t B : Nat) : Int) == ((neg (sw s A) : Nat) : Int)) = false ∧ fa (sw s A) (sw t B) = sw s A := by
    rw [neg_sw s (by omega)]
    by_cases hb : B = 9218868437227405312
    · subst hb
      rw [hA]
      unfold fa
      rw [add_inf_inf]
      cases s <;> cases t <;> simp <;> decide +kernel
    · right
      refine ⟨?_, ?_⟩
      · rw [beq_eq_false_iff_ne]
        have e1 := sw_mod t (show B < 9223372036854775808 by omega)
        have e2 := sw_mod (!s) (show A < 9223372036854775808 by omega)
        generalize sw t B = u1 at *
        generalize sw (!s) A = u2 at *
        omega
      · unfold fa; rw [hA, add_inf_fin s t (show B < 9218868437227405312 by omega)]; rfl
  have hi : ((A : Int) == 9218868437227405312) = true := by rw [beq_iff_eq]; omega
  have hc : ¬ (A : Int) < (B : Int) := by omega
  clear hA hB
  generalize neg (sw s A) = nx at *
  generalize fa (sw s A) (sw t B) = V at *
  generalize sw s A = x at *
  generalize sw t B = y at *
  rcases hz with ⟨z1, z2⟩ | ⟨z1, z2⟩
  all_goals
    have HZ : Hid _ := z2
    clear z2
    go_enter Tryz.func186, Tryz.ntmps186
    go_wp2_with (first | (go_at_call 241; (first | (with_reducible refine (HX.out _).mono ?_) | (with_reducible refine (HY.out _).mono ?_)); rintro e w' ⟨rfl, rfl⟩) | (go_at_call 243; with_reducible refine (HN.out _).mono ?_; rintro e w' ⟨rfl, rfl⟩))
    go_ret
    exact ⟨retI (by rw [HZ.out] <;> rfl), rfl⟩
set_option maxHeartbeats 4000000 in
set_option maxRecDepth 100000 in
theorem refadd_finGe (s t : Bool) (A B : Nat) (hA : A < 9218868437227405312) (hB : B ≤ A) (w : World) :
    Calls Tryz.prog 186 #[.int .u64 ((sw s A : Nat) : Int), .int .u64 ((sw t B : Nat) : Int)] w fun e w' => e = .returned (.int .u64 (fa (sw s A) (sw t B) : Nat)) ∧ w' = w := by
  have HX : Hid _ := isNaN_any (sw s A) (sw_lt s (by omega))
  have HY : Hid _ := isNaN_any (sw t B) (sw_lt t (by omega))
  have HPX : Hid _ := parts_any (sw s A) (sw_lt s (by omega))
  have HPY : Hid _ := parts_any (sw t B) (sw_lt t (by omega))
  rw [sw_mod s (by omega)] at HPX
  rw [sw_mod t (by omega)] at HPY
  rw [isn_sw s (by omega), decide_eq_false (by omega)] at HX
  rw [isn_sw t (by omega), decide_eq_false (by omega)] at HY
  have c1 := clear_sw s A (by omega)
  have c2 := clear_sw t B (by omega)
  have g1 := sign_sw s A (by omega)
  have g2 := sign_sw t B (by omega)
  have hi : ((A : Int) == 9218868437227405312) = false := by rw [beq_eq_false_iff_ne]; omega
  have hc : ¬ (A : Int) < (B : Int) := by omega
  have hle : B ≤ A := by omega
  have hua : upOf A ≤ 2045 := up_le hA
  have hub : upOf B ≤ upOf A := up_mono hle
  have hpa := mag_lt A
  have hpb := mag_lt B
  have h8p : (magOf A : Int) * 8 = ((8 * magOf A : Nat) : Int) := by omega
  have h8q : (magOf B : Int) * 8 = ((8 * magOf B : Nat) : Int) := by omega
  have HS : Hid (s = t → ∀ W, Calls Tryz.prog 245 #[.bool s, .int .u64 (((8 * magOf A : Nat) : Int) + (ss (8 * magOf B) (upOf A - upOf B) : Nat)), .int .i64 (-1074 + (upOf A : Int))] W fun e w' => e = .returned (.int .u64 (fa (sw s A) (sw t B) : Nat)) ∧ w' = W) := by
    rintro rfl W
    have hm := ss_mag_lt B (upOf A - upOf B)
    have h := packed_any s _ _ _ (by omega) (sum_down A B hle) (by omega) W
    rw [fa_same s A B hle hA]
    rw [Int.natCast_add] at h
    exact h
  have HD : Hid (s = !t → ∀ (N : Int), N = ((8 * magOf A : Nat) : Int) - (ss (8 * magOf B) (upOf A - upOf B) : Nat) → N ≠ 0 → ∀ W, Calls Tryz.prog 245 #[.bool s, .int .u64 N, .int .i64 (-1074 + (upOf A : Int))] W fun e w' => e = .returned (.int .u64 (fa (sw s A) (sw t B) : Nat)) ∧ w' = W) := by
    intro hst N hN h0 W
    obtain rfl : t = !s := by rw [hst]; simp
    have hm := ss_mag_lt B (upOf A - upOf B)
    have hg := dif_ge A B hle
    have h := packed_any s _ _ _ (by omega) (dif_down A B hle) (by omega) W
    rw [fa_diff s A B hle hA, if_neg (fun k => h0 (by have := (dif_zero A B hle).2 k; omega))]
    rw [show ((8 * magOf A - ss (8 * magOf B) (upOf A - upOf B) : Nat) : Int) = N from by omega] at h
    exact h
  have HE : Hid (s = !t → 8 * magOf A = ss (8 * magOf B) (upOf A - upOf B) → fa (sw s A) (sw t B) = 0) := by
    intro hst k
    obtain rfl : t = !s := by rw [hst]; simp
    rw [fa_diff s A B hle hA, if_pos ((dif_zero A B hle).1 (by omega))]
  have HG : Hid (ss (8 * magOf B) (upOf A - upOf B) ≤ 8 * magOf A) := dif_ge A B hle
  have HM : Hid (∀ k, ss (8 * magOf B) k < 72057594037927936) := ss_mag_lt B
  have HR : Hid (∀ k, k ≤ upOf A - upOf B → ss (8 * magOf B) k ≤ 1 → ss (8 * magOf B) (upOf A - upOf B) = ss (8 * magOf B) k) := fun k hk h => ss_rest _ _ _ h hk
  have HH : Hid (∀ k, ss (ss (8 * magOf B) k) 1 = ss (8 * magOf B) (k + 1)) := fun k => ss_ss _ _ _
  have hQ0 : ss (8 * magOf B) 0 = 8 * magOf B := ss_zero _
  have hP8 : 8 * magOf A < 72057594037927936 := by omega
  have hQ8 : 8 * magOf B < 72057594037927936 := by omega
  generalize fa (sw s A) (sw t B) = V at *
  generalize sw s A = x at *
  generalize sw t B = y at *
  generalize 8 * magOf A = P8 at *
  generalize 8 * magOf B = Q8 at *
  generalize magOf A = p at *
  generalize magOf B = q at *
  generalize upOf A = ua at *
  generalize upOf B = ub at *
  go_enter Tryz.func186, Tryz.ntmps186
  go_wp2_with (first | (go_at_call 241; (first | (with_reducible refine (HX.out _).mono ?_) | (with_reducible refine (HY.out _).mono ?_)); rintro e w' ⟨rfl, rfl⟩) | (go_at_call 244; (first | (with_reducible refine (HPX.out _).mono ?_) | (with_reducible refine (HPY.out _).mono ?_)); rintro e w' ⟨rfl, rfl⟩))
  go_loop [9, 11] (fun a b => ∃ k : Nat, k ≤ ua - ub ∧ a = .int .u64 (ss Q8 k : Nat) ∧ b = .int .i64 (-1074 + (ub : Int) + (k : Int))) (fun _ b => ((ua : Int) - 1074 - intOf b).toNat)
  case atStart => exact ⟨0, by omega, by rw [hQ0], by go_num⟩
  case round =>
    clear HX HY HPX HPY
    obtain ⟨k, hk, rfl, rfl⟩ := hrel
    have hmk : ss Q8 k < 72057594037927936 := HM.out k
    by_cases hlt : k < ua - ub ∧ 1 < ss Q8 k
    · obtain ⟨l1, l2⟩ := hlt
      have l3 : (-1074 : Int) + (ub : Int) + (k : Int) < -1074 + (ua : Int) := by omega
      have l4 : (1 : Int) < ((ss Q8 k : Nat) : Int) := by omega
      have a1 := and_one (ss Q8 k) (by omega)
      have a2 := half_w (ss Q8 k) (by omega)
      rw [HH.out k] at a2
      generalize ss Q8 k % 2 = r at *
      generalize ss Q8 k = m at *
      go_wp2_with fail
      go_round
      case rel => exact ⟨k + 1, by omega, rfl, by go_num⟩
      case measure => simp [intOf]; omega
    · have hK : ss Q8 (ua - ub) = ss Q8 k := by
        by_cases h1 : k = ua - ub
        · rw [h1]
        · exact HR.out k hk (by omega)
      have hx2 : (¬ (-1074 : Int) + (ub : Int) + (k : Int) < -1074 + (ua : Int)) ∨ ((-1074 : Int) + (ub : Int) + (k : Int) < -1074 + (ua : Int) ∧ ¬ (1 : Int) < ((ss Q8 k : Nat) : Int)) := by omega
      have hG2 := HG.out
      rw [hK] at HS HD HE hG2
      clear HR HH hK HM hQ0 HG hlt
      generalize ss Q8 k = m at *
      have hmm : Hid (((P8 : Int) == (m : Int)) = true ∧ P8 = m ∨ ((P8 : Int) == (m : Int)) = false ∧ (P8 : Int) - (m : Int) ≠ 0) := by
        unfold Hid
        by_cases h : P8 = m
        · left; exact ⟨by rw [beq_iff_eq]; omega, h⟩
        · right; exact ⟨by rw [beq_eq_false_iff_ne]; omega, by omega⟩
      cases s <;> cases t
      · have H := HS.out rfl
        rcases hx2 with y1 | ⟨y1, y2⟩
        all_goals
          go_wp2_with (go_at_call 245; with_reducible refine (H _).mono ?_; rintro e w' ⟨rfl, rfl⟩)
          go_ret
          exact ⟨rfl, rfl⟩
      · rcases hmm.out with ⟨m1, m2⟩ | ⟨m1, m2⟩
        · have H : Hid _ := HE.out rfl m2
          rcases hx2 with y1 | ⟨y1, y2⟩
          all_goals
            go_wp2_with fail
            go_ret
            exact ⟨retI (by rw [H.out]; rfl), rfl⟩
        · have H := HD.out rfl _ rfl m2
          rcases hx2 with y1 | ⟨y1, y2⟩
          all_goals
            go_wp2_with (go_at_call 245; with_reducible refine (H _).mono ?_; rintro e w' ⟨rfl, rfl⟩)
            go_ret
            exact ⟨rfl, rfl⟩
      · rcases hmm.out with ⟨m1, m2⟩ | ⟨m1, m2⟩
        · have H : Hid _ := HE.out rfl m2
          rcases hx2 with y1 | ⟨y1, y2⟩
          all_goals
            go_wp2_with fail
            go_ret
            exact ⟨retI (by rw [H.out]; rfl), rfl⟩
        · have H := HD.out rfl _ rfl m2
          rcases hx2 with y1 | ⟨y1, y2⟩
          all_goals
            go_wp2_with (go_at_call 245; with_reducible refine (H _).mono ?_; rintro e w' ⟨rfl, rfl⟩)
            go_ret
            exact ⟨rfl, rfl⟩
      · have H := HS.out rfl
        rcases hx2 with y1 | ⟨y1, y2⟩
        all_goals
          go_wp2_with (go_at_call 245; with_reducible refine (H _).mono ?_; rintro e w' ⟨rfl, rfl⟩)
          go_ret
          exact ⟨rfl, rfl⟩
set_option maxHeartbeats 4000000 in
set_option maxRecDepth 100000 in
theorem refadd_infLt (s t : Bool) (A B : Nat) (hA : A = 9218868437227405312) (hB : B < 9218868437227405312) (w : World) :
    Calls Tryz.prog 186 #[.int .u64 ((sw t B : Nat) : Int), .int .u64 ((sw s A : Nat) : Int)] w fun e w' => e = .returned (.int .u64 (fa (sw s A) (sw t B) : Nat)) ∧ w' = w := by
  have HX : Hid _ := isNaN_any (sw s A) (sw_lt s (by omega))
  have HY : Hid _ := isNaN_any (sw t B) (sw_lt t (by omega))
  have HN : Hid _ := negative_any (sw s A) (sw_lt s (by omega))
  rw [isn_sw s (by omega), decide_eq_false (by omega)] at HX
  rw [isn_sw t (by omega), decide_eq_false (by omega)] at HY
  have c1 := clear_sw s A (by omega)
  have c2 := clear_sw t B (by omega)
  have hz : (((sw t B : Nat) : Int) == ((neg (sw s A) : Nat) : Int)) = true ∧ fa (sw s A) (sw t B) = aNaN ∨ (((sw t B : Nat) : Int) == ((neg (sw s A) : Nat) : Int)) = false ∧ fa (sw s A) (sw t B) = sw s A := by
    rw [neg_sw s (by omega)]
    by_cases hb : B = 9218868437227405312
    · subst hb
      rw [hA]
      unfold fa
      rw [add_inf_inf]
      cases s <;> cases t <;> simp <;> decide +kernel
    · right
      refine ⟨?_, ?_⟩
      · rw [beq_eq_false_iff_ne]
        have e1 := sw_mod t (show B < 9223372036854775808 by omega)
        have e2 := sw_mod (!s) (show A < 9223372036854775808 by omega)
        generalize sw t B = u1 at *
        generalize sw (!s) A = u2 at *
        omega
      · unfold fa; rw [hA, add_inf_fin s t (show B < 9218868437227405312 by omega)]; rfl
  have hi : ((A : Int) == 9218868437227405312) = true := by rw [beq_iff_eq]; omega
  have hc : (B : Int) < (A : Int) := by omega
  clear hA hB
  generalize neg (sw s A) = nx at *
  generalize fa (sw s A) (sw t B) = V at *
  generalize sw s A = x at *
  generalize sw t B = y at *
  rcases hz with ⟨z1, z2⟩ | ⟨z1, z2⟩
  all_goals
    have HZ : Hid _ := z2
    clear z2
    go_enter Tryz.func186, Tryz.ntmps186
    go_wp2_with (first | (go_at_call 241; (first | (with_reducible refine (HX.out _).mono ?_) | (with_reducible refine (HY.out _).mono ?_)); rintro e w' ⟨rfl, rfl⟩) | (go_at_call 243; with_reducible refine (HN.out _).mono ?_; rintro e w' ⟨rfl, rfl⟩))
    go_ret
    exact ⟨retI (by rw [HZ.out] <;> rfl), rfl⟩
set_option maxHeartbeats 4000000 in
set_option maxRecDepth 100000 in
theorem refadd_finLt (s t : Bool) (A B : Nat) (hA : A < 9218868437227405312) (hB : B < A) (w : World) :
    Calls Tryz.prog 186 #[.int .u64 ((sw t B : Nat) : Int), .int .u64 ((sw s A : Nat) : Int)] w fun e w' => e = .returned (.int .u64 (fa (sw s A) (sw t B) : Nat)) ∧ w' = w := by
  have HX : Hid _ := isNaN_any (sw s A) (sw_lt s (by omega))
  have HY : Hid _ := isNaN_any (sw t B) (sw_lt t (by omega))
  have HPX : Hid _ := parts_any (sw s A) (sw_lt s (by omega))
  have HPY : Hid _ := parts_any (sw t B) (sw_lt t (by omega))
  rw [sw_mod s (by omega)] at HPX
  rw [sw_mod t (by omega)] at HPY
  rw [isn_sw s (by omega), decide_eq_false (by omega)] at HX
  rw [isn_sw t (by omega), decide_eq_false (by omega)] at HY
  have c1 := clear_sw s A (by omega)
  have c2 := clear_sw t B (by omega)
  have g1 := sign_sw s A (by omega)
  have g2 := sign_sw t B (by omega)
  have hi : ((A : Int) == 9218868437227405312) = false := by rw [beq_eq_false_iff_ne]; omega
  have hc : (B : Int) < (A : Int) := by omega
  have hle : B ≤ A := by omega
  have hua : upOf A ≤ 2045 := up_le hA
  have hub : upOf B ≤ upOf A := up_mono hle
  have hpa := mag_lt A
  have hpb := mag_lt B
  have h8p : (magOf A : Int) * 8 = ((8 * magOf A : Nat) : Int) := by omega
  have h8q : (magOf B : Int) * 8 = ((8 * magOf B : Nat) : Int) := by omega
  have HS : Hid (s = t → ∀ W, Calls Tryz.prog 245 #[.bool s, .int .u64 (((8 * magOf A : Nat) : Int) + (ss (8 * magOf B) (upOf A - upOf B) : Nat)), .int .i64 (-1074 + (upOf A : Int))] W fun e w' => e = .returned (.int .u64 (fa (sw s A) (sw t B) : Nat)) ∧ w' = W) := by
    rintro rfl W
    have hm := ss_mag_lt B (upOf A - upOf B)
    have h := packed_any s _ _ _ (by omega) (sum_down A B hle) (by omega) W
    rw [fa_same s A B hle hA]
    rw [Int.natCast_add] at h
    exact h
  have HD : Hid (s = !t → ∀ (N : Int), N = ((8 * magOf A : Nat) : Int) - (ss (8 * magOf B) (upOf A - upOf B) : Nat) → N ≠ 0 → ∀ W, Calls Tryz.prog 245 #[.bool s, .int .u64 N, .int .i64 (-1074 + (upOf A : Int))] W fun e w' => e = .returned (.int .u64 (fa (sw s A) (sw t B) : Nat)) ∧ w' = W) := by
    intro hst N hN h0 W
    obtain rfl : t = !s := by rw [hst]; simp
    have hm := ss_mag_lt B (upOf A - upOf B)
    have hg := dif_ge A B hle
    have h := packed_any s _ _ _ (by omega) (dif_down A B hle) (by omega) W
    rw [fa_diff s A B hle hA, if_neg (fun k => h0 (by have := (dif_zero A B hle).2 k; omega))]
    rw [show ((8 * magOf A - ss (8 * magOf B) (upOf A - upOf B) : Nat) : Int) = N from by omega] at h
    exact h
  have HE : Hid (s = !t → 8 * magOf A = ss (8 * magOf B) (upOf A - upOf B) → fa (sw s A) (sw t B) = 0) := by
    intro hst k
    obtain rfl : t = !s := by rw [hst]; simp
    rw [fa_diff s A B hle hA, if_pos ((dif_zero A B hle).1 (by omega))]
  have HG : Hid (ss (8 * magOf B) (upOf A - upOf B) ≤ 8 * magOf A) := dif_ge A B hle
  have HM : Hid (∀ k, ss (8 * magOf B) k < 72057594037927936) := ss_mag_lt B
  have HR : Hid (∀ k, k ≤ upOf A - upOf B → ss (8 * magOf B) k ≤ 1 → ss (8 * magOf B) (upOf A - upOf B) = ss (8 * magOf B) k) := fun k hk h => ss_rest _ _ _ h hk
  have HH : Hid (∀ k, ss (ss (8 * magOf B) k) 1 = ss (8 * magOf B) (k + 1)) := fun k => ss_ss _ _ _
  have hQ0 : ss (8 * magOf B) 0 = 8 * magOf B := ss_zero _
  have hP8 : 8 * magOf A < 72057594037927936 := by omega
  have hQ8 : 8 * magOf B < 72057594037927936 := by omega
  generalize fa (sw s A) (sw t B) = V at *
  generalize sw s A = x at *
  generalize sw t B = y at *
  generalize 8 * magOf A = P8 at *
  generalize 8 * magOf B = Q8 at *
  generalize magOf A = p at *
  generalize magOf B = q at *
  generalize upOf A = ua at *
  generalize upOf B = ub at *
  go_enter Tryz.func186, Tryz.ntmps186
  go_wp2_with (first | (go_at_call 241; (first | (with_reducible refine (HX.out _).mono ?_) | (with_reducible refine (HY.out _).mono ?_)); rintro e w' ⟨rfl, rfl⟩) | (go_at_call 244; (first | (with_reducible refine (HPX.out _).mono ?_) | (with_reducible refine (HPY.out _).mono ?_)); rintro e w' ⟨rfl, rfl⟩))
  go_loop [9, 11] (fun a b => ∃ k : Nat, k ≤ ua - ub ∧ a = .int .u64 (ss Q8 k : Nat) ∧ b = .int .i64 (-1074 + (ub : Int) + (k : Int))) (fun _ b => ((ua : Int) - 1074 - intOf b).toNat)
  case atStart => exact ⟨0, by omega, by rw [hQ0], by go_num⟩
  case round =>
    clear HX HY HPX HPY
    obtain ⟨k, hk, rfl, rfl⟩ := hrel
    have hmk : ss Q8 k < 72057594037927936 := HM.out k
    by_cases hlt : k < ua - ub ∧ 1 < ss Q8 k
    · obtain ⟨l1, l2⟩ := hlt
      have l3 : (-1074 : Int) + (ub : Int) + (k : Int) < -1074 + (ua : Int) := by omega
      have l4 : (1 : Int) < ((ss Q8 k : Nat) : Int) := by omega
      have a1 := and_one (ss Q8 k) (by omega)
      have a2 := half_w (ss Q8 k) (by omega)
      rw [HH.out k] at a2
      generalize ss Q8 k % 2 = r at *
      generalize ss Q8 k = m at *
      go_wp2_with fail
      go_round
      case rel => exact ⟨k + 1, by omega, rfl, by go_num⟩
      case measure => simp [intOf]; omega
    · have hK : ss Q8 (ua - ub) = ss Q8 k := by
        by_cases h1 : k = ua - ub
        · rw [h1]
        · exact HR.out k hk (by omega)
      have hx2 : (¬ (-1074 : Int) + (ub : Int) + (k : Int) < -1074 + (ua : Int)) ∨ ((-1074 : Int) + (ub : Int) + (k : Int) < -1074 + (ua : Int) ∧ ¬ (1 : Int) < ((ss Q8 k : Nat) : Int)) := by omega
      have hG2 := HG.out
      rw [hK] at HS HD HE hG2
      clear HR HH hK HM hQ0 HG hlt
      generalize ss Q8 k = m at *
      have hmm : Hid (((P8 : Int) == (m : Int)) = true ∧ P8 = m ∨ ((P8 : Int) == (m : Int)) = false ∧ (P8 : Int) - (m : Int) ≠ 0) := by
        unfold Hid
        by_cases h : P8 = m
        · left; exact ⟨by rw [beq_iff_eq]; omega, h⟩
        · right; exact ⟨by rw [beq_eq_false_iff_ne]; omega, by omega⟩
      cases s <;> cases t
      · have H := HS.out rfl
        rcases hx2 with y1 | ⟨y1, y2⟩
        all_goals
          go_wp2_with (go_at_call 245; with_reducible refine (H _).mono ?_; rintro e w' ⟨rfl, rfl⟩)
          go_ret
          exact ⟨rfl, rfl⟩
      · rcases hmm.out with ⟨m1, m2⟩ | ⟨m1, m2⟩
        · have H : Hid _ := HE.out rfl m2
          rcases hx2 with y1 | ⟨y1, y2⟩
          all_goals
            go_wp2_with fail
            go_ret
            exact ⟨retI (by rw [H.out]; rfl), rfl⟩
        · have H := HD.out rfl _ rfl m2
          rcases hx2 with y1 | ⟨y1, y2⟩
          all_goals
            go_wp2_with (go_at_call 245; with_reducible refine (H _).mono ?_; rintro e w' ⟨rfl, rfl⟩)
            go_ret
            exact ⟨rfl, rfl⟩
      · rcases hmm.out with ⟨m1, m2⟩ | ⟨m1, m2⟩
        · have H : Hid _ := HE.out rfl m2
          rcases hx2 with y1 | ⟨y1, y2⟩
          all_goals
            go_wp2_with fail
            go_ret
            exact ⟨retI (by rw [H.out]; rfl), rfl⟩
        · have H := HD.out rfl _ rfl m2
          rcases hx2 with y1 | ⟨y1, y2⟩
          all_goals
            go_wp2_with (go_at_call 245; with_reducible refine (H _).mono ?_; rintro e w' ⟨rfl, rfl⟩)
            go_ret
            exact ⟨rfl, rfl⟩
      · have H := HS.out rfl
        rcases hx2 with y1 | ⟨y1, y2⟩
        all_goals
          go_wp2_with (go_at_call 245; with_reducible refine (H _).mono ?_; rintro e w' ⟨rfl, rfl⟩)
          go_ret
          exact ⟨rfl, rfl⟩
theorem refadd_any (x y : Nat) (hx : x < 18446744073709551616) (hy : y < 18446744073709551616) (w : World) :
    Calls Tryz.prog 186 #[.int .u64 (x : Int), .int .u64 (y : Int)] w fun e w' => e = .returned (.int .u64 (fa x y : Nat)) ∧ w' = w := by
  cases h : isn x
  · cases k : isn y
    · obtain ⟨s, a, rfl, ha⟩ := sw_of x hx
      obtain ⟨t, b, rfl, hb⟩ := sw_of y hy
      rw [isn_sw s ha] at h
      rw [isn_sw t hb] at k
      have h := of_decide_eq_false h
      have k := of_decide_eq_false k
      by_cases hab : b ≤ a
      · by_cases hi : a = 9218868437227405312
        · exact refadd_infGe s t a b hi (by omega) w
        · exact refadd_finGe s t a b (by omega) hab w
      · rw [fa_sym _ _ hx hy]
        by_cases hi : b = 9218868437227405312
        · exact refadd_infLt t s b a hi (by omega) w
        · exact refadd_finLt t s b a (by omega) (by omega) w
    · exact refadd_nan x y hx hy (.inr k) w
  · exact refadd_nan x y hx hy (.inl h) w
end Go.Proofs.YtaeapikhhbjlnaaGreatDoor.Pr
/- LOSSES AND PAIRS, by words. Own work of the verifier. -/
namespace Go.Proofs.YtaeapikhhbjlnaaGreatDoor.Soft

def geq (x y : Nat) : Bool := !isn x && !isn y && decide (y % 9223372036854775808 ≤ x % 9223372036854775808)
/-- What rounding loses of a sum. -/
def fl (x y : Nat) : Nat := if geq x y then fa (fa x (neg (fa x y))) y else fa (fa y (neg (fa x y))) x
def putW (p : Nat × Nat) (x : Nat) : Nat × Nat := (fa p.1 x, fa p.2 (fl p.1 x))
def mergeW (p q : Nat × Nat) : Nat × Nat := (fa p.1 q.1, fa (fa p.2 q.2) (fl p.1 q.1))
theorem add_not_nan {x y r : Nat} (hx : x < 18446744073709551616) (hy : y < 18446744073709551616) (h : Ieee.double.add x y = some r) : isn r = false := by
  rcases word_cases x hx with k | ⟨s, rfl⟩ | ⟨s, a, rfl, ha⟩
  · rw [add_nan1 y hx k] at h; cases h
  · rcases word_cases y hy with k | ⟨t, rfl⟩ | ⟨t, b, rfl, hb⟩
    · rw [add_nan2 _ hy k] at h; cases h
    · rw [add_inf_inf] at h
      split at h
      · cases h; rw [isn_sw s (by omega)]; decide
      · cases h
    · rw [add_inf_fin s t hb] at h; cases h; rw [isn_sw s (by omega)]; decide
  · rcases word_cases y hy with k | ⟨t, rfl⟩ | ⟨t, b, rfl, hb⟩
    · rw [add_nan2 _ hy k] at h; cases h
    · rw [add_fin_inf t s ha] at h; cases h; rw [isn_sw t (by omega)]; decide
    · rw [add_fin s t a b ha hb] at h
      cases h
      unfold addW
      split
      · rw [isn_sw _ (by omega)]; decide
      · rw [isn_sw _ (by have := nrung_le (sv s a + sv t b).natAbs; omega)]
        exact decide_eq_false (by have := nrung_le (sv s a + sv t b).natAbs; omega)
theorem fa_can (x y : Nat) (hx : x < 18446744073709551616) (hy : y < 18446744073709551616) : one (fa x y) = fa x y := by
  unfold fa
  cases h : Ieee.double.add x y with
  | none => decide
  | some r => exact one_of_not (add_not_nan hx hy h)
theorem fl_lt (x y : Nat) : fl x y < 18446744073709551616 := by unfold fl; split <;> exact fa_lt _ _
theorem fl_can (x y : Nat) (hx : x < 18446744073709551616) (hy : y < 18446744073709551616) : one (fl x y) = fl x y := by
  unfold fl; split
  · exact fa_can _ _ (fa_lt _ _) hy
  · exact fa_can _ _ (fa_lt _ _) hx
theorem order_geq (x y : Nat) (_hx : x < 18446744073709551616) (_hy : y < 18446744073709551616) :
    (Ieee.double.order (x % 9223372036854775808) (y % 9223372036854775808) == some .gt || Ieee.double.order (x % 9223372036854775808) (y % 9223372036854775808) == some .eq) = geq x y := by
  unfold geq isn
  have ha : x % 9223372036854775808 < 9223372036854775808 := by omega
  have hb : y % 9223372036854775808 < 9223372036854775808 := by omega
  generalize x % 9223372036854775808 = a at *
  generalize y % 9223372036854775808 = b at *
  by_cases h1 : 9218868437227405312 < a
  · have := order_nan1 false a b h1 ha
    rw [show sw false a = a from rfl] at this
    rw [this, decide_eq_true h1]; rfl
  · by_cases h2 : 9218868437227405312 < b
    · have := order_nan2 false b a h2 hb
      rw [show sw false b = b from rfl] at this
      rw [this, decide_eq_true h2]; simp
    · have := order_all false false a b (by omega) (by omega)
      rw [show sw false a = a from rfl, show sw false b = b from rfl, show sr false a = (a : Int) from rfl, show sr false b = (b : Int) from rfl] at this
      rw [this, decide_eq_false h1, decide_eq_false h2]
      rcases Int.lt_trichotomy (a : Int) (b : Int) with k | k | k
      · rw [Int.compare_eq_lt.2 k, decide_eq_false (by omega)]; rfl
      · rw [show compare (a : Int) (b : Int) = .eq from Int.compare_eq_eq.2 k, decide_eq_true (by omega)]; rfl
      · rw [Int.compare_eq_gt.2 k, decide_eq_true (by omega)]; rfl
end Go.Proofs.YtaeapikhhbjlnaaGreatDoor.Soft
