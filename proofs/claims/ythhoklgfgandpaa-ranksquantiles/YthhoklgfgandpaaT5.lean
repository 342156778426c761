import Derived.Test.YthhoklgfgandpaaLeaf
import Derived.Test.YthhoklgfgandpaaShelf
import Derived.Test.YthhoklgfgandpaaDivArith
namespace Go.Proofs.Ythhoklgfgandpaa
open Go.RowKit

theorem low32 (x : Int) (h0 : 0 ≤ x) (h1 : x < 18446744073709551616) : bits .and .u64 x 4294967295 = x % 4294967296 := by
  obtain ⟨n, rfl⟩ := Int.eq_ofNat_of_zero_le h0
  have := u64_and_nat n 4294967295 (by omega) (by decide)
  rw [show ((4294967295 : Nat) : Int) = 4294967295 from rfl] at this
  rw [this, nat_mask32]; omega

set_option maxHeartbeats 4000000 in
set_option maxRecDepth 100000 in
/-- The walk of bits.Div64 at a divisor whose shifted parts are known. -/
theorem div64_w (hi lo y s Y U L h n u1 u0 N R : Int) (h0 : 0 < hi) (_h1 : 0 ≤ lo) (_h2 : lo < 18446744073709551616) (h3 : hi < y) (h4 : y < 18446744073709551616)
    (hs0 : 0 ≤ s) (hs1 : s ≤ 63) (HS : Hid (s = 64 - (Lib.bitLen y.toNat : Int)))
    (eY : IntKind.u64.wrap (y * 2 ^ s.toNat) = Y) (eU : bits .or .u64 (IntKind.u64.wrap (hi * 2 ^ s.toNat)) (lo / 2 ^ (64 - s).toNat) = U) (eL : IntKind.u64.wrap (lo * 2 ^ s.toNat) = L)
    (eh : Y / 4294967296 = h) (en : bits .and .u64 Y 4294967295 = n) (e1 : L / 4294967296 = u1) (e0 : bits .and .u64 L 4294967295 = u0)
    (z1 : DSize U u1 h n) (HY : Hid (Y = h * 4294967296 + n)) (hu0 : 0 ≤ u0) (hu1 : u0 < 4294967296) (_hL0 : 0 ≤ L) (_hL1 : L < 18446744073709551616) (hU1 : U < 18446744073709551616) (hY0 : 0 ≤ Y) (hY1 : Y < 18446744073709551616)
    (fin : ∀ q1 q0 T : Int, DEnd U u1 h n q1 → T = U * 4294967296 + u1 - q1 * Y → DEnd T u0 h n q0 → q1 * 4294967296 + q0 = N ∧ (T * 4294967296 + u0 - q0 * Y) / 2 ^ s.toNat = R) (w : World) :
    Calls Try.prog 58 #[.int .u64 hi, .int .u64 lo, .int .u64 y] w fun e w' =>
      e = .returned (.tuple #[.int .u64 N, .int .u64 R]) ∧ w' = w := by
  have hz : (hi == 0) = false := by rw [beq_eq_false_iff_ne]; omega
  have hz' : (y == 0) = false := by rw [beq_eq_false_iff_ne]; omega
  have s1 := dinv_start z1
  have r1 := dinv_rest z1
  have FIN : Hid _ := fin
  have Z1 : Hid _ := z1
  have S1 : Hid _ := s1
  obtain ⟨r11, r12, r13, r14, r15, r16⟩ := r1
  obtain ⟨z11, z12, z13, z14, z15, z16, z17, z18⟩ := z1
  clear fin s1
  have hU0 : 0 ≤ U := z17
  have hh0 : 0 < h := by omega
  have hne : ¬ h = 0 := by omega
  clear z18
  go_enter Try.func58, Try.ntmps58
  go_wp2_with (go_at_call 73; refine (Try.bits_LeadingZeros64 _ _ (by omega) (by omega)).mono ?_; rw [← HS.out]; rintro e w' ⟨rfl, rfl⟩)
  go_loop [15, 16] (fun a b => ∃ q r : Int, a = .int .u64 q ∧ b = .int .u64 r ∧ DInv U u1 h n q r ∧ r < 4294967296 ∧ q < 8589934592) (fun a _ => (intOf a).toNat)
  case atStart => exact ⟨_, _, rfl, rfl, S1.out, r12, r16⟩
  case round =>
    obtain ⟨q, r, rfl, rfl, iv, hr, hq⟩ := hrel
    have IV : Hid _ := iv
    have ivq := iv.q0
    have ivr := iv.r0
    clear iv
    have hqn0 : 0 ≤ q * n := Int.mul_nonneg ivq z13
    by_cases t : 4294967296 ≤ q
    · obtain ⟨st, sq⟩ := dinv_step Z1.out IV.out (Or.inl t)
      have ST : Hid _ := st
      clear st
      by_cases tr : 4294967296 ≤ r + h
      · have en1 := dinv_break Z1.out ST.out tr
        have dl1 := dend_lt Z1.out en1
        obtain ⟨T, hT⟩ : ∃ T : Int, T = U * 4294967296 + u1 - (q - 1) * Y := ⟨_, rfl⟩
        have dt := div_T HY.out hY1 en1
        rw [← hT] at dt
        obtain ⟨eT, T0, T1⟩ := dt
        have z2 : DSize T u0 h n := ⟨z11, z12, z13, z14, hu0, hu1, T0, by rw [← HY.out]; exact T1⟩
        have s2 := dinv_start z2
        obtain ⟨r21, r22, r23, r24, r25, r26⟩ := dinv_rest z2
        have HT : Hid _ := hT
        have EN1 : Hid _ := en1
        have Z2 : Hid _ := z2
        have S2 : Hid _ := s2
        have e10 := en1.q0
        have T2 : T < 18446744073709551616 := by omega
        clear hT en1 z2 s2 T1
        go_wp2
        go_loop [18, 16] (fun a b => ∃ q r : Int, a = .int .u64 q ∧ b = .int .u64 r ∧ DInv T u0 h n q r ∧ r < 4294967296 ∧ q < 8589934592) (fun a _ => (intOf a).toNat)
        case atStart => exact ⟨_, _, rfl, rfl, S2.out, r22, r26⟩
        case round =>
          obtain ⟨p, g, rfl, rfl, jv, hg, hp⟩ := hrel
          have JV : Hid _ := jv
          have jvq := jv.q0
          have jvr := jv.r0
          clear jv
          have hpn0 : 0 ≤ p * n := Int.mul_nonneg jvq z13
          by_cases t3 : 4294967296 ≤ p
          · obtain ⟨st, sq⟩ := dinv_step Z2.out JV.out (Or.inl t3)
            have ST : Hid _ := st
            clear st
            by_cases tr : 4294967296 ≤ g + h
            · have en2 := dinv_break Z2.out ST.out tr
              have dl2 := dend_lt Z2.out en2
              obtain ⟨eX, X0, X1⟩ := div_T HY.out hY1 en2
              obtain ⟨f1, f2⟩ := FIN.out _ _ _ EN1.out HT.out en2
              have E2 := en2.q0
              have F1 : Hid _ := f1
              have F2 : Hid _ := f2
              clear f1 f2 en2
              go_wp2
              go_ret2
              exact ⟨by rw [F1.out, F2.out]; rfl, rfl⟩
            · go_wp2
              go_round
              case rel => exact ⟨p - 1, g + h, rfl, rfl, ST.out, by omega, by omega⟩
              case measure => simp [intOf]; omega
          · have hpn1 : p * n < 18446744073709551616 := by
              have := Int.mul_le_mul (show p ≤ 4294967295 by omega) (show n ≤ 4294967295 by omega) z13 (by omega)
              omega
            by_cases t4 : 4294967296 * g + u0 < p * n
            · obtain ⟨st, sq⟩ := dinv_step Z2.out JV.out (Or.inr t4)
              have ST : Hid _ := st
              clear st
              by_cases tr : 4294967296 ≤ g + h
              · have en2 := dinv_break Z2.out ST.out tr
                have dl2 := dend_lt Z2.out en2
                obtain ⟨eX, X0, X1⟩ := div_T HY.out hY1 en2
                obtain ⟨f1, f2⟩ := FIN.out _ _ _ EN1.out HT.out en2
                have E2 := en2.q0
                have F1 : Hid _ := f1
                have F2 : Hid _ := f2
                clear f1 f2 en2
                go_wp2
                go_ret2
                exact ⟨by rw [F1.out, F2.out]; rfl, rfl⟩
              · go_wp2
                go_round
                case rel => exact ⟨p - 1, g + h, rfl, rfl, ST.out, by omega, by omega⟩
                case measure => simp [intOf]; omega
            · have en2 := dinv_end JV.out (by omega)
              have dl2 := dend_lt Z2.out en2
              obtain ⟨eX, X0, X1⟩ := div_T HY.out hY1 en2
              obtain ⟨f1, f2⟩ := FIN.out _ _ _ EN1.out HT.out en2
              have E2 := en2.q0
              have F1 : Hid _ := f1
              have F2 : Hid _ := f2
              clear f1 f2 en2
              go_wp2
              go_ret2
              exact ⟨by rw [F1.out, F2.out]; rfl, rfl⟩
      · go_wp2
        go_round
        case rel => exact ⟨q - 1, r + h, rfl, rfl, ST.out, by omega, by omega⟩
        case measure => simp [intOf]; omega
    · have hqn1 : q * n < 18446744073709551616 := by
        have := Int.mul_le_mul (show q ≤ 4294967295 by omega) (show n ≤ 4294967295 by omega) z13 (by omega)
        omega
      by_cases t2 : 4294967296 * r + u1 < q * n
      · obtain ⟨st, sq⟩ := dinv_step Z1.out IV.out (Or.inr t2)
        have ST : Hid _ := st
        clear st
        by_cases tr : 4294967296 ≤ r + h
        · have en1 := dinv_break Z1.out ST.out tr
          have dl1 := dend_lt Z1.out en1
          obtain ⟨T, hT⟩ : ∃ T : Int, T = U * 4294967296 + u1 - (q - 1) * Y := ⟨_, rfl⟩
          have dt := div_T HY.out hY1 en1
          rw [← hT] at dt
          obtain ⟨eT, T0, T1⟩ := dt
          have z2 : DSize T u0 h n := ⟨z11, z12, z13, z14, hu0, hu1, T0, by rw [← HY.out]; exact T1⟩
          have s2 := dinv_start z2
          obtain ⟨r21, r22, r23, r24, r25, r26⟩ := dinv_rest z2
          have HT : Hid _ := hT
          have EN1 : Hid _ := en1
          have Z2 : Hid _ := z2
          have S2 : Hid _ := s2
          have e10 := en1.q0
          have T2 : T < 18446744073709551616 := by omega
          clear hT en1 z2 s2 T1
          go_wp2
          go_loop [18, 16] (fun a b => ∃ q r : Int, a = .int .u64 q ∧ b = .int .u64 r ∧ DInv T u0 h n q r ∧ r < 4294967296 ∧ q < 8589934592) (fun a _ => (intOf a).toNat)
          case atStart => exact ⟨_, _, rfl, rfl, S2.out, r22, r26⟩
          case round =>
            obtain ⟨p, g, rfl, rfl, jv, hg, hp⟩ := hrel
            have JV : Hid _ := jv
            have jvq := jv.q0
            have jvr := jv.r0
            clear jv
            have hpn0 : 0 ≤ p * n := Int.mul_nonneg jvq z13
            by_cases t3 : 4294967296 ≤ p
            · obtain ⟨st, sq⟩ := dinv_step Z2.out JV.out (Or.inl t3)
              have ST : Hid _ := st
              clear st
              by_cases tr : 4294967296 ≤ g + h
              · have en2 := dinv_break Z2.out ST.out tr
                have dl2 := dend_lt Z2.out en2
                obtain ⟨eX, X0, X1⟩ := div_T HY.out hY1 en2
                obtain ⟨f1, f2⟩ := FIN.out _ _ _ EN1.out HT.out en2
                have E2 := en2.q0
                have F1 : Hid _ := f1
                have F2 : Hid _ := f2
                clear f1 f2 en2
                go_wp2
                go_ret2
                exact ⟨by rw [F1.out, F2.out]; rfl, rfl⟩
              · go_wp2
                go_round
                case rel => exact ⟨p - 1, g + h, rfl, rfl, ST.out, by omega, by omega⟩
                case measure => simp [intOf]; omega
            · have hpn1 : p * n < 18446744073709551616 := by
                have := Int.mul_le_mul (show p ≤ 4294967295 by omega) (show n ≤ 4294967295 by omega) z13 (by omega)
                omega
              by_cases t4 : 4294967296 * g + u0 < p * n
              · obtain ⟨st, sq⟩ := dinv_step Z2.out JV.out (Or.inr t4)
                have ST : Hid _ := st
                clear st
                by_cases tr : 4294967296 ≤ g + h
                · have en2 := dinv_break Z2.out ST.out tr
                  have dl2 := dend_lt Z2.out en2
                  obtain ⟨eX, X0, X1⟩ := div_T HY.out hY1 en2
                  obtain ⟨f1, f2⟩ := FIN.out _ _ _ EN1.out HT.out en2
                  have E2 := en2.q0
                  have F1 : Hid _ := f1
                  have F2 : Hid _ := f2
                  clear f1 f2 en2
                  go_wp2
                  go_ret2
                  exact ⟨by rw [F1.out, F2.out]; rfl, rfl⟩
                · go_wp2
                  go_round
                  case rel => exact ⟨p - 1, g + h, rfl, rfl, ST.out, by omega, by omega⟩
                  case measure => simp [intOf]; omega
              · have en2 := dinv_end JV.out (by omega)
                have dl2 := dend_lt Z2.out en2
                obtain ⟨eX, X0, X1⟩ := div_T HY.out hY1 en2
                obtain ⟨f1, f2⟩ := FIN.out _ _ _ EN1.out HT.out en2
                have E2 := en2.q0
                have F1 : Hid _ := f1
                have F2 : Hid _ := f2
                clear f1 f2 en2
                go_wp2
                go_ret2
                exact ⟨by rw [F1.out, F2.out]; rfl, rfl⟩
        · go_wp2
          go_round
          case rel => exact ⟨q - 1, r + h, rfl, rfl, ST.out, by omega, by omega⟩
          case measure => simp [intOf]; omega
      · have en1 := dinv_end IV.out (by omega)
        have dl1 := dend_lt Z1.out en1
        obtain ⟨T, hT⟩ : ∃ T : Int, T = U * 4294967296 + u1 - q * Y := ⟨_, rfl⟩
        have dt := div_T HY.out hY1 en1
        rw [← hT] at dt
        obtain ⟨eT, T0, T1⟩ := dt
        have z2 : DSize T u0 h n := ⟨z11, z12, z13, z14, hu0, hu1, T0, by rw [← HY.out]; exact T1⟩
        have s2 := dinv_start z2
        obtain ⟨r21, r22, r23, r24, r25, r26⟩ := dinv_rest z2
        have HT : Hid _ := hT
        have EN1 : Hid _ := en1
        have Z2 : Hid _ := z2
        have S2 : Hid _ := s2
        have e10 := en1.q0
        have T2 : T < 18446744073709551616 := by omega
        clear hT en1 z2 s2 T1
        go_wp2
        go_loop [18, 16] (fun a b => ∃ q r : Int, a = .int .u64 q ∧ b = .int .u64 r ∧ DInv T u0 h n q r ∧ r < 4294967296 ∧ q < 8589934592) (fun a _ => (intOf a).toNat)
        case atStart => exact ⟨_, _, rfl, rfl, S2.out, r22, r26⟩
        case round =>
          obtain ⟨p, g, rfl, rfl, jv, hg, hp⟩ := hrel
          have JV : Hid _ := jv
          have jvq := jv.q0
          have jvr := jv.r0
          clear jv
          have hpn0 : 0 ≤ p * n := Int.mul_nonneg jvq z13
          by_cases t3 : 4294967296 ≤ p
          · obtain ⟨st, sq⟩ := dinv_step Z2.out JV.out (Or.inl t3)
            have ST : Hid _ := st
            clear st
            by_cases tr : 4294967296 ≤ g + h
            · have en2 := dinv_break Z2.out ST.out tr
              have dl2 := dend_lt Z2.out en2
              obtain ⟨eX, X0, X1⟩ := div_T HY.out hY1 en2
              obtain ⟨f1, f2⟩ := FIN.out _ _ _ EN1.out HT.out en2
              have E2 := en2.q0
              have F1 : Hid _ := f1
              have F2 : Hid _ := f2
              clear f1 f2 en2
              go_wp2
              go_ret2
              exact ⟨by rw [F1.out, F2.out]; rfl, rfl⟩
            · go_wp2
              go_round
              case rel => exact ⟨p - 1, g + h, rfl, rfl, ST.out, by omega, by omega⟩
              case measure => simp [intOf]; omega
          · have hpn1 : p * n < 18446744073709551616 := by
              have := Int.mul_le_mul (show p ≤ 4294967295 by omega) (show n ≤ 4294967295 by omega) z13 (by omega)
              omega
            by_cases t4 : 4294967296 * g + u0 < p * n
            · obtain ⟨st, sq⟩ := dinv_step Z2.out JV.out (Or.inr t4)
              have ST : Hid _ := st
              clear st
              by_cases tr : 4294967296 ≤ g + h
              · have en2 := dinv_break Z2.out ST.out tr
                have dl2 := dend_lt Z2.out en2
                obtain ⟨eX, X0, X1⟩ := div_T HY.out hY1 en2
                obtain ⟨f1, f2⟩ := FIN.out _ _ _ EN1.out HT.out en2
                have E2 := en2.q0
                have F1 : Hid _ := f1
                have F2 : Hid _ := f2
                clear f1 f2 en2
                go_wp2
                go_ret2
                exact ⟨by rw [F1.out, F2.out]; rfl, rfl⟩
              · go_wp2
                go_round
                case rel => exact ⟨p - 1, g + h, rfl, rfl, ST.out, by omega, by omega⟩
                case measure => simp [intOf]; omega
            · have en2 := dinv_end JV.out (by omega)
              have dl2 := dend_lt Z2.out en2
              obtain ⟨eX, X0, X1⟩ := div_T HY.out hY1 en2
              obtain ⟨f1, f2⟩ := FIN.out _ _ _ EN1.out HT.out en2
              have E2 := en2.q0
              have F1 : Hid _ := f1
              have F2 : Hid _ := f2
              clear f1 f2 en2
              go_wp2
              go_ret2
              exact ⟨by rw [F1.out, F2.out]; rfl, rfl⟩
end Go.Proofs.Ythhoklgfgandpaa
