/- THE DOCUMENT's ROUNDING. Own work of the verifier. -/
import Derived.Test.YtfilaeameofiaaaQ1
import Derived.Test.YtfilaeameofiaaaSoftMath7
namespace Go.Proofs.Ytfilaeameofiaaa
open Go.RowKit Soft

theorem half_w (M : Nat) (h : M < 18446744073709551616) : bits .or .u64 ((M : Int) / 2) ((M % 2 : Nat) : Int) = (ss M 1 : Nat) := by
  have := u64_or_nat (M / 2) (M % 2) (by omega) (by omega)
  rw [show ((M : Int) / 2) = ((M / 2 : Nat) : Int) from by omega, this, ss_one]
theorem join_w (E f : Nat) (hE : E < 4096) (hf : f < 4503599627370496) : bits .or .u64 ((E : Int) * 4503599627370496) (f : Int) = ((E * 4503599627370496 + f : Nat) : Int) := by
  have := u64_or_nat (E * 4503599627370496) f (by omega) (by omega)
  rw [show ((E : Int) * 4503599627370496) = ((E * 4503599627370496 : Nat) : Int) from by omega, this, nat_join 52 _ _ (by rw [show (2 : Nat) ^ 52 = 4503599627370496 from by decide]; omega) (by rw [show (2 : Nat) ^ 52 = 4503599627370496 from by decide]; exact hf)]
theorem sw_t (V : Nat) : ((sw true V : Nat) : Int) = 9223372036854775808 + (V : Int) := by unfold sw; rw [if_pos rfl]; omega
theorem sw_f (V : Nat) : ((sw false V : Nat) : Int) = (V : Int) := rfl
set_option maxHeartbeats 4000000 in
set_option maxRecDepth 100000 in
theorem packed_any (ng : Bool) (N D M : Nat) (hM : M < 144115188075855872) (hd : Down N D M) (hD : D ≤ 2900) (w : World) :
    Calls Try.prog 44 #[.bool ng, .int .u64 (M : Int), .int .i64 (-1074 + (D : Int))] w fun e w' => e = .returned (.int .u64 (sw ng (nrung N) : Nat)) ∧ w' = w := by
  have HB : Hid (nrung N ≤ 9218868437227405312) := nrung_le N
  go_enter Try.func44, Try.ntmps44
  go_wp2_with fail
  go_loop [1, 2] (fun a b => ∃ d m : Nat, d ≤ 2901 ∧ m < 144115188075855872 ∧ (d ≤ 2900 ∨ m < 72057594037927936) ∧ a = .int .u64 (m : Int) ∧ b = .int .i64 (-1074 + (d : Int)) ∧ Hid (Down N d m)) (fun a _ => (intOf a).toNat)
  case atStart => exact ⟨D, M, by omega, hM, .inl hD, rfl, rfl, hd⟩
  case round =>
    obtain ⟨d, m, hd1, hm1, hdm, rfl, rfl, hdn⟩ := hrel
    by_cases hlt : 72057594037927936 ≤ m
    · have hc : (72057594037927936 : Int) ≤ (m : Int) := by omega
      have a1 := and_one m (by omega)
      have a2 := half_w m (by omega)
      have hs : Hid (Down N (d + 1) (ss m 1)) := down_step hdn.out hlt
      have hb : Hid (ss m 1 < 72057594037927936) := ss_one_lt hm1
      have hb2 : Hid (ss m 1 ≤ m / 2 + 1) := (ss_one_bounds m).2
      generalize ss m 1 = m' at *
      generalize m % 2 = r at *
      go_wp2
      go_round
      case rel => exact ⟨d + 1, m', by omega, by have := hb.out; omega, .inr hb.out, rfl, by go_num, hs⟩
      case measure => have := hb.out; simp [intOf]; omega
    · have hc : ¬ (72057594037927936 : Int) ≤ (m : Int) := by omega
      go_wp2
      go_loop [1, 2] (fun a b => ∃ d m : Nat, d ≤ 2901 ∧ m < 72057594037927936 ∧ a = .int .u64 (m : Int) ∧ b = .int .i64 (-1074 + (d : Int)) ∧ Hid (Grow N d m)) (fun _ b => (intOf b + 1074).toNat)
      case atStart => exact ⟨d, m, hd1, by omega, rfl, rfl, grow_of_down hdn.out⟩
      case round =>
        clear hdn hlt hc hdm hm1 hd1
        obtain ⟨d, m, hd1, hm1, rfl, rfl, hdn⟩ := hrel
        by_cases hlt : m < 36028797018963968 ∧ 0 < d
        · obtain ⟨h1, h2⟩ := hlt
          have hc : (m : Int) < 36028797018963968 := by omega
          have hc2 : (-1074 : Int) < -1074 + (d : Int) := by omega
          have hs : Hid (Grow N (d - 1) (m * 2)) := by
            obtain ⟨d', rfl⟩ : ∃ d', d = d' + 1 := ⟨d - 1, by omega⟩
            exact grow_step hdn.out h1
          go_wp2
          go_round
          case rel => exact ⟨d - 1, m * 2, by omega, by omega, by go_num, by go_num, hs⟩
          case measure => simp [intOf]; omega
        · have hend : 36028797018963968 ≤ m ∨ d = 0 := by omega
          have HO : Hid _ := fun R => pack_out (R := R) hdn.out hm1 hend
          have a7 := and_seven m (by omega)
          have aq := and_one (m / 8) (by omega)
          obtain ⟨c, k1, k2⟩ := rne3_cases m
          have HR : Hid (m / 8 + c ≤ 9007199254740992) := by unfold Hid; omega
          have hq : (m : Int) / 8 = ((m / 8 : Nat) : Int) := by omega
          have hx : ((m : Int) < 36028797018963968 ∧ ¬ (-1074 : Int) < -1074 + (d : Int)) ∨ ¬ (m : Int) < 36028797018963968 := by omega
          have HO2 := HO.out _ k1
          clear HO k1 hdn hlt hend
          generalize m / 8 = q at *
          generalize m % 8 = r at *
          have hr : (4 : Int) < (r : Int) ∧ c = 1 ∨ (r = 4 ∧ q % 2 = 1 ∧ c = 1) ∨ (r = 4 ∧ q % 2 = 0 ∧ c = 0) ∨ (¬ (4 : Int) < (r : Int) ∧ ((r : Int) == 4) = false ∧ c = 0) := by
            rcases k2 with k | k | k | k
            · left; omega
            · right; left; omega
            · right; right; left; omega
            · right; right; right; refine ⟨by omega, ?_, by omega⟩; rw [beq_eq_false_iff_ne]; omega
          clear k2
          have hR : ∃ R : Nat, Hid (R = q + c) ∧ (c = 1 ∧ (q : Int) + 1 = (R : Int) ∨ c = 0 ∧ q = R) := by
            refine ⟨q + c, rfl, ?_⟩
            rcases hr with ⟨_, rfl⟩ | ⟨_, _, rfl⟩ | ⟨_, _, rfl⟩ | ⟨_, _, rfl⟩
            · left; omega
            · left; omega
            · right; omega
            · right; omega
          obtain ⟨R, eR, hR⟩ := hR
          rw [← eR.out] at HO2 HR
          have hinf : bits .or .u64 9218868437227405312 9223372036854775808 = 18442240474082181120 := by decide +kernel
          rcases HO2 with ⟨o1, o2⟩ | ⟨o1, o1', o2⟩ | ⟨o1, o0, o2⟩
          · have HV : Hid _ := o2
            clear o2
            have hj : bits .or .u64 (((d + 2 : Nat) : Int) * 4503599627370496) 0 = (((d + 2) * 4503599627370496 + 0 : Nat) : Int) := join_w (d + 2) 0 (by omega) (by omega)
            have hf : bits .and .u64 4503599627370496 4503599627370495 = 0 := by decide +kernel
            have hE : (-1074 : Int) + (d : Int) + 1 + 1075 = ((d + 2 : Nat) : Int) := by omega
            have hE2 : d + 2 < 4096 := by omega
            have hs : d + 2 < 2047 → bits .or .u64 (((d + 2) * 4503599627370496 + 0 : Nat) : Int) 9223372036854775808 = ((9223372036854775808 + ((d + 2) * 4503599627370496 + 0) : Nat) : Int) := fun k => or_sign _ (by omega)
            have HV2 := HV
            clear HV
            generalize d + 2 = E at *
            have ho : (2047 : Int) ≤ (E : Int) ∧ 2047 ≤ E ∨ ¬ (2047 : Int) ≤ (E : Int) ∧ E < 2047 := by omega
            generalize E * 4503599627370496 + 0 = V at *
            subst o1
            rcases ho with ⟨ho, ho'⟩ | ⟨ho, ho'⟩
            all_goals
              first
                | (have hs2 := hs ho'; clear hs; have HV : Hid (nrung N = V) := (by unfold Hid; rw [HV2.out, if_neg (by omega)]))
                | (clear hs; have HV : Hid (nrung N = 9218868437227405312) := (by unfold Hid; rw [HV2.out, if_pos ho']))
              clear HV2
              rcases hr with ⟨r1, rfl⟩ | ⟨rfl, r2, rfl⟩ | ⟨rfl, r2, rfl⟩ | ⟨r1, r2, rfl⟩
              all_goals
                rcases hR with ⟨c1, hR⟩ | ⟨c1, hR⟩
                all_goals
                  first
                    | (exfalso; revert c1; decide)
                    | skip
                all_goals
                  try subst hR
                  try rw [r2] at aq
                  clear c1
                  rcases hx with ⟨x1, x2⟩ | x1
                  all_goals
                    cases ng
                    all_goals
                      go_wp2
                      all_goals
                        go_ret
                        refine ⟨retI ?_, rfl⟩
                        rw [HV.out]
                        first | exact (sw_t _).symm | exact (sw_f _).symm | decide +kernel
          · have HV : Hid _ := o2
            clear o2
            have hj := join_w (d + 1) (R % 4503599627370496) (by omega) (by omega)
            have hf := fr_field R (by omega)
            have hE : (-1074 : Int) + (d : Int) + 1075 = ((d + 1 : Nat) : Int) := by omega
            have hE2 : d + 1 < 4096 := by omega
            have hs : d + 1 < 2047 → bits .or .u64 (((d + 1) * 4503599627370496 + R % 4503599627370496 : Nat) : Int) 9223372036854775808 = ((9223372036854775808 + ((d + 1) * 4503599627370496 + R % 4503599627370496) : Nat) : Int) := fun k => or_sign _ (by omega)
            have HV2 := HV
            clear HV
            have hb1 : (4503599627370496 : Int) ≤ (R : Int) := by omega
            have hb2 : ((R : Int) == 9007199254740992) = false := by rw [beq_eq_false_iff_ne]; omega
            generalize (d + 1) * 4503599627370496 + R % 4503599627370496 = V at *
            generalize R % 4503599627370496 = f at *
            generalize d + 1 = E at *
            have ho : (2047 : Int) ≤ (E : Int) ∧ 2047 ≤ E ∨ ¬ (2047 : Int) ≤ (E : Int) ∧ E < 2047 := by omega
            rcases ho with ⟨ho, ho'⟩ | ⟨ho, ho'⟩
            all_goals
              first
                | (have hs2 := hs ho'; clear hs; have HV : Hid (nrung N = V) := (by unfold Hid; rw [HV2.out, if_neg (by omega)]))
                | (clear hs; have HV : Hid (nrung N = 9218868437227405312) := (by unfold Hid; rw [HV2.out, if_pos ho']))
              clear HV2
              rcases hr with ⟨r1, rfl⟩ | ⟨rfl, r2, rfl⟩ | ⟨rfl, r2, rfl⟩ | ⟨r1, r2, rfl⟩
              all_goals
                rcases hR with ⟨c1, hR⟩ | ⟨c1, hR⟩
                all_goals
                  first
                    | (exfalso; revert c1; decide)
                    | skip
                all_goals
                  try subst hR
                  try rw [r2] at aq
                  clear c1
                  rcases hx with ⟨x1, x2⟩ | x1
                  all_goals
                    cases ng
                    all_goals
                      go_wp2
                      all_goals
                        go_ret
                        refine ⟨retI ?_, rfl⟩
                        rw [HV.out]
                        first | exact (sw_t _).symm | exact (sw_f _).symm | decide +kernel
          · have HV : Hid _ := o2
            have hb1 : ¬ (4503599627370496 : Int) ≤ (R : Int) := by omega
            have hb2 : ((R : Int) == 9007199254740992) = false := by rw [beq_eq_false_iff_ne]; omega
            have hs := or_sign R (by omega)
            have hE : (-1074 : Int) + (d : Int) + 1075 = 1 := by omega
            clear o2
            rcases hr with ⟨r1, rfl⟩ | ⟨rfl, r2, rfl⟩ | ⟨rfl, r2, rfl⟩ | ⟨r1, r2, rfl⟩
            all_goals
              rcases hR with ⟨c1, hR⟩ | ⟨c1, hR⟩
              all_goals
                first
                  | (exfalso; revert c1; decide)
                  | skip
              all_goals
                try subst hR
                try rw [r2] at aq
                clear c1
                rcases hx with ⟨x1, x2⟩ | x1
                all_goals
                  cases ng
                  all_goals
                    go_wp2
                    all_goals
                      go_ret
                      refine ⟨retI ?_, rfl⟩
                      rw [HV.out]
                      first | exact (sw_t _).symm | exact (sw_f _).symm | decide +kernel
end Go.Proofs.Ytfilaeameofiaaa
