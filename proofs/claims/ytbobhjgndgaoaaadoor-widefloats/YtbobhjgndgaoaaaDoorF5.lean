/- THE DOCUMENT's FLOAT: THE WALK. Own work of the verifier. -/
import Derived.Test.YtbobhjgndgaoaaaDoorF4
namespace Go.Proofs.YtbobhjgndgaoaaaDoor
open Go.RowKit Go.Sort

theorem low_one (m : Nat) (h : m < 18446744073709551616) : bits .and .u64 (m : Int) 1 = ((m % 2 : Nat) : Int) := by
  have := u64_and_nat m 1 h (by decide)
  rw [show ((1 : Nat) : Int) = 1 from rfl] at this
  rw [this, nat_mask1]
/-- How the end of it goes. -/
theorem tail_cases (N n : Nat) (hN : N ≠ 0) (hn : N.log2 + 1 = n) (h2 : n ≤ 128) (m : Nat) (em : up (lw N (n - 53)) (53 - n) = m) :
    4503599627370496 ≤ m ∧ m < 9007199254740992 ∧ ∃ r, fword N = (n + 1021) * 4503599627370496 + (m + r) ∧ (halfB N (n - 53) = false ∧ r = 0 ∨ halfB N (n - 53) = true ∧ overB N (n - 53) = true ∧ r = 1 ∨
      halfB N (n - 53) = true ∧ overB N (n - 53) = false ∧ (bits .and .u64 (m : Int) 1 == 1) = true ∧ r = 1 ∨ halfB N (n - 53) = true ∧ overB N (n - 53) = false ∧ (bits .and .u64 (m : Int) 1 == 1) = false ∧ r = 0) := by
  obtain ⟨f1, f2, f3, f4⟩ := fword_m N n hN hn h2
  rw [em] at f1 f2 f3 f4
  refine ⟨f2, f3, rb N (n - 53), f1, ?_⟩
  rw [low_one m (by omega)]
  by_cases h : n ≤ 53
  · left
    rw [show n - 53 = 0 from by omega]
    exact ⟨half_0 N, by unfold rb; simp [Nat.mod_one]⟩
  · rw [if_neg h] at f4
    rcases rb_cases N (n - 53) m f4 with k | k | ⟨k1, k2, k3, k4⟩ | ⟨k1, k2, k3, k4⟩
    · exact Or.inl k
    · exact Or.inr (Or.inl k)
    · exact Or.inr (Or.inr (Or.inl ⟨k1, k2, by rw [k3]; rfl, k4⟩))
    · exact Or.inr (Or.inr (Or.inr ⟨k1, k2, by rw [k3]; rfl, k4⟩))

set_option maxHeartbeats 8000000 in
set_option maxRecDepth 100000 in
theorem reffloat_w (ah al : Int) (N n : Nat) (hN : N ≠ 0) (hN2 : N < 340282366920938463463374607431768211456) (hn : N.log2 + 1 = n) (hn1 : n ≤ 128)
    (HS : Hid (∀ W, Calls Tryd.prog 41 #[.agg #[.int .i64 ah, .int .u64 al]] W fun e w' => e = .returned (.tuple #[.int .u64 (hw N 0 : Int), .int .u64 (lw N 0 : Int)]) ∧ Below W.heap.size W w')) (w : World) :
    Calls Tryd.prog 30 #[.agg #[.int .i64 ah, .int .u64 al]] w fun e w' =>
      e = .returned (.int .u64 ((if ah < 0 then 9223372036854775808 + fword N else fword N : Nat) : Int)) ∧ Below w.heap.size w w' := by
  have HB : Hid _ := fun W => refbits_any N hN hN2 W
  have hb0 := words_bound N 0 hN2
  rw [Nat.pow_zero, Nat.div_one] at hb0
  have hgo : ((hw N 0 : Int) == 0) = false ∨ ((hw N 0 : Int) == 0) = true ∧ ((lw N 0 : Int) == 0) = false := by
    by_cases c : hw N 0 = 0
    · right; rw [c]; refine ⟨rfl, ?_⟩; rw [beq_eq_false_iff_ne]; omega
    · left; rw [beq_eq_false_iff_ne]; omega
  have HW : Hid _ := fun k => half_words N k hN2
  have HI : Hid _ := fun k => bit_word N k hN2
  have HG : Hid _ := fun k => words_bound N k hN2
  have HT : Hid _ := tail_cases N n hN hn hn1
  have hF : Hid (fword N < 9223372036854775808) := by have := fword_bounds N hN (by omega); unfold Hid; omega
  rw [hn] at HB
  have hn0 : 1 ≤ n := by omega
  generalize fword N = F at *
  clear hn hN hb0 hN2
  go_enter Tryd.func30, Tryd.ntmps30
  go_wp2_with fail
  refine (HS.out _).mono ?_
  rintro e w1 ⟨rfl, hb1⟩
  have hc : w1.cell? ⟨w.heap.size, 0, none⟩ = some (.int .i64 ah) := (own2 hb1).1
  have HBel : Hid _ := (bel1 w _).trans (hb1.mono (by simp))
  clear hb1
  rcases hgo with g1 | ⟨g1, g2⟩
  all_goals
    go_wp2_with fail
    refine (HB.out _).mono ?_
    rintro e w' ⟨rfl, rfl⟩
    go_wp2_with fail
    go_loop [3, 4, 7, 8, 9] (fun a b c d e => ∃ k : Nat, k ≤ n - 53 ∧ a = .int .u64 (hw N k : Int) ∧ b = .int .u64 (lw N k : Int) ∧ c = .bool (overB N k) ∧ d = .bool (halfB N k) ∧ e = .int .i64 (k : Int)) (fun _ _ _ _ e => ((n : Int) - intOf e).toNat)
    case atStart => exact ⟨0, by omega, rfl, rfl, by rw [over_0], by rw [half_0], rfl⟩
    case round =>
      obtain ⟨k, hk, rfl, rfl, rfl, rfl, rfl⟩ := hrel
      by_cases hlt : k < n - 53
      · have hlt' : (k : Int) < (n : Int) - 53 := by omega
        obtain ⟨s1, s2⟩ := HW.out k
        have s3 := HI.out k
        have s4 := half_step N k
        have HO : Hid _ := over_step N k
        by_cases c : overB N k = true
        · rw [c]
          go_wp2
          go_round
          case rel => exact ⟨k + 1, by omega, rfl, rfl, by rw [HO.out, c]; rfl, by go_num, by go_num⟩
          case measure => simp [intOf]; omega
        · have c' : overB N k = false := by simpa using c
          rw [c']
          go_wp2
          go_round
          case rel => exact ⟨k + 1, by omega, rfl, rfl, by rw [HO.out, c']; rfl, by go_num, by go_num⟩
          case measure => simp [intOf]; omega
      · have hlt' : ¬ (k : Int) < (n : Int) - 53 := by omega
        have ek : Hid (k = n - 53) := by unfold Hid; omega
        have HU : Hid (∀ j, j ≤ 53 - n → up (lw N k) j < 9007199254740992) := by
          intro j hj
          have := (HT.out _ rfl).2.1
          rw [← ek.out] at this
          refine Nat.lt_of_le_of_lt ?_ this
          unfold up
          exact Nat.mul_le_mul_left _ (Nat.pow_le_pow_right (by decide) hj)
        clear hk hlt
        go_wp2
        go_loop [4, 10] (fun a b => ∃ j : Nat, j ≤ 53 - n ∧ a = .int .u64 (up (lw N k) j : Int) ∧ b = .int .i64 ((n : Int) - 53 + (j : Int))) (fun _ b => (-(intOf b)).toNat)
        case atStart => exact ⟨0, by omega, by rw [up_0], by go_num⟩
        case round =>
          obtain ⟨j, hj, rfl, rfl⟩ := hrel
          have hu := HU.out j hj
          by_cases hlt2 : j < 53 - n
          · have hlt3 : (n : Int) - 53 + (j : Int) < 0 := by omega
            have hst : Hid _ := up_step (lw N k) j (by omega)
            have hw2 : (up (lw N k) j : Int) * 2 = (up (lw N k) (j + 1) : Int) := by
              have := hst.out
              rw [IntKind.wrap_u64] at this
              omega
            go_wp2
            go_round
            case rel => exact ⟨j + 1, by omega, rfl, by go_num⟩
            case measure => simp [intOf]; omega
          · have hlt3 : ¬ (n : Int) - 53 + (j : Int) < 0 := by omega
            have em : up (lw N (n - 53)) (53 - n) = up (lw N k) j := by rw [← ek.out, show 53 - n = j from by omega]
            obtain ⟨m1, m2, r, hFr, hT⟩ := HT.out _ em
            rw [← ek.out] at hT
            clear em hu hj hlt2 HU
            generalize up (lw N k) j = m at *
            generalize halfB N k = hf at *
            generalize overB N k = ov at *
            have HFr : Hid _ := hFr
            clear hFr
            have sg : Hid _ := sign_word F hF.out
            have sg' := sg.out
            have tm : (if r = 0 then ((m : Int) == 9007199254740992) = false else True) ∧ r ≤ 1 := by
              rcases hT with ⟨_, rfl⟩ | ⟨_, _, rfl⟩ | ⟨_, _, _, rfl⟩ | ⟨_, _, _, rfl⟩
              · exact ⟨by rw [if_pos rfl, beq_eq_false_iff_ne]; omega, by decide⟩
              · exact ⟨by rw [if_neg (by decide)]; trivial, by decide⟩
              · exact ⟨by rw [if_neg (by decide)]; trivial, by decide⟩
              · exact ⟨by rw [if_pos rfl, beq_eq_false_iff_ne]; omega, by decide⟩
            have t0 : r = 0 → ((m : Int) == 9007199254740992) = false ∧ ∃ f : Nat, bits .and .u64 (m : Int) 4503599627370495 = (f : Int) ∧ bits .or .u64 (((n : Int) - 1 + 1023) * 4503599627370496) (f : Int) = (F : Int) := by
              intro h0
              rw [if_pos h0] at tm
              rcases tail_math n m 0 F (m : Int) (by simp) m1 m2 hn1 (by decide) (by rw [← h0]; exact HFr.out) with t | ⟨t, _⟩
              · exact t
              · rw [tm.1] at t; cases t
            have t1 : Hid (r = 1 → _) := fun h1 => tail_math n m 1 F ((m : Int) + 1) (by omega) m1 m2 hn1 (by decide) (by rw [← h1]; exact HFr.out)
            clear tm HFr
            have T0 : Hid _ := t0
            clear t0
            rcases hT with ⟨rfl, h0⟩ | ⟨rfl, rfl, h1⟩ | ⟨rfl, rfl, o, h1⟩ | ⟨rfl, rfl, o, h0⟩
            · obtain ⟨x1, f, x2, x3⟩ := T0.out h0
              clear h0
              by_cases hneg : ah < 0
              all_goals
                go_wp2
                go_ret
                exact ⟨rfl, HBel.out⟩
            · rcases t1.out h1 with ⟨x1, f, x2, x3⟩ | ⟨x1, x2, x3⟩
              all_goals
                clear h1
                by_cases hneg : ah < 0
                all_goals
                  go_wp2
                  go_ret
                  exact ⟨rfl, HBel.out⟩
            · rcases t1.out h1 with ⟨x1, f, x2, x3⟩ | ⟨x1, x2, x3⟩
              all_goals
                clear h1
                by_cases hneg : ah < 0
                all_goals
                  go_wp2
                  go_ret
                  exact ⟨rfl, HBel.out⟩
            · obtain ⟨x1, f, x2, x3⟩ := T0.out h0
              clear h0
              by_cases hneg : ah < 0
              all_goals
                go_wp2
                go_ret
                exact ⟨rfl, HBel.out⟩
set_option maxHeartbeats 400000 in
theorem reffloat_zero (ah al : Int) (_ : 0 ≤ ah) (HS : Hid (∀ W, Calls Tryd.prog 41 #[.agg #[.int .i64 ah, .int .u64 al]] W fun e w' => e = .returned (.tuple #[.int .u64 0, .int .u64 0]) ∧ Below W.heap.size W w')) (w : World) :
    Calls Tryd.prog 30 #[.agg #[.int .i64 ah, .int .u64 al]] w fun e w' => e = .returned (.int .u64 0) ∧ Below w.heap.size w w' := by
  go_enter Tryd.func30, Tryd.ntmps30
  go_wp2_with fail
  refine (HS.out _).mono ?_
  rintro e w1 ⟨rfl, hb1⟩
  have HBel : Hid _ := (bel1 w _).trans (hb1.mono (by simp))
  clear hb1
  go_wp2
  go_ret
  exact ⟨rfl, HBel.out⟩
theorem reffloat_any (ah al : Int) (h1 : Wf ah al) (w : World) :
    Calls Tryd.prog 30 #[.agg #[.int .i64 ah, .int .u64 al]] w fun e w' => e = .returned (.int .u64 ((fbits (val ah al) : Nat) : Int)) ∧ Below w.heap.size w w' := by
  obtain ⟨m0, m1, m2, m3⟩ := mag_le h1
  have hm := fun W => size_any ah al h1 W
  have hN0 := mag_0 (val ah al)
  have hv := val_neg h1
  have hif : fbits (val ah al) = if ah < 0 then 9223372036854775808 + fword (mag (val ah al)).toNat else fword (mag (val ah al)).toNat := by
    unfold fbits
    by_cases hn : ah < 0
    · rw [if_pos hn, if_pos (hv.2 hn)]
    · rw [if_neg hn, if_neg (fun h => hn (hv.1 h))]
  rw [hif]
  have hz : mag (val ah al) = 0 → 0 ≤ ah := by
    intro h
    have : val ah al = 0 := by unfold mag at h; split at h <;> omega
    rcases Int.lt_or_le ah 0 with c | c
    · have := hv.2 c; omega
    · exact c
  have hvl := val_hl (mag (val ah al))
  clear hif hv
  obtain ⟨M, hM⟩ : ∃ M, M = mag (val ah al) := ⟨_, rfl⟩
  rw [← hM] at hm m0 m1 m2 m3 hN0 hz hvl ⊢
  clear hM
  obtain ⟨N, rfl⟩ := Int.eq_ofNat_of_zero_le hN0
  rw [Int.toNat_natCast]
  have k1 : hiOf (N : Int) = (hw N 0 : Int) := by unfold hiOf hw; rw [Nat.pow_zero, Nat.div_one]; omega
  have k2 : loOf (N : Int) = (lw N 0 : Int) := by unfold loOf lw; rw [Nat.pow_zero, Nat.div_one]; omega
  by_cases hN : N = 0
  · subst hN
    have hn := hz rfl
    rw [if_neg (by omega), fword_zero]
    exact reffloat_zero ah al hn hm w
  · have hN2 : N < 340282366920938463463374607431768211456 := by
      unfold val at hvl
      omega
    rw [k1, k2] at hm
    have hlog : N.log2 < 128 := (Nat.log2_lt hN).2 (by rw [show (2 : Nat) ^ 128 = 340282366920938463463374607431768211456 from by decide]; exact hN2)
    exact reffloat_w ah al N _ hN hN2 rfl (by omega) hm w
end Go.Proofs.YtbobhjgndgaoaaaDoor
