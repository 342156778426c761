/- shouldRoundUp, RoundedInteger. Own work of the verifier. -/
import Derived.Test.YtmejmohambhaaaaGreatDoorDC5
namespace Go.Proofs.YtmejmohambhaaaaGreatDoor
open Go.RowKit

/-- Yes or no. -/
def TellsB (e : Ending) : Prop := ∃ b : Bool, e = .returned (.bool b)
/-- A word. -/
def TellsU (e : Ending) : Prop := ∃ v : Nat, e = .returned (.int .u64 (v : Int)) ∧ v < 18446744073709551616
set_option maxHeartbeats 2000000 in
set_option maxRecDepth 100000 in
theorem round_some (g : Nat) (D : Nat → Nat) (n : Nat) (dp : Int) (ng tr : Bool) (x : Int) (hG : Good D n) (w : World) (h : DecAt g D n dp ng tr w) :
    Calls Tryz.prog 106 #[.pointer (some ⟨g, 0, none⟩), .int .i64 x] w fun e w' => TellsB e ∧ w' = w := by
  have hn := hG.top
  have c1 := h.nd
  by_cases hx : x < 0
  · go_enter Tryz.func106, Tryz.ntmps106
    go_wp2_with fail
    go_ret
    exact ⟨⟨_, rfl⟩, rfl⟩
  · obtain ⟨m, rfl⟩ : ∃ m : Nat, x = (m : Int) := ⟨x.toNat, by omega⟩
    by_cases hm : n ≤ m
    · have hm' : (n : Int) ≤ (m : Int) := by omega
      go_enter Tryz.func106, Tryz.ntmps106
      go_wp2_with fail
      go_ret
      exact ⟨⟨_, rfl⟩, rfl⟩
    · have hm' : ¬ (n : Int) ≤ (m : Int) := by omega
      have c2 := h.dig m (by omega)
      have c3 := h.tr
      have hd := hG.dig m (by omega)
      by_cases hhalf : D m = 53 ∧ m + 1 = n
      · have t1 : ((D m : Int) == 53) = true := by rw [beq_iff_eq]; omega
        have t2 : ((m : Int) + 1 == (n : Int)) = true := by rw [beq_iff_eq]; omega
        cases tr
        · rcases Nat.eq_zero_or_pos m with h0 | h0
          · have t3 : decide ((0 : Int) < (m : Int)) = false := by rw [decide_eq_false_iff_not]; omega
            have t4 : decide (0 < m) = false := by rw [decide_eq_false_iff_not]; omega
            clear h0
            go_enter Tryz.func106, Tryz.ntmps106
            go_wp2_with fail
            go_ret
            exact ⟨⟨_, rfl⟩, rfl⟩
          · obtain ⟨q, rfl⟩ : ∃ q, m = q + 1 := ⟨m - 1, by omega⟩
            have c4 := h.dig q (by omega)
            have hd4 := hG.dig q (by omega)
            go_enter Tryz.func106, Tryz.ntmps106
            go_wp2_with fail
            go_ret
            exact ⟨⟨_, rfl⟩, rfl⟩
        · go_enter Tryz.func106, Tryz.ntmps106
          go_wp2_with fail
          go_ret
          exact ⟨⟨_, rfl⟩, rfl⟩
      · by_cases h5 : D m = 53
        · have t1 : ((D m : Int) == 53) = true := by rw [beq_iff_eq]; omega
          have t2 : ((m : Int) + 1 == (n : Int)) = false := by rw [beq_eq_false_iff_ne]; omega
          go_enter Tryz.func106, Tryz.ntmps106
          go_wp2_with fail
          go_ret
          exact ⟨⟨_, rfl⟩, rfl⟩
        · have t1 : ((D m : Int) == 53) = false := by rw [beq_eq_false_iff_ne]; omega
          go_enter Tryz.func106, Tryz.ntmps106
          go_wp2_with fail
          go_ret
          exact ⟨⟨_, rfl⟩, rfl⟩
theorem wrapU (x : Int) : ∃ v : Nat, v < 18446744073709551616 ∧ IntKind.u64.wrap x = (v : Int) := by
  refine ⟨(x % 18446744073709551616).toNat, by omega, ?_⟩
  show x % 18446744073709551616 = _
  omega
set_option maxHeartbeats 2000000 in
set_option maxRecDepth 100000 in
theorem integer_some (g : Nat) (D : Nat → Nat) (n : Nat) (dp : Int) (ng tr : Bool) (hG : Good D n) (d0 : -1000000000 ≤ dp) (d1 : dp ≤ 1000000000) (w : World) (h : DecAt g D n dp ng tr w) :
    Calls Tryz.prog 135 #[.pointer (some ⟨g, 0, none⟩)] w fun e w' => TellsU e ∧ w' = w := by
  have hn := hG.top
  have c1 := h.nd
  have c2 := h.dp
  have HU : Hid _ := fun x => round_some g D n dp ng tr x hG w h
  have H : Hid _ := h
  have HG : Hid _ := hG
  clear h hG
  by_cases h20 : 20 < dp
  · go_enter Tryz.func135, Tryz.ntmps135
    go_wp2_with fail
    go_ret
    exact ⟨⟨_, rfl, by decide⟩, rfl⟩
  · go_enter Tryz.func135, Tryz.ntmps135
    go_upto_block 0 with fail
    go_cut [3, 4] from 10 (fun i v W => ∃ (j m : Nat), i = .int .i64 (j : Int) ∧ j ≤ 20 ∧ v = .int .u64 (m : Int) ∧ m < 18446744073709551616 ∧ W = w)
    case first =>
      as_aux_lemma =>
        go_wp2_with fail
        go_loopw [3, 4] (fun i v W => ∃ (j m : Nat), i = .int .i64 (j : Int) ∧ j ≤ 20 ∧ v = .int .u64 (m : Int) ∧ m < 18446744073709551616 ∧ W = w) (fun i _ _ => 21 - (intOf i).toNat)
        case atStart => exact ⟨0, 0, rfl, by omega, rfl, by decide, rfl⟩
        case round =>
          obtain ⟨j, m, rfl, hj, rfl, hm, rfl⟩ := hrel
          by_cases hjd : (j : Int) < dp
          · by_cases hjn : (j : Int) < (n : Int)
            · have c3 := H.out.dig j (by omega)
              have hd := HG.out.dig j (by omega)
              as_aux_lemma =>
                go_wp2_with fail
                obtain ⟨v, hv, hw⟩ := wrapU (IntKind.u64.wrap ((m : Int) * 10) + ((D j : Int) - 48))
                rw [hw]
                exact ⟨⟨j + 1, v, by go_num, by omega, rfl, hv, True.intro⟩, by simp [intOf]; omega⟩
            · as_aux_lemma =>
                go_wp2_with fail
                go_meet
                exact ⟨j, m, rfl, hj, rfl, hm, rfl⟩
          · as_aux_lemma =>
              go_wp2_with fail
              go_meet
              exact ⟨j, m, rfl, hj, rfl, hm, rfl⟩
    case rest =>
    obtain ⟨j, m, rfl, hj, rfl, hm, rfl⟩ := hcut
    go_upto_block 2 with fail
    go_cut [3, 4] from 10 (fun i v W => ∃ (j m : Nat), i = .int .i64 (j : Int) ∧ v = .int .u64 (m : Int) ∧ m < 18446744073709551616 ∧ W = wc)
    case first =>
      as_aux_lemma =>
        go_wp2_with fail
        go_loopw [3, 4] (fun i v W => ∃ (j m : Nat), i = .int .i64 (j : Int) ∧ j ≤ 20 ∧ v = .int .u64 (m : Int) ∧ m < 18446744073709551616 ∧ W = wc) (fun i _ _ => 21 - (intOf i).toNat)
        case atStart => exact ⟨j, m, rfl, by omega, rfl, hm, rfl⟩
        case round =>
          obtain ⟨j, m, rfl, hj, rfl, hm, rfl⟩ := hrel
          by_cases hjd : (j : Int) < dp
          · as_aux_lemma =>
              go_wp2_with fail
              obtain ⟨v, hv, hw⟩ := wrapU ((m : Int) * 10)
              rw [hw]
              exact ⟨⟨j + 1, v, by go_num, by omega, rfl, hv, True.intro⟩, by simp [intOf]; omega⟩
          · as_aux_lemma =>
              go_wp2_with fail
              go_meet
              exact ⟨j, m, rfl, rfl, hm, rfl⟩
    case rest =>
    obtain ⟨j, m, rfl, rfl, hm, rfl⟩ := hcut
    go_wp2_with fail
    refine (HU.out _).mono ?_
    rintro e w' ⟨⟨b, rfl⟩, rfl⟩
    cases b
    · as_aux_lemma =>
        go_wp2_with fail
        go_ret
        exact ⟨⟨_, rfl, hm⟩, rfl⟩
    · as_aux_lemma =>
        go_wp2_with fail
        go_ret
        obtain ⟨v, hv, hw⟩ := wrapU ((m : Int) + 1)
        exact ⟨⟨v, congrArg (fun x => Ending.returned (.int .u64 x)) hw, hv⟩, rfl⟩
end Go.Proofs.YtmejmohambhaaaaGreatDoor
