/- THE CODE'S LEAVES: letters, digits. Own work of the verifier. -/
import Derived.Test.YtmphajfhilpgeabLA2
namespace Go.Proofs.Ytmphajfhilpgeab
open Go.RowKit

def isD (c : Nat) : Bool := decide (48 ≤ c ∧ c ≤ 57)
def isA (c : Nat) : Bool := decide (97 ≤ c ∧ c ≤ 122 ∨ 65 ≤ c ∧ c ≤ 90)
theorem isL_eq (c : Nat) : isL c = (isA c || isD c || decide (c = 95)) := by
  unfold isL isA isD
  rw [Bool.eq_iff_iff]
  simp only [Bool.or_eq_true, decide_eq_true_eq]
  omega
theorem cdigit_any (c : Nat) (w : World) :
    Calls Try.prog 63 #[.int .u8 (c : Int)] w fun e w' => e = .returned (.bool (isD c)) ∧ w' = w := by
  by_cases a1 : 48 ≤ c
  · have i1 : (48 : Int) ≤ (c : Int) := by omega
    by_cases a2 : c ≤ 57
    · have i2 : (c : Int) ≤ 57 := by omega
      rw [show isD c = true from decide_eq_true (by omega)]
      as_aux_lemma =>
        go_enter Try.func63, Try.ntmps63
        go_wp2_with fail
        go_ret
        exact ⟨rfl, rfl⟩
    · have i2 : ¬ (c : Int) ≤ 57 := by omega
      rw [show isD c = false from decide_eq_false (by omega)]
      as_aux_lemma =>
        go_enter Try.func63, Try.ntmps63
        go_wp2_with fail
        go_ret
        exact ⟨rfl, rfl⟩
  · have i1 : ¬ (48 : Int) ≤ (c : Int) := by omega
    rw [show isD c = false from decide_eq_false (by omega)]
    as_aux_lemma =>
      go_enter Try.func63, Try.ntmps63
      go_wp2_with fail
      go_ret
      exact ⟨rfl, rfl⟩
theorem cletter_any (c : Nat) (w : World) :
    Calls Try.prog 65 #[.int .u8 (c : Int)] w fun e w' => e = .returned (.bool (isA c)) ∧ w' = w := by
  by_cases a1 : 97 ≤ c
  · have i1 : (97 : Int) ≤ (c : Int) := by omega
    by_cases a2 : c ≤ 122
    · have i2 : (c : Int) ≤ 122 := by omega
      rw [show isA c = true from decide_eq_true (by omega)]
      as_aux_lemma =>
        go_enter Try.func65, Try.ntmps65
        go_wp2_with fail
        go_ret
        exact ⟨rfl, rfl⟩
    · have i2 : ¬ (c : Int) ≤ 122 := by omega
      have i3 : (65 : Int) ≤ (c : Int) := by omega
      have i4 : ¬ (c : Int) ≤ 90 := by omega
      rw [show isA c = false from decide_eq_false (by omega)]
      as_aux_lemma =>
        go_enter Try.func65, Try.ntmps65
        go_wp2_with fail
        go_ret
        exact ⟨rfl, rfl⟩
  · have i1 : ¬ (97 : Int) ≤ (c : Int) := by omega
    by_cases a3 : 65 ≤ c
    · have i3 : (65 : Int) ≤ (c : Int) := by omega
      by_cases a4 : c ≤ 90
      · have i4 : (c : Int) ≤ 90 := by omega
        rw [show isA c = true from decide_eq_true (by omega)]
        as_aux_lemma =>
          go_enter Try.func65, Try.ntmps65
          go_wp2_with fail
          go_ret
          exact ⟨rfl, rfl⟩
      · have i4 : ¬ (c : Int) ≤ 90 := by omega
        rw [show isA c = false from decide_eq_false (by omega)]
        as_aux_lemma =>
          go_enter Try.func65, Try.ntmps65
          go_wp2_with fail
          go_ret
          exact ⟨rfl, rfl⟩
    · have i3 : ¬ (65 : Int) ≤ (c : Int) := by omega
      rw [show isA c = false from decide_eq_false (by omega)]
      as_aux_lemma =>
        go_enter Try.func65, Try.ntmps65
        go_wp2_with fail
        go_ret
        exact ⟨rfl, rfl⟩
theorem oflab_any (c : Nat) (w : World) :
    Calls Try.prog 44 #[.int .u8 (c : Int)] w fun e w' => e = .returned (.bool (gd false c)) ∧ w' = w := by
  have HA : Hid _ := fun W => cletter_any c W
  have HD : Hid _ := fun W => cdigit_any c W
  have h0 : gd false c = isL c := by simp [gd]
  rw [h0, isL_eq]
  clear h0
  cases hA : isA c
  · rw [hA] at HA
    cases hD : isD c
    · rw [hD] at HD
      by_cases h95 : c = 95
      · have t : ((c : Int) == 95) = true := by rw [beq_iff_eq]; omega
        rw [show decide (c = 95) = true from decide_eq_true h95]
        clear h95
        as_aux_lemma =>
          go_enter Try.func44, Try.ntmps44
          go_wp2_with (first | (go_at_call 65; refine (HA.out _).mono ?_; rintro e1 w1 ⟨rfl, rfl⟩) | (go_at_call 63; refine (HD.out _).mono ?_; rintro e1 w1 ⟨rfl, rfl⟩))
          go_ret
          exact ⟨rfl, rfl⟩
      · have t : ((c : Int) == 95) = false := by rw [beq_eq_false_iff_ne]; omega
        rw [show decide (c = 95) = false from decide_eq_false h95]
        clear h95
        as_aux_lemma =>
          go_enter Try.func44, Try.ntmps44
          go_wp2_with (first | (go_at_call 65; refine (HA.out _).mono ?_; rintro e1 w1 ⟨rfl, rfl⟩) | (go_at_call 63; refine (HD.out _).mono ?_; rintro e1 w1 ⟨rfl, rfl⟩))
          go_ret
          exact ⟨rfl, rfl⟩
    · rw [hD] at HD
      as_aux_lemma =>
        go_enter Try.func44, Try.ntmps44
        go_wp2_with (first | (go_at_call 65; refine (HA.out _).mono ?_; rintro e1 w1 ⟨rfl, rfl⟩) | (go_at_call 63; refine (HD.out _).mono ?_; rintro e1 w1 ⟨rfl, rfl⟩))
        go_ret
        exact ⟨by simp, rfl⟩
  · rw [hA] at HA
    as_aux_lemma =>
      go_enter Try.func44, Try.ntmps44
      go_wp2_with (first | (go_at_call 65; refine (HA.out _).mono ?_; rintro e1 w1 ⟨rfl, rfl⟩) | (go_at_call 63; refine (HD.out _).mono ?_; rintro e1 w1 ⟨rfl, rfl⟩))
      go_ret
      exact ⟨by simp, rfl⟩
theorem ofname_any (c : Nat) (w : World) :
    Calls Try.prog 42 #[.int .u8 (c : Int)] w fun e w' => e = .returned (.bool (gd true c)) ∧ w' = w := by
  have HA : Hid _ := fun W => oflab_any c W
  have h0 : gd true c = (gd false c || decide (c = 58)) := by simp [gd]
  rw [h0]
  clear h0
  cases hA : gd false c
  · rw [hA] at HA
    by_cases h58 : c = 58
    · have t : ((c : Int) == 58) = true := by rw [beq_iff_eq]; omega
      rw [show decide (c = 58) = true from decide_eq_true h58]
      clear h58
      as_aux_lemma =>
        go_enter Try.func42, Try.ntmps42
        go_wp2_with (go_at_call 44; refine (HA.out _).mono ?_; rintro e1 w1 ⟨rfl, rfl⟩)
        go_ret
        exact ⟨rfl, rfl⟩
    · have t : ((c : Int) == 58) = false := by rw [beq_eq_false_iff_ne]; omega
      rw [show decide (c = 58) = false from decide_eq_false h58]
      clear h58
      as_aux_lemma =>
        go_enter Try.func42, Try.ntmps42
        go_wp2_with (go_at_call 44; refine (HA.out _).mono ?_; rintro e1 w1 ⟨rfl, rfl⟩)
        go_ret
        exact ⟨rfl, rfl⟩
  · rw [hA] at HA
    as_aux_lemma =>
      go_enter Try.func42, Try.ntmps42
      go_wp2_with (go_at_call 44; refine (HA.out _).mono ?_; rintro e1 w1 ⟨rfl, rfl⟩)
      go_ret
      exact ⟨by simp, rfl⟩
end Go.Proofs.Ytmphajfhilpgeab
