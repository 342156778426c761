/- NAMES, the document's: ends, plain, Name, LabelName. Own work of the verifier. -/
import Derived.Test.YthgfeghgcickhaaGreatDoorZAA
namespace Go.Proofs.YthgfeghgcickhaaGreatDoor.La
open Go.RowKit

theorem drop_bytes (l : List UInt8) (k : Nat) : (ByteArray.mk l.toArray).extract k l.length = ⟨(l.drop k).toArray⟩ := by
  apply ByteArray.ext
  rw [ByteArray.data_extract]
  simp
  exact List.take_of_length_le (by simp)
theorem take_bytes (l : List UInt8) (k : Nat) : (ByteArray.mk l.toArray).extract 0 k = ⟨(l.take k).toArray⟩ := by
  apply ByteArray.ext
  rw [ByteArray.data_extract]
  simp
/-- Does a text end so? -/
def endsB (l e : List UInt8) : Bool := decide (e.length ≤ l.length) && (l.drop (l.length - e.length) == e)
/-- A plain name: 1 to 64 bytes of a row, no digit first. -/
def plainB (colon : Bool) (l : List UInt8) : Bool := decide (1 ≤ l.length) && decide (l.length ≤ 64) && decide (rowN colon l = l.length) && !(decide (48 ≤ (l.getD 0 0).toNat) && decide ((l.getD 0 0).toNat ≤ 57))
theorem get_zero (l : List UInt8) (h : 0 < l.length) (hB : 0 < (ByteArray.mk l.toArray).size) : ((ByteArray.mk l.toArray)[0]'hB).toNat = (l.getD 0 0).toNat := by
  rw [List.getD_eq_getElem?_getD, List.getElem?_eq_getElem h]
  rfl
/-- A family's name. -/
def nameB (l : List UInt8) : Bool := plainB true l && !endsB l [95, 98, 117, 99, 107, 101, 116] && !endsB l [95, 115, 117, 109] && !endsB l [95, 99, 111, 117, 110, 116]
/-- A label's name. -/
def lnameB (l : List UInt8) : Bool := plainB false l && !(l == [108, 101]) && !(l == [113, 117, 97, 110, 116, 105, 108, 101]) && !(decide (2 ≤ l.length) && (l.take 2 == [95, 95]))
end Go.Proofs.YthgfeghgcickhaaGreatDoor.La
/- THE CODE'S LEAVES: letters, digits. Own work of the verifier. -/
namespace Go.Proofs.YthgfeghgcickhaaGreatDoor.La
open Go.RowKit

def isD (c : Nat) : Bool := decide (48 ≤ c ∧ c ≤ 57)
def isA (c : Nat) : Bool := decide (97 ≤ c ∧ c ≤ 122 ∨ 65 ≤ c ∧ c ≤ 90)
theorem isL_eq (c : Nat) : isL c = (isA c || isD c || decide (c = 95)) := by
  unfold isL isA isD
  rw [Bool.eq_iff_iff]
  simp only [Bool.or_eq_true, decide_eq_true_eq]
  omega
theorem cdigit_any (c : Nat) (w : World) :
    Calls Tryz.prog 81 #[.int .u8 (c : Int)] w fun e w' => e = .returned (.bool (isD c)) ∧ w' = w := by
  by_cases a1 : 48 ≤ c
  · have i1 : (48 : Int) ≤ (c : Int) := by omega
    by_cases a2 : c ≤ 57
    · have i2 : (c : Int) ≤ 57 := by omega
      rw [show isD c = true from decide_eq_true (by omega)]
      as_aux_lemma =>
        go_enter Tryz.func81, Tryz.ntmps81
        go_wp2_with fail
        go_ret
        exact ⟨rfl, rfl⟩
    · have i2 : ¬ (c : Int) ≤ 57 := by omega
      rw [show isD c = false from decide_eq_false (by omega)]
      as_aux_lemma =>
        go_enter Tryz.func81, Tryz.ntmps81
        go_wp2_with fail
        go_ret
        exact ⟨rfl, rfl⟩
  · have i1 : ¬ (48 : Int) ≤ (c : Int) := by omega
    rw [show isD c = false from decide_eq_false (by omega)]
    as_aux_lemma =>
      go_enter Tryz.func81, Tryz.ntmps81
      go_wp2_with fail
      go_ret
      exact ⟨rfl, rfl⟩
theorem cletter_any (c : Nat) (w : World) :
    Calls Tryz.prog 113 #[.int .u8 (c : Int)] w fun e w' => e = .returned (.bool (isA c)) ∧ w' = w := by
  by_cases a1 : 97 ≤ c
  · have i1 : (97 : Int) ≤ (c : Int) := by omega
    by_cases a2 : c ≤ 122
    · have i2 : (c : Int) ≤ 122 := by omega
      rw [show isA c = true from decide_eq_true (by omega)]
      as_aux_lemma =>
        go_enter Tryz.func113, Tryz.ntmps113
        go_wp2_with fail
        go_ret
        exact ⟨rfl, rfl⟩
    · have i2 : ¬ (c : Int) ≤ 122 := by omega
      have i3 : (65 : Int) ≤ (c : Int) := by omega
      have i4 : ¬ (c : Int) ≤ 90 := by omega
      rw [show isA c = false from decide_eq_false (by omega)]
      as_aux_lemma =>
        go_enter Tryz.func113, Tryz.ntmps113
        go_wp2_with fail
        go_ret
        exact ⟨rfl, rfl⟩
  · have i1 : ¬ (97 : Int) ≤ (c : Int) := by omega
    by_cases a3 : 65 ≤ c
    · have i3 : (65 : Int) ≤ (c : Int) := by omega
      by_cases a4 : c ≤ 90
      · have i4 : (c : Int) ≤ 90 := by omega
        rw [show isA c = true from decide_eq_true (by omega)]
        as_aux_lemma =>
          go_enter Tryz.func113, Tryz.ntmps113
          go_wp2_with fail
          go_ret
          exact ⟨rfl, rfl⟩
      · have i4 : ¬ (c : Int) ≤ 90 := by omega
        rw [show isA c = false from decide_eq_false (by omega)]
        as_aux_lemma =>
          go_enter Tryz.func113, Tryz.ntmps113
          go_wp2_with fail
          go_ret
          exact ⟨rfl, rfl⟩
    · have i3 : ¬ (65 : Int) ≤ (c : Int) := by omega
      rw [show isA c = false from decide_eq_false (by omega)]
      as_aux_lemma =>
        go_enter Tryz.func113, Tryz.ntmps113
        go_wp2_with fail
        go_ret
        exact ⟨rfl, rfl⟩
theorem oflab_any (c : Nat) (w : World) :
    Calls Tryz.prog 83 #[.int .u8 (c : Int)] w fun e w' => e = .returned (.bool (gd false c)) ∧ w' = w := by
  have HA : Hid _ := fun W => cletter_any c W
  have HD : Hid _ := fun W => cdigit_any c W
  have h0 : gd false c = isL c := by simp [gd]
  rw [h0, isL_eq]
  clear h0
  cases hA : isA c
  · rw [hA] at HA
    cases hD : isD c
    · rw [hD] at HD
      by_cases h95 : c = 95
      · have t : ((c : Int) == 95) = true := by rw [beq_iff_eq]; omega
        rw [show decide (c = 95) = true from decide_eq_true h95]
        clear h95
        as_aux_lemma =>
          go_enter Tryz.func83, Tryz.ntmps83
          go_wp2_with (first | (go_at_call 113; refine (HA.out _).mono ?_; rintro e1 w1 ⟨rfl, rfl⟩) | (go_at_call 81; refine (HD.out _).mono ?_; rintro e1 w1 ⟨rfl, rfl⟩))
          go_ret
          exact ⟨rfl, rfl⟩
      · have t : ((c : Int) == 95) = false := by rw [beq_eq_false_iff_ne]; omega
        rw [show decide (c = 95) = false from decide_eq_false h95]
        clear h95
        as_aux_lemma =>
          go_enter Tryz.func83, Tryz.ntmps83
          go_wp2_with (first | (go_at_call 113; refine (HA.out _).mono ?_; rintro e1 w1 ⟨rfl, rfl⟩) | (go_at_call 81; refine (HD.out _).mono ?_; rintro e1 w1 ⟨rfl, rfl⟩))
          go_ret
          exact ⟨rfl, rfl⟩
    · rw [hD] at HD
      as_aux_lemma =>
        go_enter Tryz.func83, Tryz.ntmps83
        go_wp2_with (first | (go_at_call 113; refine (HA.out _).mono ?_; rintro e1 w1 ⟨rfl, rfl⟩) | (go_at_call 81; refine (HD.out _).mono ?_; rintro e1 w1 ⟨rfl, rfl⟩))
        go_ret
        exact ⟨by simp, rfl⟩
  · rw [hA] at HA
    as_aux_lemma =>
      go_enter Tryz.func83, Tryz.ntmps83
      go_wp2_with (first | (go_at_call 113; refine (HA.out _).mono ?_; rintro e1 w1 ⟨rfl, rfl⟩) | (go_at_call 81; refine (HD.out _).mono ?_; rintro e1 w1 ⟨rfl, rfl⟩))
      go_ret
      exact ⟨by simp, rfl⟩
theorem ofname_any (c : Nat) (w : World) :
    Calls Tryz.prog 49 #[.int .u8 (c : Int)] w fun e w' => e = .returned (.bool (gd true c)) ∧ w' = w := by
  have HA : Hid _ := fun W => oflab_any c W
  have h0 : gd true c = (gd false c || decide (c = 58)) := by simp [gd]
  rw [h0]
  clear h0
  cases hA : gd false c
  · rw [hA] at HA
    by_cases h58 : c = 58
    · have t : ((c : Int) == 58) = true := by rw [beq_iff_eq]; omega
      rw [show decide (c = 58) = true from decide_eq_true h58]
      clear h58
      as_aux_lemma =>
        go_enter Tryz.func49, Tryz.ntmps49
        go_wp2_with (go_at_call 83; refine (HA.out _).mono ?_; rintro e1 w1 ⟨rfl, rfl⟩)
        go_ret
        exact ⟨rfl, rfl⟩
    · have t : ((c : Int) == 58) = false := by rw [beq_eq_false_iff_ne]; omega
      rw [show decide (c = 58) = false from decide_eq_false h58]
      clear h58
      as_aux_lemma =>
        go_enter Tryz.func49, Tryz.ntmps49
        go_wp2_with (go_at_call 83; refine (HA.out _).mono ?_; rintro e1 w1 ⟨rfl, rfl⟩)
        go_ret
        exact ⟨rfl, rfl⟩
  · rw [hA] at HA
    as_aux_lemma =>
      go_enter Tryz.func49, Tryz.ntmps49
      go_wp2_with (go_at_call 83; refine (HA.out _).mono ?_; rintro e1 w1 ⟨rfl, rfl⟩)
      go_ret
      exact ⟨by simp, rfl⟩
end Go.Proofs.YthgfeghgcickhaaGreatDoor.La
