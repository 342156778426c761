/- THE LEAVES of label: letters and rows, the document's. Own work of the verifier. -/
import Derived.Test.YtmmkboldkaehgaaGreatDoorRows
import Derived.WalkKit
import Derived.WalkSpells
import Derived.RowKit3
import Derived.Below
import Derived.Laws.Externs
import Derived.Outline
import Derived.Deep.QuietTactic
import Derived.BigQuiet
import Derived.Laws.Bits64
import Derived.Laws.BitsAllLaws
import Derived.Laws.DeepStrings4
import Derived.Deep.DeepCutAuto
import Derived.Deep.RegionHeld3
import Derived.Deep.CutBlock
namespace Go.Proofs.YtmmkboldkaehgaaGreatDoor.La
open Go.RowKit

/-- A letter, a digit or _. -/
def isL (c : Nat) : Bool := decide (97 ≤ c ∧ c ≤ 122 ∨ 65 ≤ c ∧ c ≤ 90 ∨ 48 ≤ c ∧ c ≤ 57 ∨ c = 95)
/-- A byte of a row. -/
def gd (colon : Bool) (c : Nat) : Bool := isL c || (colon && decide (c = 58))
/-- How long the longest row is. -/
def rowN (colon : Bool) : List UInt8 → Nat
  | [] => 0
  | b :: r => if gd colon b.toNat then rowN colon r + 1 else 0
theorem rowN_le (colon : Bool) : ∀ l : List UInt8, rowN colon l ≤ l.length
  | [] => Nat.le_refl _
  | b :: r => by
    rw [rowN, List.length_cons]
    have := rowN_le colon r
    split <;> omega
end Go.Proofs.YtmmkboldkaehgaaGreatDoor.La
/- NAMES, the document's: ends, plain, Name, LabelName. Own work of the verifier. -/
namespace Go.Proofs.YtmmkboldkaehgaaGreatDoor.La
open Go.RowKit

theorem drop_bytes (l : List UInt8) (k : Nat) : (ByteArray.mk l.toArray).extract k l.length = ⟨(l.drop k).toArray⟩ := by
  apply ByteArray.ext
  rw [ByteArray.data_extract]
  simp
  exact List.take_of_length_le (by simp)
theorem take_bytes (l : List UInt8) (k : Nat) : (ByteArray.mk l.toArray).extract 0 k = ⟨(l.take k).toArray⟩ := by
  apply ByteArray.ext
  rw [ByteArray.data_extract]
  simp
/-- Does a text end so? -/
def endsB (l e : List UInt8) : Bool := decide (e.length ≤ l.length) && (l.drop (l.length - e.length) == e)
/-- A plain name: 1 to 64 bytes of a row, no digit first. -/
def plainB (colon : Bool) (l : List UInt8) : Bool := decide (1 ≤ l.length) && decide (l.length ≤ 64) && decide (rowN colon l = l.length) && !(decide (48 ≤ (l.getD 0 0).toNat) && decide ((l.getD 0 0).toNat ≤ 57))
theorem get_zero (l : List UInt8) (h : 0 < l.length) (hB : 0 < (ByteArray.mk l.toArray).size) : ((ByteArray.mk l.toArray)[0]'hB).toNat = (l.getD 0 0).toNat := by
  rw [List.getD_eq_getElem?_getD, List.getElem?_eq_getElem h]
  rfl
/-- A family's name. -/
def nameB (l : List UInt8) : Bool := plainB true l && !endsB l [95, 98, 117, 99, 107, 101, 116] && !endsB l [95, 115, 117, 109] && !endsB l [95, 99, 111, 117, 110, 116]
/-- A label's name. -/
def lnameB (l : List UInt8) : Bool := plainB false l && !(l == [108, 101]) && !(l == [113, 117, 97, 110, 116, 105, 108, 101]) && !(decide (2 ≤ l.length) && (l.take 2 == [95, 95]))
end Go.Proofs.YtmmkboldkaehgaaGreatDoor.La
/- THE CODE'S LEAVES: letters, digits. Own work of the verifier. -/
namespace Go.Proofs.YtmmkboldkaehgaaGreatDoor.La
open Go.RowKit

def isD (c : Nat) : Bool := decide (48 ≤ c ∧ c ≤ 57)
def isA (c : Nat) : Bool := decide (97 ≤ c ∧ c ≤ 122 ∨ 65 ≤ c ∧ c ≤ 90)
theorem isL_eq (c : Nat) : isL c = (isA c || isD c || decide (c = 95)) := by
  unfold isL isA isD
  rw [Bool.eq_iff_iff]
  simp only [Bool.or_eq_true, decide_eq_true_eq]
  omega
theorem cdigit_any (c : Nat) (w : World) :
    Calls Tryz.prog 170 #[.int .u8 (c : Int)] w fun e w' => e = .returned (.bool (isD c)) ∧ w' = w := by
  by_cases a1 : 48 ≤ c
  · have i1 : (48 : Int) ≤ (c : Int) := by omega
    by_cases a2 : c ≤ 57
    · have i2 : (c : Int) ≤ 57 := by omega
      rw [show isD c = true from decide_eq_true (by omega)]
      as_aux_lemma =>
        go_enter Tryz.func170, Tryz.ntmps170
        go_wp2_with fail
        go_ret
        exact ⟨rfl, rfl⟩
    · have i2 : ¬ (c : Int) ≤ 57 := by omega
      rw [show isD c = false from decide_eq_false (by omega)]
      as_aux_lemma =>
        go_enter Tryz.func170, Tryz.ntmps170
        go_wp2_with fail
        go_ret
        exact ⟨rfl, rfl⟩
  · have i1 : ¬ (48 : Int) ≤ (c : Int) := by omega
    rw [show isD c = false from decide_eq_false (by omega)]
    as_aux_lemma =>
      go_enter Tryz.func170, Tryz.ntmps170
      go_wp2_with fail
      go_ret
      exact ⟨rfl, rfl⟩
theorem cletter_any (c : Nat) (w : World) :
    Calls Tryz.prog 183 #[.int .u8 (c : Int)] w fun e w' => e = .returned (.bool (isA c)) ∧ w' = w := by
  by_cases a1 : 97 ≤ c
  · have i1 : (97 : Int) ≤ (c : Int) := by omega
    by_cases a2 : c ≤ 122
    · have i2 : (c : Int) ≤ 122 := by omega
      rw [show isA c = true from decide_eq_true (by omega)]
      as_aux_lemma =>
        go_enter Tryz.func183, Tryz.ntmps183
        go_wp2_with fail
        go_ret
        exact ⟨rfl, rfl⟩
    · have i2 : ¬ (c : Int) ≤ 122 := by omega
      have i3 : (65 : Int) ≤ (c : Int) := by omega
      have i4 : ¬ (c : Int) ≤ 90 := by omega
      rw [show isA c = false from decide_eq_false (by omega)]
      as_aux_lemma =>
        go_enter Tryz.func183, Tryz.ntmps183
        go_wp2_with fail
        go_ret
        exact ⟨rfl, rfl⟩
  · have i1 : ¬ (97 : Int) ≤ (c : Int) := by omega
    by_cases a3 : 65 ≤ c
    · have i3 : (65 : Int) ≤ (c : Int) := by omega
      by_cases a4 : c ≤ 90
      · have i4 : (c : Int) ≤ 90 := by omega
        rw [show isA c = true from decide_eq_true (by omega)]
        as_aux_lemma =>
          go_enter Tryz.func183, Tryz.ntmps183
          go_wp2_with fail
          go_ret
          exact ⟨rfl, rfl⟩
      · have i4 : ¬ (c : Int) ≤ 90 := by omega
        rw [show isA c = false from decide_eq_false (by omega)]
        as_aux_lemma =>
          go_enter Tryz.func183, Tryz.ntmps183
          go_wp2_with fail
          go_ret
          exact ⟨rfl, rfl⟩
    · have i3 : ¬ (65 : Int) ≤ (c : Int) := by omega
      rw [show isA c = false from decide_eq_false (by omega)]
      as_aux_lemma =>
        go_enter Tryz.func183, Tryz.ntmps183
        go_wp2_with fail
        go_ret
        exact ⟨rfl, rfl⟩
theorem oflab_any (c : Nat) (w : World) :
    Calls Tryz.prog 171 #[.int .u8 (c : Int)] w fun e w' => e = .returned (.bool (gd false c)) ∧ w' = w := by
  have HA : Hid _ := fun W => cletter_any c W
  have HD : Hid _ := fun W => cdigit_any c W
  have h0 : gd false c = isL c := by simp [gd]
  rw [h0, isL_eq]
  clear h0
  cases hA : isA c
  · rw [hA] at HA
    cases hD : isD c
    · rw [hD] at HD
      by_cases h95 : c = 95
      · have t : ((c : Int) == 95) = true := by rw [beq_iff_eq]; omega
        rw [show decide (c = 95) = true from decide_eq_true h95]
        clear h95
        as_aux_lemma =>
          go_enter Tryz.func171, Tryz.ntmps171
          go_wp2_with (first | (go_at_call 183; refine (HA.out _).mono ?_; rintro e1 w1 ⟨rfl, rfl⟩) | (go_at_call 170; refine (HD.out _).mono ?_; rintro e1 w1 ⟨rfl, rfl⟩))
          go_ret
          exact ⟨rfl, rfl⟩
      · have t : ((c : Int) == 95) = false := by rw [beq_eq_false_iff_ne]; omega
        rw [show decide (c = 95) = false from decide_eq_false h95]
        clear h95
        as_aux_lemma =>
          go_enter Tryz.func171, Tryz.ntmps171
          go_wp2_with (first | (go_at_call 183; refine (HA.out _).mono ?_; rintro e1 w1 ⟨rfl, rfl⟩) | (go_at_call 170; refine (HD.out _).mono ?_; rintro e1 w1 ⟨rfl, rfl⟩))
          go_ret
          exact ⟨rfl, rfl⟩
    · rw [hD] at HD
      as_aux_lemma =>
        go_enter Tryz.func171, Tryz.ntmps171
        go_wp2_with (first | (go_at_call 183; refine (HA.out _).mono ?_; rintro e1 w1 ⟨rfl, rfl⟩) | (go_at_call 170; refine (HD.out _).mono ?_; rintro e1 w1 ⟨rfl, rfl⟩))
        go_ret
        exact ⟨by simp, rfl⟩
  · rw [hA] at HA
    as_aux_lemma =>
      go_enter Tryz.func171, Tryz.ntmps171
      go_wp2_with (first | (go_at_call 183; refine (HA.out _).mono ?_; rintro e1 w1 ⟨rfl, rfl⟩) | (go_at_call 170; refine (HD.out _).mono ?_; rintro e1 w1 ⟨rfl, rfl⟩))
      go_ret
      exact ⟨by simp, rfl⟩
theorem ofname_any (c : Nat) (w : World) :
    Calls Tryz.prog 130 #[.int .u8 (c : Int)] w fun e w' => e = .returned (.bool (gd true c)) ∧ w' = w := by
  have HA : Hid _ := fun W => oflab_any c W
  have h0 : gd true c = (gd false c || decide (c = 58)) := by simp [gd]
  rw [h0]
  clear h0
  cases hA : gd false c
  · rw [hA] at HA
    by_cases h58 : c = 58
    · have t : ((c : Int) == 58) = true := by rw [beq_iff_eq]; omega
      rw [show decide (c = 58) = true from decide_eq_true h58]
      clear h58
      as_aux_lemma =>
        go_enter Tryz.func130, Tryz.ntmps130
        go_wp2_with (go_at_call 171; refine (HA.out _).mono ?_; rintro e1 w1 ⟨rfl, rfl⟩)
        go_ret
        exact ⟨rfl, rfl⟩
    · have t : ((c : Int) == 58) = false := by rw [beq_eq_false_iff_ne]; omega
      rw [show decide (c = 58) = false from decide_eq_false h58]
      clear h58
      as_aux_lemma =>
        go_enter Tryz.func130, Tryz.ntmps130
        go_wp2_with (go_at_call 171; refine (HA.out _).mono ?_; rintro e1 w1 ⟨rfl, rfl⟩)
        go_ret
        exact ⟨rfl, rfl⟩
  · rw [hA] at HA
    as_aux_lemma =>
      go_enter Tryz.func130, Tryz.ntmps130
      go_wp2_with (go_at_call 171; refine (HA.out _).mono ?_; rintro e1 w1 ⟨rfl, rfl⟩)
      go_ret
      exact ⟨by simp, rfl⟩
end Go.Proofs.YtmmkboldkaehgaaGreatDoor.La
/- THE CODE'S row AND isWord. Own work of the verifier. -/
namespace Go.Proofs.YtmmkboldkaehgaaGreatDoor.La
open Go.RowKit

/-- Which bytes are of the row, as a function's value. -/
def fv : Bool → Value
  | true => .func (.func 130) #[] #[]
  | false => .func (.func 171) #[] #[]
set_option maxHeartbeats 1000000 in
set_option maxRecDepth 100000 in
theorem crow_false (l : List UInt8) (hl : l.length ≤ 4611686018427387904) (w : World) :
    Calls Tryz.prog 136 #[.string ⟨l.toArray⟩, fv false] w fun e w' => e = .returned (.string ⟨(l.take (rowN false l)).toArray⟩) ∧ w' = w := by
  have HL : Hid (∀ (c : Nat) (W : World), Calls Tryz.prog 171 #[.int .u8 (c : Int)] W fun e w' => e = .returned (.bool (gd false c)) ∧ w' = W) := fun c W => oflab_any c W
  obtain ⟨R, hR⟩ : ∃ R, R = rowN false l := ⟨_, rfl⟩
  rw [← hR]
  have HR0 : Hid (R = 0 + rowN false (l.drop 0)) := by show R = _; rw [hR, List.drop_zero, Nat.zero_add]
  clear hR
  unfold fv
  go_enter Tryz.func136, Tryz.ntmps136
  go_wp2_with fail
  go_loopw [5] (fun a W => ∃ n : Nat, n ≤ l.length ∧ a = .int .i64 (n : Int) ∧ Hid (R = n + rowN false (l.drop n)) ∧ W = w) (fun a _ => l.length - (intOf a).toNat)
  case atStart => exact ⟨0, by omega, rfl, HR0, rfl⟩
  case round =>
    obtain ⟨n, hn, rfl, HR, hw⟩ := hrel
    subst wr
    clear HR0
    have hS := HR.out
    clear HR
    have htk := take_bytes l n
    by_cases hlt : n < l.length
    · have hlt' : (n : Int) < (l.length : Int) := by omega
      have hB : n < (ByteArray.mk l.toArray).size := by show n < l.toArray.size; simpa using hlt
      have hbe : ((ByteArray.mk l.toArray)[n]'hB).toNat = l[n].toNat := rfl
      rw [List.drop_eq_getElem_cons hlt, rowN] at hS
      have HL1 : Hid _ := HL.out ((ByteArray.mk l.toArray)[n]'hB).toNat
      rw [hbe] at HL1
      by_cases g1 : gd false l[n].toNat = true
      · rw [g1] at HL1
        rw [if_pos g1] at hS
        have HR' : Hid (R = n + 1 + rowN false (l.drop (n + 1))) := by show R = _; rw [hS]; omega
        clear hS g1 hbe HL htk
        as_aux_lemma =>
          go_wp2_with fail
          refine (HL1.out _).mono ?_
          rintro e w1 ⟨rfl, rfl⟩
          go_wp2_with fail
          exact ⟨⟨n + 1, by omega, by go_num, HR', trivial⟩, by simp [intOf]; omega⟩
      · have g1' : gd false l[n].toNat = false := by simpa using g1
        rw [g1'] at HL1
        rw [if_neg g1] at hS
        have HF : Hid (R = n) := hS
        clear hS g1 g1' hbe HL
        as_aux_lemma =>
          go_wp2_with fail
          refine (HL1.out _).mono ?_
          rintro e w1 ⟨rfl, rfl⟩
          go_wp2_with fail
          go_ret
          exact ⟨congrArg (fun z : Nat => Ending.returned (Value.string ⟨(l.take z).toArray⟩)) HF.out.symm, rfl⟩
    · have hlt' : ¬ (n : Int) < (l.length : Int) := by omega
      rw [List.drop_eq_nil_of_le (by omega), rowN] at hS
      have HF : Hid (R = n) := hS
      clear hS HL
      as_aux_lemma =>
        go_wp2_with fail
        go_ret
        exact ⟨congrArg (fun z : Nat => Ending.returned (Value.string ⟨(l.take z).toArray⟩)) HF.out.symm, rfl⟩
set_option maxHeartbeats 1000000 in
set_option maxRecDepth 100000 in
theorem crow_true (l : List UInt8) (hl : l.length ≤ 4611686018427387904) (w : World) :
    Calls Tryz.prog 136 #[.string ⟨l.toArray⟩, fv true] w fun e w' => e = .returned (.string ⟨(l.take (rowN true l)).toArray⟩) ∧ w' = w := by
  have HL : Hid (∀ (c : Nat) (W : World), Calls Tryz.prog 130 #[.int .u8 (c : Int)] W fun e w' => e = .returned (.bool (gd true c)) ∧ w' = W) := fun c W => ofname_any c W
  obtain ⟨R, hR⟩ : ∃ R, R = rowN true l := ⟨_, rfl⟩
  rw [← hR]
  have HR0 : Hid (R = 0 + rowN true (l.drop 0)) := by show R = _; rw [hR, List.drop_zero, Nat.zero_add]
  clear hR
  unfold fv
  go_enter Tryz.func136, Tryz.ntmps136
  go_wp2_with fail
  go_loopw [5] (fun a W => ∃ n : Nat, n ≤ l.length ∧ a = .int .i64 (n : Int) ∧ Hid (R = n + rowN true (l.drop n)) ∧ W = w) (fun a _ => l.length - (intOf a).toNat)
  case atStart => exact ⟨0, by omega, rfl, HR0, rfl⟩
  case round =>
    obtain ⟨n, hn, rfl, HR, hw⟩ := hrel
    subst wr
    clear HR0
    have hS := HR.out
    clear HR
    have htk := take_bytes l n
    by_cases hlt : n < l.length
    · have hlt' : (n : Int) < (l.length : Int) := by omega
      have hB : n < (ByteArray.mk l.toArray).size := by show n < l.toArray.size; simpa using hlt
      have hbe : ((ByteArray.mk l.toArray)[n]'hB).toNat = l[n].toNat := rfl
      rw [List.drop_eq_getElem_cons hlt, rowN] at hS
      have HL1 : Hid _ := HL.out ((ByteArray.mk l.toArray)[n]'hB).toNat
      rw [hbe] at HL1
      by_cases g1 : gd true l[n].toNat = true
      · rw [g1] at HL1
        rw [if_pos g1] at hS
        have HR' : Hid (R = n + 1 + rowN true (l.drop (n + 1))) := by show R = _; rw [hS]; omega
        clear hS g1 hbe HL htk
        as_aux_lemma =>
          go_wp2_with fail
          refine (HL1.out _).mono ?_
          rintro e w1 ⟨rfl, rfl⟩
          go_wp2_with fail
          exact ⟨⟨n + 1, by omega, by go_num, HR', trivial⟩, by simp [intOf]; omega⟩
      · have g1' : gd true l[n].toNat = false := by simpa using g1
        rw [g1'] at HL1
        rw [if_neg g1] at hS
        have HF : Hid (R = n) := hS
        clear hS g1 g1' hbe HL
        as_aux_lemma =>
          go_wp2_with fail
          refine (HL1.out _).mono ?_
          rintro e w1 ⟨rfl, rfl⟩
          go_wp2_with fail
          go_ret
          exact ⟨congrArg (fun z : Nat => Ending.returned (Value.string ⟨(l.take z).toArray⟩)) HF.out.symm, rfl⟩
    · have hlt' : ¬ (n : Int) < (l.length : Int) := by omega
      rw [List.drop_eq_nil_of_le (by omega), rowN] at hS
      have HF : Hid (R = n) := hS
      clear hS HL
      as_aux_lemma =>
        go_wp2_with fail
        go_ret
        exact ⟨congrArg (fun z : Nat => Ending.returned (Value.string ⟨(l.take z).toArray⟩)) HF.out.symm, rfl⟩
theorem crow_any (l : List UInt8) (colon : Bool) (hl : l.length ≤ 4611686018427387904) (w : World) :
    Calls Tryz.prog 136 #[.string ⟨l.toArray⟩, fv colon] w fun e w' => e = .returned (.string ⟨(l.take (rowN colon l)).toArray⟩) ∧ w' = w := by
  cases colon
  · exact crow_false l hl w
  · exact crow_true l hl w
theorem take_eq (l : List UInt8) (n : Nat) (h : n ≤ l.length) : l.take n = l ↔ n = l.length := by
  constructor
  · intro e
    have := congrArg List.length e
    rw [List.length_take] at this
    omega
  · intro e
    rw [e, List.take_length]
set_option maxHeartbeats 1000000 in
theorem word_any (l : List UInt8) (colon : Bool) (hl : l.length ≤ 4611686018427387904) (w : World) :
    Calls Tryz.prog 129 #[.string ⟨l.toArray⟩, fv colon] w fun r w' => r = .returned (.bool (plainB colon l)) ∧ w' = w := by
  have HR : Hid _ := fun W => crow_any l colon hl W
  obtain ⟨f, hf⟩ : ∃ f, f = fv colon := ⟨_, rfl⟩
  rw [← hf] at HR ⊢
  clear hf
  by_cases g0 : 1 ≤ l.length
  · have i0 : (1 : Int) ≤ (l.length : Int) := by omega
    have hB : 0 < (ByteArray.mk l.toArray).size := by show 0 < l.toArray.size; rw [List.size_toArray]; omega
    have hbe := get_zero l g0 hB
    by_cases g1 : l.length ≤ 64
    · have i1 : (l.length : Int) ≤ 64 := by omega
      have HD : Hid _ := fun W => cdigit_any ((ByteArray.mk l.toArray)[0]'hB).toNat W
      cases hD : isD ((ByteArray.mk l.toArray)[0]'hB).toNat
      · rw [hD] at HD
        have hd' : (decide (48 ≤ (l.getD 0 0).toNat) && decide ((l.getD 0 0).toNat ≤ 57)) = false := by rw [← hbe, ← Bool.decide_and]; exact hD
        by_cases g2 : rowN colon l = l.length
        · rw [(take_eq l _ (rowN_le colon l)).2 g2] at HR
          rw [show plainB colon l = true from by unfold plainB; rw [hd', decide_eq_true g0, decide_eq_true g1, decide_eq_true g2]; rfl]
          clear hd' g2 hD hbe
          as_aux_lemma =>
            go_enter Tryz.func129, Tryz.ntmps129
            go_wp2_with (first | (go_at_call 170; refine (HD.out _).mono ?_; rintro e1 w1 ⟨rfl, rfl⟩) | (go_at_call 136; refine (HR.out _).mono ?_; rintro e1 w1 ⟨rfl, rfl⟩))
            go_ret
            exact ⟨rfl, rfl⟩
        · have hq : (l.take (rowN colon l) == l) = false := by rw [beq_eq_false_iff_ne]; exact fun h => g2 ((take_eq l _ (rowN_le colon l)).1 h)
          rw [show plainB colon l = false from by unfold plainB; rw [decide_eq_false g2]; simp]
          obtain ⟨t, ht⟩ : ∃ t, t = l.take (rowN colon l) := ⟨_, rfl⟩
          rw [← ht] at HR hq
          clear hd' g2 hD hbe ht
          as_aux_lemma =>
            go_enter Tryz.func129, Tryz.ntmps129
            go_wp2_with (first | (go_at_call 170; refine (HD.out _).mono ?_; rintro e1 w1 ⟨rfl, rfl⟩) | (go_at_call 136; refine (HR.out _).mono ?_; rintro e1 w1 ⟨rfl, rfl⟩))
            go_ret
            exact ⟨rfl, rfl⟩
      · rw [hD] at HD
        have hd' : (decide (48 ≤ (l.getD 0 0).toNat) && decide ((l.getD 0 0).toNat ≤ 57)) = true := by rw [← hbe, ← Bool.decide_and]; exact hD
        rw [show plainB colon l = false from by unfold plainB; rw [hd']; simp]
        clear hd' hD hbe
        as_aux_lemma =>
          go_enter Tryz.func129, Tryz.ntmps129
          go_wp2_with (first | (go_at_call 170; refine (HD.out _).mono ?_; rintro e1 w1 ⟨rfl, rfl⟩) | (go_at_call 136; refine (HR.out _).mono ?_; rintro e1 w1 ⟨rfl, rfl⟩))
          go_ret
          exact ⟨rfl, rfl⟩
    · have i1 : ¬ (l.length : Int) ≤ 64 := by omega
      rw [show plainB colon l = false from by unfold plainB; rw [decide_eq_false g1]; simp]
      as_aux_lemma =>
        go_enter Tryz.func129, Tryz.ntmps129
        go_wp2_with fail
        go_ret
        exact ⟨rfl, rfl⟩
  · have i0 : ¬ (1 : Int) ≤ (l.length : Int) := by omega
    rw [show plainB colon l = false from by unfold plainB; rw [decide_eq_false g0]; simp]
    as_aux_lemma =>
      go_enter Tryz.func129, Tryz.ntmps129
      go_wp2_with fail
      go_ret
      exact ⟨rfl, rfl⟩
end Go.Proofs.YtmmkboldkaehgaaGreatDoor.La
