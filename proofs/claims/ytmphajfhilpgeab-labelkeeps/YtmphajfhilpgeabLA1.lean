/- THE LEAVES of label: letters and rows, the document's. Own work of the verifier. -/
import Derived.Test.YtmphajfhilpgeabRows
import Derived.WalkKit
import Derived.WalkSpells
import Derived.RowKit3
import Derived.Below
import Derived.Laws.Externs
import Derived.Outline
import Derived.Deep.QuietTactic
import Derived.BigQuiet
import Derived.Laws.Bits64
import Derived.Laws.BitsAllLaws
import Derived.Laws.DeepStrings4
import Derived.Deep.DeepCutAuto
import Derived.Deep.RegionHeld3
import Derived.Deep.CutBlock
namespace Go.Proofs.Ytmphajfhilpgeab
open Go.RowKit

/-- A letter, a digit or _. -/
def isL (c : Nat) : Bool := decide (97 ≤ c ∧ c ≤ 122 ∨ 65 ≤ c ∧ c ≤ 90 ∨ 48 ≤ c ∧ c ≤ 57 ∨ c = 95)
theorem letter_any (c : Nat) (w : World) :
    Calls Try.prog 60 #[.int .u8 (c : Int)] w fun e w' => e = .returned (.bool (isL c)) ∧ w' = w := by
  by_cases a1 : 97 ≤ c
  · have i97 : (97 : Int) ≤ (c : Int) := by omega
    by_cases a2 : c ≤ 122
    · have i122 : (c : Int) ≤ 122 := by omega
      rw [show isL c = true from decide_eq_true (by omega)]
      as_aux_lemma =>
        go_enter Try.func60, Try.ntmps60
        go_wp2_with fail
        go_ret
        exact ⟨rfl, rfl⟩
    · have i122 : ¬ (c : Int) ≤ 122 := by omega
      have i65 : (65 : Int) ≤ (c : Int) := by omega
      have i90 : ¬ (c : Int) ≤ 90 := by omega
      have i48 : (48 : Int) ≤ (c : Int) := by omega
      have i57 : ¬ (c : Int) ≤ 57 := by omega
      have i95 : ((c : Int) == 95) = false := by rw [beq_eq_false_iff_ne]; omega
      rw [show isL c = false from decide_eq_false (by omega)]
      as_aux_lemma =>
        go_enter Try.func60, Try.ntmps60
        go_wp2_with fail
        go_ret
        exact ⟨rfl, rfl⟩
  have i97 : ¬ (97 : Int) ≤ (c : Int) := by omega
  by_cases a3 : 65 ≤ c
  · have i65 : (65 : Int) ≤ (c : Int) := by omega
    by_cases a4 : c ≤ 90
    · have i90 : (c : Int) ≤ 90 := by omega
      rw [show isL c = true from decide_eq_true (by omega)]
      as_aux_lemma =>
        go_enter Try.func60, Try.ntmps60
        go_wp2_with fail
        go_ret
        exact ⟨rfl, rfl⟩
    · have i90 : ¬ (c : Int) ≤ 90 := by omega
      have i48 : (48 : Int) ≤ (c : Int) := by omega
      have i57 : ¬ (c : Int) ≤ 57 := by omega
      by_cases a5 : c = 95
      · have i95 : ((c : Int) == 95) = true := by rw [beq_iff_eq]; omega
        rw [show isL c = true from decide_eq_true (by omega)]
        clear a5
        as_aux_lemma =>
          go_enter Try.func60, Try.ntmps60
          go_wp2_with fail
          go_ret
          exact ⟨rfl, rfl⟩
      · have i95 : ((c : Int) == 95) = false := by rw [beq_eq_false_iff_ne]; omega
        rw [show isL c = false from decide_eq_false (by omega)]
        as_aux_lemma =>
          go_enter Try.func60, Try.ntmps60
          go_wp2_with fail
          go_ret
          exact ⟨rfl, rfl⟩
  have i65 : ¬ (65 : Int) ≤ (c : Int) := by omega
  by_cases a6 : 48 ≤ c
  · have i48 : (48 : Int) ≤ (c : Int) := by omega
    by_cases a7 : c ≤ 57
    · have i57 : (c : Int) ≤ 57 := by omega
      rw [show isL c = true from decide_eq_true (by omega)]
      as_aux_lemma =>
        go_enter Try.func60, Try.ntmps60
        go_wp2_with fail
        go_ret
        exact ⟨rfl, rfl⟩
    · have i57 : ¬ (c : Int) ≤ 57 := by omega
      have i95 : ((c : Int) == 95) = false := by rw [beq_eq_false_iff_ne]; omega
      rw [show isL c = false from decide_eq_false (by omega)]
      as_aux_lemma =>
        go_enter Try.func60, Try.ntmps60
        go_wp2_with fail
        go_ret
        exact ⟨rfl, rfl⟩
  · have i48 : ¬ (48 : Int) ≤ (c : Int) := by omega
    have i95 : ((c : Int) == 95) = false := by rw [beq_eq_false_iff_ne]; omega
    rw [show isL c = false from decide_eq_false (by omega)]
    as_aux_lemma =>
      go_enter Try.func60, Try.ntmps60
      go_wp2_with fail
      go_ret
      exact ⟨rfl, rfl⟩
/-- A byte of a row. -/
def gd (colon : Bool) (c : Nat) : Bool := isL c || (colon && decide (c = 58))
/-- How long the longest row is. -/
def rowN (colon : Bool) : List UInt8 → Nat
  | [] => 0
  | b :: r => if gd colon b.toNat then rowN colon r + 1 else 0
theorem rowN_le (colon : Bool) : ∀ l : List UInt8, rowN colon l ≤ l.length
  | [] => Nat.le_refl _
  | b :: r => by
    rw [rowN, List.length_cons]
    have := rowN_le colon r
    split <;> omega
set_option maxHeartbeats 1000000 in
set_option maxRecDepth 100000 in
theorem row_any (l : List UInt8) (p : Nat) (colon : Bool) (hp : p ≤ l.length) (hl : l.length ≤ 4611686018427387904) (w : World) :
    Calls Try.prog 38 #[.string ⟨l.toArray⟩, .int .i64 (p : Int), .bool colon] w fun e w' => e = .returned (.int .i64 ((rowN colon (l.drop p) : Nat) : Int)) ∧ w' = w := by
  have HL : Hid (∀ (c : Nat) (W : World), Calls Try.prog 60 #[.int .u8 (c : Int)] W fun e w' => e = .returned (.bool (isL c)) ∧ w' = W) := fun c W => letter_any c W
  obtain ⟨R, hR⟩ : ∃ R, R = rowN colon (l.drop p) := ⟨_, rfl⟩
  rw [← hR]
  have HR0 : Hid (R = 0 + rowN colon (l.drop (p + 0))) := by show R = _; rw [hR, Nat.add_zero, Nat.zero_add]
  clear hR
  go_enter Try.func38, Try.ntmps38
  go_wp2_with fail
  go_loopw [7] (fun a W => ∃ n : Nat, p + n ≤ l.length ∧ a = .int .i64 (n : Int) ∧ Hid (R = n + rowN colon (l.drop (p + n))) ∧ W = w) (fun a _ => l.length - (intOf a).toNat)
  case atStart => exact ⟨0, by omega, rfl, HR0, rfl⟩
  case round =>
    obtain ⟨n, hn, rfl, HR, hw⟩ := hrel
    subst wr
    clear HR0
    obtain ⟨k, hk⟩ : ∃ k, k = p + n := ⟨_, rfl⟩
    have hk' : (p : Int) + (n : Int) = (k : Int) := by omega
    have hS := HR.out
    clear HR
    rw [← hk] at hS
    by_cases hlt : k < l.length
    · have hlt' : (k : Int) < (l.length : Int) := by omega
      have hB : k < (ByteArray.mk l.toArray).size := by show k < l.toArray.size; simpa using hlt
      have hbe : ((ByteArray.mk l.toArray)[k]'hB).toNat = l[k].toNat := rfl
      rw [List.drop_eq_getElem_cons hlt, rowN] at hS
      have HL1 : Hid _ := HL.out ((ByteArray.mk l.toArray)[k]'hB).toNat
      rw [hbe] at HL1
      by_cases g1 : isL l[k].toNat = true
      · rw [g1] at HL1
        rw [if_pos (by unfold gd; rw [g1]; rfl)] at hS
        have HR' : Hid (R = n + 1 + rowN colon (l.drop (p + (n + 1)))) := by show R = _; rw [hS, hk]; show n + (rowN colon (l.drop (p + n + 1)) + 1) = _; rw [show p + (n + 1) = p + n + 1 from by omega]; omega
        clear hS g1 hbe HL hk
        as_aux_lemma =>
          go_wp2_with fail
          refine (HL1.out _).mono ?_
          rintro e w1 ⟨rfl, rfl⟩
          go_wp2_with fail
          exact ⟨⟨n + 1, by omega, by go_num, HR', trivial⟩, by simp [intOf]; omega⟩
      · have g1' : isL l[k].toNat = false := by simpa using g1
        rw [g1'] at HL1
        cases colon
        · rw [if_neg (by unfold gd; rw [g1']; simp)] at hS
          have HF : Hid (R = n) := hS
          clear hS g1 g1' hbe HL hk
          as_aux_lemma =>
            go_wp2_with fail
            refine (HL1.out _).mono ?_
            rintro e w1 ⟨rfl, rfl⟩
            go_wp2_with fail
            go_ret
            exact ⟨congrArg (fun z : Nat => Ending.returned (Value.int .i64 (z : Int))) HF.out.symm, rfl⟩
        · by_cases g2 : l[k].toNat = 58
          · have t58 : ((((ByteArray.mk l.toArray)[k]'hB).toNat : Int) == 58) = true := by rw [beq_iff_eq, hbe]; omega
            rw [if_pos (by unfold gd; rw [g1', g2]; rfl)] at hS
            have HR' : Hid (R = n + 1 + rowN true (l.drop (p + (n + 1)))) := by show R = _; rw [hS, hk]; show n + (rowN true (l.drop (p + n + 1)) + 1) = _; rw [show p + (n + 1) = p + n + 1 from by omega]; omega
            clear hS g1 g1' g2 hbe HL hk
            as_aux_lemma =>
              go_wp2_with fail
              refine (HL1.out _).mono ?_
              rintro e w1 ⟨rfl, rfl⟩
              go_wp2_with fail
              exact ⟨⟨n + 1, by omega, by go_num, HR', trivial⟩, by simp [intOf]; omega⟩
          · have t58 : ((((ByteArray.mk l.toArray)[k]'hB).toNat : Int) == 58) = false := by rw [beq_eq_false_iff_ne, hbe]; omega
            rw [if_neg (by unfold gd; rw [g1', decide_eq_false g2]; simp)] at hS
            have HF : Hid (R = n) := hS
            clear hS g1 g1' g2 hbe HL hk
            as_aux_lemma =>
              go_wp2_with fail
              refine (HL1.out _).mono ?_
              rintro e w1 ⟨rfl, rfl⟩
              go_wp2_with fail
              go_ret
              exact ⟨congrArg (fun z : Nat => Ending.returned (Value.int .i64 (z : Int))) HF.out.symm, rfl⟩
    · have hlt' : ¬ (k : Int) < (l.length : Int) := by omega
      rw [List.drop_eq_nil_of_le (by omega), rowN] at hS
      have HF : Hid (R = n) := hS
      clear hS HL hk
      as_aux_lemma =>
        go_wp2_with fail
        go_ret
        exact ⟨congrArg (fun z : Nat => Ending.returned (Value.int .i64 (z : Int))) HF.out.symm, rfl⟩
end Go.Proofs.Ytmphajfhilpgeab
