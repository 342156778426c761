/- THE LEAVES of label: letters and rows, the document's. Own work of the verifier. -/
import Derived.Test.YtckdkcnnfjbdmaaGreatRows
import Derived.WalkKit
import Derived.WalkSpells
import Derived.RowKit3
import Derived.Below
import Derived.Laws.Externs
import Derived.Outline
import Derived.Deep.QuietTactic
import Derived.BigQuiet
import Derived.Laws.Bits64
import Derived.Laws.BitsAllLaws
import Derived.Laws.DeepStrings4
import Derived.Deep.DeepCutAuto
import Derived.Deep.RegionHeld3
import Derived.Deep.CutBlock
import Derived.Lib.Strings
import Derived.Sort.Walk0
namespace Go.Proofs.YtckdkcnnfjbdmaaGreat.La
open Go.RowKit

/-- A letter, a digit or _. -/
def isL (c : Nat) : Bool := decide (97 ≤ c ∧ c ≤ 122 ∨ 65 ≤ c ∧ c ≤ 90 ∨ 48 ≤ c ∧ c ≤ 57 ∨ c = 95)
theorem letter_any (c : Nat) (w : World) :
    Calls Tryz.prog 147 #[.int .u8 (c : Int)] w fun e w' => e = .returned (.bool (isL c)) ∧ w' = w := by
  by_cases a1 : 97 ≤ c
  · have i97 : (97 : Int) ≤ (c : Int) := by omega
    by_cases a2 : c ≤ 122
    · have i122 : (c : Int) ≤ 122 := by omega
      rw [show isL c = true from decide_eq_true (by omega)]
      as_aux_lemma =>
        go_enter Tryz.func147, Tryz.ntmps147
        go_wp2_with fail
        go_ret
        exact ⟨rfl, rfl⟩
    · have i122 : ¬ (c : Int) ≤ 122 := by omega
      have i65 : (65 : Int) ≤ (c : Int) := by omega
      have i90 : ¬ (c : Int) ≤ 90 := by omega
      have i48 : (48 : Int) ≤ (c : Int) := by omega
      have i57 : ¬ (c : Int) ≤ 57 := by omega
      have i95 : ((c : Int) == 95) = false := by rw [beq_eq_false_iff_ne]; omega
      rw [show isL c = false from decide_eq_false (by omega)]
      as_aux_lemma =>
        go_enter Tryz.func147, Tryz.ntmps147
        go_wp2_with fail
        go_ret
        exact ⟨rfl, rfl⟩
  have i97 : ¬ (97 : Int) ≤ (c : Int) := by omega
  by_cases a3 : 65 ≤ c
  · have i65 : (65 : Int) ≤ (c : Int) := by omega
    by_cases a4 : c ≤ 90
    · have i90 : (c : Int) ≤ 90 := by omega
      rw [show isL c = true from decide_eq_true (by omega)]
      as_aux_lemma =>
        go_enter Tryz.func147, Tryz.ntmps147
        go_wp2_with fail
        go_ret
        exact ⟨rfl, rfl⟩
    · have i90 : ¬ (c : Int) ≤ 90 := by omega
      have i48 : (48 : Int) ≤ (c : Int) := by omega
      have i57 : ¬ (c : Int) ≤ 57 := by omega
      by_cases a5 : c = 95
      · have i95 : ((c : Int) == 95) = true := by rw [beq_iff_eq]; omega
        rw [show isL c = true from decide_eq_true (by omega)]
        clear a5
        as_aux_lemma =>
          go_enter Tryz.func147, Tryz.ntmps147
          go_wp2_with fail
          go_ret
          exact ⟨rfl, rfl⟩
      · have i95 : ((c : Int) == 95) = false := by rw [beq_eq_false_iff_ne]; omega
        rw [show isL c = false from decide_eq_false (by omega)]
        as_aux_lemma =>
          go_enter Tryz.func147, Tryz.ntmps147
          go_wp2_with fail
          go_ret
          exact ⟨rfl, rfl⟩
  have i65 : ¬ (65 : Int) ≤ (c : Int) := by omega
  by_cases a6 : 48 ≤ c
  · have i48 : (48 : Int) ≤ (c : Int) := by omega
    by_cases a7 : c ≤ 57
    · have i57 : (c : Int) ≤ 57 := by omega
      rw [show isL c = true from decide_eq_true (by omega)]
      as_aux_lemma =>
        go_enter Tryz.func147, Tryz.ntmps147
        go_wp2_with fail
        go_ret
        exact ⟨rfl, rfl⟩
    · have i57 : ¬ (c : Int) ≤ 57 := by omega
      have i95 : ((c : Int) == 95) = false := by rw [beq_eq_false_iff_ne]; omega
      rw [show isL c = false from decide_eq_false (by omega)]
      as_aux_lemma =>
        go_enter Tryz.func147, Tryz.ntmps147
        go_wp2_with fail
        go_ret
        exact ⟨rfl, rfl⟩
  · have i48 : ¬ (48 : Int) ≤ (c : Int) := by omega
    have i95 : ((c : Int) == 95) = false := by rw [beq_eq_false_iff_ne]; omega
    rw [show isL c = false from decide_eq_false (by omega)]
    as_aux_lemma =>
      go_enter Tryz.func147, Tryz.ntmps147
      go_wp2_with fail
      go_ret
      exact ⟨rfl, rfl⟩
/-- A byte of a row. -/
def gd (colon : Bool) (c : Nat) : Bool := isL c || (colon && decide (c = 58))
/-- How long the longest row is. -/
def rowN (colon : Bool) : List UInt8 → Nat
  | [] => 0
  | b :: r => if gd colon b.toNat then rowN colon r + 1 else 0
theorem rowN_le (colon : Bool) : ∀ l : List UInt8, rowN colon l ≤ l.length
  | [] => Nat.le_refl _
  | b :: r => by
    rw [rowN, List.length_cons]
    have := rowN_le colon r
    split <;> omega
set_option maxHeartbeats 1000000 in
set_option maxRecDepth 100000 in
theorem row_any (l : List UInt8) (p : Nat) (colon : Bool) (hp : p ≤ l.length) (hl : l.length ≤ 4611686018427387904) (w : World) :
    Calls Tryz.prog 126 #[.string ⟨l.toArray⟩, .int .i64 (p : Int), .bool colon] w fun e w' => e = .returned (.int .i64 ((rowN colon (l.drop p) : Nat) : Int)) ∧ w' = w := by
  have HL : Hid (∀ (c : Nat) (W : World), Calls Tryz.prog 147 #[.int .u8 (c : Int)] W fun e w' => e = .returned (.bool (isL c)) ∧ w' = W) := fun c W => letter_any c W
  obtain ⟨R, hR⟩ : ∃ R, R = rowN colon (l.drop p) := ⟨_, rfl⟩
  rw [← hR]
  have HR0 : Hid (R = 0 + rowN colon (l.drop (p + 0))) := by show R = _; rw [hR, Nat.add_zero, Nat.zero_add]
  clear hR
  go_enter Tryz.func126, Tryz.ntmps126
  go_wp2_with fail
  go_loopw [7] (fun a W => ∃ n : Nat, p + n ≤ l.length ∧ a = .int .i64 (n : Int) ∧ Hid (R = n + rowN colon (l.drop (p + n))) ∧ W = w) (fun a _ => l.length - (intOf a).toNat)
  case atStart => exact ⟨0, by omega, rfl, HR0, rfl⟩
  case round =>
    obtain ⟨n, hn, rfl, HR, hw⟩ := hrel
    subst wr
    clear HR0
    obtain ⟨k, hk⟩ : ∃ k, k = p + n := ⟨_, rfl⟩
    have hk' : (p : Int) + (n : Int) = (k : Int) := by omega
    have hS := HR.out
    clear HR
    rw [← hk] at hS
    by_cases hlt : k < l.length
    · have hlt' : (k : Int) < (l.length : Int) := by omega
      have hB : k < (ByteArray.mk l.toArray).size := by show k < l.toArray.size; simpa using hlt
      have hbe : ((ByteArray.mk l.toArray)[k]'hB).toNat = l[k].toNat := rfl
      rw [List.drop_eq_getElem_cons hlt, rowN] at hS
      have HL1 : Hid _ := HL.out ((ByteArray.mk l.toArray)[k]'hB).toNat
      rw [hbe] at HL1
      by_cases g1 : isL l[k].toNat = true
      · rw [g1] at HL1
        rw [if_pos (by unfold gd; rw [g1]; rfl)] at hS
        have HR' : Hid (R = n + 1 + rowN colon (l.drop (p + (n + 1)))) := by show R = _; rw [hS, hk]; show n + (rowN colon (l.drop (p + n + 1)) + 1) = _; rw [show p + (n + 1) = p + n + 1 from by omega]; omega
        clear hS g1 hbe HL hk
        as_aux_lemma =>
          go_wp2_with fail
          refine (HL1.out _).mono ?_
          rintro e w1 ⟨rfl, rfl⟩
          go_wp2_with fail
          exact ⟨⟨n + 1, by omega, by go_num, HR', trivial⟩, by simp [intOf]; omega⟩
      · have g1' : isL l[k].toNat = false := by simpa using g1
        rw [g1'] at HL1
        cases colon
        · rw [if_neg (by unfold gd; rw [g1']; simp)] at hS
          have HF : Hid (R = n) := hS
          clear hS g1 g1' hbe HL hk
          as_aux_lemma =>
            go_wp2_with fail
            refine (HL1.out _).mono ?_
            rintro e w1 ⟨rfl, rfl⟩
            go_wp2_with fail
            go_ret
            exact ⟨congrArg (fun z : Nat => Ending.returned (Value.int .i64 (z : Int))) HF.out.symm, rfl⟩
        · by_cases g2 : l[k].toNat = 58
          · have t58 : ((((ByteArray.mk l.toArray)[k]'hB).toNat : Int) == 58) = true := by rw [beq_iff_eq, hbe]; omega
            rw [if_pos (by unfold gd; rw [g1', g2]; rfl)] at hS
            have HR' : Hid (R = n + 1 + rowN true (l.drop (p + (n + 1)))) := by show R = _; rw [hS, hk]; show n + (rowN true (l.drop (p + n + 1)) + 1) = _; rw [show p + (n + 1) = p + n + 1 from by omega]; omega
            clear hS g1 g1' g2 hbe HL hk
            as_aux_lemma =>
              go_wp2_with fail
              refine (HL1.out _).mono ?_
              rintro e w1 ⟨rfl, rfl⟩
              go_wp2_with fail
              exact ⟨⟨n + 1, by omega, by go_num, HR', trivial⟩, by simp [intOf]; omega⟩
          · have t58 : ((((ByteArray.mk l.toArray)[k]'hB).toNat : Int) == 58) = false := by rw [beq_eq_false_iff_ne, hbe]; omega
            rw [if_neg (by unfold gd; rw [g1', decide_eq_false g2]; simp)] at hS
            have HF : Hid (R = n) := hS
            clear hS g1 g1' g2 hbe HL hk
            as_aux_lemma =>
              go_wp2_with fail
              refine (HL1.out _).mono ?_
              rintro e w1 ⟨rfl, rfl⟩
              go_wp2_with fail
              go_ret
              exact ⟨congrArg (fun z : Nat => Ending.returned (Value.int .i64 (z : Int))) HF.out.symm, rfl⟩
    · have hlt' : ¬ (k : Int) < (l.length : Int) := by omega
      rw [List.drop_eq_nil_of_le (by omega), rowN] at hS
      have HF : Hid (R = n) := hS
      clear hS HL hk
      as_aux_lemma =>
        go_wp2_with fail
        go_ret
        exact ⟨congrArg (fun z : Nat => Ending.returned (Value.int .i64 (z : Int))) HF.out.symm, rfl⟩
end Go.Proofs.YtckdkcnnfjbdmaaGreat.La
/- NAMES, the document's: ends, plain, Name, LabelName. Own work of the verifier. -/
namespace Go.Proofs.YtckdkcnnfjbdmaaGreat.La
open Go.RowKit

theorem drop_bytes (l : List UInt8) (k : Nat) : (ByteArray.mk l.toArray).extract k l.length = ⟨(l.drop k).toArray⟩ := by
  apply ByteArray.ext
  rw [ByteArray.data_extract]
  simp
  exact List.take_of_length_le (by simp)
theorem take_bytes (l : List UInt8) (k : Nat) : (ByteArray.mk l.toArray).extract 0 k = ⟨(l.take k).toArray⟩ := by
  apply ByteArray.ext
  rw [ByteArray.data_extract]
  simp
/-- Does a text end so? -/
def endsB (l e : List UInt8) : Bool := decide (e.length ≤ l.length) && (l.drop (l.length - e.length) == e)
set_option maxHeartbeats 1000000 in
theorem ends_any (l e : List UInt8) (hl : l.length ≤ 4611686018427387904) (he : e.length ≤ 4611686018427387904) (w : World) :
    Calls Tryz.prog 91 #[.string ⟨l.toArray⟩, .string ⟨e.toArray⟩] w fun r w' => r = .returned (.bool (endsB l e)) ∧ w' = w := by
  by_cases h : e.length ≤ l.length
  · have h' : (e.length : Int) ≤ (l.length : Int) := by omega
    obtain ⟨k, hk⟩ : ∃ k, k = l.length - e.length := ⟨_, rfl⟩
    have hk' : (l.length : Int) - (e.length : Int) = (k : Int) := by omega
    have hkl : k ≤ l.length := by omega
    have hD := drop_bytes l k
    have hE : endsB l e = (l.drop k == e) := by unfold endsB; rw [decide_eq_true h, ← hk]; rfl
    rw [hE]
    generalize hd : l.drop k = d at *
    clear hk hE
    by_cases g : d = e
    · subst g
      rw [show (d == d) = true from by simp]
      as_aux_lemma =>
        go_enter Tryz.func91, Tryz.ntmps91
        go_wp2_with fail
        go_ret
        exact ⟨rfl, rfl⟩
    · have g' : (d == e) = false := by simpa using g
      rw [g']
      clear g
      as_aux_lemma =>
        go_enter Tryz.func91, Tryz.ntmps91
        go_wp2_with fail
        go_ret
        exact ⟨rfl, rfl⟩
  · have h' : ¬ (e.length : Int) ≤ (l.length : Int) := by omega
    rw [show endsB l e = false from by unfold endsB; rw [decide_eq_false h]; rfl]
    as_aux_lemma =>
      go_enter Tryz.func91, Tryz.ntmps91
      go_wp2_with fail
      go_ret
      exact ⟨rfl, rfl⟩
/-- A plain name: 1 to 64 bytes of a row, no digit first. -/
def plainB (colon : Bool) (l : List UInt8) : Bool := decide (1 ≤ l.length) && decide (l.length ≤ 64) && decide (rowN colon l = l.length) && !(decide (48 ≤ (l.getD 0 0).toNat) && decide ((l.getD 0 0).toNat ≤ 57))
theorem get_zero (l : List UInt8) (h : 0 < l.length) (hB : 0 < (ByteArray.mk l.toArray).size) : ((ByteArray.mk l.toArray)[0]'hB).toNat = (l.getD 0 0).toNat := by
  rw [List.getD_eq_getElem?_getD, List.getElem?_eq_getElem h]
  rfl
set_option maxHeartbeats 1000000 in
theorem plain_any (l : List UInt8) (colon : Bool) (hl : l.length ≤ 4611686018427387904) (w : World) :
    Calls Tryz.prog 90 #[.string ⟨l.toArray⟩, .bool colon] w fun r w' => r = .returned (.bool (plainB colon l)) ∧ w' = w := by
  have HR : Hid (∀ W, Calls Tryz.prog 126 #[.string ⟨l.toArray⟩, .int .i64 0, .bool colon] W fun e w' => e = .returned (.int .i64 ((rowN colon l : Nat) : Int)) ∧ w' = W) := fun W => row_any l 0 colon (by omega) hl W
  by_cases g0 : 1 ≤ l.length
  · have p1 : (1 : Int) ≤ (l.length : Int) := by omega
    by_cases g1 : l.length ≤ 64
    · have p2 : (l.length : Int) ≤ 64 := by omega
      by_cases g2 : rowN colon l = l.length
      · rw [g2] at HR
        have hB : 0 < (ByteArray.mk l.toArray).size := by show 0 < l.toArray.size; rw [List.size_toArray]; omega
        have hbe := get_zero l g0 hB
        by_cases g3 : 48 ≤ (l.getD 0 0).toNat
        · have p4 : (48 : Int) ≤ (((ByteArray.mk l.toArray)[0]'hB).toNat : Int) := by rw [hbe]; omega
          by_cases g4 : (l.getD 0 0).toNat ≤ 57
          · have p5 : (((ByteArray.mk l.toArray)[0]'hB).toNat : Int) ≤ 57 := by rw [hbe]; omega
            rw [show plainB colon l = false from by unfold plainB; rw [decide_eq_true g3, decide_eq_true g4]; simp]
            clear g0 g1 g2 g3 g4 hbe
            as_aux_lemma =>
              go_enter Tryz.func90, Tryz.ntmps90
              go_wp2_with fail
              refine (HR.out _).mono ?_
              rintro e w1 ⟨rfl, rfl⟩
              go_wp2_with fail
              go_ret
              exact ⟨rfl, rfl⟩
          · have p5 : ¬ (((ByteArray.mk l.toArray)[0]'hB).toNat : Int) ≤ 57 := by rw [hbe]; omega
            rw [show plainB colon l = true from by unfold plainB; rw [decide_eq_true g0, decide_eq_true g1, decide_eq_true g2, decide_eq_false g4]; simp]
            clear g0 g1 g2 g3 g4 hbe
            as_aux_lemma =>
              go_enter Tryz.func90, Tryz.ntmps90
              go_wp2_with fail
              refine (HR.out _).mono ?_
              rintro e w1 ⟨rfl, rfl⟩
              go_wp2_with fail
              go_ret
              exact ⟨congrArg (fun b => Ending.returned (Value.bool (!b))) (decide_eq_false (by omega)), rfl⟩
        · have p4 : ¬ (48 : Int) ≤ (((ByteArray.mk l.toArray)[0]'hB).toNat : Int) := by rw [hbe]; omega
          rw [show plainB colon l = true from by unfold plainB; rw [decide_eq_true g0, decide_eq_true g1, decide_eq_true g2, decide_eq_false g3]; simp]
          clear g0 g1 g2 g3 hbe
          as_aux_lemma =>
            go_enter Tryz.func90, Tryz.ntmps90
            go_wp2_with fail
            refine (HR.out _).mono ?_
            rintro e w1 ⟨rfl, rfl⟩
            go_wp2_with fail
            go_ret
            exact ⟨rfl, rfl⟩
      · have p3 : (((rowN colon l : Nat) : Int) == (l.length : Int)) = false := by rw [beq_eq_false_iff_ne]; omega
        rw [show plainB colon l = false from by unfold plainB; rw [decide_eq_false g2]; simp]
        generalize rowN colon l = R at *
        clear g0 g1 g2
        as_aux_lemma =>
          go_enter Tryz.func90, Tryz.ntmps90
          go_wp2_with fail
          refine (HR.out _).mono ?_
          rintro e w1 ⟨rfl, rfl⟩
          go_wp2_with fail
          go_ret
          exact ⟨rfl, rfl⟩
    · have p2 : ¬ (l.length : Int) ≤ 64 := by omega
      rw [show plainB colon l = false from by unfold plainB; rw [decide_eq_false g1]; simp]
      clear g0 g1
      as_aux_lemma =>
        go_enter Tryz.func90, Tryz.ntmps90
        go_wp2_with fail
        go_ret
        exact ⟨rfl, rfl⟩
  · have p1 : ¬ (1 : Int) ≤ (l.length : Int) := by omega
    rw [show plainB colon l = false from by unfold plainB; rw [decide_eq_false g0]; simp]
    clear g0
    as_aux_lemma =>
      go_enter Tryz.func90, Tryz.ntmps90
      go_wp2_with fail
      go_ret
      exact ⟨rfl, rfl⟩
theorem plainB_len {colon : Bool} {l : List UInt8} (h : plainB colon l = true) : 1 ≤ l.length ∧ l.length ≤ 64 ∧ rowN colon l = l.length := by
  unfold plainB at h
  simp only [Bool.and_eq_true, decide_eq_true_eq] at h
  exact ⟨h.1.1.1, h.1.1.2, h.1.2⟩
/-- A family's name. -/
def nameB (l : List UInt8) : Bool := plainB true l && !endsB l [95, 98, 117, 99, 107, 101, 116] && !endsB l [95, 115, 117, 109] && !endsB l [95, 99, 111, 117, 110, 116]
set_option maxHeartbeats 1000000 in
theorem name_any (l : List UInt8) (hl : l.length ≤ 4611686018427387904) (w : World) :
    Calls Tryz.prog 50 #[.string ⟨l.toArray⟩] w fun r w' => r = .returned (.bool (nameB l)) ∧ w' = w := by
  have HP : Hid _ := fun W => plain_any l true hl W
  have H1 : Hid (∀ W, Calls Tryz.prog 91 #[.string ⟨l.toArray⟩, .string ⟨#[95, 98, 117, 99, 107, 101, 116]⟩] W fun r w' => r = .returned (.bool (endsB l [95, 98, 117, 99, 107, 101, 116])) ∧ w' = W) := fun W => ends_any l [95, 98, 117, 99, 107, 101, 116] hl (by decide) W
  have H2 : Hid (∀ W, Calls Tryz.prog 91 #[.string ⟨l.toArray⟩, .string ⟨#[95, 115, 117, 109]⟩] W fun r w' => r = .returned (.bool (endsB l [95, 115, 117, 109])) ∧ w' = W) := fun W => ends_any l [95, 115, 117, 109] hl (by decide) W
  have H3 : Hid (∀ W, Calls Tryz.prog 91 #[.string ⟨l.toArray⟩, .string ⟨#[95, 99, 111, 117, 110, 116]⟩] W fun r w' => r = .returned (.bool (endsB l [95, 99, 111, 117, 110, 116])) ∧ w' = W) := fun W => ends_any l [95, 99, 111, 117, 110, 116] hl (by decide) W
  have hN : nameB l = (plainB true l && !endsB l [95, 98, 117, 99, 107, 101, 116] && !endsB l [95, 115, 117, 109] && !endsB l [95, 99, 111, 117, 110, 116]) := rfl
  rw [hN]
  generalize plainB true l = b0 at *
  generalize endsB l [95, 98, 117, 99, 107, 101, 116] = b1 at *
  generalize endsB l [95, 115, 117, 109] = b2 at *
  generalize endsB l [95, 99, 111, 117, 110, 116] = b3 at *
  clear hN
  cases b0 <;> cases b1 <;> cases b2 <;> cases b3 <;> (
    as_aux_lemma =>
      go_enter Tryz.func50, Tryz.ntmps50
      go_wp2_with (first
        | (go_at_call 90; with_reducible refine (HP.out _).mono ?_; rintro e w1 ⟨rfl, rfl⟩)
        | (go_at_call 91; first | (with_reducible refine (H1.out _).mono ?_; rintro e w1 ⟨rfl, rfl⟩) | (with_reducible refine (H2.out _).mono ?_; rintro e w1 ⟨rfl, rfl⟩) | (with_reducible refine (H3.out _).mono ?_; rintro e w1 ⟨rfl, rfl⟩))
        | fail)
      go_ret
      exact ⟨rfl, rfl⟩)
/-- A label's name. -/
def lnameB (l : List UInt8) : Bool := plainB false l && !(l == [108, 101]) && !(l == [113, 117, 97, 110, 116, 105, 108, 101]) && !(decide (2 ≤ l.length) && (l.take 2 == [95, 95]))
set_option maxHeartbeats 1000000 in
theorem lname_any (l : List UInt8) (hl : l.length ≤ 4611686018427387904) (w : World) :
    Calls Tryz.prog 52 #[.string ⟨l.toArray⟩] w fun r w' => r = .returned (.bool (lnameB l)) ∧ w' = w := by
  have HP : Hid _ := fun W => plain_any l false hl W
  have hN : lnameB l = (plainB false l && !(l == [108, 101]) && !(l == [113, 117, 97, 110, 116, 105, 108, 101]) && !(decide (2 ≤ l.length) && (l.take 2 == [95, 95]))) := rfl
  rw [hN]
  have hT := take_bytes l 2
  generalize hb1 : (l == [108, 101]) = b1 at *
  generalize hb2 : (l == [113, 117, 97, 110, 116, 105, 108, 101]) = b2 at *
  generalize plainB false l = b0 at *
  clear hN
  by_cases g : 2 ≤ l.length
  · have g' : (2 : Int) ≤ (l.length : Int) := by omega
    rw [decide_eq_true g]
    generalize l.take 2 = t at *
    generalize hb3 : (t == [95, 95]) = b3 at *
    cases b0 <;> cases b1 <;> cases b2 <;> cases b3 <;> (
      as_aux_lemma =>
        go_enter Tryz.func52, Tryz.ntmps52
        go_wp2_with (first
          | (go_at_call 90; with_reducible refine (HP.out _).mono ?_; rintro e w1 ⟨rfl, rfl⟩)
          | fail)
        go_ret
        exact ⟨rfl, rfl⟩)
  · have g' : ¬ (2 : Int) ≤ (l.length : Int) := by omega
    rw [decide_eq_false g]
    clear hT
    cases b0 <;> cases b1 <;> cases b2 <;> (
      as_aux_lemma =>
        go_enter Tryz.func52, Tryz.ntmps52
        go_wp2_with (first
          | (go_at_call 90; with_reducible refine (HP.out _).mono ?_; rintro e w1 ⟨rfl, rfl⟩)
          | fail)
        go_ret
        exact ⟨rfl, rfl⟩)
end Go.Proofs.YtckdkcnnfjbdmaaGreat.La
/- RIGHT UTF-8, the document's: tail, Utf, text. Own work of the verifier. -/
namespace Go.Proofs.YtckdkcnnfjbdmaaGreat.La
open Go.RowKit

/-- A byte 80 to bf. -/
def tlB (b : Nat) : Bool := decide (128 ≤ b) && decide (b < 192)
def tlAt (l : List UInt8) (k : Nat) : Bool := decide (k < l.length) && tlB (l.getD k 0).toNat
theorem get_at (l : List UInt8) (k : Nat) (h : k < l.length) : (l.getD k 0) = l[k] := by
  rw [List.getD_eq_getElem?_getD, List.getElem?_eq_getElem h]; rfl
set_option maxHeartbeats 1000000 in
theorem tail_any (l : List UInt8) (k : Nat) (_hl : l.length ≤ 4611686018427387904) (w : World) :
    Calls Tryz.prog 127 #[.string ⟨l.toArray⟩, .int .i64 (k : Int)] w fun r w' => r = .returned (.bool (tlAt l k)) ∧ w' = w := by
  by_cases h : k < l.length
  · have h' : (k : Int) < (l.length : Int) := by omega
    have hB : k < (ByteArray.mk l.toArray).size := by show k < l.toArray.size; simpa using h
    have hbe : ((ByteArray.mk l.toArray)[k]'hB).toNat = l[k].toNat := rfl
    have hE : tlAt l k = tlB l[k].toNat := by unfold tlAt; rw [decide_eq_true h, get_at l k h]; rfl
    rw [hE]
    by_cases a : 128 ≤ l[k].toNat
    · have a' : (128 : Int) ≤ (((ByteArray.mk l.toArray)[k]'hB).toNat : Int) := by rw [hbe]; omega
      by_cases b : l[k].toNat < 192
      · have b' : (((ByteArray.mk l.toArray)[k]'hB).toNat : Int) < 192 := by rw [hbe]; omega
        rw [show tlB l[k].toNat = true from by unfold tlB; rw [decide_eq_true a, decide_eq_true b]; rfl]
        clear hbe hE a b
        as_aux_lemma =>
          go_enter Tryz.func127, Tryz.ntmps127
          go_wp2_with fail
          go_ret
          exact ⟨rfl, rfl⟩
      · have b' : (192 : Int) ≤ (((ByteArray.mk l.toArray)[k]'hB).toNat : Int) := by rw [hbe]; omega
        rw [show tlB l[k].toNat = false from by unfold tlB; rw [decide_eq_false b]; simp]
        clear hbe hE a b
        as_aux_lemma =>
          go_enter Tryz.func127, Tryz.ntmps127
          go_wp2_with fail
          go_ret
          exact ⟨congrArg (fun b => Ending.returned (Value.bool b)) (decide_eq_false (by omega)), rfl⟩
    · have a' : ¬ (128 : Int) ≤ (((ByteArray.mk l.toArray)[k]'hB).toNat : Int) := by rw [hbe]; omega
      rw [show tlB l[k].toNat = false from by unfold tlB; rw [decide_eq_false a]; simp]
      clear hbe hE a
      as_aux_lemma =>
        go_enter Tryz.func127, Tryz.ntmps127
        go_wp2_with fail
        go_ret
        exact ⟨rfl, rfl⟩
  · have h' : ¬ (k : Int) < (l.length : Int) := by omega
    rw [show tlAt l k = false from by unfold tlAt; rw [decide_eq_false h]; rfl]
    as_aux_lemma =>
      go_enter Tryz.func127, Tryz.ntmps127
      go_wp2_with fail
      go_ret
      exact ⟨rfl, rfl⟩
/-- n bytes behind the first one of a sign, c being what was read so far. -/
def cont : Nat → Nat → List UInt8 → Option Nat
  | 0, c, _ => some c
  | _ + 1, _, [] => none
  | n + 1, c, b :: r => if tlB b.toNat then cont n (64 * c + b.toNat - 128) r else none
/-- How many bytes follow the first one, and what it tells. -/
def lead (b : Nat) : Option (Nat × Nat) := if 192 ≤ b ∧ b < 224 then some (1, b - 192) else if 224 ≤ b ∧ b < 240 then some (2, b - 224) else if 240 ≤ b ∧ b < 248 then some (3, b - 240) else none
def fine (n c : Nat) : Bool := decide (¬ (n = 1 ∧ c < 128 ∨ n = 2 ∧ c < 2048 ∨ n = 3 ∧ c < 65536 ∨ 1114111 < c ∨ 55296 ≤ c ∧ c ≤ 57343))
/-- Right UTF-8. -/
def utfB : List UInt8 → Bool
  | [] => true
  | b :: r => if b.toNat < 128 then utfB r else
    match lead b.toNat with
    | none => false
    | some (n, c0) => match cont n c0 r with
      | none => false
      | some c => fine n c && utfB (r.drop n)
termination_by l => l.length
decreasing_by
  · simp
  · simp; omega
theorem cont_step (l : List UInt8) (k m c : Nat) : cont (m + 1) c (l.drop k) = if tlAt l k then cont m (64 * c + (l.getD k 0).toNat - 128) (l.drop (k + 1)) else none := by
  unfold tlAt
  rcases Nat.lt_or_ge k l.length with g | g
  · rw [List.drop_eq_getElem_cons g, cont, decide_eq_true g, get_at l k g]
    rfl
  · rw [List.drop_eq_nil_of_le g, cont, decide_eq_false (by omega)]
    rfl
theorem utf_low (l : List UInt8) (i : Nat) (h : i < l.length) (hb : l[i].toNat < 128) : utfB (l.drop i) = utfB (l.drop (i + 1)) := by
  rw [List.drop_eq_getElem_cons h, utfB, if_pos hb]
theorem utf_lead (l : List UInt8) (i n c0 : Nat) (h : i < l.length) (hb : ¬ l[i].toNat < 128) (hl : lead l[i].toNat = some (n, c0)) :
    utfB (l.drop i) = match cont n c0 (l.drop (i + 1)) with
      | none => false
      | some c => fine n c && utfB (l.drop (i + (n + 1))) := by
  rw [List.drop_eq_getElem_cons h, utfB, if_neg hb, hl]
  simp only
  cases cont n c0 (l.drop (i + 1)) with
  | none => rfl
  | some c =>
    simp only
    rw [List.drop_drop, show i + 1 + n = i + (n + 1) from by omega]
theorem utf_none (l : List UInt8) (i : Nat) (h : i < l.length) (hb : ¬ l[i].toNat < 128) (hl : lead l[i].toNat = none) : utfB (l.drop i) = false := by
  rw [List.drop_eq_getElem_cons h, utfB, if_neg hb, hl]
end Go.Proofs.YtckdkcnnfjbdmaaGreat.La
/- Utf, the document's: THE WALK; text. Own work of the verifier. -/
namespace Go.Proofs.YtckdkcnnfjbdmaaGreat.La
open Go.RowKit

/-- How great what was read so far may be, by how many bytes were read. -/
def Low (k c : Nat) : Prop := (k = 1 → c < 32) ∧ (k = 2 → c < 2048) ∧ (k = 3 → c < 131072) ∧ (k = 4 → c < 8388608) ∧ c < 8388608
set_option maxHeartbeats 4000000 in
set_option maxRecDepth 100000 in
theorem utf_any (l : List UInt8) (hl : l.length ≤ 4611686018427387904) (w : World) :
    Calls Tryz.prog 92 #[.string ⟨l.toArray⟩] w fun r w' => r = .returned (.bool (utfB l)) ∧ w' = w := by
  have HT : Hid (∀ (k : Nat) (W : World), Calls Tryz.prog 127 #[.string ⟨l.toArray⟩, .int .i64 (k : Int)] W fun r w' => r = .returned (.bool (tlAt l k)) ∧ w' = W) := fun k W => tail_any l k hl W
  obtain ⟨U, hU⟩ : ∃ U, U = utfB l := ⟨_, rfl⟩
  rw [← hU]
  have HU0 : Hid (U = utfB (l.drop 0)) := hU
  clear hU
  go_enter Tryz.func92, Tryz.ntmps92
  go_wp2_with fail
  go_loopw [3] (fun a W => ∃ i : Nat, i ≤ l.length ∧ a = .int .i64 (i : Int) ∧ Hid (U = utfB (l.drop i)) ∧ W = w) (fun a _ => l.length - (intOf a).toNat)
  case atStart => exact ⟨0, by omega, rfl, HU0, rfl⟩
  case round =>
    obtain ⟨i, hi, rfl, HR, hw⟩ := hrel
    subst wr
    clear HU0
    by_cases hlt : i < l.length
    · have hlt' : (i : Int) < (l.length : Int) := by omega
      have hB : i < (ByteArray.mk l.toArray).size := by show i < l.toArray.size; simpa using hlt
      have hbe : ((ByteArray.mk l.toArray)[i]'hB).toNat = l[i].toNat := rfl
      have h256 : ((ByteArray.mk l.toArray)[i]'hB).toNat < 256 := UInt8.toNat_lt _
      by_cases c1 : l[i].toNat < 128
      · have c1' : (((ByteArray.mk l.toArray)[i]'hB).toNat : Int) < 128 := by rw [hbe]; omega
        have HR' : Hid (U = utfB (l.drop (i + 1))) := HR.out.trans (utf_low l i hlt c1)
        clear HR c1 hbe HT
        as_aux_lemma =>
          go_wp2_with fail
          exact ⟨⟨i + 1, by omega, by go_num, HR', trivial⟩, by simp [intOf]; omega⟩
      have c1' : ¬ (((ByteArray.mk l.toArray)[i]'hB).toNat : Int) < 128 := by rw [hbe]; omega
      cases hld : lead l[i].toNat with
      | none =>
        have HF : Hid (U = false) := HR.out.trans (utf_none l i hlt c1 hld)
        unfold lead at hld
        have d : l[i].toNat < 192 ∨ 248 ≤ l[i].toNat := by
          split at hld
          · cases hld
          · split at hld
            · cases hld
            · split at hld
              · cases hld
              · omega
        clear HR hld HT
        rcases d with d | d
        · have t1 : ¬ (192 : Int) ≤ (((ByteArray.mk l.toArray)[i]'hB).toNat : Int) := by rw [hbe]; omega
          have t2 : ¬ (224 : Int) ≤ (((ByteArray.mk l.toArray)[i]'hB).toNat : Int) := by rw [hbe]; omega
          have t3 : ¬ (240 : Int) ≤ (((ByteArray.mk l.toArray)[i]'hB).toNat : Int) := by rw [hbe]; omega
          clear hbe c1 d
          as_aux_lemma =>
            go_wp2_with fail
            go_ret
            exact ⟨congrArg (fun b => Ending.returned (Value.bool b)) HF.out.symm, rfl⟩
        · have t1 : (192 : Int) ≤ (((ByteArray.mk l.toArray)[i]'hB).toNat : Int) := by rw [hbe]; omega
          have t2 : (224 : Int) ≤ (((ByteArray.mk l.toArray)[i]'hB).toNat : Int) := by rw [hbe]; omega
          have t3 : (240 : Int) ≤ (((ByteArray.mk l.toArray)[i]'hB).toNat : Int) := by rw [hbe]; omega
          have t4 : ¬ (((ByteArray.mk l.toArray)[i]'hB).toNat : Int) < 224 := by rw [hbe]; omega
          have t5 : ¬ (((ByteArray.mk l.toArray)[i]'hB).toNat : Int) < 240 := by rw [hbe]; omega
          have t6 : ¬ (((ByteArray.mk l.toArray)[i]'hB).toNat : Int) < 248 := by rw [hbe]; omega
          clear hbe c1 d
          as_aux_lemma =>
            go_wp2_with fail
            go_ret
            exact ⟨congrArg (fun b => Ending.returned (Value.bool b)) HF.out.symm, rfl⟩
      | some q =>
        obtain ⟨n, c0⟩ := q
        have HM : Hid (U = match cont n c0 (l.drop (i + 1)) with | none => false | some c => fine n c && utfB (l.drop (i + (n + 1)))) := HR.out.trans (utf_lead l i n c0 hlt c1 hld)
        unfold lead at hld
        have d : (n = 1 ∧ 192 ≤ l[i].toNat ∧ l[i].toNat < 224 ∧ c0 = l[i].toNat - 192) ∨ (n = 2 ∧ 224 ≤ l[i].toNat ∧ l[i].toNat < 240 ∧ c0 = l[i].toNat - 224) ∨ (n = 3 ∧ 240 ≤ l[i].toNat ∧ l[i].toNat < 248 ∧ c0 = l[i].toNat - 240) := by
          split at hld
          · have := Prod.mk.inj (Option.some.inj hld); omega
          · split at hld
            · have := Prod.mk.inj (Option.some.inj hld); omega
            · split at hld
              · have := Prod.mk.inj (Option.some.inj hld); omega
              · cases hld
        clear HR hld
        have hc0 : c0 < 32 := by omega
        have hn3 : n ≤ 3 := by omega
        have hn1 : 1 ≤ n := by omega
        rcases d with ⟨dn, d1, d2, d3⟩ | ⟨dn, d1, d2, d3⟩ | ⟨dn, d1, d2, d3⟩
        · subst dn
          have t1a : (192 : Int) ≤ (((ByteArray.mk l.toArray)[i]'hB).toNat : Int) := by rw [hbe]; omega
          have t1b : (((ByteArray.mk l.toArray)[i]'hB).toNat : Int) < 224 := by rw [hbe]; omega
          have hc' : (((ByteArray.mk l.toArray)[i]'hB).toNat : Int) - 192 = (c0 : Int) := by rw [hbe]; omega
          have hi1 : i + 1 ≤ l.length := by omega
          clear hbe c1 d1 d2 d3 h256
          as_aux_lemma =>
          go_wp2_with fail
          go_loopw [4, 6] (fun a b W => ∃ c k : Nat, a = .int .i64 (c : Int) ∧ b = .int .i64 (k : Int) ∧ 1 ≤ k ∧ k ≤ 2 ∧ i + k ≤ l.length ∧ Low k c ∧ Hid (cont 1 c0 (l.drop (i + 1)) = cont (2 - k) c (l.drop (i + k))) ∧ W = w) (fun _ b _ => 2 - (intOf b).toNat)
          case atStart => exact ⟨c0, 1, rfl, rfl, by omega, by omega, hi1, ⟨fun _ => by omega, (fun h => by omega), (fun h => by omega), (fun h => by omega), by omega⟩, rfl, rfl⟩
          case round =>
          obtain ⟨c, k, rfl, rfl, k1, k2, kl, hlow, HC, hw⟩ := hrel
          subst wr
          unfold Low at hlow
          by_cases hk : k ≤ 1
          · have hk' : (k : Int) ≤ 1 := by omega
            obtain ⟨j, hj⟩ : ∃ j, j = i + k := ⟨_, rfl⟩
            have hj' : (i : Int) + (k : Int) = (j : Int) := by omega
            have HT1 : Hid _ := HT.out j
            have hC := HC.out
            rw [show 2 - k = (1 - k) + 1 from by omega, ← hj, cont_step l j (1 - k) c] at hC
            by_cases g : tlAt l j = true
            · rw [g] at HT1
              rw [if_pos g] at hC
              unfold tlAt tlB at g
              simp only [Bool.and_eq_true, decide_eq_true_eq] at g
              obtain ⟨jlt, jb1, jb2⟩ := g
              have jlt' : (j : Int) < (l.length : Int) := by omega
              have hBj : j < (ByteArray.mk l.toArray).size := by show j < l.toArray.size; simpa using jlt
              have hbj : ((ByteArray.mk l.toArray)[j]'hBj).toNat = (l.getD j 0).toNat := by rw [get_at l j jlt]; rfl
              obtain ⟨c2, hc2⟩ : ∃ c2, c2 = 64 * c + (l.getD j 0).toNat - 128 := ⟨_, rfl⟩
              have hcc : 64 * (c : Int) + (((ByteArray.mk l.toArray)[j]'hBj).toNat : Int) - 128 = (c2 : Int) := by rw [hbj]; omega
              rw [← hc2] at hC
              have HC' : Hid (cont 1 c0 (l.drop (i + 1)) = cont (2 - (k + 1)) c2 (l.drop (i + (k + 1)))) := by
                show cont 1 c0 (l.drop (i + 1)) = _
                rw [hC, show 2 - (k + 1) = 1 - k from by omega, show i + (k + 1) = j + 1 from by omega]
              have hlow2 : Low (k + 1) c2 := by unfold Low; omega
              have kl2 : i + (k + 1) ≤ l.length := by omega
              have k256 : ((ByteArray.mk l.toArray)[j]'hBj).toNat < 256 := UInt8.toNat_lt _
              have HLw : Hid _ := hlow2
              have hcs : c < 131072 := by omega
              clear hC HC hbj hc2 jb1 jb2 hj HM HT hlow hlow2
              as_aux_lemma =>
                go_wp2_with fail
                refine (HT1.out _).mono ?_
                rintro e w1 ⟨rfl, rfl⟩
                go_wp2_with fail
                exact ⟨⟨c2, k + 1, rfl, by go_num, by omega, by omega, kl2, HLw.out, HC', trivial⟩, by simp [intOf]; omega⟩
            · have g' : tlAt l j = false := by simpa using g
              rw [g'] at HT1
              rw [if_neg g] at hC
              have HF : Hid (U = false) := by
                show U = false
                rw [HM.out, hC]
              clear hC HC g g' hj HM HT hlow
              as_aux_lemma =>
                go_wp2_with fail
                refine (HT1.out _).mono ?_
                rintro e w1 ⟨rfl, rfl⟩
                go_wp2_with fail
                go_ret
                exact ⟨congrArg (fun b => Ending.returned (Value.bool b)) HF.out.symm, rfl⟩
          · have hk' : ¬ (k : Int) ≤ 1 := by omega
            have ek : k = 2 := by omega
            have HU : Hid (U = (fine 1 c && utfB (l.drop (i + 2)))) := by
              show U = _
              have hC := HC.out
              rw [ek, Nat.sub_self, cont] at hC
              rw [HM.out, hC]
            have hcb : c < 8388608 := hlow.2.2.2.2
            have hcl := hlow.2.1 ek
            have kli : i + 2 ≤ l.length := by omega
            clear HM ek hlow
            by_cases e1 : c < 128
            · have e1' : (c : Int) < 128 := by omega
              have HF : Hid (U = false) := by
                show U = false
                rw [HU.out, show fine 1 c = false from decide_eq_false (by omega)]
                rfl
              clear HU HT HC
              as_aux_lemma =>
                go_wp2_with fail
                go_ret
                exact ⟨congrArg (fun b => Ending.returned (Value.bool b)) HF.out.symm, rfl⟩
            · have e1' : ¬ (c : Int) < 128 := by omega
              have e4 : ¬ (1114111 : Int) < (c : Int) := by omega
              have e5 : ¬ (55296 : Int) ≤ (c : Int) := by omega
              have HF : Hid (U = utfB (l.drop (i + 2))) := by
                show U = _
                rw [HU.out, show fine 1 c = true from decide_eq_true (by omega)]
                rfl
              clear HU HT HC
              as_aux_lemma =>
                go_wp2_with fail
                exact ⟨⟨i + 2, by omega, congrArg (Value.int .i64) (by omega), HF, trivial⟩, by simp [intOf]; omega⟩
        · subst dn
          have t1a : (192 : Int) ≤ (((ByteArray.mk l.toArray)[i]'hB).toNat : Int) := by rw [hbe]; omega
          have t1b : ¬ (((ByteArray.mk l.toArray)[i]'hB).toNat : Int) < 224 := by rw [hbe]; omega
          have t2a : (224 : Int) ≤ (((ByteArray.mk l.toArray)[i]'hB).toNat : Int) := by rw [hbe]; omega
          have t2b : (((ByteArray.mk l.toArray)[i]'hB).toNat : Int) < 240 := by rw [hbe]; omega
          have hc' : (((ByteArray.mk l.toArray)[i]'hB).toNat : Int) - 224 = (c0 : Int) := by rw [hbe]; omega
          have hi1 : i + 1 ≤ l.length := by omega
          clear hbe c1 d1 d2 d3 h256
          as_aux_lemma =>
          go_wp2_with fail
          go_loopw [4, 6] (fun a b W => ∃ c k : Nat, a = .int .i64 (c : Int) ∧ b = .int .i64 (k : Int) ∧ 1 ≤ k ∧ k ≤ 3 ∧ i + k ≤ l.length ∧ Low k c ∧ Hid (cont 2 c0 (l.drop (i + 1)) = cont (3 - k) c (l.drop (i + k))) ∧ W = w) (fun _ b _ => 3 - (intOf b).toNat)
          case atStart => exact ⟨c0, 1, rfl, rfl, by omega, by omega, hi1, ⟨fun _ => by omega, (fun h => by omega), (fun h => by omega), (fun h => by omega), by omega⟩, rfl, rfl⟩
          case round =>
          obtain ⟨c, k, rfl, rfl, k1, k2, kl, hlow, HC, hw⟩ := hrel
          subst wr
          unfold Low at hlow
          by_cases hk : k ≤ 2
          · have hk' : (k : Int) ≤ 2 := by omega
            obtain ⟨j, hj⟩ : ∃ j, j = i + k := ⟨_, rfl⟩
            have hj' : (i : Int) + (k : Int) = (j : Int) := by omega
            have HT1 : Hid _ := HT.out j
            have hC := HC.out
            rw [show 3 - k = (2 - k) + 1 from by omega, ← hj, cont_step l j (2 - k) c] at hC
            by_cases g : tlAt l j = true
            · rw [g] at HT1
              rw [if_pos g] at hC
              unfold tlAt tlB at g
              simp only [Bool.and_eq_true, decide_eq_true_eq] at g
              obtain ⟨jlt, jb1, jb2⟩ := g
              have jlt' : (j : Int) < (l.length : Int) := by omega
              have hBj : j < (ByteArray.mk l.toArray).size := by show j < l.toArray.size; simpa using jlt
              have hbj : ((ByteArray.mk l.toArray)[j]'hBj).toNat = (l.getD j 0).toNat := by rw [get_at l j jlt]; rfl
              obtain ⟨c2, hc2⟩ : ∃ c2, c2 = 64 * c + (l.getD j 0).toNat - 128 := ⟨_, rfl⟩
              have hcc : 64 * (c : Int) + (((ByteArray.mk l.toArray)[j]'hBj).toNat : Int) - 128 = (c2 : Int) := by rw [hbj]; omega
              rw [← hc2] at hC
              have HC' : Hid (cont 2 c0 (l.drop (i + 1)) = cont (3 - (k + 1)) c2 (l.drop (i + (k + 1)))) := by
                show cont 2 c0 (l.drop (i + 1)) = _
                rw [hC, show 3 - (k + 1) = 2 - k from by omega, show i + (k + 1) = j + 1 from by omega]
              have hlow2 : Low (k + 1) c2 := by unfold Low; omega
              have kl2 : i + (k + 1) ≤ l.length := by omega
              have k256 : ((ByteArray.mk l.toArray)[j]'hBj).toNat < 256 := UInt8.toNat_lt _
              have HLw : Hid _ := hlow2
              have hcs : c < 131072 := by omega
              clear hC HC hbj hc2 jb1 jb2 hj HM HT hlow hlow2
              as_aux_lemma =>
                go_wp2_with fail
                refine (HT1.out _).mono ?_
                rintro e w1 ⟨rfl, rfl⟩
                go_wp2_with fail
                exact ⟨⟨c2, k + 1, rfl, by go_num, by omega, by omega, kl2, HLw.out, HC', trivial⟩, by simp [intOf]; omega⟩
            · have g' : tlAt l j = false := by simpa using g
              rw [g'] at HT1
              rw [if_neg g] at hC
              have HF : Hid (U = false) := by
                show U = false
                rw [HM.out, hC]
              clear hC HC g g' hj HM HT hlow
              as_aux_lemma =>
                go_wp2_with fail
                refine (HT1.out _).mono ?_
                rintro e w1 ⟨rfl, rfl⟩
                go_wp2_with fail
                go_ret
                exact ⟨congrArg (fun b => Ending.returned (Value.bool b)) HF.out.symm, rfl⟩
          · have hk' : ¬ (k : Int) ≤ 2 := by omega
            have ek : k = 3 := by omega
            have HU : Hid (U = (fine 2 c && utfB (l.drop (i + 3)))) := by
              show U = _
              have hC := HC.out
              rw [ek, Nat.sub_self, cont] at hC
              rw [HM.out, hC]
            have hcb : c < 8388608 := hlow.2.2.2.2
            have hcl := hlow.2.2.1 ek
            have kli : i + 3 ≤ l.length := by omega
            clear HM ek hlow
            by_cases e1 : c < 2048
            · have e1' : (c : Int) < 2048 := by omega
              have HF : Hid (U = false) := by
                show U = false
                rw [HU.out, show fine 2 c = false from decide_eq_false (by omega)]
                rfl
              clear HU HT HC
              as_aux_lemma =>
                go_wp2_with fail
                go_ret
                exact ⟨congrArg (fun b => Ending.returned (Value.bool b)) HF.out.symm, rfl⟩
            · have e1' : ¬ (c : Int) < 2048 := by omega
              have e4 : ¬ (1114111 : Int) < (c : Int) := by omega
              by_cases e5 : 55296 ≤ c
              · have e5' : (55296 : Int) ≤ (c : Int) := by omega
                by_cases e6 : c ≤ 57343
                · have e6' : (c : Int) ≤ 57343 := by omega
                  have HF : Hid (U = false) := by
                    show U = false
                    rw [HU.out, show fine 2 c = false from decide_eq_false (by omega)]
                    rfl
                  clear HU HT HC
                  as_aux_lemma =>
                    go_wp2_with fail
                    go_ret
                    exact ⟨congrArg (fun b => Ending.returned (Value.bool b)) HF.out.symm, rfl⟩
                · have e6' : ¬ (c : Int) ≤ 57343 := by omega
                  have HF : Hid (U = utfB (l.drop (i + 3))) := by
                    show U = _
                    rw [HU.out, show fine 2 c = true from decide_eq_true (by omega)]
                    rfl
                  clear HU HT HC
                  as_aux_lemma =>
                    go_wp2_with fail
                    exact ⟨⟨i + 3, by omega, congrArg (Value.int .i64) (by omega), HF, trivial⟩, by simp [intOf]; omega⟩
              · have e5' : ¬ (55296 : Int) ≤ (c : Int) := by omega
                have HF : Hid (U = utfB (l.drop (i + 3))) := by
                  show U = _
                  rw [HU.out, show fine 2 c = true from decide_eq_true (by omega)]
                  rfl
                clear HU HT HC
                as_aux_lemma =>
                  go_wp2_with fail
                  exact ⟨⟨i + 3, by omega, congrArg (Value.int .i64) (by omega), HF, trivial⟩, by simp [intOf]; omega⟩
        · subst dn
          have t1a : (192 : Int) ≤ (((ByteArray.mk l.toArray)[i]'hB).toNat : Int) := by rw [hbe]; omega
          have t1b : ¬ (((ByteArray.mk l.toArray)[i]'hB).toNat : Int) < 224 := by rw [hbe]; omega
          have t2a : (224 : Int) ≤ (((ByteArray.mk l.toArray)[i]'hB).toNat : Int) := by rw [hbe]; omega
          have t2b : ¬ (((ByteArray.mk l.toArray)[i]'hB).toNat : Int) < 240 := by rw [hbe]; omega
          have t3a : (240 : Int) ≤ (((ByteArray.mk l.toArray)[i]'hB).toNat : Int) := by rw [hbe]; omega
          have t3b : (((ByteArray.mk l.toArray)[i]'hB).toNat : Int) < 248 := by rw [hbe]; omega
          have hc' : (((ByteArray.mk l.toArray)[i]'hB).toNat : Int) - 240 = (c0 : Int) := by rw [hbe]; omega
          have hi1 : i + 1 ≤ l.length := by omega
          clear hbe c1 d1 d2 d3 h256
          as_aux_lemma =>
          go_wp2_with fail
          go_loopw [4, 6] (fun a b W => ∃ c k : Nat, a = .int .i64 (c : Int) ∧ b = .int .i64 (k : Int) ∧ 1 ≤ k ∧ k ≤ 4 ∧ i + k ≤ l.length ∧ Low k c ∧ Hid (cont 3 c0 (l.drop (i + 1)) = cont (4 - k) c (l.drop (i + k))) ∧ W = w) (fun _ b _ => 4 - (intOf b).toNat)
          case atStart => exact ⟨c0, 1, rfl, rfl, by omega, by omega, hi1, ⟨fun _ => by omega, (fun h => by omega), (fun h => by omega), (fun h => by omega), by omega⟩, rfl, rfl⟩
          case round =>
          obtain ⟨c, k, rfl, rfl, k1, k2, kl, hlow, HC, hw⟩ := hrel
          subst wr
          unfold Low at hlow
          by_cases hk : k ≤ 3
          · have hk' : (k : Int) ≤ 3 := by omega
            obtain ⟨j, hj⟩ : ∃ j, j = i + k := ⟨_, rfl⟩
            have hj' : (i : Int) + (k : Int) = (j : Int) := by omega
            have HT1 : Hid _ := HT.out j
            have hC := HC.out
            rw [show 4 - k = (3 - k) + 1 from by omega, ← hj, cont_step l j (3 - k) c] at hC
            by_cases g : tlAt l j = true
            · rw [g] at HT1
              rw [if_pos g] at hC
              unfold tlAt tlB at g
              simp only [Bool.and_eq_true, decide_eq_true_eq] at g
              obtain ⟨jlt, jb1, jb2⟩ := g
              have jlt' : (j : Int) < (l.length : Int) := by omega
              have hBj : j < (ByteArray.mk l.toArray).size := by show j < l.toArray.size; simpa using jlt
              have hbj : ((ByteArray.mk l.toArray)[j]'hBj).toNat = (l.getD j 0).toNat := by rw [get_at l j jlt]; rfl
              obtain ⟨c2, hc2⟩ : ∃ c2, c2 = 64 * c + (l.getD j 0).toNat - 128 := ⟨_, rfl⟩
              have hcc : 64 * (c : Int) + (((ByteArray.mk l.toArray)[j]'hBj).toNat : Int) - 128 = (c2 : Int) := by rw [hbj]; omega
              rw [← hc2] at hC
              have HC' : Hid (cont 3 c0 (l.drop (i + 1)) = cont (4 - (k + 1)) c2 (l.drop (i + (k + 1)))) := by
                show cont 3 c0 (l.drop (i + 1)) = _
                rw [hC, show 4 - (k + 1) = 3 - k from by omega, show i + (k + 1) = j + 1 from by omega]
              have hlow2 : Low (k + 1) c2 := by unfold Low; omega
              have kl2 : i + (k + 1) ≤ l.length := by omega
              have k256 : ((ByteArray.mk l.toArray)[j]'hBj).toNat < 256 := UInt8.toNat_lt _
              have HLw : Hid _ := hlow2
              have hcs : c < 131072 := by omega
              clear hC HC hbj hc2 jb1 jb2 hj HM HT hlow hlow2
              as_aux_lemma =>
                go_wp2_with fail
                refine (HT1.out _).mono ?_
                rintro e w1 ⟨rfl, rfl⟩
                go_wp2_with fail
                exact ⟨⟨c2, k + 1, rfl, by go_num, by omega, by omega, kl2, HLw.out, HC', trivial⟩, by simp [intOf]; omega⟩
            · have g' : tlAt l j = false := by simpa using g
              rw [g'] at HT1
              rw [if_neg g] at hC
              have HF : Hid (U = false) := by
                show U = false
                rw [HM.out, hC]
              clear hC HC g g' hj HM HT hlow
              as_aux_lemma =>
                go_wp2_with fail
                refine (HT1.out _).mono ?_
                rintro e w1 ⟨rfl, rfl⟩
                go_wp2_with fail
                go_ret
                exact ⟨congrArg (fun b => Ending.returned (Value.bool b)) HF.out.symm, rfl⟩
          · have hk' : ¬ (k : Int) ≤ 3 := by omega
            have ek : k = 4 := by omega
            have HU : Hid (U = (fine 3 c && utfB (l.drop (i + 4)))) := by
              show U = _
              have hC := HC.out
              rw [ek, Nat.sub_self, cont] at hC
              rw [HM.out, hC]
            have hcb : c < 8388608 := hlow.2.2.2.2
            have hcl := hlow.2.2.2.1 ek
            have kli : i + 4 ≤ l.length := by omega
            clear HM ek hlow
            by_cases e1 : c < 65536
            · have e1' : (c : Int) < 65536 := by omega
              have HF : Hid (U = false) := by
                show U = false
                rw [HU.out, show fine 3 c = false from decide_eq_false (by omega)]
                rfl
              clear HU HT HC
              as_aux_lemma =>
                go_wp2_with fail
                go_ret
                exact ⟨congrArg (fun b => Ending.returned (Value.bool b)) HF.out.symm, rfl⟩
            · have e1' : ¬ (c : Int) < 65536 := by omega
              by_cases e4 : 1114111 < c
              · have e4' : (1114111 : Int) < (c : Int) := by omega
                have HF : Hid (U = false) := by
                  show U = false
                  rw [HU.out, show fine 3 c = false from decide_eq_false (by omega)]
                  rfl
                clear HU HT HC
                as_aux_lemma =>
                  go_wp2_with fail
                  go_ret
                  exact ⟨congrArg (fun b => Ending.returned (Value.bool b)) HF.out.symm, rfl⟩
              · have e4' : ¬ (1114111 : Int) < (c : Int) := by omega
                have e5 : (55296 : Int) ≤ (c : Int) := by omega
                have e6 : ¬ (c : Int) ≤ 57343 := by omega
                have HF : Hid (U = utfB (l.drop (i + 4))) := by
                  show U = _
                  rw [HU.out, show fine 3 c = true from decide_eq_true (by omega)]
                  rfl
                clear HU HT HC
                as_aux_lemma =>
                  go_wp2_with fail
                  exact ⟨⟨i + 4, by omega, congrArg (Value.int .i64) (by omega), HF, trivial⟩, by simp [intOf]; omega⟩
    · have hlt' : ¬ (i : Int) < (l.length : Int) := by omega
      have HF : Hid (U = true) := by
        have := HR.out
        rw [List.drop_eq_nil_of_le (by omega), utfB] at this
        exact this
      clear HR HT
      as_aux_lemma =>
        go_wp2_with fail
        go_ret
        exact ⟨congrArg (fun b => Ending.returned (Value.bool b)) HF.out.symm, rfl⟩
end Go.Proofs.YtckdkcnnfjbdmaaGreat.La
/- text, behind, order, the document's. Own work of the verifier. -/
namespace Go.Proofs.YtckdkcnnfjbdmaaGreat.La
open Go.RowKit

/-- What is wrong with a help or a value. -/
def txE (l : List UInt8) : Int := if 1024 < l.length then 4 else if utfB l then 0 else 11
set_option maxHeartbeats 1000000 in
theorem ltext_any (l : List UInt8) (hl : l.length ≤ 4611686018427387904) (w : World) :
    Calls Tryz.prog 51 #[.string ⟨l.toArray⟩] w fun r w' => r = .returned (.int .i64 (txE l)) ∧ w' = w := by
  have HU : Hid _ := fun W => utf_any l hl W
  unfold txE
  by_cases h : 1024 < l.length
  · have h' : (1024 : Int) < (l.length : Int) := by omega
    rw [if_pos h]
    as_aux_lemma =>
      go_enter Tryz.func51, Tryz.ntmps51
      go_wp2_with fail
      go_ret
      exact ⟨rfl, rfl⟩
  · have h' : ¬ (1024 : Int) < (l.length : Int) := by omega
    rw [if_neg h]
    generalize utfB l = u at *
    cases u
    · rw [if_neg (by decide)]
      as_aux_lemma =>
        go_enter Tryz.func51, Tryz.ntmps51
        go_wp2_with fail
        refine (HU.out _).mono ?_
        rintro e w1 ⟨rfl, rfl⟩
        go_wp2_with fail
        go_ret
        exact ⟨rfl, rfl⟩
    · rw [if_pos rfl]
      as_aux_lemma =>
        go_enter Tryz.func51, Tryz.ntmps51
        go_wp2_with fail
        refine (HU.out _).mono ?_
        rintro e w1 ⟨rfl, rfl⟩
        go_wp2_with fail
        go_ret
        exact ⟨rfl, rfl⟩
/-- Bytewise less. -/
def bltB (a b : List UInt8) : Bool := decide (a < b)
theorem less_list (a b : List UInt8) : Op.bytesLess a b = bltB a b := by
  unfold bltB
  rw [Proofs.bytesLess_eq]
def bhE (a b : List UInt8) : Int := if a = b then 10 else if bltB b a then 15 else 0
set_option maxHeartbeats 1000000 in
theorem behind_any (a b : List UInt8) (w : World) :
    Calls Tryz.prog 53 #[.string ⟨a.toArray⟩, .string ⟨b.toArray⟩] w fun r w' => r = .returned (.int .i64 (bhE a b)) ∧ w' = w := by
  have hL := less_list b a
  unfold bhE
  by_cases h : a = b
  · rw [if_pos h]
    subst h
    clear hL
    as_aux_lemma =>
      go_enter Tryz.func53, Tryz.ntmps53
      go_wp2_with fail
      go_ret
      exact ⟨rfl, rfl⟩
  · rw [if_neg h]
    have h' : (a == b) = false := by simpa using h
    clear h
    generalize bltB b a = u at *
    cases u
    · rw [if_neg (by decide)]
      as_aux_lemma =>
        go_enter Tryz.func53, Tryz.ntmps53
        go_wp2_with fail
        go_ret
        exact ⟨rfl, rfl⟩
    · rw [if_pos rfl]
      as_aux_lemma =>
        go_enter Tryz.func53, Tryz.ntmps53
        go_wp2_with fail
        go_ret
        exact ⟨rfl, rfl⟩
def ordE (a b : List UInt8) : Int := if bltB a b then -1 else if bltB b a then 1 else 0
set_option maxHeartbeats 1000000 in
theorem order_any (a b : List UInt8) (w : World) :
    Calls Tryz.prog 60 #[.string ⟨a.toArray⟩, .string ⟨b.toArray⟩] w fun r w' => r = .returned (.int .i64 (ordE a b)) ∧ w' = w := by
  have hL := less_list a b
  have hM := less_list b a
  unfold ordE
  generalize bltB a b = u at *
  generalize bltB b a = v at *
  cases u
  · rw [if_neg (by decide)]
    cases v
    · rw [if_neg (by decide)]
      as_aux_lemma =>
        go_enter Tryz.func60, Tryz.ntmps60
        go_wp2_with fail
        go_ret
        exact ⟨rfl, rfl⟩
    · rw [if_pos rfl]
      as_aux_lemma =>
        go_enter Tryz.func60, Tryz.ntmps60
        go_wp2_with fail
        go_ret
        exact ⟨rfl, rfl⟩
  · rw [if_pos rfl]
    as_aux_lemma =>
      go_enter Tryz.func60, Tryz.ntmps60
      go_wp2_with fail
      go_ret
      exact ⟨rfl, rfl⟩
end Go.Proofs.YtckdkcnnfjbdmaaGreat.La
