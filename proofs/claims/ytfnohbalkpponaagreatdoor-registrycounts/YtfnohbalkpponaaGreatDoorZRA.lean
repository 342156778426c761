/- THE LEAVES of label: letters and rows, the document's. Own work of the verifier. -/
import Derived.Test.YtfnohbalkpponaaGreatDoorRows
import Derived.WalkKit
import Derived.WalkSpells
import Derived.RowKit3
import Derived.Below
import Derived.Laws.Externs
import Derived.Outline
import Derived.Deep.QuietTactic
import Derived.BigQuiet
import Derived.Laws.Bits64
import Derived.Laws.BitsAllLaws
import Derived.Laws.DeepStrings4
import Derived.Deep.DeepCutAuto
import Derived.Deep.RegionHeld3
import Derived.Deep.CutBlock
import Derived.Shelf.Strings.BuilderK
import Derived.Test.YtfnohbalkpponaaGreatDoorProg
import Derived.Test.YtfnohbalkpponaaGreatDoorShelf
import Derived.Lib.Strings
import Derived.Sort.Walk0
import Derived.Lib.DecodeN
import Derived.Lib.OthersKept
import Derived.Laws.RangeAny
namespace Go.Proofs.YtfnohbalkpponaaGreatDoor.La
open Go.RowKit

/-- A letter, a digit or _. -/
def isL (c : Nat) : Bool := decide (97 ≤ c ∧ c ≤ 122 ∨ 65 ≤ c ∧ c ≤ 90 ∨ 48 ≤ c ∧ c ≤ 57 ∨ c = 95)
theorem letter_any (c : Nat) (w : World) :
    Calls Tryz.prog 179 #[.int .u8 (c : Int)] w fun e w' => e = .returned (.bool (isL c)) ∧ w' = w := by
  by_cases a1 : 97 ≤ c
  · have i97 : (97 : Int) ≤ (c : Int) := by omega
    by_cases a2 : c ≤ 122
    · have i122 : (c : Int) ≤ 122 := by omega
      rw [show isL c = true from decide_eq_true (by omega)]
      as_aux_lemma =>
        go_enter Tryz.func179, Tryz.ntmps179
        go_wp2_with fail
        go_ret
        exact ⟨rfl, rfl⟩
    · have i122 : ¬ (c : Int) ≤ 122 := by omega
      have i65 : (65 : Int) ≤ (c : Int) := by omega
      have i90 : ¬ (c : Int) ≤ 90 := by omega
      have i48 : (48 : Int) ≤ (c : Int) := by omega
      have i57 : ¬ (c : Int) ≤ 57 := by omega
      have i95 : ((c : Int) == 95) = false := by rw [beq_eq_false_iff_ne]; omega
      rw [show isL c = false from decide_eq_false (by omega)]
      as_aux_lemma =>
        go_enter Tryz.func179, Tryz.ntmps179
        go_wp2_with fail
        go_ret
        exact ⟨rfl, rfl⟩
  have i97 : ¬ (97 : Int) ≤ (c : Int) := by omega
  by_cases a3 : 65 ≤ c
  · have i65 : (65 : Int) ≤ (c : Int) := by omega
    by_cases a4 : c ≤ 90
    · have i90 : (c : Int) ≤ 90 := by omega
      rw [show isL c = true from decide_eq_true (by omega)]
      as_aux_lemma =>
        go_enter Tryz.func179, Tryz.ntmps179
        go_wp2_with fail
        go_ret
        exact ⟨rfl, rfl⟩
    · have i90 : ¬ (c : Int) ≤ 90 := by omega
      have i48 : (48 : Int) ≤ (c : Int) := by omega
      have i57 : ¬ (c : Int) ≤ 57 := by omega
      by_cases a5 : c = 95
      · have i95 : ((c : Int) == 95) = true := by rw [beq_iff_eq]; omega
        rw [show isL c = true from decide_eq_true (by omega)]
        clear a5
        as_aux_lemma =>
          go_enter Tryz.func179, Tryz.ntmps179
          go_wp2_with fail
          go_ret
          exact ⟨rfl, rfl⟩
      · have i95 : ((c : Int) == 95) = false := by rw [beq_eq_false_iff_ne]; omega
        rw [show isL c = false from decide_eq_false (by omega)]
        as_aux_lemma =>
          go_enter Tryz.func179, Tryz.ntmps179
          go_wp2_with fail
          go_ret
          exact ⟨rfl, rfl⟩
  have i65 : ¬ (65 : Int) ≤ (c : Int) := by omega
  by_cases a6 : 48 ≤ c
  · have i48 : (48 : Int) ≤ (c : Int) := by omega
    by_cases a7 : c ≤ 57
    · have i57 : (c : Int) ≤ 57 := by omega
      rw [show isL c = true from decide_eq_true (by omega)]
      as_aux_lemma =>
        go_enter Tryz.func179, Tryz.ntmps179
        go_wp2_with fail
        go_ret
        exact ⟨rfl, rfl⟩
    · have i57 : ¬ (c : Int) ≤ 57 := by omega
      have i95 : ((c : Int) == 95) = false := by rw [beq_eq_false_iff_ne]; omega
      rw [show isL c = false from decide_eq_false (by omega)]
      as_aux_lemma =>
        go_enter Tryz.func179, Tryz.ntmps179
        go_wp2_with fail
        go_ret
        exact ⟨rfl, rfl⟩
  · have i48 : ¬ (48 : Int) ≤ (c : Int) := by omega
    have i95 : ((c : Int) == 95) = false := by rw [beq_eq_false_iff_ne]; omega
    rw [show isL c = false from decide_eq_false (by omega)]
    as_aux_lemma =>
      go_enter Tryz.func179, Tryz.ntmps179
      go_wp2_with fail
      go_ret
      exact ⟨rfl, rfl⟩
/-- A byte of a row. -/
def gd (colon : Bool) (c : Nat) : Bool := isL c || (colon && decide (c = 58))
/-- How long the longest row is. -/
def rowN (colon : Bool) : List UInt8 → Nat
  | [] => 0
  | b :: r => if gd colon b.toNat then rowN colon r + 1 else 0
theorem rowN_le (colon : Bool) : ∀ l : List UInt8, rowN colon l ≤ l.length
  | [] => Nat.le_refl _
  | b :: r => by
    rw [rowN, List.length_cons]
    have := rowN_le colon r
    split <;> omega
set_option maxHeartbeats 1000000 in
set_option maxRecDepth 100000 in
theorem row_any (l : List UInt8) (p : Nat) (colon : Bool) (hp : p ≤ l.length) (hl : l.length ≤ 4611686018427387904) (w : World) :
    Calls Tryz.prog 123 #[.string ⟨l.toArray⟩, .int .i64 (p : Int), .bool colon] w fun e w' => e = .returned (.int .i64 ((rowN colon (l.drop p) : Nat) : Int)) ∧ w' = w := by
  have HL : Hid (∀ (c : Nat) (W : World), Calls Tryz.prog 179 #[.int .u8 (c : Int)] W fun e w' => e = .returned (.bool (isL c)) ∧ w' = W) := fun c W => letter_any c W
  obtain ⟨R, hR⟩ : ∃ R, R = rowN colon (l.drop p) := ⟨_, rfl⟩
  rw [← hR]
  have HR0 : Hid (R = 0 + rowN colon (l.drop (p + 0))) := by show R = _; rw [hR, Nat.add_zero, Nat.zero_add]
  clear hR
  go_enter Tryz.func123, Tryz.ntmps123
  go_wp2_with fail
  go_loopw [7] (fun a W => ∃ n : Nat, p + n ≤ l.length ∧ a = .int .i64 (n : Int) ∧ Hid (R = n + rowN colon (l.drop (p + n))) ∧ W = w) (fun a _ => l.length - (intOf a).toNat)
  case atStart => exact ⟨0, by omega, rfl, HR0, rfl⟩
  case round =>
    obtain ⟨n, hn, rfl, HR, hw⟩ := hrel
    subst wr
    clear HR0
    obtain ⟨k, hk⟩ : ∃ k, k = p + n := ⟨_, rfl⟩
    have hk' : (p : Int) + (n : Int) = (k : Int) := by omega
    have hS := HR.out
    clear HR
    rw [← hk] at hS
    by_cases hlt : k < l.length
    · have hlt' : (k : Int) < (l.length : Int) := by omega
      have hB : k < (ByteArray.mk l.toArray).size := by show k < l.toArray.size; simpa using hlt
      have hbe : ((ByteArray.mk l.toArray)[k]'hB).toNat = l[k].toNat := rfl
      rw [List.drop_eq_getElem_cons hlt, rowN] at hS
      have HL1 : Hid _ := HL.out ((ByteArray.mk l.toArray)[k]'hB).toNat
      rw [hbe] at HL1
      by_cases g1 : isL l[k].toNat = true
      · rw [g1] at HL1
        rw [if_pos (by unfold gd; rw [g1]; rfl)] at hS
        have HR' : Hid (R = n + 1 + rowN colon (l.drop (p + (n + 1)))) := by show R = _; rw [hS, hk]; show n + (rowN colon (l.drop (p + n + 1)) + 1) = _; rw [show p + (n + 1) = p + n + 1 from by omega]; omega
        clear hS g1 hbe HL hk
        as_aux_lemma =>
          go_wp2_with fail
          refine (HL1.out _).mono ?_
          rintro e w1 ⟨rfl, rfl⟩
          go_wp2_with fail
          exact ⟨⟨n + 1, by omega, by go_num, HR', trivial⟩, by simp [intOf]; omega⟩
      · have g1' : isL l[k].toNat = false := by simpa using g1
        rw [g1'] at HL1
        cases colon
        · rw [if_neg (by unfold gd; rw [g1']; simp)] at hS
          have HF : Hid (R = n) := hS
          clear hS g1 g1' hbe HL hk
          as_aux_lemma =>
            go_wp2_with fail
            refine (HL1.out _).mono ?_
            rintro e w1 ⟨rfl, rfl⟩
            go_wp2_with fail
            go_ret
            exact ⟨congrArg (fun z : Nat => Ending.returned (Value.int .i64 (z : Int))) HF.out.symm, rfl⟩
        · by_cases g2 : l[k].toNat = 58
          · have t58 : ((((ByteArray.mk l.toArray)[k]'hB).toNat : Int) == 58) = true := by rw [beq_iff_eq, hbe]; omega
            rw [if_pos (by unfold gd; rw [g1', g2]; rfl)] at hS
            have HR' : Hid (R = n + 1 + rowN true (l.drop (p + (n + 1)))) := by show R = _; rw [hS, hk]; show n + (rowN true (l.drop (p + n + 1)) + 1) = _; rw [show p + (n + 1) = p + n + 1 from by omega]; omega
            clear hS g1 g1' g2 hbe HL hk
            as_aux_lemma =>
              go_wp2_with fail
              refine (HL1.out _).mono ?_
              rintro e w1 ⟨rfl, rfl⟩
              go_wp2_with fail
              exact ⟨⟨n + 1, by omega, by go_num, HR', trivial⟩, by simp [intOf]; omega⟩
          · have t58 : ((((ByteArray.mk l.toArray)[k]'hB).toNat : Int) == 58) = false := by rw [beq_eq_false_iff_ne, hbe]; omega
            rw [if_neg (by unfold gd; rw [g1', decide_eq_false g2]; simp)] at hS
            have HF : Hid (R = n) := hS
            clear hS g1 g1' g2 hbe HL hk
            as_aux_lemma =>
              go_wp2_with fail
              refine (HL1.out _).mono ?_
              rintro e w1 ⟨rfl, rfl⟩
              go_wp2_with fail
              go_ret
              exact ⟨congrArg (fun z : Nat => Ending.returned (Value.int .i64 (z : Int))) HF.out.symm, rfl⟩
    · have hlt' : ¬ (k : Int) < (l.length : Int) := by omega
      rw [List.drop_eq_nil_of_le (by omega), rowN] at hS
      have HF : Hid (R = n) := hS
      clear hS HL hk
      as_aux_lemma =>
        go_wp2_with fail
        go_ret
        exact ⟨congrArg (fun z : Nat => Ending.returned (Value.int .i64 (z : Int))) HF.out.symm, rfl⟩
end Go.Proofs.YtfnohbalkpponaaGreatDoor.La
/- NAMES, the document's: ends, plain, Name, LabelName. Own work of the verifier. -/
namespace Go.Proofs.YtfnohbalkpponaaGreatDoor.La
open Go.RowKit

theorem drop_bytes (l : List UInt8) (k : Nat) : (ByteArray.mk l.toArray).extract k l.length = ⟨(l.drop k).toArray⟩ := by
  apply ByteArray.ext
  rw [ByteArray.data_extract]
  simp
  exact List.take_of_length_le (by simp)
theorem take_bytes (l : List UInt8) (k : Nat) : (ByteArray.mk l.toArray).extract 0 k = ⟨(l.take k).toArray⟩ := by
  apply ByteArray.ext
  rw [ByteArray.data_extract]
  simp
/-- Does a text end so? -/
def endsB (l e : List UInt8) : Bool := decide (e.length ≤ l.length) && (l.drop (l.length - e.length) == e)
set_option maxHeartbeats 1000000 in
theorem ends_any (l e : List UInt8) (hl : l.length ≤ 4611686018427387904) (he : e.length ≤ 4611686018427387904) (w : World) :
    Calls Tryz.prog 79 #[.string ⟨l.toArray⟩, .string ⟨e.toArray⟩] w fun r w' => r = .returned (.bool (endsB l e)) ∧ w' = w := by
  by_cases h : e.length ≤ l.length
  · have h' : (e.length : Int) ≤ (l.length : Int) := by omega
    obtain ⟨k, hk⟩ : ∃ k, k = l.length - e.length := ⟨_, rfl⟩
    have hk' : (l.length : Int) - (e.length : Int) = (k : Int) := by omega
    have hkl : k ≤ l.length := by omega
    have hD := drop_bytes l k
    have hE : endsB l e = (l.drop k == e) := by unfold endsB; rw [decide_eq_true h, ← hk]; rfl
    rw [hE]
    generalize hd : l.drop k = d at *
    clear hk hE
    by_cases g : d = e
    · subst g
      rw [show (d == d) = true from by simp]
      as_aux_lemma =>
        go_enter Tryz.func79, Tryz.ntmps79
        go_wp2_with fail
        go_ret
        exact ⟨rfl, rfl⟩
    · have g' : (d == e) = false := by simpa using g
      rw [g']
      clear g
      as_aux_lemma =>
        go_enter Tryz.func79, Tryz.ntmps79
        go_wp2_with fail
        go_ret
        exact ⟨rfl, rfl⟩
  · have h' : ¬ (e.length : Int) ≤ (l.length : Int) := by omega
    rw [show endsB l e = false from by unfold endsB; rw [decide_eq_false h]; rfl]
    as_aux_lemma =>
      go_enter Tryz.func79, Tryz.ntmps79
      go_wp2_with fail
      go_ret
      exact ⟨rfl, rfl⟩
/-- A plain name: 1 to 64 bytes of a row, no digit first. -/
def plainB (colon : Bool) (l : List UInt8) : Bool := decide (1 ≤ l.length) && decide (l.length ≤ 64) && decide (rowN colon l = l.length) && !(decide (48 ≤ (l.getD 0 0).toNat) && decide ((l.getD 0 0).toNat ≤ 57))
theorem get_zero (l : List UInt8) (h : 0 < l.length) (hB : 0 < (ByteArray.mk l.toArray).size) : ((ByteArray.mk l.toArray)[0]'hB).toNat = (l.getD 0 0).toNat := by
  rw [List.getD_eq_getElem?_getD, List.getElem?_eq_getElem h]
  rfl
set_option maxHeartbeats 1000000 in
theorem plain_any (l : List UInt8) (colon : Bool) (hl : l.length ≤ 4611686018427387904) (w : World) :
    Calls Tryz.prog 78 #[.string ⟨l.toArray⟩, .bool colon] w fun r w' => r = .returned (.bool (plainB colon l)) ∧ w' = w := by
  have HR : Hid (∀ W, Calls Tryz.prog 123 #[.string ⟨l.toArray⟩, .int .i64 0, .bool colon] W fun e w' => e = .returned (.int .i64 ((rowN colon l : Nat) : Int)) ∧ w' = W) := fun W => row_any l 0 colon (by omega) hl W
  by_cases g0 : 1 ≤ l.length
  · have p1 : (1 : Int) ≤ (l.length : Int) := by omega
    by_cases g1 : l.length ≤ 64
    · have p2 : (l.length : Int) ≤ 64 := by omega
      by_cases g2 : rowN colon l = l.length
      · rw [g2] at HR
        have hB : 0 < (ByteArray.mk l.toArray).size := by show 0 < l.toArray.size; rw [List.size_toArray]; omega
        have hbe := get_zero l g0 hB
        by_cases g3 : 48 ≤ (l.getD 0 0).toNat
        · have p4 : (48 : Int) ≤ (((ByteArray.mk l.toArray)[0]'hB).toNat : Int) := by rw [hbe]; omega
          by_cases g4 : (l.getD 0 0).toNat ≤ 57
          · have p5 : (((ByteArray.mk l.toArray)[0]'hB).toNat : Int) ≤ 57 := by rw [hbe]; omega
            rw [show plainB colon l = false from by unfold plainB; rw [decide_eq_true g3, decide_eq_true g4]; simp]
            clear g0 g1 g2 g3 g4 hbe
            as_aux_lemma =>
              go_enter Tryz.func78, Tryz.ntmps78
              go_wp2_with fail
              refine (HR.out _).mono ?_
              rintro e w1 ⟨rfl, rfl⟩
              go_wp2_with fail
              go_ret
              exact ⟨rfl, rfl⟩
          · have p5 : ¬ (((ByteArray.mk l.toArray)[0]'hB).toNat : Int) ≤ 57 := by rw [hbe]; omega
            rw [show plainB colon l = true from by unfold plainB; rw [decide_eq_true g0, decide_eq_true g1, decide_eq_true g2, decide_eq_false g4]; simp]
            clear g0 g1 g2 g3 g4 hbe
            as_aux_lemma =>
              go_enter Tryz.func78, Tryz.ntmps78
              go_wp2_with fail
              refine (HR.out _).mono ?_
              rintro e w1 ⟨rfl, rfl⟩
              go_wp2_with fail
              go_ret
              exact ⟨congrArg (fun b => Ending.returned (Value.bool (!b))) (decide_eq_false (by omega)), rfl⟩
        · have p4 : ¬ (48 : Int) ≤ (((ByteArray.mk l.toArray)[0]'hB).toNat : Int) := by rw [hbe]; omega
          rw [show plainB colon l = true from by unfold plainB; rw [decide_eq_true g0, decide_eq_true g1, decide_eq_true g2, decide_eq_false g3]; simp]
          clear g0 g1 g2 g3 hbe
          as_aux_lemma =>
            go_enter Tryz.func78, Tryz.ntmps78
            go_wp2_with fail
            refine (HR.out _).mono ?_
            rintro e w1 ⟨rfl, rfl⟩
            go_wp2_with fail
            go_ret
            exact ⟨rfl, rfl⟩
      · have p3 : (((rowN colon l : Nat) : Int) == (l.length : Int)) = false := by rw [beq_eq_false_iff_ne]; omega
        rw [show plainB colon l = false from by unfold plainB; rw [decide_eq_false g2]; simp]
        generalize rowN colon l = R at *
        clear g0 g1 g2
        as_aux_lemma =>
          go_enter Tryz.func78, Tryz.ntmps78
          go_wp2_with fail
          refine (HR.out _).mono ?_
          rintro e w1 ⟨rfl, rfl⟩
          go_wp2_with fail
          go_ret
          exact ⟨rfl, rfl⟩
    · have p2 : ¬ (l.length : Int) ≤ 64 := by omega
      rw [show plainB colon l = false from by unfold plainB; rw [decide_eq_false g1]; simp]
      clear g0 g1
      as_aux_lemma =>
        go_enter Tryz.func78, Tryz.ntmps78
        go_wp2_with fail
        go_ret
        exact ⟨rfl, rfl⟩
  · have p1 : ¬ (1 : Int) ≤ (l.length : Int) := by omega
    rw [show plainB colon l = false from by unfold plainB; rw [decide_eq_false g0]; simp]
    clear g0
    as_aux_lemma =>
      go_enter Tryz.func78, Tryz.ntmps78
      go_wp2_with fail
      go_ret
      exact ⟨rfl, rfl⟩
/-- A family's name. -/
def nameB (l : List UInt8) : Bool := plainB true l && !endsB l [95, 98, 117, 99, 107, 101, 116] && !endsB l [95, 115, 117, 109] && !endsB l [95, 99, 111, 117, 110, 116]
set_option maxHeartbeats 1000000 in
theorem name_any (l : List UInt8) (hl : l.length ≤ 4611686018427387904) (w : World) :
    Calls Tryz.prog 39 #[.string ⟨l.toArray⟩] w fun r w' => r = .returned (.bool (nameB l)) ∧ w' = w := by
  have HP : Hid _ := fun W => plain_any l true hl W
  have H1 : Hid (∀ W, Calls Tryz.prog 79 #[.string ⟨l.toArray⟩, .string ⟨#[95, 98, 117, 99, 107, 101, 116]⟩] W fun r w' => r = .returned (.bool (endsB l [95, 98, 117, 99, 107, 101, 116])) ∧ w' = W) := fun W => ends_any l [95, 98, 117, 99, 107, 101, 116] hl (by decide) W
  have H2 : Hid (∀ W, Calls Tryz.prog 79 #[.string ⟨l.toArray⟩, .string ⟨#[95, 115, 117, 109]⟩] W fun r w' => r = .returned (.bool (endsB l [95, 115, 117, 109])) ∧ w' = W) := fun W => ends_any l [95, 115, 117, 109] hl (by decide) W
  have H3 : Hid (∀ W, Calls Tryz.prog 79 #[.string ⟨l.toArray⟩, .string ⟨#[95, 99, 111, 117, 110, 116]⟩] W fun r w' => r = .returned (.bool (endsB l [95, 99, 111, 117, 110, 116])) ∧ w' = W) := fun W => ends_any l [95, 99, 111, 117, 110, 116] hl (by decide) W
  have hN : nameB l = (plainB true l && !endsB l [95, 98, 117, 99, 107, 101, 116] && !endsB l [95, 115, 117, 109] && !endsB l [95, 99, 111, 117, 110, 116]) := rfl
  rw [hN]
  generalize plainB true l = b0 at *
  generalize endsB l [95, 98, 117, 99, 107, 101, 116] = b1 at *
  generalize endsB l [95, 115, 117, 109] = b2 at *
  generalize endsB l [95, 99, 111, 117, 110, 116] = b3 at *
  clear hN
  cases b0 <;> cases b1 <;> cases b2 <;> cases b3 <;> (
    as_aux_lemma =>
      go_enter Tryz.func39, Tryz.ntmps39
      go_wp2_with (first
        | (go_at_call 78; with_reducible refine (HP.out _).mono ?_; rintro e w1 ⟨rfl, rfl⟩)
        | (go_at_call 79; first | (with_reducible refine (H1.out _).mono ?_; rintro e w1 ⟨rfl, rfl⟩) | (with_reducible refine (H2.out _).mono ?_; rintro e w1 ⟨rfl, rfl⟩) | (with_reducible refine (H3.out _).mono ?_; rintro e w1 ⟨rfl, rfl⟩))
        | fail)
      go_ret
      exact ⟨rfl, rfl⟩)
/-- A label's name. -/
def lnameB (l : List UInt8) : Bool := plainB false l && !(l == [108, 101]) && !(l == [113, 117, 97, 110, 116, 105, 108, 101]) && !(decide (2 ≤ l.length) && (l.take 2 == [95, 95]))
set_option maxHeartbeats 1000000 in
theorem lname_any (l : List UInt8) (hl : l.length ≤ 4611686018427387904) (w : World) :
    Calls Tryz.prog 41 #[.string ⟨l.toArray⟩] w fun r w' => r = .returned (.bool (lnameB l)) ∧ w' = w := by
  have HP : Hid _ := fun W => plain_any l false hl W
  have hN : lnameB l = (plainB false l && !(l == [108, 101]) && !(l == [113, 117, 97, 110, 116, 105, 108, 101]) && !(decide (2 ≤ l.length) && (l.take 2 == [95, 95]))) := rfl
  rw [hN]
  have hT := take_bytes l 2
  generalize hb1 : (l == [108, 101]) = b1 at *
  generalize hb2 : (l == [113, 117, 97, 110, 116, 105, 108, 101]) = b2 at *
  generalize plainB false l = b0 at *
  clear hN
  by_cases g : 2 ≤ l.length
  · have g' : (2 : Int) ≤ (l.length : Int) := by omega
    rw [decide_eq_true g]
    generalize l.take 2 = t at *
    generalize hb3 : (t == [95, 95]) = b3 at *
    cases b0 <;> cases b1 <;> cases b2 <;> cases b3 <;> (
      as_aux_lemma =>
        go_enter Tryz.func41, Tryz.ntmps41
        go_wp2_with (first
          | (go_at_call 78; with_reducible refine (HP.out _).mono ?_; rintro e w1 ⟨rfl, rfl⟩)
          | fail)
        go_ret
        exact ⟨rfl, rfl⟩)
  · have g' : ¬ (2 : Int) ≤ (l.length : Int) := by omega
    rw [decide_eq_false g]
    clear hT
    cases b0 <;> cases b1 <;> cases b2 <;> (
      as_aux_lemma =>
        go_enter Tryz.func41, Tryz.ntmps41
        go_wp2_with (first
          | (go_at_call 78; with_reducible refine (HP.out _).mono ?_; rintro e w1 ⟨rfl, rfl⟩)
          | fail)
        go_ret
        exact ⟨rfl, rfl⟩)
end Go.Proofs.YtfnohbalkpponaaGreatDoor.La
/- THE CODE'S LEAVES: letters, digits. Own work of the verifier. -/
namespace Go.Proofs.YtfnohbalkpponaaGreatDoor.La
open Go.RowKit

def isD (c : Nat) : Bool := decide (48 ≤ c ∧ c ≤ 57)
def isA (c : Nat) : Bool := decide (97 ≤ c ∧ c ≤ 122 ∨ 65 ≤ c ∧ c ≤ 90)
theorem isL_eq (c : Nat) : isL c = (isA c || isD c || decide (c = 95)) := by
  unfold isL isA isD
  rw [Bool.eq_iff_iff]
  simp only [Bool.or_eq_true, decide_eq_true_eq]
  omega
theorem cdigit_any (c : Nat) (w : World) :
    Calls Tryz.prog 172 #[.int .u8 (c : Int)] w fun e w' => e = .returned (.bool (isD c)) ∧ w' = w := by
  by_cases a1 : 48 ≤ c
  · have i1 : (48 : Int) ≤ (c : Int) := by omega
    by_cases a2 : c ≤ 57
    · have i2 : (c : Int) ≤ 57 := by omega
      rw [show isD c = true from decide_eq_true (by omega)]
      as_aux_lemma =>
        go_enter Tryz.func172, Tryz.ntmps172
        go_wp2_with fail
        go_ret
        exact ⟨rfl, rfl⟩
    · have i2 : ¬ (c : Int) ≤ 57 := by omega
      rw [show isD c = false from decide_eq_false (by omega)]
      as_aux_lemma =>
        go_enter Tryz.func172, Tryz.ntmps172
        go_wp2_with fail
        go_ret
        exact ⟨rfl, rfl⟩
  · have i1 : ¬ (48 : Int) ≤ (c : Int) := by omega
    rw [show isD c = false from decide_eq_false (by omega)]
    as_aux_lemma =>
      go_enter Tryz.func172, Tryz.ntmps172
      go_wp2_with fail
      go_ret
      exact ⟨rfl, rfl⟩
theorem cletter_any (c : Nat) (w : World) :
    Calls Tryz.prog 225 #[.int .u8 (c : Int)] w fun e w' => e = .returned (.bool (isA c)) ∧ w' = w := by
  by_cases a1 : 97 ≤ c
  · have i1 : (97 : Int) ≤ (c : Int) := by omega
    by_cases a2 : c ≤ 122
    · have i2 : (c : Int) ≤ 122 := by omega
      rw [show isA c = true from decide_eq_true (by omega)]
      as_aux_lemma =>
        go_enter Tryz.func225, Tryz.ntmps225
        go_wp2_with fail
        go_ret
        exact ⟨rfl, rfl⟩
    · have i2 : ¬ (c : Int) ≤ 122 := by omega
      have i3 : (65 : Int) ≤ (c : Int) := by omega
      have i4 : ¬ (c : Int) ≤ 90 := by omega
      rw [show isA c = false from decide_eq_false (by omega)]
      as_aux_lemma =>
        go_enter Tryz.func225, Tryz.ntmps225
        go_wp2_with fail
        go_ret
        exact ⟨rfl, rfl⟩
  · have i1 : ¬ (97 : Int) ≤ (c : Int) := by omega
    by_cases a3 : 65 ≤ c
    · have i3 : (65 : Int) ≤ (c : Int) := by omega
      by_cases a4 : c ≤ 90
      · have i4 : (c : Int) ≤ 90 := by omega
        rw [show isA c = true from decide_eq_true (by omega)]
        as_aux_lemma =>
          go_enter Tryz.func225, Tryz.ntmps225
          go_wp2_with fail
          go_ret
          exact ⟨rfl, rfl⟩
      · have i4 : ¬ (c : Int) ≤ 90 := by omega
        rw [show isA c = false from decide_eq_false (by omega)]
        as_aux_lemma =>
          go_enter Tryz.func225, Tryz.ntmps225
          go_wp2_with fail
          go_ret
          exact ⟨rfl, rfl⟩
    · have i3 : ¬ (65 : Int) ≤ (c : Int) := by omega
      rw [show isA c = false from decide_eq_false (by omega)]
      as_aux_lemma =>
        go_enter Tryz.func225, Tryz.ntmps225
        go_wp2_with fail
        go_ret
        exact ⟨rfl, rfl⟩
theorem oflab_any (c : Nat) (w : World) :
    Calls Tryz.prog 174 #[.int .u8 (c : Int)] w fun e w' => e = .returned (.bool (gd false c)) ∧ w' = w := by
  have HA : Hid _ := fun W => cletter_any c W
  have HD : Hid _ := fun W => cdigit_any c W
  have h0 : gd false c = isL c := by simp [gd]
  rw [h0, isL_eq]
  clear h0
  cases hA : isA c
  · rw [hA] at HA
    cases hD : isD c
    · rw [hD] at HD
      by_cases h95 : c = 95
      · have t : ((c : Int) == 95) = true := by rw [beq_iff_eq]; omega
        rw [show decide (c = 95) = true from decide_eq_true h95]
        clear h95
        as_aux_lemma =>
          go_enter Tryz.func174, Tryz.ntmps174
          go_wp2_with (first | (go_at_call 225; refine (HA.out _).mono ?_; rintro e1 w1 ⟨rfl, rfl⟩) | (go_at_call 172; refine (HD.out _).mono ?_; rintro e1 w1 ⟨rfl, rfl⟩))
          go_ret
          exact ⟨rfl, rfl⟩
      · have t : ((c : Int) == 95) = false := by rw [beq_eq_false_iff_ne]; omega
        rw [show decide (c = 95) = false from decide_eq_false h95]
        clear h95
        as_aux_lemma =>
          go_enter Tryz.func174, Tryz.ntmps174
          go_wp2_with (first | (go_at_call 225; refine (HA.out _).mono ?_; rintro e1 w1 ⟨rfl, rfl⟩) | (go_at_call 172; refine (HD.out _).mono ?_; rintro e1 w1 ⟨rfl, rfl⟩))
          go_ret
          exact ⟨rfl, rfl⟩
    · rw [hD] at HD
      as_aux_lemma =>
        go_enter Tryz.func174, Tryz.ntmps174
        go_wp2_with (first | (go_at_call 225; refine (HA.out _).mono ?_; rintro e1 w1 ⟨rfl, rfl⟩) | (go_at_call 172; refine (HD.out _).mono ?_; rintro e1 w1 ⟨rfl, rfl⟩))
        go_ret
        exact ⟨by simp, rfl⟩
  · rw [hA] at HA
    as_aux_lemma =>
      go_enter Tryz.func174, Tryz.ntmps174
      go_wp2_with (first | (go_at_call 225; refine (HA.out _).mono ?_; rintro e1 w1 ⟨rfl, rfl⟩) | (go_at_call 172; refine (HD.out _).mono ?_; rintro e1 w1 ⟨rfl, rfl⟩))
      go_ret
      exact ⟨by simp, rfl⟩
theorem ofname_any (c : Nat) (w : World) :
    Calls Tryz.prog 112 #[.int .u8 (c : Int)] w fun e w' => e = .returned (.bool (gd true c)) ∧ w' = w := by
  have HA : Hid _ := fun W => oflab_any c W
  have h0 : gd true c = (gd false c || decide (c = 58)) := by simp [gd]
  rw [h0]
  clear h0
  cases hA : gd false c
  · rw [hA] at HA
    by_cases h58 : c = 58
    · have t : ((c : Int) == 58) = true := by rw [beq_iff_eq]; omega
      rw [show decide (c = 58) = true from decide_eq_true h58]
      clear h58
      as_aux_lemma =>
        go_enter Tryz.func112, Tryz.ntmps112
        go_wp2_with (go_at_call 174; refine (HA.out _).mono ?_; rintro e1 w1 ⟨rfl, rfl⟩)
        go_ret
        exact ⟨rfl, rfl⟩
    · have t : ((c : Int) == 58) = false := by rw [beq_eq_false_iff_ne]; omega
      rw [show decide (c = 58) = false from decide_eq_false h58]
      clear h58
      as_aux_lemma =>
        go_enter Tryz.func112, Tryz.ntmps112
        go_wp2_with (go_at_call 174; refine (HA.out _).mono ?_; rintro e1 w1 ⟨rfl, rfl⟩)
        go_ret
        exact ⟨rfl, rfl⟩
  · rw [hA] at HA
    as_aux_lemma =>
      go_enter Tryz.func112, Tryz.ntmps112
      go_wp2_with (go_at_call 174; refine (HA.out _).mono ?_; rintro e1 w1 ⟨rfl, rfl⟩)
      go_ret
      exact ⟨by simp, rfl⟩
end Go.Proofs.YtfnohbalkpponaaGreatDoor.La
/- THE CODE'S row AND isWord. Own work of the verifier. -/
namespace Go.Proofs.YtfnohbalkpponaaGreatDoor.La
open Go.RowKit

/-- Which bytes are of the row, as a function's value. -/
def fv : Bool → Value
  | true => .func (.func 112) #[] #[]
  | false => .func (.func 174) #[] #[]
set_option maxHeartbeats 1000000 in
set_option maxRecDepth 100000 in
theorem crow_false (l : List UInt8) (hl : l.length ≤ 4611686018427387904) (w : World) :
    Calls Tryz.prog 173 #[.string ⟨l.toArray⟩, fv false] w fun e w' => e = .returned (.string ⟨(l.take (rowN false l)).toArray⟩) ∧ w' = w := by
  have HL : Hid (∀ (c : Nat) (W : World), Calls Tryz.prog 174 #[.int .u8 (c : Int)] W fun e w' => e = .returned (.bool (gd false c)) ∧ w' = W) := fun c W => oflab_any c W
  obtain ⟨R, hR⟩ : ∃ R, R = rowN false l := ⟨_, rfl⟩
  rw [← hR]
  have HR0 : Hid (R = 0 + rowN false (l.drop 0)) := by show R = _; rw [hR, List.drop_zero, Nat.zero_add]
  clear hR
  unfold fv
  go_enter Tryz.func173, Tryz.ntmps173
  go_wp2_with fail
  go_loopw [5] (fun a W => ∃ n : Nat, n ≤ l.length ∧ a = .int .i64 (n : Int) ∧ Hid (R = n + rowN false (l.drop n)) ∧ W = w) (fun a _ => l.length - (intOf a).toNat)
  case atStart => exact ⟨0, by omega, rfl, HR0, rfl⟩
  case round =>
    obtain ⟨n, hn, rfl, HR, hw⟩ := hrel
    subst wr
    clear HR0
    have hS := HR.out
    clear HR
    have htk := take_bytes l n
    by_cases hlt : n < l.length
    · have hlt' : (n : Int) < (l.length : Int) := by omega
      have hB : n < (ByteArray.mk l.toArray).size := by show n < l.toArray.size; simpa using hlt
      have hbe : ((ByteArray.mk l.toArray)[n]'hB).toNat = l[n].toNat := rfl
      rw [List.drop_eq_getElem_cons hlt, rowN] at hS
      have HL1 : Hid _ := HL.out ((ByteArray.mk l.toArray)[n]'hB).toNat
      rw [hbe] at HL1
      by_cases g1 : gd false l[n].toNat = true
      · rw [g1] at HL1
        rw [if_pos g1] at hS
        have HR' : Hid (R = n + 1 + rowN false (l.drop (n + 1))) := by show R = _; rw [hS]; omega
        clear hS g1 hbe HL htk
        as_aux_lemma =>
          go_wp2_with fail
          refine (HL1.out _).mono ?_
          rintro e w1 ⟨rfl, rfl⟩
          go_wp2_with fail
          exact ⟨⟨n + 1, by omega, by go_num, HR', trivial⟩, by simp [intOf]; omega⟩
      · have g1' : gd false l[n].toNat = false := by simpa using g1
        rw [g1'] at HL1
        rw [if_neg g1] at hS
        have HF : Hid (R = n) := hS
        clear hS g1 g1' hbe HL
        as_aux_lemma =>
          go_wp2_with fail
          refine (HL1.out _).mono ?_
          rintro e w1 ⟨rfl, rfl⟩
          go_wp2_with fail
          go_ret
          exact ⟨congrArg (fun z : Nat => Ending.returned (Value.string ⟨(l.take z).toArray⟩)) HF.out.symm, rfl⟩
    · have hlt' : ¬ (n : Int) < (l.length : Int) := by omega
      rw [List.drop_eq_nil_of_le (by omega), rowN] at hS
      have HF : Hid (R = n) := hS
      clear hS HL
      as_aux_lemma =>
        go_wp2_with fail
        go_ret
        exact ⟨congrArg (fun z : Nat => Ending.returned (Value.string ⟨(l.take z).toArray⟩)) HF.out.symm, rfl⟩
set_option maxHeartbeats 1000000 in
set_option maxRecDepth 100000 in
theorem crow_true (l : List UInt8) (hl : l.length ≤ 4611686018427387904) (w : World) :
    Calls Tryz.prog 173 #[.string ⟨l.toArray⟩, fv true] w fun e w' => e = .returned (.string ⟨(l.take (rowN true l)).toArray⟩) ∧ w' = w := by
  have HL : Hid (∀ (c : Nat) (W : World), Calls Tryz.prog 112 #[.int .u8 (c : Int)] W fun e w' => e = .returned (.bool (gd true c)) ∧ w' = W) := fun c W => ofname_any c W
  obtain ⟨R, hR⟩ : ∃ R, R = rowN true l := ⟨_, rfl⟩
  rw [← hR]
  have HR0 : Hid (R = 0 + rowN true (l.drop 0)) := by show R = _; rw [hR, List.drop_zero, Nat.zero_add]
  clear hR
  unfold fv
  go_enter Tryz.func173, Tryz.ntmps173
  go_wp2_with fail
  go_loopw [5] (fun a W => ∃ n : Nat, n ≤ l.length ∧ a = .int .i64 (n : Int) ∧ Hid (R = n + rowN true (l.drop n)) ∧ W = w) (fun a _ => l.length - (intOf a).toNat)
  case atStart => exact ⟨0, by omega, rfl, HR0, rfl⟩
  case round =>
    obtain ⟨n, hn, rfl, HR, hw⟩ := hrel
    subst wr
    clear HR0
    have hS := HR.out
    clear HR
    have htk := take_bytes l n
    by_cases hlt : n < l.length
    · have hlt' : (n : Int) < (l.length : Int) := by omega
      have hB : n < (ByteArray.mk l.toArray).size := by show n < l.toArray.size; simpa using hlt
      have hbe : ((ByteArray.mk l.toArray)[n]'hB).toNat = l[n].toNat := rfl
      rw [List.drop_eq_getElem_cons hlt, rowN] at hS
      have HL1 : Hid _ := HL.out ((ByteArray.mk l.toArray)[n]'hB).toNat
      rw [hbe] at HL1
      by_cases g1 : gd true l[n].toNat = true
      · rw [g1] at HL1
        rw [if_pos g1] at hS
        have HR' : Hid (R = n + 1 + rowN true (l.drop (n + 1))) := by show R = _; rw [hS]; omega
        clear hS g1 hbe HL htk
        as_aux_lemma =>
          go_wp2_with fail
          refine (HL1.out _).mono ?_
          rintro e w1 ⟨rfl, rfl⟩
          go_wp2_with fail
          exact ⟨⟨n + 1, by omega, by go_num, HR', trivial⟩, by simp [intOf]; omega⟩
      · have g1' : gd true l[n].toNat = false := by simpa using g1
        rw [g1'] at HL1
        rw [if_neg g1] at hS
        have HF : Hid (R = n) := hS
        clear hS g1 g1' hbe HL
        as_aux_lemma =>
          go_wp2_with fail
          refine (HL1.out _).mono ?_
          rintro e w1 ⟨rfl, rfl⟩
          go_wp2_with fail
          go_ret
          exact ⟨congrArg (fun z : Nat => Ending.returned (Value.string ⟨(l.take z).toArray⟩)) HF.out.symm, rfl⟩
    · have hlt' : ¬ (n : Int) < (l.length : Int) := by omega
      rw [List.drop_eq_nil_of_le (by omega), rowN] at hS
      have HF : Hid (R = n) := hS
      clear hS HL
      as_aux_lemma =>
        go_wp2_with fail
        go_ret
        exact ⟨congrArg (fun z : Nat => Ending.returned (Value.string ⟨(l.take z).toArray⟩)) HF.out.symm, rfl⟩
theorem crow_any (l : List UInt8) (colon : Bool) (hl : l.length ≤ 4611686018427387904) (w : World) :
    Calls Tryz.prog 173 #[.string ⟨l.toArray⟩, fv colon] w fun e w' => e = .returned (.string ⟨(l.take (rowN colon l)).toArray⟩) ∧ w' = w := by
  cases colon
  · exact crow_false l hl w
  · exact crow_true l hl w
theorem take_eq (l : List UInt8) (n : Nat) (h : n ≤ l.length) : l.take n = l ↔ n = l.length := by
  constructor
  · intro e
    have := congrArg List.length e
    rw [List.length_take] at this
    omega
  · intro e
    rw [e, List.take_length]
set_option maxHeartbeats 1000000 in
theorem word_any (l : List UInt8) (colon : Bool) (hl : l.length ≤ 4611686018427387904) (w : World) :
    Calls Tryz.prog 111 #[.string ⟨l.toArray⟩, fv colon] w fun r w' => r = .returned (.bool (plainB colon l)) ∧ w' = w := by
  have HR : Hid _ := fun W => crow_any l colon hl W
  obtain ⟨f, hf⟩ : ∃ f, f = fv colon := ⟨_, rfl⟩
  rw [← hf] at HR ⊢
  clear hf
  by_cases g0 : 1 ≤ l.length
  · have i0 : (1 : Int) ≤ (l.length : Int) := by omega
    have hB : 0 < (ByteArray.mk l.toArray).size := by show 0 < l.toArray.size; rw [List.size_toArray]; omega
    have hbe := get_zero l g0 hB
    by_cases g1 : l.length ≤ 64
    · have i1 : (l.length : Int) ≤ 64 := by omega
      have HD : Hid _ := fun W => cdigit_any ((ByteArray.mk l.toArray)[0]'hB).toNat W
      cases hD : isD ((ByteArray.mk l.toArray)[0]'hB).toNat
      · rw [hD] at HD
        have hd' : (decide (48 ≤ (l.getD 0 0).toNat) && decide ((l.getD 0 0).toNat ≤ 57)) = false := by rw [← hbe, ← Bool.decide_and]; exact hD
        by_cases g2 : rowN colon l = l.length
        · rw [(take_eq l _ (rowN_le colon l)).2 g2] at HR
          rw [show plainB colon l = true from by unfold plainB; rw [hd', decide_eq_true g0, decide_eq_true g1, decide_eq_true g2]; rfl]
          clear hd' g2 hD hbe
          as_aux_lemma =>
            go_enter Tryz.func111, Tryz.ntmps111
            go_wp2_with (first | (go_at_call 172; refine (HD.out _).mono ?_; rintro e1 w1 ⟨rfl, rfl⟩) | (go_at_call 173; refine (HR.out _).mono ?_; rintro e1 w1 ⟨rfl, rfl⟩))
            go_ret
            exact ⟨rfl, rfl⟩
        · have hq : (l.take (rowN colon l) == l) = false := by rw [beq_eq_false_iff_ne]; exact fun h => g2 ((take_eq l _ (rowN_le colon l)).1 h)
          rw [show plainB colon l = false from by unfold plainB; rw [decide_eq_false g2]; simp]
          obtain ⟨t, ht⟩ : ∃ t, t = l.take (rowN colon l) := ⟨_, rfl⟩
          rw [← ht] at HR hq
          clear hd' g2 hD hbe ht
          as_aux_lemma =>
            go_enter Tryz.func111, Tryz.ntmps111
            go_wp2_with (first | (go_at_call 172; refine (HD.out _).mono ?_; rintro e1 w1 ⟨rfl, rfl⟩) | (go_at_call 173; refine (HR.out _).mono ?_; rintro e1 w1 ⟨rfl, rfl⟩))
            go_ret
            exact ⟨rfl, rfl⟩
      · rw [hD] at HD
        have hd' : (decide (48 ≤ (l.getD 0 0).toNat) && decide ((l.getD 0 0).toNat ≤ 57)) = true := by rw [← hbe, ← Bool.decide_and]; exact hD
        rw [show plainB colon l = false from by unfold plainB; rw [hd']; simp]
        clear hd' hD hbe
        as_aux_lemma =>
          go_enter Tryz.func111, Tryz.ntmps111
          go_wp2_with (first | (go_at_call 172; refine (HD.out _).mono ?_; rintro e1 w1 ⟨rfl, rfl⟩) | (go_at_call 173; refine (HR.out _).mono ?_; rintro e1 w1 ⟨rfl, rfl⟩))
          go_ret
          exact ⟨rfl, rfl⟩
    · have i1 : ¬ (l.length : Int) ≤ 64 := by omega
      rw [show plainB colon l = false from by unfold plainB; rw [decide_eq_false g1]; simp]
      as_aux_lemma =>
        go_enter Tryz.func111, Tryz.ntmps111
        go_wp2_with fail
        go_ret
        exact ⟨rfl, rfl⟩
  · have i0 : ¬ (1 : Int) ≤ (l.length : Int) := by omega
    rw [show plainB colon l = false from by unfold plainB; rw [decide_eq_false g0]; simp]
    as_aux_lemma =>
      go_enter Tryz.func111, Tryz.ntmps111
      go_wp2_with fail
      go_ret
      exact ⟨rfl, rfl⟩
end Go.Proofs.YtfnohbalkpponaaGreatDoor.La
/- strings.Builder's WRITERS, laid by hand (the kit's command lays the others). Own work of the verifier. -/
namespace Go.Proofs
open Go.Shelf
def Tryz.wr_ren : Go.Shelf.Ren := ⟨fun | 166 => 72 | 167 => 119 | 240 => 117 | 276 => 176 | n => n, fun | 70 => 169 | 72 => 172 | 37 => 170 | 75 => 174 | 80 => 177 | 164 => 278 | n => n, fun | n => n⟩
theorem Tryz.wlays166 : Go.Proofs.Lays.n166 Tryz.prog Tryz.wr_ren := {
  mixed := by kernel_rfl
  f166 := Tryz.func72.trans (congrArg some (by kernel_rfl))
  f240 := Tryz.func117.trans (congrArg some (by kernel_rfl))
  f276 := Tryz.func176.trans (congrArg some (by kernel_rfl))
  t0 := Tryz.underlying0
  a0 := Tryz.isAgg0
  z0 := Tryz.sizeOf0
  v0 := Tryz.zeroValue0
  t3 := Tryz.underlying3
  a3 := Tryz.isAgg3
  z3 := Tryz.sizeOf3
  v3 := Tryz.zeroValue3
  t4 := Tryz.underlying4
  a4 := Tryz.isAgg4
  z4 := Tryz.sizeOf4
  v4 := Tryz.zeroValue4
  t9 := Tryz.underlying9
  a9 := Tryz.isAgg9
  z9 := Tryz.sizeOf9
  v9 := Tryz.zeroValue9
  t20 := Tryz.underlying20
  a20 := Tryz.isAgg20
  z20 := Tryz.sizeOf20
  v20 := Tryz.zeroValue20
  t37 := Tryz.underlying170
  a37 := Tryz.isAgg170
  z37 := Tryz.sizeOf170
  v37 := Tryz.zeroValue170
  t70 := Tryz.underlying169
  a70 := Tryz.isAgg169
  z70 := Tryz.sizeOf169
  v70 := Tryz.zeroValue169
  t72 := Tryz.underlying172
  a72 := Tryz.isAgg172
  z72 := Tryz.sizeOf172
  v72 := Tryz.zeroValue172
  t75 := Tryz.underlying174
  a75 := Tryz.isAgg174
  z75 := Tryz.sizeOf174
  v75 := Tryz.zeroValue174
  t164 := Tryz.underlying278
  a164 := Tryz.isAgg278
  z164 := Tryz.sizeOf278
  v164 := Tryz.zeroValue278 }
theorem Tryz.wlays167 : Go.Proofs.Lays.n167 Tryz.prog Tryz.wr_ren := {
  mixed := by kernel_rfl
  f167 := Tryz.func119.trans (congrArg some (by kernel_rfl))
  f240 := Tryz.func117.trans (congrArg some (by kernel_rfl))
  f276 := Tryz.func176.trans (congrArg some (by kernel_rfl))
  t0 := Tryz.underlying0
  a0 := Tryz.isAgg0
  z0 := Tryz.sizeOf0
  v0 := Tryz.zeroValue0
  t4 := Tryz.underlying4
  a4 := Tryz.isAgg4
  z4 := Tryz.sizeOf4
  v4 := Tryz.zeroValue4
  t5 := Tryz.underlying5
  a5 := Tryz.isAgg5
  z5 := Tryz.sizeOf5
  v5 := Tryz.zeroValue5
  t9 := Tryz.underlying9
  a9 := Tryz.isAgg9
  z9 := Tryz.sizeOf9
  v9 := Tryz.zeroValue9
  t20 := Tryz.underlying20
  a20 := Tryz.isAgg20
  z20 := Tryz.sizeOf20
  v20 := Tryz.zeroValue20
  t37 := Tryz.underlying170
  a37 := Tryz.isAgg170
  z37 := Tryz.sizeOf170
  v37 := Tryz.zeroValue170
  t70 := Tryz.underlying169
  a70 := Tryz.isAgg169
  z70 := Tryz.sizeOf169
  v70 := Tryz.zeroValue169
  t72 := Tryz.underlying172
  a72 := Tryz.isAgg172
  z72 := Tryz.sizeOf172
  v72 := Tryz.zeroValue172
  t75 := Tryz.underlying174
  a75 := Tryz.isAgg174
  z75 := Tryz.sizeOf174
  v75 := Tryz.zeroValue174
  t164 := Tryz.underlying278
  a164 := Tryz.isAgg278
  z164 := Tryz.sizeOf278
  v164 := Tryz.zeroValue278 }
theorem Tryz.wextra : Builder.Extra Tryz.prog Tryz.wr_ren := {
  sizeBuilder := by kernel_rfl
  liesBuilder := by kernel_rfl
  t5 := Tryz.underlying5
  a5 := Tryz.isAgg5
  z5 := Tryz.sizeOf5
  v5 := Tryz.zeroValue5
  infoByte := by kernel_rfl
  cellsByte := by kernel_rfl
  sizeByte := by kernel_rfl
  neB5 := by decide }
open Go.RowKit in
theorem Tryz.wbyte (B b : Nat) (bs : List Value) (c : Int) (w : World) (h : Lib.IsBuilderF 172 5 B b bs w) (hlen : bs.length + 1 ≤ 140737488355328) (hBw : B ≤ w.heap.size) :
    Calls Tryz.prog 119 #[.pointer (some ⟨b, 0, none⟩), .int .u8 c] w fun e w' => e = .returned .nilIface ∧ (Lib.BuilderAtF 172 5 B b (.pointer (some ⟨b, 0, none⟩)) (bs ++ [.int .u8 c]) w' ∧ Below B w w' ∧ Lib.OthersKept 5 (some b) w w') := Any.Builder_WriteByte_k Tryz.wlays167 Tryz.wextra B b bs c w h hlen hBw
open Go.RowKit in
theorem Tryz.wstring (B b : Nat) (bs : List Value) (s : ByteArray) (w : World) (h : Lib.IsBuilderF 172 5 B b bs w) (hlen : bs.length + s.size ≤ 140737488355328) (hBw : B ≤ w.heap.size) :
    Calls Tryz.prog 72 #[.pointer (some ⟨b, 0, none⟩), .string s] w fun e w' => e = .returned (.tuple #[.int .i64 s.size, .nilIface]) ∧ (Lib.BuilderAtF 172 5 B b (.pointer (some ⟨b, 0, none⟩)) (bs ++ Lib.strCells s) w' ∧ Below B w w' ∧ Lib.OthersKept 5 (some b) w w') := Any.Builder_WriteString_k Tryz.wlays166 Tryz.wextra B b bs s w h hlen hBw
end Go.Proofs
/- RIGHT UTF-8, the document's: tail, Utf, text. Own work of the verifier. -/
namespace Go.Proofs.YtfnohbalkpponaaGreatDoor.La
open Go.RowKit

/-- A byte 80 to bf. -/
def tlB (b : Nat) : Bool := decide (128 ≤ b) && decide (b < 192)
def tlAt (l : List UInt8) (k : Nat) : Bool := decide (k < l.length) && tlB (l.getD k 0).toNat
theorem get_at (l : List UInt8) (k : Nat) (h : k < l.length) : (l.getD k 0) = l[k] := by
  rw [List.getD_eq_getElem?_getD, List.getElem?_eq_getElem h]; rfl
set_option maxHeartbeats 1000000 in
theorem tail_any (l : List UInt8) (k : Nat) (_hl : l.length ≤ 4611686018427387904) (w : World) :
    Calls Tryz.prog 124 #[.string ⟨l.toArray⟩, .int .i64 (k : Int)] w fun r w' => r = .returned (.bool (tlAt l k)) ∧ w' = w := by
  by_cases h : k < l.length
  · have h' : (k : Int) < (l.length : Int) := by omega
    have hB : k < (ByteArray.mk l.toArray).size := by show k < l.toArray.size; simpa using h
    have hbe : ((ByteArray.mk l.toArray)[k]'hB).toNat = l[k].toNat := rfl
    have hE : tlAt l k = tlB l[k].toNat := by unfold tlAt; rw [decide_eq_true h, get_at l k h]; rfl
    rw [hE]
    by_cases a : 128 ≤ l[k].toNat
    · have a' : (128 : Int) ≤ (((ByteArray.mk l.toArray)[k]'hB).toNat : Int) := by rw [hbe]; omega
      by_cases b : l[k].toNat < 192
      · have b' : (((ByteArray.mk l.toArray)[k]'hB).toNat : Int) < 192 := by rw [hbe]; omega
        rw [show tlB l[k].toNat = true from by unfold tlB; rw [decide_eq_true a, decide_eq_true b]; rfl]
        clear hbe hE a b
        as_aux_lemma =>
          go_enter Tryz.func124, Tryz.ntmps124
          go_wp2_with fail
          go_ret
          exact ⟨rfl, rfl⟩
      · have b' : (192 : Int) ≤ (((ByteArray.mk l.toArray)[k]'hB).toNat : Int) := by rw [hbe]; omega
        rw [show tlB l[k].toNat = false from by unfold tlB; rw [decide_eq_false b]; simp]
        clear hbe hE a b
        as_aux_lemma =>
          go_enter Tryz.func124, Tryz.ntmps124
          go_wp2_with fail
          go_ret
          exact ⟨congrArg (fun b => Ending.returned (Value.bool b)) (decide_eq_false (by omega)), rfl⟩
    · have a' : ¬ (128 : Int) ≤ (((ByteArray.mk l.toArray)[k]'hB).toNat : Int) := by rw [hbe]; omega
      rw [show tlB l[k].toNat = false from by unfold tlB; rw [decide_eq_false a]; simp]
      clear hbe hE a
      as_aux_lemma =>
        go_enter Tryz.func124, Tryz.ntmps124
        go_wp2_with fail
        go_ret
        exact ⟨rfl, rfl⟩
  · have h' : ¬ (k : Int) < (l.length : Int) := by omega
    rw [show tlAt l k = false from by unfold tlAt; rw [decide_eq_false h]; rfl]
    as_aux_lemma =>
      go_enter Tryz.func124, Tryz.ntmps124
      go_wp2_with fail
      go_ret
      exact ⟨rfl, rfl⟩
/-- n bytes behind the first one of a sign, c being what was read so far. -/
def cont : Nat → Nat → List UInt8 → Option Nat
  | 0, c, _ => some c
  | _ + 1, _, [] => none
  | n + 1, c, b :: r => if tlB b.toNat then cont n (64 * c + b.toNat - 128) r else none
/-- How many bytes follow the first one, and what it tells. -/
def lead (b : Nat) : Option (Nat × Nat) := if 192 ≤ b ∧ b < 224 then some (1, b - 192) else if 224 ≤ b ∧ b < 240 then some (2, b - 224) else if 240 ≤ b ∧ b < 248 then some (3, b - 240) else none
def fine (n c : Nat) : Bool := decide (¬ (n = 1 ∧ c < 128 ∨ n = 2 ∧ c < 2048 ∨ n = 3 ∧ c < 65536 ∨ 1114111 < c ∨ 55296 ≤ c ∧ c ≤ 57343))
/-- Right UTF-8. -/
def utfB : List UInt8 → Bool
  | [] => true
  | b :: r => if b.toNat < 128 then utfB r else
    match lead b.toNat with
    | none => false
    | some (n, c0) => match cont n c0 r with
      | none => false
      | some c => fine n c && utfB (r.drop n)
termination_by l => l.length
decreasing_by
  · simp
  · simp; omega
theorem cont_step (l : List UInt8) (k m c : Nat) : cont (m + 1) c (l.drop k) = if tlAt l k then cont m (64 * c + (l.getD k 0).toNat - 128) (l.drop (k + 1)) else none := by
  unfold tlAt
  rcases Nat.lt_or_ge k l.length with g | g
  · rw [List.drop_eq_getElem_cons g, cont, decide_eq_true g, get_at l k g]
    rfl
  · rw [List.drop_eq_nil_of_le g, cont, decide_eq_false (by omega)]
    rfl
theorem utf_low (l : List UInt8) (i : Nat) (h : i < l.length) (hb : l[i].toNat < 128) : utfB (l.drop i) = utfB (l.drop (i + 1)) := by
  rw [List.drop_eq_getElem_cons h, utfB, if_pos hb]
theorem utf_lead (l : List UInt8) (i n c0 : Nat) (h : i < l.length) (hb : ¬ l[i].toNat < 128) (hl : lead l[i].toNat = some (n, c0)) :
    utfB (l.drop i) = match cont n c0 (l.drop (i + 1)) with
      | none => false
      | some c => fine n c && utfB (l.drop (i + (n + 1))) := by
  rw [List.drop_eq_getElem_cons h, utfB, if_neg hb, hl]
  simp only
  cases cont n c0 (l.drop (i + 1)) with
  | none => rfl
  | some c =>
    simp only
    rw [List.drop_drop, show i + 1 + n = i + (n + 1) from by omega]
theorem utf_none (l : List UInt8) (i : Nat) (h : i < l.length) (hb : ¬ l[i].toNat < 128) (hl : lead l[i].toNat = none) : utfB (l.drop i) = false := by
  rw [List.drop_eq_getElem_cons h, utfB, if_neg hb, hl]
end Go.Proofs.YtfnohbalkpponaaGreatDoor.La
/- Utf, the document's: THE WALK; text. Own work of the verifier. -/
namespace Go.Proofs.YtfnohbalkpponaaGreatDoor.La
open Go.RowKit

/-- How great what was read so far may be, by how many bytes were read. -/
def Low (k c : Nat) : Prop := (k = 1 → c < 32) ∧ (k = 2 → c < 2048) ∧ (k = 3 → c < 131072) ∧ (k = 4 → c < 8388608) ∧ c < 8388608
set_option maxHeartbeats 4000000 in
set_option maxRecDepth 100000 in
theorem utf_any (l : List UInt8) (hl : l.length ≤ 4611686018427387904) (w : World) :
    Calls Tryz.prog 80 #[.string ⟨l.toArray⟩] w fun r w' => r = .returned (.bool (utfB l)) ∧ w' = w := by
  have HT : Hid (∀ (k : Nat) (W : World), Calls Tryz.prog 124 #[.string ⟨l.toArray⟩, .int .i64 (k : Int)] W fun r w' => r = .returned (.bool (tlAt l k)) ∧ w' = W) := fun k W => tail_any l k hl W
  obtain ⟨U, hU⟩ : ∃ U, U = utfB l := ⟨_, rfl⟩
  rw [← hU]
  have HU0 : Hid (U = utfB (l.drop 0)) := hU
  clear hU
  go_enter Tryz.func80, Tryz.ntmps80
  go_wp2_with fail
  go_loopw [3] (fun a W => ∃ i : Nat, i ≤ l.length ∧ a = .int .i64 (i : Int) ∧ Hid (U = utfB (l.drop i)) ∧ W = w) (fun a _ => l.length - (intOf a).toNat)
  case atStart => exact ⟨0, by omega, rfl, HU0, rfl⟩
  case round =>
    obtain ⟨i, hi, rfl, HR, hw⟩ := hrel
    subst wr
    clear HU0
    by_cases hlt : i < l.length
    · have hlt' : (i : Int) < (l.length : Int) := by omega
      have hB : i < (ByteArray.mk l.toArray).size := by show i < l.toArray.size; simpa using hlt
      have hbe : ((ByteArray.mk l.toArray)[i]'hB).toNat = l[i].toNat := rfl
      have h256 : ((ByteArray.mk l.toArray)[i]'hB).toNat < 256 := UInt8.toNat_lt _
      by_cases c1 : l[i].toNat < 128
      · have c1' : (((ByteArray.mk l.toArray)[i]'hB).toNat : Int) < 128 := by rw [hbe]; omega
        have HR' : Hid (U = utfB (l.drop (i + 1))) := HR.out.trans (utf_low l i hlt c1)
        clear HR c1 hbe HT
        as_aux_lemma =>
          go_wp2_with fail
          exact ⟨⟨i + 1, by omega, by go_num, HR', trivial⟩, by simp [intOf]; omega⟩
      have c1' : ¬ (((ByteArray.mk l.toArray)[i]'hB).toNat : Int) < 128 := by rw [hbe]; omega
      cases hld : lead l[i].toNat with
      | none =>
        have HF : Hid (U = false) := HR.out.trans (utf_none l i hlt c1 hld)
        unfold lead at hld
        have d : l[i].toNat < 192 ∨ 248 ≤ l[i].toNat := by
          split at hld
          · cases hld
          · split at hld
            · cases hld
            · split at hld
              · cases hld
              · omega
        clear HR hld HT
        rcases d with d | d
        · have t1 : ¬ (192 : Int) ≤ (((ByteArray.mk l.toArray)[i]'hB).toNat : Int) := by rw [hbe]; omega
          have t2 : ¬ (224 : Int) ≤ (((ByteArray.mk l.toArray)[i]'hB).toNat : Int) := by rw [hbe]; omega
          have t3 : ¬ (240 : Int) ≤ (((ByteArray.mk l.toArray)[i]'hB).toNat : Int) := by rw [hbe]; omega
          clear hbe c1 d
          as_aux_lemma =>
            go_wp2_with fail
            go_ret
            exact ⟨congrArg (fun b => Ending.returned (Value.bool b)) HF.out.symm, rfl⟩
        · have t1 : (192 : Int) ≤ (((ByteArray.mk l.toArray)[i]'hB).toNat : Int) := by rw [hbe]; omega
          have t2 : (224 : Int) ≤ (((ByteArray.mk l.toArray)[i]'hB).toNat : Int) := by rw [hbe]; omega
          have t3 : (240 : Int) ≤ (((ByteArray.mk l.toArray)[i]'hB).toNat : Int) := by rw [hbe]; omega
          have t4 : ¬ (((ByteArray.mk l.toArray)[i]'hB).toNat : Int) < 224 := by rw [hbe]; omega
          have t5 : ¬ (((ByteArray.mk l.toArray)[i]'hB).toNat : Int) < 240 := by rw [hbe]; omega
          have t6 : ¬ (((ByteArray.mk l.toArray)[i]'hB).toNat : Int) < 248 := by rw [hbe]; omega
          clear hbe c1 d
          as_aux_lemma =>
            go_wp2_with fail
            go_ret
            exact ⟨congrArg (fun b => Ending.returned (Value.bool b)) HF.out.symm, rfl⟩
      | some q =>
        obtain ⟨n, c0⟩ := q
        have HM : Hid (U = match cont n c0 (l.drop (i + 1)) with | none => false | some c => fine n c && utfB (l.drop (i + (n + 1)))) := HR.out.trans (utf_lead l i n c0 hlt c1 hld)
        unfold lead at hld
        have d : (n = 1 ∧ 192 ≤ l[i].toNat ∧ l[i].toNat < 224 ∧ c0 = l[i].toNat - 192) ∨ (n = 2 ∧ 224 ≤ l[i].toNat ∧ l[i].toNat < 240 ∧ c0 = l[i].toNat - 224) ∨ (n = 3 ∧ 240 ≤ l[i].toNat ∧ l[i].toNat < 248 ∧ c0 = l[i].toNat - 240) := by
          split at hld
          · have := Prod.mk.inj (Option.some.inj hld); omega
          · split at hld
            · have := Prod.mk.inj (Option.some.inj hld); omega
            · split at hld
              · have := Prod.mk.inj (Option.some.inj hld); omega
              · cases hld
        clear HR hld
        have hc0 : c0 < 32 := by omega
        have hn3 : n ≤ 3 := by omega
        have hn1 : 1 ≤ n := by omega
        rcases d with ⟨dn, d1, d2, d3⟩ | ⟨dn, d1, d2, d3⟩ | ⟨dn, d1, d2, d3⟩
        · subst dn
          have t1a : (192 : Int) ≤ (((ByteArray.mk l.toArray)[i]'hB).toNat : Int) := by rw [hbe]; omega
          have t1b : (((ByteArray.mk l.toArray)[i]'hB).toNat : Int) < 224 := by rw [hbe]; omega
          have hc' : (((ByteArray.mk l.toArray)[i]'hB).toNat : Int) - 192 = (c0 : Int) := by rw [hbe]; omega
          have hi1 : i + 1 ≤ l.length := by omega
          clear hbe c1 d1 d2 d3 h256
          as_aux_lemma =>
          go_wp2_with fail
          go_loopw [4, 6] (fun a b W => ∃ c k : Nat, a = .int .i64 (c : Int) ∧ b = .int .i64 (k : Int) ∧ 1 ≤ k ∧ k ≤ 2 ∧ i + k ≤ l.length ∧ Low k c ∧ Hid (cont 1 c0 (l.drop (i + 1)) = cont (2 - k) c (l.drop (i + k))) ∧ W = w) (fun _ b _ => 2 - (intOf b).toNat)
          case atStart => exact ⟨c0, 1, rfl, rfl, by omega, by omega, hi1, ⟨fun _ => by omega, (fun h => by omega), (fun h => by omega), (fun h => by omega), by omega⟩, rfl, rfl⟩
          case round =>
          obtain ⟨c, k, rfl, rfl, k1, k2, kl, hlow, HC, hw⟩ := hrel
          subst wr
          unfold Low at hlow
          by_cases hk : k ≤ 1
          · have hk' : (k : Int) ≤ 1 := by omega
            obtain ⟨j, hj⟩ : ∃ j, j = i + k := ⟨_, rfl⟩
            have hj' : (i : Int) + (k : Int) = (j : Int) := by omega
            have HT1 : Hid _ := HT.out j
            have hC := HC.out
            rw [show 2 - k = (1 - k) + 1 from by omega, ← hj, cont_step l j (1 - k) c] at hC
            by_cases g : tlAt l j = true
            · rw [g] at HT1
              rw [if_pos g] at hC
              unfold tlAt tlB at g
              simp only [Bool.and_eq_true, decide_eq_true_eq] at g
              obtain ⟨jlt, jb1, jb2⟩ := g
              have jlt' : (j : Int) < (l.length : Int) := by omega
              have hBj : j < (ByteArray.mk l.toArray).size := by show j < l.toArray.size; simpa using jlt
              have hbj : ((ByteArray.mk l.toArray)[j]'hBj).toNat = (l.getD j 0).toNat := by rw [get_at l j jlt]; rfl
              obtain ⟨c2, hc2⟩ : ∃ c2, c2 = 64 * c + (l.getD j 0).toNat - 128 := ⟨_, rfl⟩
              have hcc : 64 * (c : Int) + (((ByteArray.mk l.toArray)[j]'hBj).toNat : Int) - 128 = (c2 : Int) := by rw [hbj]; omega
              rw [← hc2] at hC
              have HC' : Hid (cont 1 c0 (l.drop (i + 1)) = cont (2 - (k + 1)) c2 (l.drop (i + (k + 1)))) := by
                show cont 1 c0 (l.drop (i + 1)) = _
                rw [hC, show 2 - (k + 1) = 1 - k from by omega, show i + (k + 1) = j + 1 from by omega]
              have hlow2 : Low (k + 1) c2 := by unfold Low; omega
              have kl2 : i + (k + 1) ≤ l.length := by omega
              have k256 : ((ByteArray.mk l.toArray)[j]'hBj).toNat < 256 := UInt8.toNat_lt _
              have HLw : Hid _ := hlow2
              have hcs : c < 131072 := by omega
              clear hC HC hbj hc2 jb1 jb2 hj HM HT hlow hlow2
              as_aux_lemma =>
                go_wp2_with fail
                refine (HT1.out _).mono ?_
                rintro e w1 ⟨rfl, rfl⟩
                go_wp2_with fail
                exact ⟨⟨c2, k + 1, rfl, by go_num, by omega, by omega, kl2, HLw.out, HC', trivial⟩, by simp [intOf]; omega⟩
            · have g' : tlAt l j = false := by simpa using g
              rw [g'] at HT1
              rw [if_neg g] at hC
              have HF : Hid (U = false) := by
                show U = false
                rw [HM.out, hC]
              clear hC HC g g' hj HM HT hlow
              as_aux_lemma =>
                go_wp2_with fail
                refine (HT1.out _).mono ?_
                rintro e w1 ⟨rfl, rfl⟩
                go_wp2_with fail
                go_ret
                exact ⟨congrArg (fun b => Ending.returned (Value.bool b)) HF.out.symm, rfl⟩
          · have hk' : ¬ (k : Int) ≤ 1 := by omega
            have ek : k = 2 := by omega
            have HU : Hid (U = (fine 1 c && utfB (l.drop (i + 2)))) := by
              show U = _
              have hC := HC.out
              rw [ek, Nat.sub_self, cont] at hC
              rw [HM.out, hC]
            have hcb : c < 8388608 := hlow.2.2.2.2
            have hcl := hlow.2.1 ek
            have kli : i + 2 ≤ l.length := by omega
            clear HM ek hlow
            by_cases e1 : c < 128
            · have e1' : (c : Int) < 128 := by omega
              have HF : Hid (U = false) := by
                show U = false
                rw [HU.out, show fine 1 c = false from decide_eq_false (by omega)]
                rfl
              clear HU HT HC
              as_aux_lemma =>
                go_wp2_with fail
                go_ret
                exact ⟨congrArg (fun b => Ending.returned (Value.bool b)) HF.out.symm, rfl⟩
            · have e1' : ¬ (c : Int) < 128 := by omega
              have e4 : ¬ (1114111 : Int) < (c : Int) := by omega
              have e5 : ¬ (55296 : Int) ≤ (c : Int) := by omega
              have HF : Hid (U = utfB (l.drop (i + 2))) := by
                show U = _
                rw [HU.out, show fine 1 c = true from decide_eq_true (by omega)]
                rfl
              clear HU HT HC
              as_aux_lemma =>
                go_wp2_with fail
                exact ⟨⟨i + 2, by omega, congrArg (Value.int .i64) (by omega), HF, trivial⟩, by simp [intOf]; omega⟩
        · subst dn
          have t1a : (192 : Int) ≤ (((ByteArray.mk l.toArray)[i]'hB).toNat : Int) := by rw [hbe]; omega
          have t1b : ¬ (((ByteArray.mk l.toArray)[i]'hB).toNat : Int) < 224 := by rw [hbe]; omega
          have t2a : (224 : Int) ≤ (((ByteArray.mk l.toArray)[i]'hB).toNat : Int) := by rw [hbe]; omega
          have t2b : (((ByteArray.mk l.toArray)[i]'hB).toNat : Int) < 240 := by rw [hbe]; omega
          have hc' : (((ByteArray.mk l.toArray)[i]'hB).toNat : Int) - 224 = (c0 : Int) := by rw [hbe]; omega
          have hi1 : i + 1 ≤ l.length := by omega
          clear hbe c1 d1 d2 d3 h256
          as_aux_lemma =>
          go_wp2_with fail
          go_loopw [4, 6] (fun a b W => ∃ c k : Nat, a = .int .i64 (c : Int) ∧ b = .int .i64 (k : Int) ∧ 1 ≤ k ∧ k ≤ 3 ∧ i + k ≤ l.length ∧ Low k c ∧ Hid (cont 2 c0 (l.drop (i + 1)) = cont (3 - k) c (l.drop (i + k))) ∧ W = w) (fun _ b _ => 3 - (intOf b).toNat)
          case atStart => exact ⟨c0, 1, rfl, rfl, by omega, by omega, hi1, ⟨fun _ => by omega, (fun h => by omega), (fun h => by omega), (fun h => by omega), by omega⟩, rfl, rfl⟩
          case round =>
          obtain ⟨c, k, rfl, rfl, k1, k2, kl, hlow, HC, hw⟩ := hrel
          subst wr
          unfold Low at hlow
          by_cases hk : k ≤ 2
          · have hk' : (k : Int) ≤ 2 := by omega
            obtain ⟨j, hj⟩ : ∃ j, j = i + k := ⟨_, rfl⟩
            have hj' : (i : Int) + (k : Int) = (j : Int) := by omega
            have HT1 : Hid _ := HT.out j
            have hC := HC.out
            rw [show 3 - k = (2 - k) + 1 from by omega, ← hj, cont_step l j (2 - k) c] at hC
            by_cases g : tlAt l j = true
            · rw [g] at HT1
              rw [if_pos g] at hC
              unfold tlAt tlB at g
              simp only [Bool.and_eq_true, decide_eq_true_eq] at g
              obtain ⟨jlt, jb1, jb2⟩ := g
              have jlt' : (j : Int) < (l.length : Int) := by omega
              have hBj : j < (ByteArray.mk l.toArray).size := by show j < l.toArray.size; simpa using jlt
              have hbj : ((ByteArray.mk l.toArray)[j]'hBj).toNat = (l.getD j 0).toNat := by rw [get_at l j jlt]; rfl
              obtain ⟨c2, hc2⟩ : ∃ c2, c2 = 64 * c + (l.getD j 0).toNat - 128 := ⟨_, rfl⟩
              have hcc : 64 * (c : Int) + (((ByteArray.mk l.toArray)[j]'hBj).toNat : Int) - 128 = (c2 : Int) := by rw [hbj]; omega
              rw [← hc2] at hC
              have HC' : Hid (cont 2 c0 (l.drop (i + 1)) = cont (3 - (k + 1)) c2 (l.drop (i + (k + 1)))) := by
                show cont 2 c0 (l.drop (i + 1)) = _
                rw [hC, show 3 - (k + 1) = 2 - k from by omega, show i + (k + 1) = j + 1 from by omega]
              have hlow2 : Low (k + 1) c2 := by unfold Low; omega
              have kl2 : i + (k + 1) ≤ l.length := by omega
              have k256 : ((ByteArray.mk l.toArray)[j]'hBj).toNat < 256 := UInt8.toNat_lt _
              have HLw : Hid _ := hlow2
              have hcs : c < 131072 := by omega
              clear hC HC hbj hc2 jb1 jb2 hj HM HT hlow hlow2
              as_aux_lemma =>
                go_wp2_with fail
                refine (HT1.out _).mono ?_
                rintro e w1 ⟨rfl, rfl⟩
                go_wp2_with fail
                exact ⟨⟨c2, k + 1, rfl, by go_num, by omega, by omega, kl2, HLw.out, HC', trivial⟩, by simp [intOf]; omega⟩
            · have g' : tlAt l j = false := by simpa using g
              rw [g'] at HT1
              rw [if_neg g] at hC
              have HF : Hid (U = false) := by
                show U = false
                rw [HM.out, hC]
              clear hC HC g g' hj HM HT hlow
              as_aux_lemma =>
                go_wp2_with fail
                refine (HT1.out _).mono ?_
                rintro e w1 ⟨rfl, rfl⟩
                go_wp2_with fail
                go_ret
                exact ⟨congrArg (fun b => Ending.returned (Value.bool b)) HF.out.symm, rfl⟩
          · have hk' : ¬ (k : Int) ≤ 2 := by omega
            have ek : k = 3 := by omega
            have HU : Hid (U = (fine 2 c && utfB (l.drop (i + 3)))) := by
              show U = _
              have hC := HC.out
              rw [ek, Nat.sub_self, cont] at hC
              rw [HM.out, hC]
            have hcb : c < 8388608 := hlow.2.2.2.2
            have hcl := hlow.2.2.1 ek
            have kli : i + 3 ≤ l.length := by omega
            clear HM ek hlow
            by_cases e1 : c < 2048
            · have e1' : (c : Int) < 2048 := by omega
              have HF : Hid (U = false) := by
                show U = false
                rw [HU.out, show fine 2 c = false from decide_eq_false (by omega)]
                rfl
              clear HU HT HC
              as_aux_lemma =>
                go_wp2_with fail
                go_ret
                exact ⟨congrArg (fun b => Ending.returned (Value.bool b)) HF.out.symm, rfl⟩
            · have e1' : ¬ (c : Int) < 2048 := by omega
              have e4 : ¬ (1114111 : Int) < (c : Int) := by omega
              by_cases e5 : 55296 ≤ c
              · have e5' : (55296 : Int) ≤ (c : Int) := by omega
                by_cases e6 : c ≤ 57343
                · have e6' : (c : Int) ≤ 57343 := by omega
                  have HF : Hid (U = false) := by
                    show U = false
                    rw [HU.out, show fine 2 c = false from decide_eq_false (by omega)]
                    rfl
                  clear HU HT HC
                  as_aux_lemma =>
                    go_wp2_with fail
                    go_ret
                    exact ⟨congrArg (fun b => Ending.returned (Value.bool b)) HF.out.symm, rfl⟩
                · have e6' : ¬ (c : Int) ≤ 57343 := by omega
                  have HF : Hid (U = utfB (l.drop (i + 3))) := by
                    show U = _
                    rw [HU.out, show fine 2 c = true from decide_eq_true (by omega)]
                    rfl
                  clear HU HT HC
                  as_aux_lemma =>
                    go_wp2_with fail
                    exact ⟨⟨i + 3, by omega, congrArg (Value.int .i64) (by omega), HF, trivial⟩, by simp [intOf]; omega⟩
              · have e5' : ¬ (55296 : Int) ≤ (c : Int) := by omega
                have HF : Hid (U = utfB (l.drop (i + 3))) := by
                  show U = _
                  rw [HU.out, show fine 2 c = true from decide_eq_true (by omega)]
                  rfl
                clear HU HT HC
                as_aux_lemma =>
                  go_wp2_with fail
                  exact ⟨⟨i + 3, by omega, congrArg (Value.int .i64) (by omega), HF, trivial⟩, by simp [intOf]; omega⟩
        · subst dn
          have t1a : (192 : Int) ≤ (((ByteArray.mk l.toArray)[i]'hB).toNat : Int) := by rw [hbe]; omega
          have t1b : ¬ (((ByteArray.mk l.toArray)[i]'hB).toNat : Int) < 224 := by rw [hbe]; omega
          have t2a : (224 : Int) ≤ (((ByteArray.mk l.toArray)[i]'hB).toNat : Int) := by rw [hbe]; omega
          have t2b : ¬ (((ByteArray.mk l.toArray)[i]'hB).toNat : Int) < 240 := by rw [hbe]; omega
          have t3a : (240 : Int) ≤ (((ByteArray.mk l.toArray)[i]'hB).toNat : Int) := by rw [hbe]; omega
          have t3b : (((ByteArray.mk l.toArray)[i]'hB).toNat : Int) < 248 := by rw [hbe]; omega
          have hc' : (((ByteArray.mk l.toArray)[i]'hB).toNat : Int) - 240 = (c0 : Int) := by rw [hbe]; omega
          have hi1 : i + 1 ≤ l.length := by omega
          clear hbe c1 d1 d2 d3 h256
          as_aux_lemma =>
          go_wp2_with fail
          go_loopw [4, 6] (fun a b W => ∃ c k : Nat, a = .int .i64 (c : Int) ∧ b = .int .i64 (k : Int) ∧ 1 ≤ k ∧ k ≤ 4 ∧ i + k ≤ l.length ∧ Low k c ∧ Hid (cont 3 c0 (l.drop (i + 1)) = cont (4 - k) c (l.drop (i + k))) ∧ W = w) (fun _ b _ => 4 - (intOf b).toNat)
          case atStart => exact ⟨c0, 1, rfl, rfl, by omega, by omega, hi1, ⟨fun _ => by omega, (fun h => by omega), (fun h => by omega), (fun h => by omega), by omega⟩, rfl, rfl⟩
          case round =>
          obtain ⟨c, k, rfl, rfl, k1, k2, kl, hlow, HC, hw⟩ := hrel
          subst wr
          unfold Low at hlow
          by_cases hk : k ≤ 3
          · have hk' : (k : Int) ≤ 3 := by omega
            obtain ⟨j, hj⟩ : ∃ j, j = i + k := ⟨_, rfl⟩
            have hj' : (i : Int) + (k : Int) = (j : Int) := by omega
            have HT1 : Hid _ := HT.out j
            have hC := HC.out
            rw [show 4 - k = (3 - k) + 1 from by omega, ← hj, cont_step l j (3 - k) c] at hC
            by_cases g : tlAt l j = true
            · rw [g] at HT1
              rw [if_pos g] at hC
              unfold tlAt tlB at g
              simp only [Bool.and_eq_true, decide_eq_true_eq] at g
              obtain ⟨jlt, jb1, jb2⟩ := g
              have jlt' : (j : Int) < (l.length : Int) := by omega
              have hBj : j < (ByteArray.mk l.toArray).size := by show j < l.toArray.size; simpa using jlt
              have hbj : ((ByteArray.mk l.toArray)[j]'hBj).toNat = (l.getD j 0).toNat := by rw [get_at l j jlt]; rfl
              obtain ⟨c2, hc2⟩ : ∃ c2, c2 = 64 * c + (l.getD j 0).toNat - 128 := ⟨_, rfl⟩
              have hcc : 64 * (c : Int) + (((ByteArray.mk l.toArray)[j]'hBj).toNat : Int) - 128 = (c2 : Int) := by rw [hbj]; omega
              rw [← hc2] at hC
              have HC' : Hid (cont 3 c0 (l.drop (i + 1)) = cont (4 - (k + 1)) c2 (l.drop (i + (k + 1)))) := by
                show cont 3 c0 (l.drop (i + 1)) = _
                rw [hC, show 4 - (k + 1) = 3 - k from by omega, show i + (k + 1) = j + 1 from by omega]
              have hlow2 : Low (k + 1) c2 := by unfold Low; omega
              have kl2 : i + (k + 1) ≤ l.length := by omega
              have k256 : ((ByteArray.mk l.toArray)[j]'hBj).toNat < 256 := UInt8.toNat_lt _
              have HLw : Hid _ := hlow2
              have hcs : c < 131072 := by omega
              clear hC HC hbj hc2 jb1 jb2 hj HM HT hlow hlow2
              as_aux_lemma =>
                go_wp2_with fail
                refine (HT1.out _).mono ?_
                rintro e w1 ⟨rfl, rfl⟩
                go_wp2_with fail
                exact ⟨⟨c2, k + 1, rfl, by go_num, by omega, by omega, kl2, HLw.out, HC', trivial⟩, by simp [intOf]; omega⟩
            · have g' : tlAt l j = false := by simpa using g
              rw [g'] at HT1
              rw [if_neg g] at hC
              have HF : Hid (U = false) := by
                show U = false
                rw [HM.out, hC]
              clear hC HC g g' hj HM HT hlow
              as_aux_lemma =>
                go_wp2_with fail
                refine (HT1.out _).mono ?_
                rintro e w1 ⟨rfl, rfl⟩
                go_wp2_with fail
                go_ret
                exact ⟨congrArg (fun b => Ending.returned (Value.bool b)) HF.out.symm, rfl⟩
          · have hk' : ¬ (k : Int) ≤ 3 := by omega
            have ek : k = 4 := by omega
            have HU : Hid (U = (fine 3 c && utfB (l.drop (i + 4)))) := by
              show U = _
              have hC := HC.out
              rw [ek, Nat.sub_self, cont] at hC
              rw [HM.out, hC]
            have hcb : c < 8388608 := hlow.2.2.2.2
            have hcl := hlow.2.2.2.1 ek
            have kli : i + 4 ≤ l.length := by omega
            clear HM ek hlow
            by_cases e1 : c < 65536
            · have e1' : (c : Int) < 65536 := by omega
              have HF : Hid (U = false) := by
                show U = false
                rw [HU.out, show fine 3 c = false from decide_eq_false (by omega)]
                rfl
              clear HU HT HC
              as_aux_lemma =>
                go_wp2_with fail
                go_ret
                exact ⟨congrArg (fun b => Ending.returned (Value.bool b)) HF.out.symm, rfl⟩
            · have e1' : ¬ (c : Int) < 65536 := by omega
              by_cases e4 : 1114111 < c
              · have e4' : (1114111 : Int) < (c : Int) := by omega
                have HF : Hid (U = false) := by
                  show U = false
                  rw [HU.out, show fine 3 c = false from decide_eq_false (by omega)]
                  rfl
                clear HU HT HC
                as_aux_lemma =>
                  go_wp2_with fail
                  go_ret
                  exact ⟨congrArg (fun b => Ending.returned (Value.bool b)) HF.out.symm, rfl⟩
              · have e4' : ¬ (1114111 : Int) < (c : Int) := by omega
                have e5 : (55296 : Int) ≤ (c : Int) := by omega
                have e6 : ¬ (c : Int) ≤ 57343 := by omega
                have HF : Hid (U = utfB (l.drop (i + 4))) := by
                  show U = _
                  rw [HU.out, show fine 3 c = true from decide_eq_true (by omega)]
                  rfl
                clear HU HT HC
                as_aux_lemma =>
                  go_wp2_with fail
                  exact ⟨⟨i + 4, by omega, congrArg (Value.int .i64) (by omega), HF, trivial⟩, by simp [intOf]; omega⟩
    · have hlt' : ¬ (i : Int) < (l.length : Int) := by omega
      have HF : Hid (U = true) := by
        have := HR.out
        rw [List.drop_eq_nil_of_le (by omega), utfB] at this
        exact this
      clear HR HT
      as_aux_lemma =>
        go_wp2_with fail
        go_ret
        exact ⟨congrArg (fun b => Ending.returned (Value.bool b)) HF.out.symm, rfl⟩
end Go.Proofs.YtfnohbalkpponaaGreatDoor.La
/- text, behind, order, the document's. Own work of the verifier. -/
namespace Go.Proofs.YtfnohbalkpponaaGreatDoor.La
open Go.RowKit

/-- What is wrong with a help or a value. -/
def txE (l : List UInt8) : Int := if 1024 < l.length then 4 else if utfB l then 0 else 11
set_option maxHeartbeats 1000000 in
theorem ltext_any (l : List UInt8) (hl : l.length ≤ 4611686018427387904) (w : World) :
    Calls Tryz.prog 40 #[.string ⟨l.toArray⟩] w fun r w' => r = .returned (.int .i64 (txE l)) ∧ w' = w := by
  have HU : Hid _ := fun W => utf_any l hl W
  unfold txE
  by_cases h : 1024 < l.length
  · have h' : (1024 : Int) < (l.length : Int) := by omega
    rw [if_pos h]
    as_aux_lemma =>
      go_enter Tryz.func40, Tryz.ntmps40
      go_wp2_with fail
      go_ret
      exact ⟨rfl, rfl⟩
  · have h' : ¬ (1024 : Int) < (l.length : Int) := by omega
    rw [if_neg h]
    generalize utfB l = u at *
    cases u
    · rw [if_neg (by decide)]
      as_aux_lemma =>
        go_enter Tryz.func40, Tryz.ntmps40
        go_wp2_with fail
        refine (HU.out _).mono ?_
        rintro e w1 ⟨rfl, rfl⟩
        go_wp2_with fail
        go_ret
        exact ⟨rfl, rfl⟩
    · rw [if_pos rfl]
      as_aux_lemma =>
        go_enter Tryz.func40, Tryz.ntmps40
        go_wp2_with fail
        refine (HU.out _).mono ?_
        rintro e w1 ⟨rfl, rfl⟩
        go_wp2_with fail
        go_ret
        exact ⟨rfl, rfl⟩
/-- Bytewise less. -/
def bltB (a b : List UInt8) : Bool := decide (a < b)
theorem less_list (a b : List UInt8) : Op.bytesLess a b = bltB a b := by
  unfold bltB
  rw [Proofs.bytesLess_eq]
def bhE (a b : List UInt8) : Int := if a = b then 10 else if bltB b a then 15 else 0
set_option maxHeartbeats 1000000 in
theorem behind_any (a b : List UInt8) (w : World) :
    Calls Tryz.prog 42 #[.string ⟨a.toArray⟩, .string ⟨b.toArray⟩] w fun r w' => r = .returned (.int .i64 (bhE a b)) ∧ w' = w := by
  have hL := less_list b a
  unfold bhE
  by_cases h : a = b
  · rw [if_pos h]
    subst h
    clear hL
    as_aux_lemma =>
      go_enter Tryz.func42, Tryz.ntmps42
      go_wp2_with fail
      go_ret
      exact ⟨rfl, rfl⟩
  · rw [if_neg h]
    have h' : (a == b) = false := by simpa using h
    clear h
    generalize bltB b a = u at *
    cases u
    · rw [if_neg (by decide)]
      as_aux_lemma =>
        go_enter Tryz.func42, Tryz.ntmps42
        go_wp2_with fail
        go_ret
        exact ⟨rfl, rfl⟩
    · rw [if_pos rfl]
      as_aux_lemma =>
        go_enter Tryz.func42, Tryz.ntmps42
        go_wp2_with fail
        go_ret
        exact ⟨rfl, rfl⟩
def ordE (a b : List UInt8) : Int := if bltB a b then -1 else if bltB b a then 1 else 0
end Go.Proofs.YtfnohbalkpponaaGreatDoor.La
/- THE CODE'S Name AND LabelName. Own work of the verifier. -/
namespace Go.Proofs.YtfnohbalkpponaaGreatDoor.La
open Go.RowKit

theorem suf_any (l e : List UInt8) (hl : l.length ≤ 4611686018427387904) (w : World) :
    Calls Tryz.prog 110 #[.string ⟨l.toArray⟩, .string ⟨e.toArray⟩] w fun r w' => r = .returned (.bool (endsB l e)) ∧ w' = w := by
  have h := Tryz.strings_HasSuffix ⟨l.toArray⟩ ⟨e.toArray⟩ w (by show l.toArray.size ≤ _; rw [List.size_toArray]; omega)
  rw [← Lib.hasSuffix_of_drop] at h
  exact h
/-- Does a text begin so? -/
def preB (l p : List UInt8) : Bool := decide (p.length ≤ l.length) && (l.take p.length == p)
theorem pre_any (l p : List UInt8) (w : World) :
    Calls Tryz.prog 175 #[.string ⟨l.toArray⟩, .string ⟨p.toArray⟩] w fun r w' => r = .returned (.bool (preB l p)) ∧ w' = w := by
  have h := Tryz.strings_HasPrefix ⟨l.toArray⟩ ⟨p.toArray⟩ w
  rw [← Lib.hasPrefix_of_take] at h
  exact h
theorem cmp_ord : ∀ a b : List UInt8, Lib.compareBytes a b = ordE a b
  | [], [] => by rfl
  | [], b :: ys => by unfold ordE bltB; simp [Lib.compareBytes]
  | a :: xs, [] => by unfold ordE bltB; simp [Lib.compareBytes]
  | a :: xs, b :: ys => by
    rw [Lib.compareBytes]
    have ih := cmp_ord xs ys
    unfold ordE bltB at ih ⊢
    by_cases h1 : a < b
    · rw [if_pos h1, if_pos (decide_eq_true (List.cons_lt_cons_iff.2 (Or.inl h1)))]
    · rw [if_neg h1]
      by_cases h2 : b < a
      · rw [if_pos h2, if_neg, if_pos (decide_eq_true (List.cons_lt_cons_iff.2 (Or.inl h2)))]
        intro h
        rcases List.cons_lt_cons_iff.1 (of_decide_eq_true h) with k | ⟨k, _⟩
        · exact h1 k
        · exact h1 (by rw [k] at h2; exact absurd h2 (UInt8.lt_irrefl _))
      · rw [if_neg h2, ih]
        have e : a = b := UInt8.le_antisymm (UInt8.not_lt.1 h2) (UInt8.not_lt.1 h1)
        subst e
        simp
theorem cmp_any (a b : List UInt8) (w : World) :
    Calls Tryz.prog 128 #[.string ⟨a.toArray⟩, .string ⟨b.toArray⟩] w fun r w' => r = .returned (.int .i64 (ordE a b)) ∧ w' = w := by
  have h := Tryz.strings_Compare ⟨a.toArray⟩ ⟨b.toArray⟩ w
  rw [cmp_ord] at h
  exact h
set_option maxHeartbeats 1000000 in
theorem cname_any (l : List UInt8) (hl : l.length ≤ 4611686018427387904) (w : World) :
    Calls Tryz.prog 66 #[.string ⟨l.toArray⟩] w fun r w' => r = .returned (.bool (nameB l)) ∧ w' = w := by
  have H1 : Hid _ := fun W => suf_any l [95, 98, 117, 99, 107, 101, 116] hl W
  have H2 : Hid _ := fun W => suf_any l [95, 115, 117, 109] hl W
  have H3 : Hid _ := fun W => suf_any l [95, 99, 111, 117, 110, 116] hl W
  have HW : Hid _ := fun W => word_any l true hl W
  have hN : nameB l = (plainB true l && !(endsB l [95, 98, 117, 99, 107, 101, 116] || endsB l [95, 115, 117, 109] || endsB l [95, 99, 111, 117, 110, 116])) := by
    unfold nameB
    cases plainB true l <;> cases endsB l [95, 98, 117, 99, 107, 101, 116] <;> cases endsB l [95, 115, 117, 109] <;> cases endsB l [95, 99, 111, 117, 110, 116] <;> rfl
  rw [hN]
  clear hN
  unfold fv at HW
  generalize plainB true l = p at *
  generalize endsB l [95, 98, 117, 99, 107, 101, 116] = a at *
  generalize endsB l [95, 115, 117, 109] = b at *
  generalize endsB l [95, 99, 111, 117, 110, 116] = c at *
  cases p <;> cases a <;> cases b <;> cases c <;> as_aux_lemma =>
    go_enter Tryz.func66, Tryz.ntmps66
    go_wp2_with (first | (go_at_call 110; first | (with_reducible refine (H1.out _).mono ?_; rintro e1 w1 ⟨rfl, rfl⟩) | (with_reducible refine (H2.out _).mono ?_; rintro e1 w1 ⟨rfl, rfl⟩) | (with_reducible refine (H3.out _).mono ?_; rintro e1 w1 ⟨rfl, rfl⟩)) | (go_at_call 111; refine (HW.out _).mono ?_; rintro e1 w1 ⟨rfl, rfl⟩))
    go_ret
    exact ⟨rfl, rfl⟩
set_option maxHeartbeats 1000000 in
theorem clname_any (l : List UInt8) (hl : l.length ≤ 4611686018427387904) (w : World) :
    Calls Tryz.prog 114 #[.string ⟨l.toArray⟩] w fun r w' => r = .returned (.bool (lnameB l)) ∧ w' = w := by
  have H1 : Hid _ := fun W => pre_any l [95, 95] W
  have HW : Hid _ := fun W => word_any l false hl W
  have hN : lnameB l = (plainB false l && !((l == [108, 101]) || (l == [113, 117, 97, 110, 116, 105, 108, 101]) || preB l [95, 95])) := by
    unfold lnameB preB
    show _ = (plainB false l && !((l == [108, 101]) || (l == [113, 117, 97, 110, 116, 105, 108, 101]) || (decide (2 ≤ l.length) && (l.take 2 == [95, 95]))))
    cases plainB false l <;> cases (l == [108, 101]) <;> cases (l == [113, 117, 97, 110, 116, 105, 108, 101]) <;> cases (decide (2 ≤ l.length) && (l.take 2 == [95, 95])) <;> rfl
  rw [hN]
  clear hN
  unfold fv at HW
  generalize plainB false l = p at *
  generalize preB l [95, 95] = c at *
  cases h1 : (l == [108, 101]) <;> cases h2 : (l == [113, 117, 97, 110, 116, 105, 108, 101]) <;> cases p <;> cases c <;> as_aux_lemma =>
    go_enter Tryz.func114, Tryz.ntmps114
    go_wp2_with (first | (go_at_call 175; refine (H1.out _).mono ?_; rintro e1 w1 ⟨rfl, rfl⟩) | (go_at_call 111; refine (HW.out _).mono ?_; rintro e1 w1 ⟨rfl, rfl⟩))
    go_ret
    exact ⟨rfl, rfl⟩
end Go.Proofs.YtfnohbalkpponaaGreatDoor.La
/- RIGHT UTF-8, as the language's own range over a text tells it. Own work of the verifier. -/
namespace Go.Proofs.YtfnohbalkpponaaGreatDoor.La
open Go.RowKit

theorem get_bang (l : List UInt8) (k : Nat) : (ByteArray.mk l.toArray).get! k = l.getD k 0 := by
  show l.toArray.get!Internal k = _
  rw [List.getD_eq_getElem?_getD]
  simp [Array.get!Internal]
  rfl
theorem tl_iff (l : List UInt8) (k : Nat) : tlAt l k = decide (k < l.length ∧ (l.getD k 0).toNat / 64 = 2) := by
  unfold tlAt tlB
  have := (l.getD k 0).toNat_lt
  rw [Bool.eq_iff_iff]
  simp only [Bool.and_eq_true, decide_eq_true_eq]
  omega
/-- What a byte that is no letter's first one is told as. -/
def badAt (l : List UInt8) (i r : Nat) : Prop := r = 65533 ∧ ¬ (3 ≤ l.length - i ∧ (l.getD i 0).toNat = 239 ∧ (l.getD (i + 1) 0).toNat = 191 ∧ (l.getD (i + 2) 0).toNat = 189)
theorem fine_true {n c : Nat} (h : ¬ (n = 1 ∧ c < 128 ∨ n = 2 ∧ c < 2048 ∨ n = 3 ∧ c < 65536 ∨ 1114111 < c ∨ 55296 ≤ c ∧ c ≤ 57343)) : fine n c = true := decide_eq_true h
theorem fine_false {n c : Nat} (h : n = 1 ∧ c < 128 ∨ n = 2 ∧ c < 2048 ∨ n = 3 ∧ c < 65536 ∨ 1114111 < c ∨ 55296 ≤ c ∧ c ≤ 57343) : fine n c = false := decide_eq_false (fun k => k h)
set_option maxHeartbeats 4000000 in
theorem utf_step (l : List UInt8) (i r n : Nat) (h : i < l.length) (hd : Utf8.decode ⟨l.toArray⟩ i = (r, n)) :
    1 ≤ n ∧ i + n ≤ l.length ∧ r ≤ 1114111 ∧ (badAt l i r ∧ utfB (l.drop i) = false ∨ ¬ badAt l i r ∧ utfB (l.drop i) = utfB (l.drop (i + n))) := by
  rw [Lib.decode_at, get_bang, get_bang, get_bang, get_bang] at hd
  have e0 : l.getD i 0 = l[i] := get_at l i h
  have hsz : (ByteArray.mk l.toArray).size = l.length := by show l.toArray.size = _; simp
  rw [hsz] at hd
  have q0 := (l.getD i 0).toNat_lt
  have q1 := (l.getD (i + 1) 0).toNat_lt
  have q2 := (l.getD (i + 2) 0).toNat_lt
  have q3 := (l.getD (i + 3) 0).toNat_lt
  have t1 := tl_iff l (i + 1)
  have t2 := tl_iff l (i + 2)
  have t3 := tl_iff l (i + 3)
  have c1 := cont_step l (i + 1)
  have c2 := cont_step l (i + 2)
  have c3 := cont_step l (i + 3)
  unfold badAt
  have u0 := utf_low l i h
  have u1 := fun n c0 => utf_lead l i n c0 h
  have u2 := utf_none l i h
  rw [← e0] at u0 u1 u2
  clear e0
  generalize (l.getD i 0).toNat = b0 at *
  generalize (l.getD (i + 1) 0).toNat = b1 at *
  generalize (l.getD (i + 2) 0).toNat = b2 at *
  generalize (l.getD (i + 3) 0).toNat = b3 at *
  have bad : ∀ m, (65533, 1) = (r, n) → utfB (l.drop i) = false → ¬ (3 ≤ l.length - i ∧ b0 = 239 ∧ b1 = 191 ∧ b2 = 189) → 1 ≤ n ∧ i + n ≤ l.length ∧ r ≤ 1114111 ∧ ((r = 65533 ∧ ¬ (3 ≤ l.length - i ∧ b0 = 239 ∧ b1 = 191 ∧ b2 = 189)) ∧ utfB (l.drop i) = false ∨ ¬ (r = 65533 ∧ ¬ (3 ≤ l.length - i ∧ b0 = 239 ∧ b1 = 191 ∧ b2 = 189)) ∧ utfB (l.drop i) = m) := by
    intro m e1 e2 e3
    obtain ⟨rfl, rfl⟩ := Prod.mk.inj e1
    exact ⟨Nat.le_refl _, by omega, by omega, Or.inl ⟨⟨rfl, e3⟩, e2⟩⟩
  by_cases g1 : b0 < 128
  · rw [Lib.decodeN, if_pos g1] at hd
    obtain ⟨rfl, rfl⟩ := Prod.mk.inj hd
    exact ⟨Nat.le_refl _, by omega, by omega, Or.inr ⟨by omega, u0 g1⟩⟩
  by_cases g2 : b0 < 192
  · rw [Lib.decodeN, if_neg g1, if_neg (by omega), if_neg (by omega), if_neg (by omega)] at hd
    refine bad _ hd (u2 g1 ?_) (by omega)
    unfold lead
    rw [if_neg (by omega), if_neg (by omega), if_neg (by omega)]
  by_cases g3 : b0 < 224
  · have u := u1 1 (b0 - 192) g1 (by unfold lead; rw [if_pos (by omega)])
    rw [c1 0, t1] at u
    by_cases k1 : i + 1 < l.length ∧ b1 / 64 = 2
    · rw [decide_eq_true k1, if_pos rfl] at u
      simp only [cont] at u
      rw [Lib.decodeN, if_neg g1, if_pos (by omega)] at hd
      by_cases k2 : b0 % 32 * 64 + b1 % 64 ≥ 128
      · rw [if_pos k2] at hd
        obtain ⟨rfl, rfl⟩ := Prod.mk.inj hd
        rw [fine_true (by omega), Bool.true_and] at u
        exact ⟨by omega, by omega, by omega, Or.inr ⟨by omega, u⟩⟩
      · rw [if_neg k2] at hd
        rw [fine_false (by omega), Bool.false_and] at u
        exact bad _ hd u (by omega)
    · rw [decide_eq_false k1, if_neg (by decide)] at u
      rw [Lib.decodeN, if_neg g1, if_neg (by omega), if_neg (by omega), if_neg (by omega)] at hd
      exact bad _ hd u (by omega)
  by_cases g4 : b0 < 240
  · have u := u1 2 (b0 - 224) g1 (by unfold lead; rw [if_neg (by omega), if_pos (by omega)])
    rw [c1 1, t1] at u
    by_cases k1 : i + 1 < l.length ∧ b1 / 64 = 2
    · rw [decide_eq_true k1, if_pos rfl, c2 0, t2] at u
      by_cases k2 : i + 2 < l.length ∧ b2 / 64 = 2
      · rw [decide_eq_true k2, if_pos rfl] at u
        simp only [cont] at u
        rw [Lib.decodeN, if_neg g1, if_neg (by omega), if_pos (by omega)] at hd
        by_cases k3 : b0 % 16 * 4096 + b1 % 64 * 64 + b2 % 64 ≥ 2048 ∧ (b0 % 16 * 4096 + b1 % 64 * 64 + b2 % 64 < 55296 ∨ (57344 ≤ b0 % 16 * 4096 + b1 % 64 * 64 + b2 % 64 ∧ b0 % 16 * 4096 + b1 % 64 * 64 + b2 % 64 ≤ 1114111))
        · rw [if_pos k3] at hd
          obtain ⟨rfl, rfl⟩ := Prod.mk.inj hd
          rw [fine_true (by omega), Bool.true_and] at u
          exact ⟨by omega, by omega, by omega, Or.inr ⟨by omega, u⟩⟩
        · rw [if_neg k3] at hd
          rw [fine_false (by omega), Bool.false_and] at u
          exact bad _ hd u (by omega)
      · rw [decide_eq_false k2, if_neg (by decide)] at u
        rw [Lib.decodeN, if_neg g1, if_neg (by omega), if_neg (by omega), if_neg (by omega)] at hd
        exact bad _ hd u (by omega)
    · rw [decide_eq_false k1, if_neg (by decide)] at u
      rw [Lib.decodeN, if_neg g1, if_neg (by omega), if_neg (by omega), if_neg (by omega)] at hd
      exact bad _ hd u (by omega)
  by_cases g5 : b0 < 248
  · have u := u1 3 (b0 - 240) g1 (by unfold lead; rw [if_neg (by omega), if_neg (by omega), if_pos (by omega)])
    rw [c1 2, t1] at u
    by_cases k1 : i + 1 < l.length ∧ b1 / 64 = 2
    · rw [decide_eq_true k1, if_pos rfl, c2 1, t2] at u
      by_cases k2 : i + 2 < l.length ∧ b2 / 64 = 2
      · rw [decide_eq_true k2, if_pos rfl, c3 0, t3] at u
        by_cases k3 : i + 3 < l.length ∧ b3 / 64 = 2
        · rw [decide_eq_true k3, if_pos rfl] at u
          simp only [cont] at u
          rw [Lib.decodeN, if_neg g1, if_neg (by omega), if_neg (by omega), if_pos (by omega)] at hd
          by_cases k4 : b0 % 8 * 262144 + b1 % 64 * 4096 + b2 % 64 * 64 + b3 % 64 ≥ 65536 ∧ (b0 % 8 * 262144 + b1 % 64 * 4096 + b2 % 64 * 64 + b3 % 64 < 55296 ∨ (57344 ≤ b0 % 8 * 262144 + b1 % 64 * 4096 + b2 % 64 * 64 + b3 % 64 ∧ b0 % 8 * 262144 + b1 % 64 * 4096 + b2 % 64 * 64 + b3 % 64 ≤ 1114111))
          · rw [if_pos k4] at hd
            obtain ⟨rfl, rfl⟩ := Prod.mk.inj hd
            rw [fine_true (by omega), Bool.true_and] at u
            exact ⟨by omega, by omega, by omega, Or.inr ⟨by omega, u⟩⟩
          · rw [if_neg k4] at hd
            rw [fine_false (by omega), Bool.false_and] at u
            exact bad _ hd u (by omega)
        · rw [decide_eq_false k3, if_neg (by decide)] at u
          rw [Lib.decodeN, if_neg g1, if_neg (by omega), if_neg (by omega), if_neg (by omega)] at hd
          exact bad _ hd u (by omega)
      · rw [decide_eq_false k2, if_neg (by decide)] at u
        rw [Lib.decodeN, if_neg g1, if_neg (by omega), if_neg (by omega), if_neg (by omega)] at hd
        exact bad _ hd u (by omega)
    · rw [decide_eq_false k1, if_neg (by decide)] at u
      rw [Lib.decodeN, if_neg g1, if_neg (by omega), if_neg (by omega), if_neg (by omega)] at hd
      exact bad _ hd u (by omega)
  · rw [Lib.decodeN, if_neg g1, if_neg (by omega), if_neg (by omega), if_neg (by omega)] at hd
    refine bad _ hd (u2 g1 ?_) (by omega)
    unfold lead
    rw [if_neg (by omega), if_neg (by omega), if_neg (by omega)]
theorem pre_three (l : List UInt8) (i : Nat) (_h : i < l.length) : preB (l.drop i) [239, 191, 189] = decide (3 ≤ l.length - i ∧ (l.getD i 0).toNat = 239 ∧ (l.getD (i + 1) 0).toNat = 191 ∧ (l.getD (i + 2) 0).toNat = 189) := by
  unfold preB
  rw [List.length_drop]
  show (decide (3 ≤ l.length - i) && ((l.drop i).take 3 == [239, 191, 189])) = _
  by_cases h3 : 3 ≤ l.length - i
  · have g0 : i < l.length := by omega
    have g1 : i + 1 < l.length := by omega
    have g2 : i + 1 + 1 < l.length := by omega
    rw [List.drop_eq_getElem_cons g0, List.drop_eq_getElem_cons g1, List.drop_eq_getElem_cons g2, get_at l i g0, get_at l (i + 1) g1, get_at l (i + 2) g2]
    simp only [List.take_succ_cons, List.take_zero]
    rw [Bool.eq_iff_iff]
    simp only [Bool.and_eq_true, decide_eq_true_eq, beq_iff_eq, List.cons.injEq, and_true]
    have n1 : ∀ (x y : UInt8), x = y ↔ x.toNat = y.toNat := fun x y => ⟨fun e => by rw [e], fun e => UInt8.toNat_inj.1 e⟩
    rw [n1 l[i] 239, n1 l[i + 1] 191, n1 l[i + 1 + 1] 189]
    exact Iff.rfl
  · rw [decide_eq_false h3, decide_eq_false (by omega)]
    rfl
end Go.Proofs.YtfnohbalkpponaaGreatDoor.La
