/- THE CODE'S LEAVES: letters, digits. Own work of the verifier. -/
import Derived.Test.YtlgfgeacphkhnaaGreatDoorWAE
import Derived.Shelf.Strings.BuilderK
import Derived.Test.YtlgfgeacphkhnaaGreatDoorProg
import Derived.Test.YtlgfgeacphkhnaaGreatDoorShelf
import Derived.Test.YtlgfgeacphkhnaaGreatDoorWAF
import Derived.Lib.Strings
import Derived.Lib.DecodeN
import Derived.Lib.OthersKept
import Derived.Laws.RangeAny
import Derived.Test.YtlgfgeacphkhnaaGreatDoorWAG
namespace Go.Proofs.YtlgfgeacphkhnaaGreatDoor.La
open Go.RowKit

def isD (c : Nat) : Bool := decide (48 ≤ c ∧ c ≤ 57)
def isA (c : Nat) : Bool := decide (97 ≤ c ∧ c ≤ 122 ∨ 65 ≤ c ∧ c ≤ 90)
theorem isL_eq (c : Nat) : isL c = (isA c || isD c || decide (c = 95)) := by
 unfold isL isA isD
 rw [Bool.eq_iff_iff]
 simp only [Bool.or_eq_true, decide_eq_true_eq]
 omega
theorem cdigit_any (c : Nat) (w : World) :
  Calls Tryz.prog 146 #[.int .u8 (c : Int)] w fun e w' => e = .returned (.bool (isD c)) ∧ w' = w := by
 by_cases a1 : 48 ≤ c
 ·have i1 : (48 : Int) ≤ (c : Int) := by omega
  by_cases a2 : c ≤ 57
  ·have i2 : (c : Int) ≤ 57 := by omega
   rw [show isD c = true from decide_eq_true (by omega)]
   as_aux_lemma =>
    go_enter Tryz.func146, Tryz.ntmps146
    go_wp2_with fail
    go_ret
    exact ⟨rfl, rfl⟩
  ·have i2 : ¬ (c : Int) ≤ 57 := by omega
   rw [show isD c = false from decide_eq_false (by omega)]
   as_aux_lemma =>
    go_enter Tryz.func146, Tryz.ntmps146
    go_wp2_with fail
    go_ret
    exact ⟨rfl, rfl⟩
 ·have i1 : ¬ (48 : Int) ≤ (c : Int) := by omega
  rw [show isD c = false from decide_eq_false (by omega)]
  as_aux_lemma =>
   go_enter Tryz.func146, Tryz.ntmps146
   go_wp2_with fail
   go_ret
   exact ⟨rfl, rfl⟩
theorem cletter_any (c : Nat) (w : World) :
  Calls Tryz.prog 178 #[.int .u8 (c : Int)] w fun e w' => e = .returned (.bool (isA c)) ∧ w' = w := by
 by_cases a1 : 97 ≤ c
 ·have i1 : (97 : Int) ≤ (c : Int) := by omega
  by_cases a2 : c ≤ 122
  ·have i2 : (c : Int) ≤ 122 := by omega
   rw [show isA c = true from decide_eq_true (by omega)]
   as_aux_lemma =>
    go_enter Tryz.func178, Tryz.ntmps178
    go_wp2_with fail
    go_ret
    exact ⟨rfl, rfl⟩
  ·have i2 : ¬ (c : Int) ≤ 122 := by omega
   have i3 : (65 : Int) ≤ (c : Int) := by omega
   have i4 : ¬ (c : Int) ≤ 90 := by omega
   rw [show isA c = false from decide_eq_false (by omega)]
   as_aux_lemma =>
    go_enter Tryz.func178, Tryz.ntmps178
    go_wp2_with fail
    go_ret
    exact ⟨rfl, rfl⟩
 ·have i1 : ¬ (97 : Int) ≤ (c : Int) := by omega
  by_cases a3 : 65 ≤ c
  ·have i3 : (65 : Int) ≤ (c : Int) := by omega
   by_cases a4 : c ≤ 90
   ·have i4 : (c : Int) ≤ 90 := by omega
    rw [show isA c = true from decide_eq_true (by omega)]
    as_aux_lemma =>
     go_enter Tryz.func178, Tryz.ntmps178
     go_wp2_with fail
     go_ret
     exact ⟨rfl, rfl⟩
   ·have i4 : ¬ (c : Int) ≤ 90 := by omega
    rw [show isA c = false from decide_eq_false (by omega)]
    as_aux_lemma =>
     go_enter Tryz.func178, Tryz.ntmps178
     go_wp2_with fail
     go_ret
     exact ⟨rfl, rfl⟩
  ·have i3 : ¬ (65 : Int) ≤ (c : Int) := by omega
   rw [show isA c = false from decide_eq_false (by omega)]
   as_aux_lemma =>
    go_enter Tryz.func178, Tryz.ntmps178
    go_wp2_with fail
    go_ret
    exact ⟨rfl, rfl⟩
theorem oflab_any (c : Nat) (w : World) :
  Calls Tryz.prog 148 #[.int .u8 (c : Int)] w fun e w' => e = .returned (.bool (gd false c)) ∧ w' = w := by
 have HA : Hid _ := fun W => cletter_any c W
 have HD : Hid _ := fun W => cdigit_any c W
 have h0 : gd false c = isL c := by simp [gd]
 rw [h0, isL_eq]
 clear h0
 cases hA : isA c
 ·rw [hA] at HA
  cases hD : isD c
  ·rw [hD] at HD
   by_cases h95 : c = 95
   ·have t : ((c : Int) == 95) = true := by rw [beq_iff_eq]; omega
    rw [show decide (c = 95) = true from decide_eq_true h95]
    clear h95
    as_aux_lemma =>
     go_enter Tryz.func148, Tryz.ntmps148
     go_wp2_with (first | (go_at_call 178; refine (HA.out _).mono ?_; rintro e1 w1 ⟨rfl, rfl⟩) | (go_at_call 146; refine (HD.out _).mono ?_; rintro e1 w1 ⟨rfl, rfl⟩))
     go_ret
     exact ⟨rfl, rfl⟩
   ·have t : ((c : Int) == 95) = false := by rw [beq_eq_false_iff_ne]; omega
    rw [show decide (c = 95) = false from decide_eq_false h95]
    clear h95
    as_aux_lemma =>
     go_enter Tryz.func148, Tryz.ntmps148
     go_wp2_with (first | (go_at_call 178; refine (HA.out _).mono ?_; rintro e1 w1 ⟨rfl, rfl⟩) | (go_at_call 146; refine (HD.out _).mono ?_; rintro e1 w1 ⟨rfl, rfl⟩))
     go_ret
     exact ⟨rfl, rfl⟩
  ·rw [hD] at HD
   as_aux_lemma =>
    go_enter Tryz.func148, Tryz.ntmps148
    go_wp2_with (first | (go_at_call 178; refine (HA.out _).mono ?_; rintro e1 w1 ⟨rfl, rfl⟩) | (go_at_call 146; refine (HD.out _).mono ?_; rintro e1 w1 ⟨rfl, rfl⟩))
    go_ret
    exact ⟨by simp, rfl⟩
 ·rw [hA] at HA
  as_aux_lemma =>
   go_enter Tryz.func148, Tryz.ntmps148
   go_wp2_with (first | (go_at_call 178; refine (HA.out _).mono ?_; rintro e1 w1 ⟨rfl, rfl⟩) | (go_at_call 146; refine (HD.out _).mono ?_; rintro e1 w1 ⟨rfl, rfl⟩))
   go_ret
   exact ⟨by simp, rfl⟩
theorem ofname_any (c : Nat) (w : World) :
  Calls Tryz.prog 105 #[.int .u8 (c : Int)] w fun e w' => e = .returned (.bool (gd true c)) ∧ w' = w := by
 have HA : Hid _ := fun W => oflab_any c W
 have h0 : gd true c = (gd false c || decide (c = 58)) := by simp [gd]
 rw [h0]
 clear h0
 cases hA : gd false c
 ·rw [hA] at HA
  by_cases h58 : c = 58
  ·have t : ((c : Int) == 58) = true := by rw [beq_iff_eq]; omega
   rw [show decide (c = 58) = true from decide_eq_true h58]
   clear h58
   as_aux_lemma =>
    go_enter Tryz.func105, Tryz.ntmps105
    go_wp2_with (go_at_call 148; refine (HA.out _).mono ?_; rintro e1 w1 ⟨rfl, rfl⟩)
    go_ret
    exact ⟨rfl, rfl⟩
  ·have t : ((c : Int) == 58) = false := by rw [beq_eq_false_iff_ne]; omega
   rw [show decide (c = 58) = false from decide_eq_false h58]
   clear h58
   as_aux_lemma =>
    go_enter Tryz.func105, Tryz.ntmps105
    go_wp2_with (go_at_call 148; refine (HA.out _).mono ?_; rintro e1 w1 ⟨rfl, rfl⟩)
    go_ret
    exact ⟨rfl, rfl⟩
 ·rw [hA] at HA
  as_aux_lemma =>
   go_enter Tryz.func105, Tryz.ntmps105
   go_wp2_with (go_at_call 148; refine (HA.out _).mono ?_; rintro e1 w1 ⟨rfl, rfl⟩)
   go_ret
   exact ⟨by simp, rfl⟩
end Go.Proofs.YtlgfgeacphkhnaaGreatDoor.La
/- THE CODE'S row AND isWord. Own work of the verifier. -/
namespace Go.Proofs.YtlgfgeacphkhnaaGreatDoor.La
open Go.RowKit

def fv : Bool → Value
 | true => .func (.func 105) #[] #[]
 | false => .func (.func 148) #[] #[]
set_option maxHeartbeats 1000000 in
set_option maxRecDepth 100000 in
theorem crow_false (l : List UInt8) (hl : l.length ≤ 4611686018427387904) (w : World) :
  Calls Tryz.prog 147 #[.string ⟨l.toArray⟩, fv false] w fun e w' => e = .returned (.string ⟨(l.take (rowN false l)).toArray⟩) ∧ w' = w := by
 have HL : Hid (∀ (c : Nat) (W : World), Calls Tryz.prog 148 #[.int .u8 (c : Int)] W fun e w' => e = .returned (.bool (gd false c)) ∧ w' = W) := fun c W => oflab_any c W
 obtain ⟨R, hR⟩ : ∃ R, R = rowN false l := ⟨_, rfl⟩
 rw [← hR]
 have HR0 : Hid (R = 0 + rowN false (l.drop 0)) := by show R = _; rw [hR, List.drop_zero, Nat.zero_add]
 clear hR
 unfold fv
 go_enter Tryz.func147, Tryz.ntmps147
 go_wp2_with fail
 go_loopw [5] (fun a W => ∃ n : Nat, n ≤ l.length ∧ a = .int .i64 (n : Int) ∧ Hid (R = n + rowN false (l.drop n)) ∧ W = w) (fun a _ => l.length - (intOf a).toNat)
 case atStart => exact ⟨0, by omega, rfl, HR0, rfl⟩
 case round =>
  obtain ⟨n, hn, rfl, HR, hw⟩ := hrel
  subst wr
  clear HR0
  have hS := HR.out
  clear HR
  have htk := take_bytes l n
  by_cases hlt : n < l.length
  ·have hlt' : (n : Int) < (l.length : Int) := by omega
   have hB : n < (ByteArray.mk l.toArray).size := by show n < l.toArray.size; simpa using hlt
   have hbe : ((ByteArray.mk l.toArray)[n]'hB).toNat = l[n].toNat := rfl
   rw [List.drop_eq_getElem_cons hlt, rowN] at hS
   have HL1 : Hid _ := HL.out ((ByteArray.mk l.toArray)[n]'hB).toNat
   rw [hbe] at HL1
   by_cases g1 : gd false l[n].toNat = true
   ·rw [g1] at HL1
    rw [if_pos g1] at hS
    have HR' : Hid (R = n + 1 + rowN false (l.drop (n + 1))) := by show R = _; rw [hS]; omega
    clear hS g1 hbe HL htk
    as_aux_lemma =>
     go_wp2_with fail
     refine (HL1.out _).mono ?_
     rintro e w1 ⟨rfl, rfl⟩
     go_wp2_with fail
     exact ⟨⟨n + 1, by omega, by go_num, HR', trivial⟩, by simp [intOf]; omega⟩
   ·have g1' : gd false l[n].toNat = false := by simpa using g1
    rw [g1'] at HL1
    rw [if_neg g1] at hS
    have HF : Hid (R = n) := hS
    clear hS g1 g1' hbe HL
    as_aux_lemma =>
     go_wp2_with fail
     refine (HL1.out _).mono ?_
     rintro e w1 ⟨rfl, rfl⟩
     go_wp2_with fail
     go_ret
     exact ⟨congrArg (fun z : Nat => Ending.returned (Value.string ⟨(l.take z).toArray⟩)) HF.out.symm, rfl⟩
  ·have hlt' : ¬ (n : Int) < (l.length : Int) := by omega
   rw [List.drop_eq_nil_of_le (by omega), rowN] at hS
   have HF : Hid (R = n) := hS
   clear hS HL
   as_aux_lemma =>
    go_wp2_with fail
    go_ret
    exact ⟨congrArg (fun z : Nat => Ending.returned (Value.string ⟨(l.take z).toArray⟩)) HF.out.symm, rfl⟩
set_option maxHeartbeats 1000000 in
set_option maxRecDepth 100000 in
theorem crow_true (l : List UInt8) (hl : l.length ≤ 4611686018427387904) (w : World) :
  Calls Tryz.prog 147 #[.string ⟨l.toArray⟩, fv true] w fun e w' => e = .returned (.string ⟨(l.take (rowN true l)).toArray⟩) ∧ w' = w := by
 have HL : Hid (∀ (c : Nat) (W : World), Calls Tryz.prog 105 #[.int .u8 (c : Int)] W fun e w' => e = .returned (.bool (gd true c)) ∧ w' = W) := fun c W => ofname_any c W
 obtain ⟨R, hR⟩ : ∃ R, R = rowN true l := ⟨_, rfl⟩
 rw [← hR]
 have HR0 : Hid (R = 0 + rowN true (l.drop 0)) := by show R = _; rw [hR, List.drop_zero, Nat.zero_add]
 clear hR
 unfold fv
 go_enter Tryz.func147, Tryz.ntmps147
 go_wp2_with fail
 go_loopw [5] (fun a W => ∃ n : Nat, n ≤ l.length ∧ a = .int .i64 (n : Int) ∧ Hid (R = n + rowN true (l.drop n)) ∧ W = w) (fun a _ => l.length - (intOf a).toNat)
 case atStart => exact ⟨0, by omega, rfl, HR0, rfl⟩
 case round =>
  obtain ⟨n, hn, rfl, HR, hw⟩ := hrel
  subst wr
  clear HR0
  have hS := HR.out
  clear HR
  have htk := take_bytes l n
  by_cases hlt : n < l.length
  ·have hlt' : (n : Int) < (l.length : Int) := by omega
   have hB : n < (ByteArray.mk l.toArray).size := by show n < l.toArray.size; simpa using hlt
   have hbe : ((ByteArray.mk l.toArray)[n]'hB).toNat = l[n].toNat := rfl
   rw [List.drop_eq_getElem_cons hlt, rowN] at hS
   have HL1 : Hid _ := HL.out ((ByteArray.mk l.toArray)[n]'hB).toNat
   rw [hbe] at HL1
   by_cases g1 : gd true l[n].toNat = true
   ·rw [g1] at HL1
    rw [if_pos g1] at hS
    have HR' : Hid (R = n + 1 + rowN true (l.drop (n + 1))) := by show R = _; rw [hS]; omega
    clear hS g1 hbe HL htk
    as_aux_lemma =>
     go_wp2_with fail
     refine (HL1.out _).mono ?_
     rintro e w1 ⟨rfl, rfl⟩
     go_wp2_with fail
     exact ⟨⟨n + 1, by omega, by go_num, HR', trivial⟩, by simp [intOf]; omega⟩
   ·have g1' : gd true l[n].toNat = false := by simpa using g1
    rw [g1'] at HL1
    rw [if_neg g1] at hS
    have HF : Hid (R = n) := hS
    clear hS g1 g1' hbe HL
    as_aux_lemma =>
     go_wp2_with fail
     refine (HL1.out _).mono ?_
     rintro e w1 ⟨rfl, rfl⟩
     go_wp2_with fail
     go_ret
     exact ⟨congrArg (fun z : Nat => Ending.returned (Value.string ⟨(l.take z).toArray⟩)) HF.out.symm, rfl⟩
  ·have hlt' : ¬ (n : Int) < (l.length : Int) := by omega
   rw [List.drop_eq_nil_of_le (by omega), rowN] at hS
   have HF : Hid (R = n) := hS
   clear hS HL
   as_aux_lemma =>
    go_wp2_with fail
    go_ret
    exact ⟨congrArg (fun z : Nat => Ending.returned (Value.string ⟨(l.take z).toArray⟩)) HF.out.symm, rfl⟩
theorem crow_any (l : List UInt8) (colon : Bool) (hl : l.length ≤ 4611686018427387904) (w : World) :
  Calls Tryz.prog 147 #[.string ⟨l.toArray⟩, fv colon] w fun e w' => e = .returned (.string ⟨(l.take (rowN colon l)).toArray⟩) ∧ w' = w := by
 cases colon
 ·exact crow_false l hl w
 ·exact crow_true l hl w
theorem take_eq (l : List UInt8) (n : Nat) (h : n ≤ l.length) : l.take n = l ↔ n = l.length := by
 constructor
 ·intro e
  have := congrArg List.length e
  rw [List.length_take] at this
  omega
 ·intro e
  rw [e, List.take_length]
set_option maxHeartbeats 1000000 in
theorem word_any (l : List UInt8) (colon : Bool) (hl : l.length ≤ 4611686018427387904) (w : World) :
  Calls Tryz.prog 104 #[.string ⟨l.toArray⟩, fv colon] w fun r w' => r = .returned (.bool (plainB colon l)) ∧ w' = w := by
 have HR : Hid _ := fun W => crow_any l colon hl W
 obtain ⟨f, hf⟩ : ∃ f, f = fv colon := ⟨_, rfl⟩
 rw [← hf] at HR ⊢
 clear hf
 by_cases g0 : 1 ≤ l.length
 ·have i0 : (1 : Int) ≤ (l.length : Int) := by omega
  have hB : 0 < (ByteArray.mk l.toArray).size := by show 0 < l.toArray.size; rw [List.size_toArray]; omega
  have hbe := get_zero l g0 hB
  by_cases g1 : l.length ≤ 64
  ·have i1 : (l.length : Int) ≤ 64 := by omega
   have HD : Hid _ := fun W => cdigit_any ((ByteArray.mk l.toArray)[0]'hB).toNat W
   cases hD : isD ((ByteArray.mk l.toArray)[0]'hB).toNat
   ·rw [hD] at HD
    have hd' : (decide (48 ≤ (l.getD 0 0).toNat) && decide ((l.getD 0 0).toNat ≤ 57)) = false := by rw [← hbe, ← Bool.decide_and]; exact hD
    by_cases g2 : rowN colon l = l.length
    ·rw [(take_eq l _ (rowN_le colon l)).2 g2] at HR
     rw [show plainB colon l = true from by unfold plainB; rw [hd', decide_eq_true g0, decide_eq_true g1, decide_eq_true g2]; rfl]
     clear hd' g2 hD hbe
     as_aux_lemma =>
      go_enter Tryz.func104, Tryz.ntmps104
      go_wp2_with (first | (go_at_call 146; refine (HD.out _).mono ?_; rintro e1 w1 ⟨rfl, rfl⟩) | (go_at_call 147; refine (HR.out _).mono ?_; rintro e1 w1 ⟨rfl, rfl⟩))
      go_ret
      exact ⟨rfl, rfl⟩
    ·have hq : (l.take (rowN colon l) == l) = false := by rw [beq_eq_false_iff_ne]; exact fun h => g2 ((take_eq l _ (rowN_le colon l)).1 h)
     rw [show plainB colon l = false from by unfold plainB; rw [decide_eq_false g2]; simp]
     obtain ⟨t, ht⟩ : ∃ t, t = l.take (rowN colon l) := ⟨_, rfl⟩
     rw [← ht] at HR hq
     clear hd' g2 hD hbe ht
     as_aux_lemma =>
      go_enter Tryz.func104, Tryz.ntmps104
      go_wp2_with (first | (go_at_call 146; refine (HD.out _).mono ?_; rintro e1 w1 ⟨rfl, rfl⟩) | (go_at_call 147; refine (HR.out _).mono ?_; rintro e1 w1 ⟨rfl, rfl⟩))
      go_ret
      exact ⟨rfl, rfl⟩
   ·rw [hD] at HD
    have hd' : (decide (48 ≤ (l.getD 0 0).toNat) && decide ((l.getD 0 0).toNat ≤ 57)) = true := by rw [← hbe, ← Bool.decide_and]; exact hD
    rw [show plainB colon l = false from by unfold plainB; rw [hd']; simp]
    clear hd' hD hbe
    as_aux_lemma =>
     go_enter Tryz.func104, Tryz.ntmps104
     go_wp2_with (first | (go_at_call 146; refine (HD.out _).mono ?_; rintro e1 w1 ⟨rfl, rfl⟩) | (go_at_call 147; refine (HR.out _).mono ?_; rintro e1 w1 ⟨rfl, rfl⟩))
     go_ret
     exact ⟨rfl, rfl⟩
  ·have i1 : ¬ (l.length : Int) ≤ 64 := by omega
   rw [show plainB colon l = false from by unfold plainB; rw [decide_eq_false g1]; simp]
   as_aux_lemma =>
    go_enter Tryz.func104, Tryz.ntmps104
    go_wp2_with fail
    go_ret
    exact ⟨rfl, rfl⟩
 ·have i0 : ¬ (1 : Int) ≤ (l.length : Int) := by omega
  rw [show plainB colon l = false from by unfold plainB; rw [decide_eq_false g0]; simp]
  as_aux_lemma =>
   go_enter Tryz.func104, Tryz.ntmps104
   go_wp2_with fail
   go_ret
   exact ⟨rfl, rfl⟩
end Go.Proofs.YtlgfgeacphkhnaaGreatDoor.La
/- strings.Builder's WRITERS, laid by hand (the kit's command lays the others). Own work of the verifier. -/
namespace Go.Proofs
open Go.Shelf
def Tryz.wr_ren : Go.Shelf.Ren := ⟨fun | 166 => 133 | 167 => 135 | 240 => 175 | 276 => 198 | n => n, fun | 70 => 117 | 72 => 119 | 37 => 41 | 75 => 141 | 80 => 121 | 164 => 188 | n => n, fun | n => n⟩
theorem Tryz.wlays166 : Go.Proofs.Lays.n166 Tryz.prog Tryz.wr_ren := {
 mixed := by kernel_rfl
 f166 := Tryz.func133.trans (congrArg some (by kernel_rfl))
 f240 := Tryz.func175.trans (congrArg some (by kernel_rfl))
 f276 := Tryz.func198.trans (congrArg some (by kernel_rfl))
 t0 := Tryz.underlying0
 a0 := Tryz.isAgg0
 z0 := Tryz.sizeOf0
 v0 := Tryz.zeroValue0
 t3 := Tryz.underlying3
 a3 := Tryz.isAgg3
 z3 := Tryz.sizeOf3
 v3 := Tryz.zeroValue3
 t4 := Tryz.underlying4
 a4 := Tryz.isAgg4
 z4 := Tryz.sizeOf4
 v4 := Tryz.zeroValue4
 t9 := Tryz.underlying9
 a9 := Tryz.isAgg9
 z9 := Tryz.sizeOf9
 v9 := Tryz.zeroValue9
 t20 := Tryz.underlying20
 a20 := Tryz.isAgg20
 z20 := Tryz.sizeOf20
 v20 := Tryz.zeroValue20
 t37 := Tryz.underlying41
 a37 := Tryz.isAgg41
 z37 := Tryz.sizeOf41
 v37 := Tryz.zeroValue41
 t70 := Tryz.underlying117
 a70 := Tryz.isAgg117
 z70 := Tryz.sizeOf117
 v70 := Tryz.zeroValue117
 t72 := Tryz.underlying119
 a72 := Tryz.isAgg119
 z72 := Tryz.sizeOf119
 v72 := Tryz.zeroValue119
 t75 := Tryz.underlying141
 a75 := Tryz.isAgg141
 z75 := Tryz.sizeOf141
 v75 := Tryz.zeroValue141
 t164 := Tryz.underlying188
 a164 := Tryz.isAgg188
 z164 := Tryz.sizeOf188
 v164 := Tryz.zeroValue188 }
theorem Tryz.wlays167 : Go.Proofs.Lays.n167 Tryz.prog Tryz.wr_ren := {
 mixed := by kernel_rfl
 f167 := Tryz.func135.trans (congrArg some (by kernel_rfl))
 f240 := Tryz.func175.trans (congrArg some (by kernel_rfl))
 f276 := Tryz.func198.trans (congrArg some (by kernel_rfl))
 t0 := Tryz.underlying0
 a0 := Tryz.isAgg0
 z0 := Tryz.sizeOf0
 v0 := Tryz.zeroValue0
 t4 := Tryz.underlying4
 a4 := Tryz.isAgg4
 z4 := Tryz.sizeOf4
 v4 := Tryz.zeroValue4
 t5 := Tryz.underlying5
 a5 := Tryz.isAgg5
 z5 := Tryz.sizeOf5
 v5 := Tryz.zeroValue5
 t9 := Tryz.underlying9
 a9 := Tryz.isAgg9
 z9 := Tryz.sizeOf9
 v9 := Tryz.zeroValue9
 t20 := Tryz.underlying20
 a20 := Tryz.isAgg20
 z20 := Tryz.sizeOf20
 v20 := Tryz.zeroValue20
 t37 := Tryz.underlying41
 a37 := Tryz.isAgg41
 z37 := Tryz.sizeOf41
 v37 := Tryz.zeroValue41
 t70 := Tryz.underlying117
 a70 := Tryz.isAgg117
 z70 := Tryz.sizeOf117
 v70 := Tryz.zeroValue117
 t72 := Tryz.underlying119
 a72 := Tryz.isAgg119
 z72 := Tryz.sizeOf119
 v72 := Tryz.zeroValue119
 t75 := Tryz.underlying141
 a75 := Tryz.isAgg141
 z75 := Tryz.sizeOf141
 v75 := Tryz.zeroValue141
 t164 := Tryz.underlying188
 a164 := Tryz.isAgg188
 z164 := Tryz.sizeOf188
 v164 := Tryz.zeroValue188 }
theorem Tryz.wextra : Builder.Extra Tryz.prog Tryz.wr_ren := {
 sizeBuilder := by kernel_rfl
 liesBuilder := by kernel_rfl
 t5 := Tryz.underlying5
 a5 := Tryz.isAgg5
 z5 := Tryz.sizeOf5
 v5 := Tryz.zeroValue5
 infoByte := by kernel_rfl
 cellsByte := by kernel_rfl
 sizeByte := by kernel_rfl
 neB5 := by decide }
open Go.RowKit in
theorem Tryz.wbyte (B b : Nat) (bs : List Value) (c : Int) (w : World) (h : Lib.IsBuilderF 119 5 B b bs w) (hlen : bs.length + 1 ≤ 140737488355328) (hBw : B ≤ w.heap.size) :
  Calls Tryz.prog 135 #[.pointer (some ⟨b, 0, none⟩), .int .u8 c] w fun e w' => e = .returned .nilIface ∧ (Lib.BuilderAtF 119 5 B b (.pointer (some ⟨b, 0, none⟩)) (bs ++ [.int .u8 c]) w' ∧ Below B w w' ∧ Lib.OthersKept 5 (some b) w w') := Any.Builder_WriteByte_k Tryz.wlays167 Tryz.wextra B b bs c w h hlen hBw
open Go.RowKit in
theorem Tryz.wstring (B b : Nat) (bs : List Value) (s : ByteArray) (w : World) (h : Lib.IsBuilderF 119 5 B b bs w) (hlen : bs.length + s.size ≤ 140737488355328) (hBw : B ≤ w.heap.size) :
  Calls Tryz.prog 133 #[.pointer (some ⟨b, 0, none⟩), .string s] w fun e w' => e = .returned (.tuple #[.int .i64 s.size, .nilIface]) ∧ (Lib.BuilderAtF 119 5 B b (.pointer (some ⟨b, 0, none⟩)) (bs ++ Lib.strCells s) w' ∧ Below B w w' ∧ Lib.OthersKept 5 (some b) w w') := Any.Builder_WriteString_k Tryz.wlays166 Tryz.wextra B b bs s w h hlen hBw
end Go.Proofs
/- THE CODE'S Name AND LabelName. Own work of the verifier. -/
namespace Go.Proofs.YtlgfgeacphkhnaaGreatDoor.La
open Go.RowKit

theorem suf_any (l e : List UInt8) (hl : l.length ≤ 4611686018427387904) (w : World) :
  Calls Tryz.prog 103 #[.string ⟨l.toArray⟩, .string ⟨e.toArray⟩] w fun r w' => r = .returned (.bool (endsB l e)) ∧ w' = w := by
 have h := Tryz.strings_HasSuffix ⟨l.toArray⟩ ⟨e.toArray⟩ w (by show l.toArray.size ≤ _; rw [List.size_toArray]; omega)
 rw [← Lib.hasSuffix_of_drop] at h
 exact h
def preB (l p : List UInt8) : Bool := decide (p.length ≤ l.length) && (l.take p.length == p)
theorem pre_any (l p : List UInt8) (w : World) :
  Calls Tryz.prog 149 #[.string ⟨l.toArray⟩, .string ⟨p.toArray⟩] w fun r w' => r = .returned (.bool (preB l p)) ∧ w' = w := by
 have h := Tryz.strings_HasPrefix ⟨l.toArray⟩ ⟨p.toArray⟩ w
 rw [← Lib.hasPrefix_of_take] at h
 exact h
theorem cmp_ord : ∀ a b : List UInt8, Lib.compareBytes a b = ordE a b
 | [], [] => by rfl
 | [], b :: ys => by unfold ordE bltB; simp [Lib.compareBytes]
 | a :: xs, [] => by unfold ordE bltB; simp [Lib.compareBytes]
 | a :: xs, b :: ys => by
  rw [Lib.compareBytes]
  have ih := cmp_ord xs ys
  unfold ordE bltB at ih ⊢
  by_cases h1 : a < b
  ·rw [if_pos h1, if_pos (decide_eq_true (List.cons_lt_cons_iff.2 (Or.inl h1)))]
  ·rw [if_neg h1]
   by_cases h2 : b < a
   ·rw [if_pos h2, if_neg, if_pos (decide_eq_true (List.cons_lt_cons_iff.2 (Or.inl h2)))]
    intro h
    rcases List.cons_lt_cons_iff.1 (of_decide_eq_true h) with k | ⟨k, _⟩
    ·exact h1 k
    ·exact h1 (by rw [k] at h2; exact absurd h2 (UInt8.lt_irrefl _))
   ·rw [if_neg h2, ih]
    have e : a = b := UInt8.le_antisymm (UInt8.not_lt.1 h2) (UInt8.not_lt.1 h1)
    subst e
    simp
theorem cmp_any (a b : List UInt8) (w : World) :
  Calls Tryz.prog 159 #[.string ⟨a.toArray⟩, .string ⟨b.toArray⟩] w fun r w' => r = .returned (.int .i64 (ordE a b)) ∧ w' = w := by
 have h := Tryz.strings_Compare ⟨a.toArray⟩ ⟨b.toArray⟩ w
 rw [cmp_ord] at h
 exact h
set_option maxHeartbeats 1000000 in
theorem cname_any (l : List UInt8) (hl : l.length ≤ 4611686018427387904) (w : World) :
  Calls Tryz.prog 77 #[.string ⟨l.toArray⟩] w fun r w' => r = .returned (.bool (nameB l)) ∧ w' = w := by
 have H1 : Hid _ := fun W => suf_any l [95, 98, 117, 99, 107, 101, 116] hl W
 have H2 : Hid _ := fun W => suf_any l [95, 115, 117, 109] hl W
 have H3 : Hid _ := fun W => suf_any l [95, 99, 111, 117, 110, 116] hl W
 have HW : Hid _ := fun W => word_any l true hl W
 have hN : nameB l = (plainB true l && !(endsB l [95, 98, 117, 99, 107, 101, 116] || endsB l [95, 115, 117, 109] || endsB l [95, 99, 111, 117, 110, 116])) := by
  unfold nameB
  cases plainB true l <;> cases endsB l [95, 98, 117, 99, 107, 101, 116] <;> cases endsB l [95, 115, 117, 109] <;> cases endsB l [95, 99, 111, 117, 110, 116] <;> rfl
 rw [hN]
 clear hN
 unfold fv at HW
 generalize plainB true l = p at *
 generalize endsB l [95, 98, 117, 99, 107, 101, 116] = a at *
 generalize endsB l [95, 115, 117, 109] = b at *
 generalize endsB l [95, 99, 111, 117, 110, 116] = c at *
 cases p <;> cases a <;> cases b <;> cases c <;> as_aux_lemma =>
  go_enter Tryz.func77, Tryz.ntmps77
  go_wp2_with (first | (go_at_call 103; first | (with_reducible refine (H1.out _).mono ?_; rintro e1 w1 ⟨rfl, rfl⟩) | (with_reducible refine (H2.out _).mono ?_; rintro e1 w1 ⟨rfl, rfl⟩) | (with_reducible refine (H3.out _).mono ?_; rintro e1 w1 ⟨rfl, rfl⟩)) | (go_at_call 104; refine (HW.out _).mono ?_; rintro e1 w1 ⟨rfl, rfl⟩))
  go_ret
  exact ⟨rfl, rfl⟩
set_option maxHeartbeats 1000000 in
theorem clname_any (l : List UInt8) (hl : l.length ≤ 4611686018427387904) (w : World) :
  Calls Tryz.prog 107 #[.string ⟨l.toArray⟩] w fun r w' => r = .returned (.bool (lnameB l)) ∧ w' = w := by
 have H1 : Hid _ := fun W => pre_any l [95, 95] W
 have HW : Hid _ := fun W => word_any l false hl W
 have hN : lnameB l = (plainB false l && !((l == [108, 101]) || (l == [113, 117, 97, 110, 116, 105, 108, 101]) || preB l [95, 95])) := by
  unfold lnameB preB
  show _ = (plainB false l && !((l == [108, 101]) || (l == [113, 117, 97, 110, 116, 105, 108, 101]) || (decide (2 ≤ l.length) && (l.take 2 == [95, 95]))))
  cases plainB false l <;> cases (l == [108, 101]) <;> cases (l == [113, 117, 97, 110, 116, 105, 108, 101]) <;> cases (decide (2 ≤ l.length) && (l.take 2 == [95, 95])) <;> rfl
 rw [hN]
 clear hN
 unfold fv at HW
 generalize plainB false l = p at *
 generalize preB l [95, 95] = c at *
 cases h1 : (l == [108, 101]) <;> cases h2 : (l == [113, 117, 97, 110, 116, 105, 108, 101]) <;> cases p <;> cases c <;> as_aux_lemma =>
  go_enter Tryz.func107, Tryz.ntmps107
  go_wp2_with (first | (go_at_call 149; refine (H1.out _).mono ?_; rintro e1 w1 ⟨rfl, rfl⟩) | (go_at_call 104; refine (HW.out _).mono ?_; rintro e1 w1 ⟨rfl, rfl⟩))
  go_ret
  exact ⟨rfl, rfl⟩
end Go.Proofs.YtlgfgeacphkhnaaGreatDoor.La
/- RIGHT UTF-8, as the language's own range over a text tells it. Own work of the verifier. -/
namespace Go.Proofs.YtlgfgeacphkhnaaGreatDoor.La
open Go.RowKit

theorem get_bang (l : List UInt8) (k : Nat) : (ByteArray.mk l.toArray).get! k = l.getD k 0 := by
 show l.toArray.get!Internal k = _
 rw [List.getD_eq_getElem?_getD]
 simp [Array.get!Internal]
 rfl
theorem tl_iff (l : List UInt8) (k : Nat) : tlAt l k = decide (k < l.length ∧ (l.getD k 0).toNat / 64 = 2) := by
 unfold tlAt tlB
 have := (l.getD k 0).toNat_lt
 rw [Bool.eq_iff_iff]
 simp only [Bool.and_eq_true, decide_eq_true_eq]
 omega
def badAt (l : List UInt8) (i r : Nat) : Prop := r = 65533 ∧ ¬ (3 ≤ l.length - i ∧ (l.getD i 0).toNat = 239 ∧ (l.getD (i + 1) 0).toNat = 191 ∧ (l.getD (i + 2) 0).toNat = 189)
theorem fine_true {n c : Nat} (h : ¬ (n = 1 ∧ c < 128 ∨ n = 2 ∧ c < 2048 ∨ n = 3 ∧ c < 65536 ∨ 1114111 < c ∨ 55296 ≤ c ∧ c ≤ 57343)) : fine n c = true := decide_eq_true h
theorem fine_false {n c : Nat} (h : n = 1 ∧ c < 128 ∨ n = 2 ∧ c < 2048 ∨ n = 3 ∧ c < 65536 ∨ 1114111 < c ∨ 55296 ≤ c ∧ c ≤ 57343) : fine n c = false := decide_eq_false (fun k => k h)
set_option maxHeartbeats 4000000 in
theorem utf_step (l : List UInt8) (i r n : Nat) (h : i < l.length) (hd : Utf8.decode ⟨l.toArray⟩ i = (r, n)) :
  1 ≤ n ∧ i + n ≤ l.length ∧ r ≤ 1114111 ∧ (badAt l i r ∧ utfB (l.drop i) = false ∨ ¬ badAt l i r ∧ utfB (l.drop i) = utfB (l.drop (i + n))) := by
 rw [Lib.decode_at, get_bang, get_bang, get_bang, get_bang] at hd
 have e0 : l.getD i 0 = l[i] := get_at l i h
 have hsz : (ByteArray.mk l.toArray).size = l.length := by show l.toArray.size = _; simp
 rw [hsz] at hd
 have q0 := (l.getD i 0).toNat_lt
 have q1 := (l.getD (i + 1) 0).toNat_lt
 have q2 := (l.getD (i + 2) 0).toNat_lt
 have q3 := (l.getD (i + 3) 0).toNat_lt
 have t1 := tl_iff l (i + 1)
 have t2 := tl_iff l (i + 2)
 have t3 := tl_iff l (i + 3)
 have c1 := cont_step l (i + 1)
 have c2 := cont_step l (i + 2)
 have c3 := cont_step l (i + 3)
 unfold badAt
 have u0 := utf_low l i h
 have u1 := fun n c0 => utf_lead l i n c0 h
 have u2 := utf_none l i h
 rw [← e0] at u0 u1 u2
 clear e0
 generalize (l.getD i 0).toNat = b0 at *
 generalize (l.getD (i + 1) 0).toNat = b1 at *
 generalize (l.getD (i + 2) 0).toNat = b2 at *
 generalize (l.getD (i + 3) 0).toNat = b3 at *
 have bad : ∀ m, (65533, 1) = (r, n) → utfB (l.drop i) = false → ¬ (3 ≤ l.length - i ∧ b0 = 239 ∧ b1 = 191 ∧ b2 = 189) → 1 ≤ n ∧ i + n ≤ l.length ∧ r ≤ 1114111 ∧ ((r = 65533 ∧ ¬ (3 ≤ l.length - i ∧ b0 = 239 ∧ b1 = 191 ∧ b2 = 189)) ∧ utfB (l.drop i) = false ∨ ¬ (r = 65533 ∧ ¬ (3 ≤ l.length - i ∧ b0 = 239 ∧ b1 = 191 ∧ b2 = 189)) ∧ utfB (l.drop i) = m) := by
  intro m e1 e2 e3
  obtain ⟨rfl, rfl⟩ := Prod.mk.inj e1
  exact ⟨Nat.le_refl _, by omega, by omega, Or.inl ⟨⟨rfl, e3⟩, e2⟩⟩
 by_cases g1 : b0 < 128
 ·rw [Lib.decodeN, if_pos g1] at hd
  obtain ⟨rfl, rfl⟩ := Prod.mk.inj hd
  exact ⟨Nat.le_refl _, by omega, by omega, Or.inr ⟨by omega, u0 g1⟩⟩
 by_cases g2 : b0 < 192
 ·rw [Lib.decodeN, if_neg g1, if_neg (by omega), if_neg (by omega), if_neg (by omega)] at hd
  refine bad _ hd (u2 g1 ?_) (by omega)
  unfold lead
  rw [if_neg (by omega), if_neg (by omega), if_neg (by omega)]
 by_cases g3 : b0 < 224
 ·have u := u1 1 (b0 - 192) g1 (by unfold lead; rw [if_pos (by omega)])
  rw [c1 0, t1] at u
  by_cases k1 : i + 1 < l.length ∧ b1 / 64 = 2
  ·rw [decide_eq_true k1, if_pos rfl] at u
   simp only [cont] at u
   rw [Lib.decodeN, if_neg g1, if_pos (by omega)] at hd
   by_cases k2 : b0 % 32 * 64 + b1 % 64 ≥ 128
   ·rw [if_pos k2] at hd
    obtain ⟨rfl, rfl⟩ := Prod.mk.inj hd
    rw [fine_true (by omega), Bool.true_and] at u
    exact ⟨by omega, by omega, by omega, Or.inr ⟨by omega, u⟩⟩
   ·rw [if_neg k2] at hd
    rw [fine_false (by omega), Bool.false_and] at u
    exact bad _ hd u (by omega)
  ·rw [decide_eq_false k1, if_neg (by decide)] at u
   rw [Lib.decodeN, if_neg g1, if_neg (by omega), if_neg (by omega), if_neg (by omega)] at hd
   exact bad _ hd u (by omega)
 by_cases g4 : b0 < 240
 ·have u := u1 2 (b0 - 224) g1 (by unfold lead; rw [if_neg (by omega), if_pos (by omega)])
  rw [c1 1, t1] at u
  by_cases k1 : i + 1 < l.length ∧ b1 / 64 = 2
  ·rw [decide_eq_true k1, if_pos rfl, c2 0, t2] at u
   by_cases k2 : i + 2 < l.length ∧ b2 / 64 = 2
   ·rw [decide_eq_true k2, if_pos rfl] at u
    simp only [cont] at u
    rw [Lib.decodeN, if_neg g1, if_neg (by omega), if_pos (by omega)] at hd
    by_cases k3 : b0 % 16 * 4096 + b1 % 64 * 64 + b2 % 64 ≥ 2048 ∧ (b0 % 16 * 4096 + b1 % 64 * 64 + b2 % 64 < 55296 ∨ (57344 ≤ b0 % 16 * 4096 + b1 % 64 * 64 + b2 % 64 ∧ b0 % 16 * 4096 + b1 % 64 * 64 + b2 % 64 ≤ 1114111))
    ·rw [if_pos k3] at hd
     obtain ⟨rfl, rfl⟩ := Prod.mk.inj hd
     rw [fine_true (by omega), Bool.true_and] at u
     exact ⟨by omega, by omega, by omega, Or.inr ⟨by omega, u⟩⟩
    ·rw [if_neg k3] at hd
     rw [fine_false (by omega), Bool.false_and] at u
     exact bad _ hd u (by omega)
   ·rw [decide_eq_false k2, if_neg (by decide)] at u
    rw [Lib.decodeN, if_neg g1, if_neg (by omega), if_neg (by omega), if_neg (by omega)] at hd
    exact bad _ hd u (by omega)
  ·rw [decide_eq_false k1, if_neg (by decide)] at u
   rw [Lib.decodeN, if_neg g1, if_neg (by omega), if_neg (by omega), if_neg (by omega)] at hd
   exact bad _ hd u (by omega)
 by_cases g5 : b0 < 248
 ·have u := u1 3 (b0 - 240) g1 (by unfold lead; rw [if_neg (by omega), if_neg (by omega), if_pos (by omega)])
  rw [c1 2, t1] at u
  by_cases k1 : i + 1 < l.length ∧ b1 / 64 = 2
  ·rw [decide_eq_true k1, if_pos rfl, c2 1, t2] at u
   by_cases k2 : i + 2 < l.length ∧ b2 / 64 = 2
   ·rw [decide_eq_true k2, if_pos rfl, c3 0, t3] at u
    by_cases k3 : i + 3 < l.length ∧ b3 / 64 = 2
    ·rw [decide_eq_true k3, if_pos rfl] at u
     simp only [cont] at u
     rw [Lib.decodeN, if_neg g1, if_neg (by omega), if_neg (by omega), if_pos (by omega)] at hd
     by_cases k4 : b0 % 8 * 262144 + b1 % 64 * 4096 + b2 % 64 * 64 + b3 % 64 ≥ 65536 ∧ (b0 % 8 * 262144 + b1 % 64 * 4096 + b2 % 64 * 64 + b3 % 64 < 55296 ∨ (57344 ≤ b0 % 8 * 262144 + b1 % 64 * 4096 + b2 % 64 * 64 + b3 % 64 ∧ b0 % 8 * 262144 + b1 % 64 * 4096 + b2 % 64 * 64 + b3 % 64 ≤ 1114111))
     ·rw [if_pos k4] at hd
      obtain ⟨rfl, rfl⟩ := Prod.mk.inj hd
      rw [fine_true (by omega), Bool.true_and] at u
      exact ⟨by omega, by omega, by omega, Or.inr ⟨by omega, u⟩⟩
     ·rw [if_neg k4] at hd
      rw [fine_false (by omega), Bool.false_and] at u
      exact bad _ hd u (by omega)
    ·rw [decide_eq_false k3, if_neg (by decide)] at u
     rw [Lib.decodeN, if_neg g1, if_neg (by omega), if_neg (by omega), if_neg (by omega)] at hd
     exact bad _ hd u (by omega)
   ·rw [decide_eq_false k2, if_neg (by decide)] at u
    rw [Lib.decodeN, if_neg g1, if_neg (by omega), if_neg (by omega), if_neg (by omega)] at hd
    exact bad _ hd u (by omega)
  ·rw [decide_eq_false k1, if_neg (by decide)] at u
   rw [Lib.decodeN, if_neg g1, if_neg (by omega), if_neg (by omega), if_neg (by omega)] at hd
   exact bad _ hd u (by omega)
 ·rw [Lib.decodeN, if_neg g1, if_neg (by omega), if_neg (by omega), if_neg (by omega)] at hd
  refine bad _ hd (u2 g1 ?_) (by omega)
  unfold lead
  rw [if_neg (by omega), if_neg (by omega), if_neg (by omega)]
theorem pre_three (l : List UInt8) (i : Nat) (_h : i < l.length) : preB (l.drop i) [239, 191, 189] = decide (3 ≤ l.length - i ∧ (l.getD i 0).toNat = 239 ∧ (l.getD (i + 1) 0).toNat = 191 ∧ (l.getD (i + 2) 0).toNat = 189) := by
 unfold preB
 rw [List.length_drop]
 show (decide (3 ≤ l.length - i) && ((l.drop i).take 3 == [239, 191, 189])) = _
 by_cases h3 : 3 ≤ l.length - i
 ·have g0 : i < l.length := by omega
  have g1 : i + 1 < l.length := by omega
  have g2 : i + 1 + 1 < l.length := by omega
  rw [List.drop_eq_getElem_cons g0, List.drop_eq_getElem_cons g1, List.drop_eq_getElem_cons g2, get_at l i g0, get_at l (i + 1) g1, get_at l (i + 2) g2]
  simp only [List.take_succ_cons, List.take_zero]
  rw [Bool.eq_iff_iff]
  simp only [Bool.and_eq_true, decide_eq_true_eq, beq_iff_eq, List.cons.injEq, and_true]
  have n1 : ∀ (x y : UInt8), x = y ↔ x.toNat = y.toNat := fun x y => ⟨fun e => by rw [e], fun e => UInt8.toNat_inj.1 e⟩
  rw [n1 l[i] 239, n1 l[i + 1] 191, n1 l[i + 1 + 1] 189]
  exact Iff.rfl
 ·rw [decide_eq_false h3, decide_eq_false (by omega)]
  rfl
end Go.Proofs.YtlgfgeacphkhnaaGreatDoor.La
/- THE CODE'S isRight, checkText, checkPlace, checkLabel. Own work of the verifier. -/
namespace Go.Proofs.YtlgfgeacphkhnaaGreatDoor.La
open Go.RowKit

set_option maxRecDepth 100000 in
theorem below_iter (w : World) (s : ByteArray) (p : Nat) : Below w.heap.size w (w.iter s p) := (Below.refl _ _).alloc (Nat.le_refl _) _
set_option maxHeartbeats 4000000 in
set_option maxRecDepth 100000 in
theorem right_any (l : List UInt8) (hl : l.length ≤ 4611686018427387904) (w : World) :
  Calls Tryz.prog 106 #[.string ⟨l.toArray⟩] w fun r w' => r = .returned (.bool (utfB l)) ∧ Below w.heap.size w w' := by
 obtain ⟨R, hR⟩ : ∃ R, R = utfB l := ⟨_, rfl⟩
 rw [← hR]
 have HR0 : Hid (R = utfB (l.drop 0)) := by show R = _; rw [hR, List.drop_zero]
 clear hR
 go_enter Tryz.func106, Tryz.ntmps106
 go_wp2_with fail
 go_loopw [] (fun W => ∃ pos : Nat, pos ≤ l.length ∧ Hid (R = utfB (l.drop pos)) ∧ W = w.iter ⟨l.toArray⟩ pos) (fun W => l.length - W.iterPos w.heap.size)
 case atStart => exact ⟨0, by omega, HR0, rfl⟩
 case round =>
  obtain ⟨pos, hpos, HR, hw⟩ := hrel
  subst wr
  clear HR0
  have hsz : (ByteArray.mk l.toArray).size = l.length := by show l.toArray.size = _; simp
  by_cases hlt : pos < l.length
  ·have hnx : ∀ ty, (Instr.next (.pointer (some ⟨w.heap.size, 0, none⟩)) true ty).run Tryz.prog (w.iter ⟨l.toArray⟩ pos) = _ := fun ty => run_next_any w ⟨l.toArray⟩ pos ty (by rw [hsz]; exact hlt)
   obtain ⟨r, n, hd⟩ : ∃ r n, Utf8.decode ⟨l.toArray⟩ pos = (r, n) := ⟨_, _, rfl⟩
   rw [hd] at hnx
   simp only at hnx
   obtain ⟨h1, h2, h3, h4⟩ := utf_step l pos r n hlt hd
   have hdr := drop_bytes l pos
   have HP : Hid _ := fun W => pre_any (l.drop pos) [239, 191, 189] W
   have hp := pre_three l pos hlt
   rcases h4 with ⟨hb, hu⟩ | ⟨hb, hu⟩
   ·have hr : ((r : Int) == 65533) = true := by rw [beq_iff_eq]; have := hb.1; omega
    rw [decide_eq_false hb.2] at hp
    rw [hp] at HP
    have HF : Hid (R = false) := HR.out.trans hu
    clear HR hb hu hp hd hsz
    as_aux_lemma =>
     go_wp2_with (go_at_call 149; refine (HP.out _).mono ?_; rintro e1 w1 ⟨rfl, rfl⟩)
     go_ret
     exact ⟨congrArg (fun z : Bool => Ending.returned (Value.bool z)) HF.out.symm, below_iter _ _ _⟩
   ·have HR' : Hid (R = utfB (l.drop (pos + n))) := HR.out.trans hu
    by_cases hr0 : r = 65533
    ·have hr : ((r : Int) == 65533) = true := by rw [beq_iff_eq]; omega
     rw [decide_eq_true (Classical.byContradiction (fun k => hb ⟨hr0, k⟩))] at hp
     rw [hp] at HP
     clear HR hb hu hp hd hsz hr0
     as_aux_lemma =>
      go_wp2_with (go_at_call 149; refine (HP.out _).mono ?_; rintro e1 w1 ⟨rfl, rfl⟩)
      exact ⟨⟨pos + n, by omega, HR', rfl⟩, by rw [World.iterPos_iter, World.iterPos_iter]; omega⟩
    ·have hr : ((r : Int) == 65533) = false := by rw [beq_eq_false_iff_ne]; omega
     clear HR hb hu hp hd hsz hr0 HP
     as_aux_lemma =>
      go_wp2_with fail
      exact ⟨⟨pos + n, by omega, HR', rfl⟩, by rw [World.iterPos_iter, World.iterPos_iter]; omega⟩
  ·have hnx : ∀ ty, (Instr.next (.pointer (some ⟨w.heap.size, 0, none⟩)) true ty).run Tryz.prog (w.iter ⟨l.toArray⟩ pos) = _ := fun ty => run_next_end w ⟨l.toArray⟩ pos ty (by rw [hsz]; exact hlt)
   have HF : Hid (R = true) := by
    have := HR.out
    rw [List.drop_eq_nil_of_le (by omega), utfB] at this
    exact this
   clear HR hsz
   as_aux_lemma =>
    go_wp2_with fail
    go_ret
    exact ⟨congrArg (fun z : Bool => Ending.returned (Value.bool z)) HF.out.symm, below_iter _ _ _⟩
set_option maxRecDepth 100000 in
set_option maxHeartbeats 1000000 in
theorem ctext_any (l : List UInt8) (hl : l.length ≤ 4611686018427387904) (w : World) :
  Calls Tryz.prog 78 #[.string ⟨l.toArray⟩] w fun r w' => r = .returned (.int .i64 (txE l)) ∧ Below w.heap.size w w' := by
 have HU : Hid _ := fun W => right_any l hl W
 unfold txE
 by_cases h : 1024 < l.length
 ·have h' : ¬ (l.length : Int) ≤ 1024 := by omega
  have h'' : (1024 : Int) < (l.length : Int) := by omega
  rw [if_pos h]
  as_aux_lemma =>
   go_enter Tryz.func78, Tryz.ntmps78
   go_wp2_with fail
   go_ret
   exact ⟨rfl, Below.refl _ _⟩
 ·have h' : (l.length : Int) ≤ 1024 := by omega
  have h'' : ¬ (1024 : Int) < (l.length : Int) := by omega
  rw [if_neg h]
  cases hU : utfB l
  ·rw [hU] at HU
   rw [if_neg (by decide)]
   as_aux_lemma =>
    go_enter Tryz.func78, Tryz.ntmps78
    go_wp2_with (go_at_call 106; refine (HU.out _).mono ?_; rintro e1 w1 ⟨rfl, hb⟩)
    go_ret
    exact ⟨rfl, hb⟩
  ·rw [hU] at HU
   rw [if_pos rfl]
   as_aux_lemma =>
    go_enter Tryz.func78, Tryz.ntmps78
    go_wp2_with (go_at_call 106; refine (HU.out _).mono ?_; rintro e1 w1 ⟨rfl, hb⟩)
    go_ret
    exact ⟨rfl, hb⟩
def plE (A : List Lb) (n : List UInt8) : Int := if A.length = 0 then 0 else bhE (A.getD (A.length - 1) ([], [])).1 n
set_option maxRecDepth 100000 in
set_option maxHeartbeats 1000000 in
theorem place_any (ao : Option Addr) (b o cap : Nat) (A : List Lb) (hao : A ≠ [] → ao = some ⟨b, o, none⟩) (hl : A.length ≤ 9223372036854775807) (n : List UInt8) (w : World) (hA : RowL w b o A) :
  Calls Tryz.prog 108 #[.slice ao A.length cap, .string ⟨n.toArray⟩] w fun r w' => r = .returned (.int .i64 (plE A n)) ∧ w' = w := by
 unfold plE
 by_cases h0 : A.length = 0
 ·have e0 : ((A.length : Int) == 0) = true := by rw [beq_iff_eq]; omega
  rw [if_pos h0]
  clear h0
  as_aux_lemma =>
   go_enter Tryz.func108, Tryz.ntmps108
   go_wp2_with fail
   go_ret
   exact ⟨rfl, rfl⟩
 ·have e0 : ((A.length : Int) == 0) = false := by rw [beq_eq_false_iff_ne]; omega
  rw [if_neg h0]
  have hne : A ≠ [] := fun e => h0 (by rw [e]; rfl)
  obtain rfl := hao hne
  obtain ⟨m, hm⟩ : ∃ m, m + 1 = A.length := ⟨A.length - 1, by omega⟩
  have hml : m < A.length := by omega
  have hw : IntKind.i64.wrap ((A.length : Int) - 1) = (m : Int) := by
   rw [IntKind.wrap_i64]; omega
  obtain ⟨g1, g2⟩ := hA m hml
  have hg : A.getD (A.length - 1) ([], []) = A[m] := by
   rw [show A.length - 1 = m from by omega, List.getD_eq_getElem?_getD, List.getElem?_eq_getElem hml]; rfl
  rw [hg]
  clear hg
  generalize A[m].1 = q at *
  generalize A[m].2 = q2 at *
  have hix := index_lab b o A.length cap m (m : Int) rfl hml
  unfold bhE
  by_cases hq : q = n
  ·subst hq
   rw [if_pos rfl]
   clear hne h0 hm
   as_aux_lemma =>
    go_enter Tryz.func108, Tryz.ntmps108
    go_wp2_with fail
    go_ret
    exact ⟨rfl, rfl⟩
  ·have hq' : (n == q) = false := by rw [beq_eq_false_iff_ne]; exact fun e => hq e.symm
   rw [if_neg hq]
   have hls := less_list n q
   cases hb : bltB n q
   ·rw [hb] at hls
    rw [if_neg (by decide)]
    clear hne h0 hm hq hb
    as_aux_lemma =>
     go_enter Tryz.func108, Tryz.ntmps108
     go_wp2_with fail
     go_ret
     exact ⟨rfl, rfl⟩
   ·rw [hb] at hls
    rw [if_pos rfl]
    clear hne h0 hm hq hb
    as_aux_lemma =>
     go_enter Tryz.func108, Tryz.ntmps108
     go_wp2_with fail
     go_ret
     exact ⟨rfl, rfl⟩
end Go.Proofs.YtlgfgeacphkhnaaGreatDoor.La
