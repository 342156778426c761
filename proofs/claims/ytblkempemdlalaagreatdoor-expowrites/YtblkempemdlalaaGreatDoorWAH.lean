/- Print, the document's. Own work of the verifier. -/
import Derived.Test.YtblkempemdlalaaGreatDoorWAG
import Derived.Test.YtblkempemdlalaaGreatDoorWAE
import Derived.Shelf.Strings.BuilderK
import Derived.Test.YtblkempemdlalaaGreatDoorProg
import Derived.Test.YtblkempemdlalaaGreatDoorShelf
import Derived.Test.YtblkempemdlalaaGreatDoorWAF
import Derived.Lib.Strings
namespace Go.Proofs.YtblkempemdlalaaGreatDoor.La
open Go.RowKit

def lbT (a : Lb) : List UInt8 := a.1 ++ [61, 34] ++ escL true a.2 ++ [34]
def prB : Bool → List Lb → List UInt8
 | _, [] => []
 | f, a :: r => (if f then 123 else 44) :: (lbT a ++ prB false r)
def printT (n : List UInt8) (L : List Lb) : List UInt8 := n ++ prB true L ++ (if L.length = 0 then [] else [125])
theorem prB_drop (f : Bool) (L : List Lb) (i : Nat) (h : i < L.length) : prB f (L.drop i) = (if f then 123 else 44) :: (lbT L[i] ++ prB false (L.drop (i + 1))) := by
 rw [List.drop_eq_getElem_cons h, prB]
theorem sadd (a b : List UInt8) (h : a.length + b.length ≤ 9223372036854775807) (W : World) : (Op.stringOp .add ⟨a.toArray⟩ ⟨b.toArray⟩).run Tryz.prog W = .ok (.string ⟨(a ++ b).toArray⟩) W := by
 rw [run_string_add_sum W _ _ (by simp [ByteArray.size]; omega), ByteArray.mk_append_mk]
structure KQ (w : World) (b o : Nat) (A : List Lb) (W : World) : Prop where
 r : RowL W b o A
 bl : Below w.heap.size w W
theorem KQ.below {w W W1 : World} {b o : Nat} {A : List Lb} (h : KQ w b o A W) (hb : Below W.heap.size W W1) : KQ w b o A W1 := ⟨h.r.below hb, h.bl.trans (hb.mono h.bl.size)⟩
theorem keepQ {w W W1 : World} {b o i : Nat} {A : List Lb} {x y : Value} (hb : Below W.heap.size W W1)
  (h : W.cell? ⟨b, o + i * 2, none⟩ = some x ∧ W.cell? ⟨b, o + i * 2 + 1, none⟩ = some y ∧ KQ w b o A W) :
  W1.cell? ⟨b, o + i * 2, none⟩ = some x ∧ W1.cell? ⟨b, o + i * 2 + 1, none⟩ = some y ∧ KQ w b o A W1 := by
 obtain ⟨h1, h2, h3⟩ := h
 exact ⟨by rw [hb.cell (p := ⟨b, o + i * 2, none⟩) (lt_of_cell h1)]; exact h1, by rw [hb.cell (p := ⟨b, o + i * 2 + 1, none⟩) (lt_of_cell h2)]; exact h2, h3.below hb⟩
set_option maxHeartbeats 4000000 in
set_option maxRecDepth 100000 in
theorem dprint_any (n : List UInt8) (ao : Option Addr) (b o cap : Nat) (A : List Lb) (hao : A ≠ [] → ao = some ⟨b, o, none⟩) (hl : A.length ≤ 9223372036854775807) (hv : ∀ a ∈ A, a.2.length ≤ 35184372088832) (hT : (printT n A).length ≤ 4611686018427387904) (w : World) (hR : RowL w b o A) :
  Calls Tryz.prog 60 #[.string ⟨n.toArray⟩, .slice ao A.length cap] w fun r w' => r = .returned (.string ⟨(printT n A).toArray⟩) ∧ Below w.heap.size w w' := by
 have HE : Hid (∀ l : List UInt8, l.length ≤ 35184372088832 → ∀ W, Calls Tryz.prog 30 #[.string ⟨l.toArray⟩, .bool true] W fun r w' => r = .returned (.string ⟨(escL true l).toArray⟩) ∧ Below W.heap.size W w') := fun l h W => escaped_any l true h W
 have hP : printT n A = n ++ prB true A ++ (if A.length = 0 then [] else [125]) := rfl
 obtain ⟨R, hR0⟩ : ∃ R, R = n ++ prB true A := ⟨_, rfl⟩
 rw [← hR0] at hP
 rw [hP] at hT
 obtain ⟨T, hTT⟩ : ∃ T, T = printT n A := ⟨_, rfl⟩
 rw [← hTT]
 have HTT : Hid (T = R ++ (if A.length = 0 then [] else [125])) := by show T = _; rw [hTT, hP]
 clear hTT
 have HR0 : Hid (R = n ++ prB (decide (0 = 0)) (A.drop 0)) := hR0
 have hRl : R.length ≤ 4611686018427387904 := by rw [List.length_append] at hT; omega
 have HK0 : Hid (KQ w b o A w) := ⟨hR, Below.refl _ _⟩
 have HV : Hid _ := hv
 clear hR hP hR0 hv
 go_enter Tryz.func60, Tryz.ntmps60
 go_wp2_with fail
 go_loopw [5, 6] (fun v a W => ∃ (i : Nat) (s : List UInt8), i ≤ A.length ∧ a = .int .i64 (i : Int) ∧ v = .string ⟨s.toArray⟩ ∧ Hid (R = s ++ prB (decide (i = 0)) (A.drop i)) ∧ Hid (KQ w b o A W)) (fun _ a _ => A.length - (intOf a).toNat)
 case atStart => exact ⟨0, n, by omega, rfl, rfl, HR0, HK0⟩
 case round =>
  clear HR0 HK0
  obtain ⟨i, s, hi, rfl, rfl, HR, HK⟩ := hrel
  by_cases hlt : i < A.length
  ·have hlt' : (i : Int) < (A.length : Int) := by omega
   obtain rfl := hao (by intro k; rw [k] at hlt; simp at hlt)
   obtain ⟨q1, q2⟩ := HK.out.r i hlt
   have m2 := HV.out A[i] (List.getElem_mem hlt)
   have hS := HR.out
   rw [prB_drop _ A i hlt] at hS
   have HE1 : Hid _ := HE.out A[i].2 m2
   have hlb : lbT A[i] = A[i].1 ++ [61, 34] ++ escL true A[i].2 ++ [34] := rfl
   rw [hlb] at hS
   have hlen := congrArg List.length hS
   simp only [List.length_append, List.length_cons, List.length_nil] at hlen
   generalize escL true A[i].2 = e2 at *
   generalize A[i].1 = x1 at *
   generalize A[i].2 = x2 at *
   clear HR HE hlb m2 HV
   have b1 : s.length ≤ 4611686018427387904 := by omega
   have b2 : x1.length ≤ 4611686018427387904 := by omega
   have b3 : e2.length ≤ 4611686018427387904 := by omega
   have b4 : s.length + x1.length + e2.length ≤ 4611686018427387904 := by omega
   clear hlen
   by_cases i0 : i = 0
   ·have i0' : ((i : Int) == 0) = true := by rw [beq_iff_eq]; omega
    rw [decide_eq_true i0, if_pos rfl] at hS
    obtain ⟨s1, hs1⟩ : ∃ s1, s1 = s ++ [123] := ⟨_, rfl⟩
    obtain ⟨y1, hy1⟩ : ∃ y1, y1 = x1 ++ [61, 34] := ⟨_, rfl⟩
    obtain ⟨y2, hy2⟩ : ∃ y2, y2 = y1 ++ e2 := ⟨_, rfl⟩
    obtain ⟨y3, hy3⟩ : ∃ y3, y3 = y2 ++ [34] := ⟨_, rfl⟩
    obtain ⟨s2, hs2⟩ : ∃ s2, s2 = s1 ++ y3 := ⟨_, rfl⟩
    have HF : Hid (R = s2 ++ prB (decide (i + 1 = 0)) (A.drop (i + 1))) := by
     show R = _
     rw [hS, decide_eq_false (by omega), hs2, hs1, hy3, hy2, hy1]
     simp
    have a0 : ∀ W, (Op.stringOp .add ⟨s.toArray⟩ ⟨#[123]⟩).run Tryz.prog W = .ok (.string ⟨s1.toArray⟩) W := fun W => by rw [hs1]; exact sadd s [123] (by simp; omega) W
    have a1 : ∀ W, (Op.stringOp .add ⟨x1.toArray⟩ ⟨#[61, 34]⟩).run Tryz.prog W = .ok (.string ⟨y1.toArray⟩) W := fun W => by rw [hy1]; exact sadd x1 [61, 34] (by simp; omega) W
    have a2 : ∀ W, (Op.stringOp .add ⟨y1.toArray⟩ ⟨e2.toArray⟩).run Tryz.prog W = .ok (.string ⟨y2.toArray⟩) W := fun W => by rw [hy2]; exact sadd y1 e2 (by rw [hy1]; simp; omega) W
    have a3 : ∀ W, (Op.stringOp .add ⟨y2.toArray⟩ ⟨#[34]⟩).run Tryz.prog W = .ok (.string ⟨y3.toArray⟩) W := fun W => by rw [hy3]; exact sadd y2 [34] (by rw [hy2, hy1]; simp; omega) W
    have a4 : ∀ W, (Op.stringOp .add ⟨s1.toArray⟩ ⟨y3.toArray⟩).run Tryz.prog W = .ok (.string ⟨s2.toArray⟩) W := fun W => by rw [hs2]; exact sadd s1 y3 (by rw [hs1, hy3, hy2, hy1]; simp; omega) W
    clear hS i0 hs1 hy1 hy2 hy3 hs2
    as_aux_lemma =>
    go_wp2_with fail
    have hG0 : wr.cell? ⟨b, o + i * 2, none⟩ = some (.string ⟨x1.toArray⟩) ∧ wr.cell? ⟨b, o + i * 2 + 1, none⟩ = some (.string ⟨x2.toArray⟩) ∧ KQ w b o A wr := ⟨q1, q2, HK.out⟩
    go_region_held3 (fun W => W.cell? ⟨b, o + i * 2, none⟩ = some (.string ⟨x1.toArray⟩) ∧ W.cell? ⟨b, o + i * 2 + 1, none⟩ = some (.string ⟨x2.toArray⟩) ∧ KQ w b o A W)
     (first | assumption | exact keepQ (by assumption) (by assumption) | exact keepQ (bel_drew (Below.refl _ _)) hG0 | exact keepQ (bel_drewN (Below.refl _ _) _) hG0)
     (first | (go_at_call 30; with_reducible refine (HE1.out _).mono ?_; rintro r w1 ⟨rfl, hb1⟩))
    rename_i hG1
    go_wp2_with fail
    exact ⟨⟨i + 1, s2, by omega, by go_num, rfl, HF, hG1.2.2⟩, by simp [intOf]; omega⟩
   ·have i0' : ((i : Int) == 0) = false := by rw [beq_eq_false_iff_ne]; omega
    rw [decide_eq_false i0, if_neg (by decide)] at hS
    obtain ⟨s1, hs1⟩ : ∃ s1, s1 = s ++ [44] := ⟨_, rfl⟩
    obtain ⟨y1, hy1⟩ : ∃ y1, y1 = x1 ++ [61, 34] := ⟨_, rfl⟩
    obtain ⟨y2, hy2⟩ : ∃ y2, y2 = y1 ++ e2 := ⟨_, rfl⟩
    obtain ⟨y3, hy3⟩ : ∃ y3, y3 = y2 ++ [34] := ⟨_, rfl⟩
    obtain ⟨s2, hs2⟩ : ∃ s2, s2 = s1 ++ y3 := ⟨_, rfl⟩
    have HF : Hid (R = s2 ++ prB (decide (i + 1 = 0)) (A.drop (i + 1))) := by
     show R = _
     rw [hS, decide_eq_false (by omega), hs2, hs1, hy3, hy2, hy1]
     simp
    have a0 : ∀ W, (Op.stringOp .add ⟨s.toArray⟩ ⟨#[44]⟩).run Tryz.prog W = .ok (.string ⟨s1.toArray⟩) W := fun W => by rw [hs1]; exact sadd s [44] (by simp; omega) W
    have a1 : ∀ W, (Op.stringOp .add ⟨x1.toArray⟩ ⟨#[61, 34]⟩).run Tryz.prog W = .ok (.string ⟨y1.toArray⟩) W := fun W => by rw [hy1]; exact sadd x1 [61, 34] (by simp; omega) W
    have a2 : ∀ W, (Op.stringOp .add ⟨y1.toArray⟩ ⟨e2.toArray⟩).run Tryz.prog W = .ok (.string ⟨y2.toArray⟩) W := fun W => by rw [hy2]; exact sadd y1 e2 (by rw [hy1]; simp; omega) W
    have a3 : ∀ W, (Op.stringOp .add ⟨y2.toArray⟩ ⟨#[34]⟩).run Tryz.prog W = .ok (.string ⟨y3.toArray⟩) W := fun W => by rw [hy3]; exact sadd y2 [34] (by rw [hy2, hy1]; simp; omega) W
    have a4 : ∀ W, (Op.stringOp .add ⟨s1.toArray⟩ ⟨y3.toArray⟩).run Tryz.prog W = .ok (.string ⟨s2.toArray⟩) W := fun W => by rw [hs2]; exact sadd s1 y3 (by rw [hs1, hy3, hy2, hy1]; simp; omega) W
    clear hS i0 hs1 hy1 hy2 hy3 hs2
    as_aux_lemma =>
    go_wp2_with fail
    have hG0 : wr.cell? ⟨b, o + i * 2, none⟩ = some (.string ⟨x1.toArray⟩) ∧ wr.cell? ⟨b, o + i * 2 + 1, none⟩ = some (.string ⟨x2.toArray⟩) ∧ KQ w b o A wr := ⟨q1, q2, HK.out⟩
    go_region_held3 (fun W => W.cell? ⟨b, o + i * 2, none⟩ = some (.string ⟨x1.toArray⟩) ∧ W.cell? ⟨b, o + i * 2 + 1, none⟩ = some (.string ⟨x2.toArray⟩) ∧ KQ w b o A W)
     (first | assumption | exact keepQ (by assumption) (by assumption) | exact keepQ (bel_drew (Below.refl _ _)) hG0 | exact keepQ (bel_drewN (Below.refl _ _) _) hG0)
     (first | (go_at_call 30; with_reducible refine (HE1.out _).mono ?_; rintro r w1 ⟨rfl, hb1⟩))
    rename_i hG1
    go_wp2_with fail
    exact ⟨⟨i + 1, s2, by omega, by go_num, rfl, HF, hG1.2.2⟩, by simp [intOf]; omega⟩
  ·have hlt' : ¬ (i : Int) < (A.length : Int) := by omega
   have hS := HR.out
   rw [List.drop_eq_nil_of_le (by omega), prB, List.append_nil] at hS
   have hbl := HK.out.bl
   have HF : Hid (R = s) := hS
   have hsl : s.length ≤ 4611686018427387904 := by rw [← hS]; exact hRl
   clear HR HK HE HV hS hT hRl
   by_cases z : A.length = 0
   ·have z' : ¬ (0 : Int) < (A.length : Int) := by omega
    have HE2 : Hid (T = s) := by
     show T = s
     rw [HTT.out, if_pos z, List.append_nil]; exact HF.out
    clear z HTT HF
    as_aux_lemma =>
     go_wp2_with fail
     go_ret
     exact ⟨congrArg (fun z : List UInt8 => Ending.returned (Value.string ⟨z.toArray⟩)) HE2.out.symm, hbl⟩
   ·have z' : (0 : Int) < (A.length : Int) := by omega
    have a0 : ∀ W, (Op.stringOp .add ⟨s.toArray⟩ ⟨#[125]⟩).run Tryz.prog W = .ok (.string ⟨T.toArray⟩) W := fun W => by rw [HTT.out, if_neg z, HF.out]; exact sadd s [125] (by simp; omega) W
    clear z HTT HF
    as_aux_lemma =>
     go_wp2_with fail
     go_ret
     exact ⟨rfl, hbl⟩
end Go.Proofs.YtblkempemdlalaaGreatDoor.La
/- THE CODE'S LEAVES: letters, digits. Own work of the verifier. -/
namespace Go.Proofs.YtblkempemdlalaaGreatDoor.La
open Go.RowKit

def isD (c : Nat) : Bool := decide (48 ≤ c ∧ c ≤ 57)
def isA (c : Nat) : Bool := decide (97 ≤ c ∧ c ≤ 122 ∨ 65 ≤ c ∧ c ≤ 90)
theorem isL_eq (c : Nat) : isL c = (isA c || isD c || decide (c = 95)) := by
 unfold isL isA isD
 rw [Bool.eq_iff_iff]
 simp only [Bool.or_eq_true, decide_eq_true_eq]
 omega
theorem cdigit_any (c : Nat) (w : World) :
  Calls Tryz.prog 138 #[.int .u8 (c : Int)] w fun e w' => e = .returned (.bool (isD c)) ∧ w' = w := by
 by_cases a1 : 48 ≤ c
 ·have i1 : (48 : Int) ≤ (c : Int) := by omega
  by_cases a2 : c ≤ 57
  ·have i2 : (c : Int) ≤ 57 := by omega
   rw [show isD c = true from decide_eq_true (by omega)]
   as_aux_lemma =>
    go_enter Tryz.func138, Tryz.ntmps138
    go_wp2_with fail
    go_ret
    exact ⟨rfl, rfl⟩
  ·have i2 : ¬ (c : Int) ≤ 57 := by omega
   rw [show isD c = false from decide_eq_false (by omega)]
   as_aux_lemma =>
    go_enter Tryz.func138, Tryz.ntmps138
    go_wp2_with fail
    go_ret
    exact ⟨rfl, rfl⟩
 ·have i1 : ¬ (48 : Int) ≤ (c : Int) := by omega
  rw [show isD c = false from decide_eq_false (by omega)]
  as_aux_lemma =>
   go_enter Tryz.func138, Tryz.ntmps138
   go_wp2_with fail
   go_ret
   exact ⟨rfl, rfl⟩
theorem cletter_any (c : Nat) (w : World) :
  Calls Tryz.prog 178 #[.int .u8 (c : Int)] w fun e w' => e = .returned (.bool (isA c)) ∧ w' = w := by
 by_cases a1 : 97 ≤ c
 ·have i1 : (97 : Int) ≤ (c : Int) := by omega
  by_cases a2 : c ≤ 122
  ·have i2 : (c : Int) ≤ 122 := by omega
   rw [show isA c = true from decide_eq_true (by omega)]
   as_aux_lemma =>
    go_enter Tryz.func178, Tryz.ntmps178
    go_wp2_with fail
    go_ret
    exact ⟨rfl, rfl⟩
  ·have i2 : ¬ (c : Int) ≤ 122 := by omega
   have i3 : (65 : Int) ≤ (c : Int) := by omega
   have i4 : ¬ (c : Int) ≤ 90 := by omega
   rw [show isA c = false from decide_eq_false (by omega)]
   as_aux_lemma =>
    go_enter Tryz.func178, Tryz.ntmps178
    go_wp2_with fail
    go_ret
    exact ⟨rfl, rfl⟩
 ·have i1 : ¬ (97 : Int) ≤ (c : Int) := by omega
  by_cases a3 : 65 ≤ c
  ·have i3 : (65 : Int) ≤ (c : Int) := by omega
   by_cases a4 : c ≤ 90
   ·have i4 : (c : Int) ≤ 90 := by omega
    rw [show isA c = true from decide_eq_true (by omega)]
    as_aux_lemma =>
     go_enter Tryz.func178, Tryz.ntmps178
     go_wp2_with fail
     go_ret
     exact ⟨rfl, rfl⟩
   ·have i4 : ¬ (c : Int) ≤ 90 := by omega
    rw [show isA c = false from decide_eq_false (by omega)]
    as_aux_lemma =>
     go_enter Tryz.func178, Tryz.ntmps178
     go_wp2_with fail
     go_ret
     exact ⟨rfl, rfl⟩
  ·have i3 : ¬ (65 : Int) ≤ (c : Int) := by omega
   rw [show isA c = false from decide_eq_false (by omega)]
   as_aux_lemma =>
    go_enter Tryz.func178, Tryz.ntmps178
    go_wp2_with fail
    go_ret
    exact ⟨rfl, rfl⟩
theorem oflab_any (c : Nat) (w : World) :
  Calls Tryz.prog 140 #[.int .u8 (c : Int)] w fun e w' => e = .returned (.bool (gd false c)) ∧ w' = w := by
 have HA : Hid _ := fun W => cletter_any c W
 have HD : Hid _ := fun W => cdigit_any c W
 have h0 : gd false c = isL c := by simp [gd]
 rw [h0, isL_eq]
 clear h0
 cases hA : isA c
 ·rw [hA] at HA
  cases hD : isD c
  ·rw [hD] at HD
   by_cases h95 : c = 95
   ·have t : ((c : Int) == 95) = true := by rw [beq_iff_eq]; omega
    rw [show decide (c = 95) = true from decide_eq_true h95]
    clear h95
    as_aux_lemma =>
     go_enter Tryz.func140, Tryz.ntmps140
     go_wp2_with (first | (go_at_call 178; refine (HA.out _).mono ?_; rintro e1 w1 ⟨rfl, rfl⟩) | (go_at_call 138; refine (HD.out _).mono ?_; rintro e1 w1 ⟨rfl, rfl⟩))
     go_ret
     exact ⟨rfl, rfl⟩
   ·have t : ((c : Int) == 95) = false := by rw [beq_eq_false_iff_ne]; omega
    rw [show decide (c = 95) = false from decide_eq_false h95]
    clear h95
    as_aux_lemma =>
     go_enter Tryz.func140, Tryz.ntmps140
     go_wp2_with (first | (go_at_call 178; refine (HA.out _).mono ?_; rintro e1 w1 ⟨rfl, rfl⟩) | (go_at_call 138; refine (HD.out _).mono ?_; rintro e1 w1 ⟨rfl, rfl⟩))
     go_ret
     exact ⟨rfl, rfl⟩
  ·rw [hD] at HD
   as_aux_lemma =>
    go_enter Tryz.func140, Tryz.ntmps140
    go_wp2_with (first | (go_at_call 178; refine (HA.out _).mono ?_; rintro e1 w1 ⟨rfl, rfl⟩) | (go_at_call 138; refine (HD.out _).mono ?_; rintro e1 w1 ⟨rfl, rfl⟩))
    go_ret
    exact ⟨by simp, rfl⟩
 ·rw [hA] at HA
  as_aux_lemma =>
   go_enter Tryz.func140, Tryz.ntmps140
   go_wp2_with (first | (go_at_call 178; refine (HA.out _).mono ?_; rintro e1 w1 ⟨rfl, rfl⟩) | (go_at_call 138; refine (HD.out _).mono ?_; rintro e1 w1 ⟨rfl, rfl⟩))
   go_ret
   exact ⟨by simp, rfl⟩
theorem ofname_any (c : Nat) (w : World) :
  Calls Tryz.prog 100 #[.int .u8 (c : Int)] w fun e w' => e = .returned (.bool (gd true c)) ∧ w' = w := by
 have HA : Hid _ := fun W => oflab_any c W
 have h0 : gd true c = (gd false c || decide (c = 58)) := by simp [gd]
 rw [h0]
 clear h0
 cases hA : gd false c
 ·rw [hA] at HA
  by_cases h58 : c = 58
  ·have t : ((c : Int) == 58) = true := by rw [beq_iff_eq]; omega
   rw [show decide (c = 58) = true from decide_eq_true h58]
   clear h58
   as_aux_lemma =>
    go_enter Tryz.func100, Tryz.ntmps100
    go_wp2_with (go_at_call 140; refine (HA.out _).mono ?_; rintro e1 w1 ⟨rfl, rfl⟩)
    go_ret
    exact ⟨rfl, rfl⟩
  ·have t : ((c : Int) == 58) = false := by rw [beq_eq_false_iff_ne]; omega
   rw [show decide (c = 58) = false from decide_eq_false h58]
   clear h58
   as_aux_lemma =>
    go_enter Tryz.func100, Tryz.ntmps100
    go_wp2_with (go_at_call 140; refine (HA.out _).mono ?_; rintro e1 w1 ⟨rfl, rfl⟩)
    go_ret
    exact ⟨rfl, rfl⟩
 ·rw [hA] at HA
  as_aux_lemma =>
   go_enter Tryz.func100, Tryz.ntmps100
   go_wp2_with (go_at_call 140; refine (HA.out _).mono ?_; rintro e1 w1 ⟨rfl, rfl⟩)
   go_ret
   exact ⟨by simp, rfl⟩
end Go.Proofs.YtblkempemdlalaaGreatDoor.La
/- THE CODE'S row AND isWord. Own work of the verifier. -/
namespace Go.Proofs.YtblkempemdlalaaGreatDoor.La
open Go.RowKit

def fv : Bool → Value
 | true => .func (.func 100) #[] #[]
 | false => .func (.func 140) #[] #[]
set_option maxHeartbeats 1000000 in
set_option maxRecDepth 100000 in
theorem crow_false (l : List UInt8) (hl : l.length ≤ 4611686018427387904) (w : World) :
  Calls Tryz.prog 139 #[.string ⟨l.toArray⟩, fv false] w fun e w' => e = .returned (.string ⟨(l.take (rowN false l)).toArray⟩) ∧ w' = w := by
 have HL : Hid (∀ (c : Nat) (W : World), Calls Tryz.prog 140 #[.int .u8 (c : Int)] W fun e w' => e = .returned (.bool (gd false c)) ∧ w' = W) := fun c W => oflab_any c W
 obtain ⟨R, hR⟩ : ∃ R, R = rowN false l := ⟨_, rfl⟩
 rw [← hR]
 have HR0 : Hid (R = 0 + rowN false (l.drop 0)) := by show R = _; rw [hR, List.drop_zero, Nat.zero_add]
 clear hR
 unfold fv
 go_enter Tryz.func139, Tryz.ntmps139
 go_wp2_with fail
 go_loopw [5] (fun a W => ∃ n : Nat, n ≤ l.length ∧ a = .int .i64 (n : Int) ∧ Hid (R = n + rowN false (l.drop n)) ∧ W = w) (fun a _ => l.length - (intOf a).toNat)
 case atStart => exact ⟨0, by omega, rfl, HR0, rfl⟩
 case round =>
  obtain ⟨n, hn, rfl, HR, hw⟩ := hrel
  subst wr
  clear HR0
  have hS := HR.out
  clear HR
  have htk := take_bytes l n
  by_cases hlt : n < l.length
  ·have hlt' : (n : Int) < (l.length : Int) := by omega
   have hB : n < (ByteArray.mk l.toArray).size := by show n < l.toArray.size; simpa using hlt
   have hbe : ((ByteArray.mk l.toArray)[n]'hB).toNat = l[n].toNat := rfl
   rw [List.drop_eq_getElem_cons hlt, rowN] at hS
   have HL1 : Hid _ := HL.out ((ByteArray.mk l.toArray)[n]'hB).toNat
   rw [hbe] at HL1
   by_cases g1 : gd false l[n].toNat = true
   ·rw [g1] at HL1
    rw [if_pos g1] at hS
    have HR' : Hid (R = n + 1 + rowN false (l.drop (n + 1))) := by show R = _; rw [hS]; omega
    clear hS g1 hbe HL htk
    as_aux_lemma =>
     go_wp2_with fail
     refine (HL1.out _).mono ?_
     rintro e w1 ⟨rfl, rfl⟩
     go_wp2_with fail
     exact ⟨⟨n + 1, by omega, by go_num, HR', trivial⟩, by simp [intOf]; omega⟩
   ·have g1' : gd false l[n].toNat = false := by simpa using g1
    rw [g1'] at HL1
    rw [if_neg g1] at hS
    have HF : Hid (R = n) := hS
    clear hS g1 g1' hbe HL
    as_aux_lemma =>
     go_wp2_with fail
     refine (HL1.out _).mono ?_
     rintro e w1 ⟨rfl, rfl⟩
     go_wp2_with fail
     go_ret
     exact ⟨congrArg (fun z : Nat => Ending.returned (Value.string ⟨(l.take z).toArray⟩)) HF.out.symm, rfl⟩
  ·have hlt' : ¬ (n : Int) < (l.length : Int) := by omega
   rw [List.drop_eq_nil_of_le (by omega), rowN] at hS
   have HF : Hid (R = n) := hS
   clear hS HL
   as_aux_lemma =>
    go_wp2_with fail
    go_ret
    exact ⟨congrArg (fun z : Nat => Ending.returned (Value.string ⟨(l.take z).toArray⟩)) HF.out.symm, rfl⟩
set_option maxHeartbeats 1000000 in
set_option maxRecDepth 100000 in
theorem crow_true (l : List UInt8) (hl : l.length ≤ 4611686018427387904) (w : World) :
  Calls Tryz.prog 139 #[.string ⟨l.toArray⟩, fv true] w fun e w' => e = .returned (.string ⟨(l.take (rowN true l)).toArray⟩) ∧ w' = w := by
 have HL : Hid (∀ (c : Nat) (W : World), Calls Tryz.prog 100 #[.int .u8 (c : Int)] W fun e w' => e = .returned (.bool (gd true c)) ∧ w' = W) := fun c W => ofname_any c W
 obtain ⟨R, hR⟩ : ∃ R, R = rowN true l := ⟨_, rfl⟩
 rw [← hR]
 have HR0 : Hid (R = 0 + rowN true (l.drop 0)) := by show R = _; rw [hR, List.drop_zero, Nat.zero_add]
 clear hR
 unfold fv
 go_enter Tryz.func139, Tryz.ntmps139
 go_wp2_with fail
 go_loopw [5] (fun a W => ∃ n : Nat, n ≤ l.length ∧ a = .int .i64 (n : Int) ∧ Hid (R = n + rowN true (l.drop n)) ∧ W = w) (fun a _ => l.length - (intOf a).toNat)
 case atStart => exact ⟨0, by omega, rfl, HR0, rfl⟩
 case round =>
  obtain ⟨n, hn, rfl, HR, hw⟩ := hrel
  subst wr
  clear HR0
  have hS := HR.out
  clear HR
  have htk := take_bytes l n
  by_cases hlt : n < l.length
  ·have hlt' : (n : Int) < (l.length : Int) := by omega
   have hB : n < (ByteArray.mk l.toArray).size := by show n < l.toArray.size; simpa using hlt
   have hbe : ((ByteArray.mk l.toArray)[n]'hB).toNat = l[n].toNat := rfl
   rw [List.drop_eq_getElem_cons hlt, rowN] at hS
   have HL1 : Hid _ := HL.out ((ByteArray.mk l.toArray)[n]'hB).toNat
   rw [hbe] at HL1
   by_cases g1 : gd true l[n].toNat = true
   ·rw [g1] at HL1
    rw [if_pos g1] at hS
    have HR' : Hid (R = n + 1 + rowN true (l.drop (n + 1))) := by show R = _; rw [hS]; omega
    clear hS g1 hbe HL htk
    as_aux_lemma =>
     go_wp2_with fail
     refine (HL1.out _).mono ?_
     rintro e w1 ⟨rfl, rfl⟩
     go_wp2_with fail
     exact ⟨⟨n + 1, by omega, by go_num, HR', trivial⟩, by simp [intOf]; omega⟩
   ·have g1' : gd true l[n].toNat = false := by simpa using g1
    rw [g1'] at HL1
    rw [if_neg g1] at hS
    have HF : Hid (R = n) := hS
    clear hS g1 g1' hbe HL
    as_aux_lemma =>
     go_wp2_with fail
     refine (HL1.out _).mono ?_
     rintro e w1 ⟨rfl, rfl⟩
     go_wp2_with fail
     go_ret
     exact ⟨congrArg (fun z : Nat => Ending.returned (Value.string ⟨(l.take z).toArray⟩)) HF.out.symm, rfl⟩
  ·have hlt' : ¬ (n : Int) < (l.length : Int) := by omega
   rw [List.drop_eq_nil_of_le (by omega), rowN] at hS
   have HF : Hid (R = n) := hS
   clear hS HL
   as_aux_lemma =>
    go_wp2_with fail
    go_ret
    exact ⟨congrArg (fun z : Nat => Ending.returned (Value.string ⟨(l.take z).toArray⟩)) HF.out.symm, rfl⟩
theorem crow_any (l : List UInt8) (colon : Bool) (hl : l.length ≤ 4611686018427387904) (w : World) :
  Calls Tryz.prog 139 #[.string ⟨l.toArray⟩, fv colon] w fun e w' => e = .returned (.string ⟨(l.take (rowN colon l)).toArray⟩) ∧ w' = w := by
 cases colon
 ·exact crow_false l hl w
 ·exact crow_true l hl w
theorem take_eq (l : List UInt8) (n : Nat) (h : n ≤ l.length) : l.take n = l ↔ n = l.length := by
 constructor
 ·intro e
  have := congrArg List.length e
  rw [List.length_take] at this
  omega
 ·intro e
  rw [e, List.take_length]
set_option maxHeartbeats 1000000 in
theorem word_any (l : List UInt8) (colon : Bool) (hl : l.length ≤ 4611686018427387904) (w : World) :
  Calls Tryz.prog 99 #[.string ⟨l.toArray⟩, fv colon] w fun r w' => r = .returned (.bool (plainB colon l)) ∧ w' = w := by
 have HR : Hid _ := fun W => crow_any l colon hl W
 obtain ⟨f, hf⟩ : ∃ f, f = fv colon := ⟨_, rfl⟩
 rw [← hf] at HR ⊢
 clear hf
 by_cases g0 : 1 ≤ l.length
 ·have i0 : (1 : Int) ≤ (l.length : Int) := by omega
  have hB : 0 < (ByteArray.mk l.toArray).size := by show 0 < l.toArray.size; rw [List.size_toArray]; omega
  have hbe := get_zero l g0 hB
  by_cases g1 : l.length ≤ 64
  ·have i1 : (l.length : Int) ≤ 64 := by omega
   have HD : Hid _ := fun W => cdigit_any ((ByteArray.mk l.toArray)[0]'hB).toNat W
   cases hD : isD ((ByteArray.mk l.toArray)[0]'hB).toNat
   ·rw [hD] at HD
    have hd' : (decide (48 ≤ (l.getD 0 0).toNat) && decide ((l.getD 0 0).toNat ≤ 57)) = false := by rw [← hbe, ← Bool.decide_and]; exact hD
    by_cases g2 : rowN colon l = l.length
    ·rw [(take_eq l _ (rowN_le colon l)).2 g2] at HR
     rw [show plainB colon l = true from by unfold plainB; rw [hd', decide_eq_true g0, decide_eq_true g1, decide_eq_true g2]; rfl]
     clear hd' g2 hD hbe
     as_aux_lemma =>
      go_enter Tryz.func99, Tryz.ntmps99
      go_wp2_with (first | (go_at_call 138; refine (HD.out _).mono ?_; rintro e1 w1 ⟨rfl, rfl⟩) | (go_at_call 139; refine (HR.out _).mono ?_; rintro e1 w1 ⟨rfl, rfl⟩))
      go_ret
      exact ⟨rfl, rfl⟩
    ·have hq : (l.take (rowN colon l) == l) = false := by rw [beq_eq_false_iff_ne]; exact fun h => g2 ((take_eq l _ (rowN_le colon l)).1 h)
     rw [show plainB colon l = false from by unfold plainB; rw [decide_eq_false g2]; simp]
     obtain ⟨t, ht⟩ : ∃ t, t = l.take (rowN colon l) := ⟨_, rfl⟩
     rw [← ht] at HR hq
     clear hd' g2 hD hbe ht
     as_aux_lemma =>
      go_enter Tryz.func99, Tryz.ntmps99
      go_wp2_with (first | (go_at_call 138; refine (HD.out _).mono ?_; rintro e1 w1 ⟨rfl, rfl⟩) | (go_at_call 139; refine (HR.out _).mono ?_; rintro e1 w1 ⟨rfl, rfl⟩))
      go_ret
      exact ⟨rfl, rfl⟩
   ·rw [hD] at HD
    have hd' : (decide (48 ≤ (l.getD 0 0).toNat) && decide ((l.getD 0 0).toNat ≤ 57)) = true := by rw [← hbe, ← Bool.decide_and]; exact hD
    rw [show plainB colon l = false from by unfold plainB; rw [hd']; simp]
    clear hd' hD hbe
    as_aux_lemma =>
     go_enter Tryz.func99, Tryz.ntmps99
     go_wp2_with (first | (go_at_call 138; refine (HD.out _).mono ?_; rintro e1 w1 ⟨rfl, rfl⟩) | (go_at_call 139; refine (HR.out _).mono ?_; rintro e1 w1 ⟨rfl, rfl⟩))
     go_ret
     exact ⟨rfl, rfl⟩
  ·have i1 : ¬ (l.length : Int) ≤ 64 := by omega
   rw [show plainB colon l = false from by unfold plainB; rw [decide_eq_false g1]; simp]
   as_aux_lemma =>
    go_enter Tryz.func99, Tryz.ntmps99
    go_wp2_with fail
    go_ret
    exact ⟨rfl, rfl⟩
 ·have i0 : ¬ (1 : Int) ≤ (l.length : Int) := by omega
  rw [show plainB colon l = false from by unfold plainB; rw [decide_eq_false g0]; simp]
  as_aux_lemma =>
   go_enter Tryz.func99, Tryz.ntmps99
   go_wp2_with fail
   go_ret
   exact ⟨rfl, rfl⟩
end Go.Proofs.YtblkempemdlalaaGreatDoor.La
/- strings.Builder's WRITERS, laid by hand (the kit's command lays the others). Own work of the verifier. -/
namespace Go.Proofs
open Go.Shelf
def Tryz.wr_ren : Go.Shelf.Ren := ⟨fun | 166 => 128 | 167 => 130 | 240 => 167 | 276 => 198 | n => n, fun | 70 => 106 | 72 => 108 | 37 => 27 | 75 => 136 | 80 => 110 | 164 => 187 | n => n, fun | n => n⟩
theorem Tryz.wlays166 : Go.Proofs.Lays.n166 Tryz.prog Tryz.wr_ren := {
 mixed := by kernel_rfl
 f166 := Tryz.func128.trans (congrArg some (by kernel_rfl))
 f240 := Tryz.func167.trans (congrArg some (by kernel_rfl))
 f276 := Tryz.func198.trans (congrArg some (by kernel_rfl))
 t0 := Tryz.underlying0
 a0 := Tryz.isAgg0
 z0 := Tryz.sizeOf0
 v0 := Tryz.zeroValue0
 t3 := Tryz.underlying3
 a3 := Tryz.isAgg3
 z3 := Tryz.sizeOf3
 v3 := Tryz.zeroValue3
 t4 := Tryz.underlying4
 a4 := Tryz.isAgg4
 z4 := Tryz.sizeOf4
 v4 := Tryz.zeroValue4
 t9 := Tryz.underlying9
 a9 := Tryz.isAgg9
 z9 := Tryz.sizeOf9
 v9 := Tryz.zeroValue9
 t20 := Tryz.underlying20
 a20 := Tryz.isAgg20
 z20 := Tryz.sizeOf20
 v20 := Tryz.zeroValue20
 t37 := Tryz.underlying27
 a37 := Tryz.isAgg27
 z37 := Tryz.sizeOf27
 v37 := Tryz.zeroValue27
 t70 := Tryz.underlying106
 a70 := Tryz.isAgg106
 z70 := Tryz.sizeOf106
 v70 := Tryz.zeroValue106
 t72 := Tryz.underlying108
 a72 := Tryz.isAgg108
 z72 := Tryz.sizeOf108
 v72 := Tryz.zeroValue108
 t75 := Tryz.underlying136
 a75 := Tryz.isAgg136
 z75 := Tryz.sizeOf136
 v75 := Tryz.zeroValue136
 t164 := Tryz.underlying187
 a164 := Tryz.isAgg187
 z164 := Tryz.sizeOf187
 v164 := Tryz.zeroValue187 }
theorem Tryz.wlays167 : Go.Proofs.Lays.n167 Tryz.prog Tryz.wr_ren := {
 mixed := by kernel_rfl
 f167 := Tryz.func130.trans (congrArg some (by kernel_rfl))
 f240 := Tryz.func167.trans (congrArg some (by kernel_rfl))
 f276 := Tryz.func198.trans (congrArg some (by kernel_rfl))
 t0 := Tryz.underlying0
 a0 := Tryz.isAgg0
 z0 := Tryz.sizeOf0
 v0 := Tryz.zeroValue0
 t4 := Tryz.underlying4
 a4 := Tryz.isAgg4
 z4 := Tryz.sizeOf4
 v4 := Tryz.zeroValue4
 t5 := Tryz.underlying5
 a5 := Tryz.isAgg5
 z5 := Tryz.sizeOf5
 v5 := Tryz.zeroValue5
 t9 := Tryz.underlying9
 a9 := Tryz.isAgg9
 z9 := Tryz.sizeOf9
 v9 := Tryz.zeroValue9
 t20 := Tryz.underlying20
 a20 := Tryz.isAgg20
 z20 := Tryz.sizeOf20
 v20 := Tryz.zeroValue20
 t37 := Tryz.underlying27
 a37 := Tryz.isAgg27
 z37 := Tryz.sizeOf27
 v37 := Tryz.zeroValue27
 t70 := Tryz.underlying106
 a70 := Tryz.isAgg106
 z70 := Tryz.sizeOf106
 v70 := Tryz.zeroValue106
 t72 := Tryz.underlying108
 a72 := Tryz.isAgg108
 z72 := Tryz.sizeOf108
 v72 := Tryz.zeroValue108
 t75 := Tryz.underlying136
 a75 := Tryz.isAgg136
 z75 := Tryz.sizeOf136
 v75 := Tryz.zeroValue136
 t164 := Tryz.underlying187
 a164 := Tryz.isAgg187
 z164 := Tryz.sizeOf187
 v164 := Tryz.zeroValue187 }
theorem Tryz.wextra : Builder.Extra Tryz.prog Tryz.wr_ren := {
 sizeBuilder := by kernel_rfl
 liesBuilder := by kernel_rfl
 t5 := Tryz.underlying5
 a5 := Tryz.isAgg5
 z5 := Tryz.sizeOf5
 v5 := Tryz.zeroValue5
 infoByte := by kernel_rfl
 cellsByte := by kernel_rfl
 sizeByte := by kernel_rfl
 neB5 := by decide }
open Go.RowKit in
theorem Tryz.wbyte (B b : Nat) (bs : List Value) (c : Int) (w : World) (h : Lib.IsBuilderF 108 5 B b bs w) (hlen : bs.length + 1 ≤ 140737488355328) (hBw : B ≤ w.heap.size) :
  Calls Tryz.prog 130 #[.pointer (some ⟨b, 0, none⟩), .int .u8 c] w fun e w' => e = .returned .nilIface ∧ (Lib.BuilderAtF 108 5 B b (.pointer (some ⟨b, 0, none⟩)) (bs ++ [.int .u8 c]) w' ∧ Below B w w' ∧ Lib.OthersKept 5 (some b) w w') := Any.Builder_WriteByte_k Tryz.wlays167 Tryz.wextra B b bs c w h hlen hBw
open Go.RowKit in
theorem Tryz.wstring (B b : Nat) (bs : List Value) (s : ByteArray) (w : World) (h : Lib.IsBuilderF 108 5 B b bs w) (hlen : bs.length + s.size ≤ 140737488355328) (hBw : B ≤ w.heap.size) :
  Calls Tryz.prog 128 #[.pointer (some ⟨b, 0, none⟩), .string s] w fun e w' => e = .returned (.tuple #[.int .i64 s.size, .nilIface]) ∧ (Lib.BuilderAtF 108 5 B b (.pointer (some ⟨b, 0, none⟩)) (bs ++ Lib.strCells s) w' ∧ Below B w w' ∧ Lib.OthersKept 5 (some b) w w') := Any.Builder_WriteString_k Tryz.wlays166 Tryz.wextra B b bs s w h hlen hBw
end Go.Proofs
/- THE CODE'S Name AND LabelName. Own work of the verifier. -/
namespace Go.Proofs.YtblkempemdlalaaGreatDoor.La
open Go.RowKit

theorem suf_any (l e : List UInt8) (hl : l.length ≤ 4611686018427387904) (w : World) :
  Calls Tryz.prog 98 #[.string ⟨l.toArray⟩, .string ⟨e.toArray⟩] w fun r w' => r = .returned (.bool (endsB l e)) ∧ w' = w := by
 have h := Tryz.strings_HasSuffix ⟨l.toArray⟩ ⟨e.toArray⟩ w (by show l.toArray.size ≤ _; rw [List.size_toArray]; omega)
 rw [← Lib.hasSuffix_of_drop] at h
 exact h
def preB (l p : List UInt8) : Bool := decide (p.length ≤ l.length) && (l.take p.length == p)
theorem pre_any (l p : List UInt8) (w : World) :
  Calls Tryz.prog 141 #[.string ⟨l.toArray⟩, .string ⟨p.toArray⟩] w fun r w' => r = .returned (.bool (preB l p)) ∧ w' = w := by
 have h := Tryz.strings_HasPrefix ⟨l.toArray⟩ ⟨p.toArray⟩ w
 rw [← Lib.hasPrefix_of_take] at h
 exact h
theorem cmp_ord : ∀ a b : List UInt8, Lib.compareBytes a b = ordE a b
 | [], [] => by rfl
 | [], b :: ys => by unfold ordE bltB; simp [Lib.compareBytes]
 | a :: xs, [] => by unfold ordE bltB; simp [Lib.compareBytes]
 | a :: xs, b :: ys => by
  rw [Lib.compareBytes]
  have ih := cmp_ord xs ys
  unfold ordE bltB at ih ⊢
  by_cases h1 : a < b
  ·rw [if_pos h1, if_pos (decide_eq_true (List.cons_lt_cons_iff.2 (Or.inl h1)))]
  ·rw [if_neg h1]
   by_cases h2 : b < a
   ·rw [if_pos h2, if_neg, if_pos (decide_eq_true (List.cons_lt_cons_iff.2 (Or.inl h2)))]
    intro h
    rcases List.cons_lt_cons_iff.1 (of_decide_eq_true h) with k | ⟨k, _⟩
    ·exact h1 k
    ·exact h1 (by rw [k] at h2; exact absurd h2 (UInt8.lt_irrefl _))
   ·rw [if_neg h2, ih]
    have e : a = b := UInt8.le_antisymm (UInt8.not_lt.1 h2) (UInt8.not_lt.1 h1)
    subst e
    simp
theorem cmp_any (a b : List UInt8) (w : World) :
  Calls Tryz.prog 151 #[.string ⟨a.toArray⟩, .string ⟨b.toArray⟩] w fun r w' => r = .returned (.int .i64 (ordE a b)) ∧ w' = w := by
 have h := Tryz.strings_Compare ⟨a.toArray⟩ ⟨b.toArray⟩ w
 rw [cmp_ord] at h
 exact h
set_option maxHeartbeats 1000000 in
theorem cname_any (l : List UInt8) (hl : l.length ≤ 4611686018427387904) (w : World) :
  Calls Tryz.prog 67 #[.string ⟨l.toArray⟩] w fun r w' => r = .returned (.bool (nameB l)) ∧ w' = w := by
 have H1 : Hid _ := fun W => suf_any l [95, 98, 117, 99, 107, 101, 116] hl W
 have H2 : Hid _ := fun W => suf_any l [95, 115, 117, 109] hl W
 have H3 : Hid _ := fun W => suf_any l [95, 99, 111, 117, 110, 116] hl W
 have HW : Hid _ := fun W => word_any l true hl W
 have hN : nameB l = (plainB true l && !(endsB l [95, 98, 117, 99, 107, 101, 116] || endsB l [95, 115, 117, 109] || endsB l [95, 99, 111, 117, 110, 116])) := by
  unfold nameB
  cases plainB true l <;> cases endsB l [95, 98, 117, 99, 107, 101, 116] <;> cases endsB l [95, 115, 117, 109] <;> cases endsB l [95, 99, 111, 117, 110, 116] <;> rfl
 rw [hN]
 clear hN
 unfold fv at HW
 generalize plainB true l = p at *
 generalize endsB l [95, 98, 117, 99, 107, 101, 116] = a at *
 generalize endsB l [95, 115, 117, 109] = b at *
 generalize endsB l [95, 99, 111, 117, 110, 116] = c at *
 cases p <;> cases a <;> cases b <;> cases c <;> as_aux_lemma =>
  go_enter Tryz.func67, Tryz.ntmps67
  go_wp2_with (first | (go_at_call 98; first | (with_reducible refine (H1.out _).mono ?_; rintro e1 w1 ⟨rfl, rfl⟩) | (with_reducible refine (H2.out _).mono ?_; rintro e1 w1 ⟨rfl, rfl⟩) | (with_reducible refine (H3.out _).mono ?_; rintro e1 w1 ⟨rfl, rfl⟩)) | (go_at_call 99; refine (HW.out _).mono ?_; rintro e1 w1 ⟨rfl, rfl⟩))
  go_ret
  exact ⟨rfl, rfl⟩
set_option maxHeartbeats 1000000 in
theorem clname_any (l : List UInt8) (hl : l.length ≤ 4611686018427387904) (w : World) :
  Calls Tryz.prog 102 #[.string ⟨l.toArray⟩] w fun r w' => r = .returned (.bool (lnameB l)) ∧ w' = w := by
 have H1 : Hid _ := fun W => pre_any l [95, 95] W
 have HW : Hid _ := fun W => word_any l false hl W
 have hN : lnameB l = (plainB false l && !((l == [108, 101]) || (l == [113, 117, 97, 110, 116, 105, 108, 101]) || preB l [95, 95])) := by
  unfold lnameB preB
  show _ = (plainB false l && !((l == [108, 101]) || (l == [113, 117, 97, 110, 116, 105, 108, 101]) || (decide (2 ≤ l.length) && (l.take 2 == [95, 95]))))
  cases plainB false l <;> cases (l == [108, 101]) <;> cases (l == [113, 117, 97, 110, 116, 105, 108, 101]) <;> cases (decide (2 ≤ l.length) && (l.take 2 == [95, 95])) <;> rfl
 rw [hN]
 clear hN
 unfold fv at HW
 generalize plainB false l = p at *
 generalize preB l [95, 95] = c at *
 cases h1 : (l == [108, 101]) <;> cases h2 : (l == [113, 117, 97, 110, 116, 105, 108, 101]) <;> cases p <;> cases c <;> as_aux_lemma =>
  go_enter Tryz.func102, Tryz.ntmps102
  go_wp2_with (first | (go_at_call 141; refine (H1.out _).mono ?_; rintro e1 w1 ⟨rfl, rfl⟩) | (go_at_call 99; refine (HW.out _).mono ?_; rintro e1 w1 ⟨rfl, rfl⟩))
  go_ret
  exact ⟨rfl, rfl⟩
end Go.Proofs.YtblkempemdlalaaGreatDoor.La
