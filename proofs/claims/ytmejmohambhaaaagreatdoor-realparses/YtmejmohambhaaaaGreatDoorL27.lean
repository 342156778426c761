/- FormatFloat AT EVERY FLOAT. Own work of the verifier. -/
import Derived.Test.YtmejmohambhaaaaGreatDoorL26
import Derived.Test.YtmejmohambhaaaaGreatDoorL23
import Derived.Test.YtmejmohambhaaaaGreatDoorL12
namespace Go.Proofs.YtmejmohambhaaaaGreatDoor
open Go.RowKit Go.Sort

def sgn (neg : Bool) : List UInt8 := if neg then [45] else []
/-- The bytes of digits without an exponent. -/
def fB (neg : Bool) (u k : Nat) (dp : Int) : List UInt8 :=
  if dp ≤ 0 then sgn neg ++ [48, 46] ++ List.replicate (-dp).toNat 48 ++ (Lib.decDigits u).take k
  else if (k : Int) ≤ dp then sgn neg ++ (Lib.decDigits u).take k ++ List.replicate (dp.toNat - k) 48
  else sgn neg ++ (Lib.decDigits u).take dp.toNat ++ [46] ++ ((Lib.decDigits u).take k).drop dp.toNat
theorem fB_txt (neg : Bool) (u k : Nat) (dp : Int) : asI (fB neg u k dp) = fTxt neg u k dp := by
  unfold fB fTxt sgn asI dI behind
  by_cases h : dp ≤ 0
  · rw [if_pos h, if_pos h]; cases neg <;> simp [List.map_take]
  · rw [if_neg h, if_neg h]
    by_cases h' : (k : Int) ≤ dp
    · rw [if_pos h', if_pos h']; cases neg <;> simp [List.map_take]
    · rw [if_neg h', if_neg h']; cases neg <;> simp [List.map_take, List.map_drop, dI]
/-- The bytes of an exponent as the library tells it. -/
def xDig (E : Nat) : List UInt8 := if E < 10 then [48, UInt8.ofNat (E + 48)] else if E < 100 then [UInt8.ofNat (E / 10 + 48), UInt8.ofNat (E % 10 + 48)] else [UInt8.ofNat (E / 100 + 48), UInt8.ofNat (E / 10 % 10 + 48), UInt8.ofNat (E % 10 + 48)]
def xTail (dp : Int) : List UInt8 := if dp - 1 < 0 then 45 :: xDig (1 - dp).toNat else 43 :: xDig (dp - 1).toNat
def eHead (neg : Bool) (u k : Nat) : List UInt8 := if k = 1 then sgn neg ++ [(Lib.decDigits u).getD 0 0] else sgn neg ++ [(Lib.decDigits u).getD 0 0, 46] ++ ((Lib.decDigits u).take k).drop 1
def eB (neg : Bool) (u k : Nat) (dp : Int) : List UInt8 := eHead neg u k ++ 101 :: xTail dp
theorem xDig_I : ∀ E < 400, asI (xDig E) = eDig E := by decide +kernel
theorem xTail_I (dp : Int) (h0 : -390 ≤ dp) (h1 : dp ≤ 390) : asI (101 :: xTail dp) = eTail dp := by
  unfold xTail eTail
  by_cases h : dp - 1 < 0
  · rw [if_pos h, if_pos h, ← xDig_I _ (by omega)]; rfl
  · rw [if_neg h, if_neg h, ← xDig_I _ (by omega)]; rfl
theorem first_I (u : Nat) : (dI u).getD 0 0 = (((Lib.decDigits u).getD 0 0).toNat : Int) := by
  unfold dI
  cases Lib.decDigits u <;> rfl
theorem eB_txt (neg : Bool) (u k : Nat) (dp : Int) (h0 : -390 ≤ dp) (h1 : dp ≤ 390) : asI (eB neg u k dp) = eTxt neg u k dp := by
  unfold eB eTxt
  rw [← xTail_I dp h0 h1, first_I]
  unfold eHead asI sgn mid dI
  by_cases h : k = 1
  · rw [if_pos h, if_pos h]; cases neg <;> simp
  · rw [if_neg h, if_neg h]; cases neg <;> simp [List.map_take]
/-- Where a float's point stands. -/
def pt (x : Nat) : Int := (Lib.nDigits (sd x).1 : Int) + (sd x).2
theorem sd_bounds (x : Nat) (h0 : x % 9223372036854775808 ≠ 0) (h1 : x % 9223372036854775808 < 9218868437227405312) : 1 ≤ (sd x).1 ∧ (sd x).1 < 288230376151711744 ∧ -350 ≤ (sd x).2 ∧ (sd x).2 ≤ 350 := by
  by_cases hs : x % 9223372036854775808 < 4503599627370496
  · obtain ⟨z, z1, z2, z3, z4, z5, z6, z7, z8⟩ := sub_bits (x % 4503599627370496) (by omega) (by omega)
    have hsd : sd x = shortF (x % 4503599627370496 * 2 ^ z) (-1074 - (z : Int)) := by unfold sd; rw [if_pos hs, z1]
    rw [hsd]
    exact short_between (x % 4503599627370496 * 2 ^ z) (-1074 - (z : Int)) z5 z6 (by omega) (fun _ => by rw [show (-1075 - (-1074 - (z : Int))).toNat = z - 1 from by omega]; exact z8) (by omega) (by omega)
  · have hsd : sd x = shortF ((4503599627370496 + x % 4503599627370496) * 2048) ((x / 4503599627370496 % 2048 : Nat) - 1086) := by unfold sd; rw [if_neg hs]
    rw [hsd]
    exact short_between ((4503599627370496 + x % 4503599627370496) * 2048) ((x / 4503599627370496 % 2048 : Nat) - 1086) (by omega) (by omega) (by omega) (by omega) (by omega) (by omega)
theorem pt_bounds (x : Nat) (h0 : x % 9223372036854775808 ≠ 0) (h1 : x % 9223372036854775808 < 9218868437227405312) : -390 ≤ pt x ∧ pt x ≤ 390 := by
  obtain ⟨a, b, c, d⟩ := sd_bounds x h0 h1
  have := Lib.nDigits_le20 (sd x).1 (by omega)
  unfold pt
  omega
/-- The text with an exponent, as the library tells it, of a finite float but 0. -/
noncomputable def eText (x : Nat) : List UInt8 := eB (decide (9223372036854775808 ≤ x)) (sd x).1 (trimLen (sd x).1) (pt x)
/-- The text without an exponent. -/
noncomputable def fText (x : Nat) : List UInt8 :=
  if x % 9223372036854775808 = 0 then (if 9223372036854775808 ≤ x then [45, 48] else [48])
  else if 9218868437227405312 < x % 9223372036854775808 then [78, 97, 78]
  else if x % 9223372036854775808 = 9218868437227405312 then (if 9223372036854775808 ≤ x then [45, 73, 110, 102] else [43, 73, 110, 102])
  else fB (decide (9223372036854775808 ≤ x)) (sd x).1 (trimLen (sd x).1) (pt x)
theorem Format_e (x : Nat) (hx : x < 18446744073709551616) (h0 : x % 9223372036854775808 ≠ 0) (h1 : x % 9223372036854775808 < 9218868437227405312) (w : World) (hGl : Glob w) :
    Calls Tryz.prog 19 #[.float .f64 x, .int .u8 101, .int .i64 (-1), .int .i64 64] w fun r w' => r = .returned (.string ⟨(eText x).toArray⟩) ∧ Below w.heap.size w w' := by
  refine Format_of x 101 (eText x) w hGl (fun v W hbuf hG => ?_)
  obtain ⟨p0, p1⟩ := pt_bounds x h0 h1
  unfold eText
  rw [eB_txt _ _ _ _ p0 p1]
  exact ftoaE_all x hx h0 h1 _ _ _ v hbuf hG
theorem Format_f (x : Nat) (hx : x < 18446744073709551616) (h0 : x % 9223372036854775808 = 0 ∨ 4503599627370496 ≤ x % 9223372036854775808) (w : World) (hGl : Glob w) :
    Calls Tryz.prog 19 #[.float .f64 x, .int .u8 102, .int .i64 (-1), .int .i64 64] w fun r w' => r = .returned (.string ⟨(fText x).toArray⟩) ∧ Below w.heap.size w w' := by
  refine Format_of x 102 (fText x) w hGl (fun v W hbuf hG => ?_)
  have n1 := neg_bit x hx
  have n2 := ex_field x hx
  have n3 := fr_field x hx
  by_cases c0 : x % 9223372036854775808 = 0
  · have := ftoaF_zero _ x _ _ _ v hbuf n1 (by rw [n2]; omega) (by rw [n3]; omega) hx
    rw [show asI (fText x) = (if decide (9223372036854775808 ≤ x) then [45, 48] else [48]) from by unfold fText; rw [if_pos c0]; by_cases hn : 9223372036854775808 ≤ x <;> simp [hn, asI]]
    exact this
  · by_cases c1 : x % 9223372036854775808 < 9218868437227405312
    · rw [show fText x = fB (decide (9223372036854775808 ≤ x)) (sd x).1 (trimLen (sd x).1) (pt x) from by unfold fText; rw [if_neg c0, if_neg (by omega), if_neg (by omega)], fB_txt]
      exact ftoaF_all x hx (by omega) c1 _ _ _ v hbuf hG
    · have := ftoaF_special _ (decide (9218868437227405312 < x % 9223372036854775808)) x (x % 4503599627370496) _ _ _ v hbuf n1 (by rw [n2]; omega) n3 (by
        by_cases hn : 9218868437227405312 < x % 9223372036854775808
        · rw [decide_eq_true hn, bne_iff_ne]; omega
        · rw [decide_eq_false hn, bne_eq_false_iff_eq]; omega) hx
      refine this.mono ?_
      rintro r w' ⟨v', o, e, hb⟩
      refine ⟨v', o, e, ?_⟩
      have he : asI (fText x) = (if decide (9218868437227405312 < x % 9223372036854775808) then [78, 97, 78] else if decide (9223372036854775808 ≤ x) then [45, 73, 110, 102] else [43, 73, 110, 102]) := by
        unfold fText
        rw [if_neg c0]
        by_cases hn : 9218868437227405312 < x % 9223372036854775808
        · simp [hn, asI]
        · rw [if_neg hn, if_pos (by omega)]
          by_cases hm : 9223372036854775808 ≤ x <;> simp [hn, hm, asI]
      rw [he]
      exact hb
end Go.Proofs.YtmejmohambhaaaaGreatDoor
