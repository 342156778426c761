/- THE MODEL's SUMS of floats, by whole numbers of the least units. Own work of the verifier. -/
import Derived.Test.YtdlaloakochfeaaSoftMath3
import Derived.Test.YtdlaloakochfeaaOrdMath
namespace Go.Proofs.Ytdlaloakochfeaa.Soft

theorem word_sw (neg : Bool) (r : Nat) : Ieee.double.word neg r = sw neg r := by
  unfold Ieee.Format.word sw
  rw [show Ieee.double.signWeight = 9223372036854775808 from by decide]
/-- The sum of two finite floats. -/
def addW (s t : Bool) (a b : Nat) : Nat := if sv s a + sv t b = 0 then sw (s && t) 0 else sw (decide (sv s a + sv t b < 0)) (nrung (sv s a + sv t b).natAbs)
theorem add_fin (s t : Bool) (a b : Nat) (ha : a < 9218868437227405312) (hb : b < 9218868437227405312) : Ieee.double.add (sw s a) (sw t b) = some (addW s t a b) := by
  unfold Ieee.Format.add
  rw [read_sw s a ha, read_sw t b hb]
  obtain ⟨c, h1, h2, hc⟩ : ∃ c : Nat, upOf a = (-1074 + (upOf a : Int) - min (-1074 + (upOf a : Int)) (-1074 + (upOf b : Int))).toNat + c ∧ upOf b = (-1074 + (upOf b : Int) - min (-1074 + (upOf a : Int)) (-1074 + (upOf b : Int))).toNat + c ∧ min (-1074 + (upOf a : Int)) (-1074 + (upOf b : Int)) = -1074 + (c : Int) :=
    ⟨min (upOf a) (upOf b), by omega, by omega, by omega⟩
  have e1 := sv_signed s a _ c h1
  have e2 := sv_signed t b _ c h2
  unfold Ieee.Datum.sum
  simp only
  rw [hc] at e1 e2 ⊢
  generalize Ieee.signed s (magOf a) (-1074 + (upOf a : Int) - (-1074 + (c : Int))).toNat = A at *
  generalize Ieee.signed t (magOf b) (-1074 + (upOf b : Int) - (-1074 + (c : Int))).toNat = B at *
  have hp : (0 : Int) < ((2 ^ c : Nat) : Int) := by have := pow_pos' c; omega
  have eT : sv s a + sv t b = (A + B) * ((2 ^ c : Nat) : Int) := by rw [e1, e2, Int.add_mul]
  unfold addW
  rw [eT]
  show some (Ieee.double.write _) = _
  congr 1
  by_cases hz : A + B = 0
  · rw [if_pos hz, hz, Int.zero_mul, if_pos rfl]
    show Ieee.double.nearest _ 0 _ = _
    unfold Ieee.Format.nearest
    rw [if_pos rfl, word_sw]
  · have hz' : (A + B) * ((2 ^ c : Nat) : Int) ≠ 0 := Int.mul_ne_zero hz (by omega)
    rw [if_neg hz, if_neg hz']
    show Ieee.double.nearest _ (A + B).natAbs _ = _
    have hn : (A + B).natAbs ≠ 0 := by omega
    rw [nearest_rung _ _ c hn, word_sw, Int.natAbs_mul, Int.natAbs_natCast]
    congr 1
    have : (A + B < 0) ↔ ((A + B) * ((2 ^ c : Nat) : Int) < 0) := by
      constructor
      · intro h; exact Int.mul_neg_of_neg_of_pos h hp
      · intro h
        by_cases k : A + B < 0
        · exact k
        · have := Int.mul_nonneg (show 0 ≤ A + B by omega) (Int.le_of_lt hp); omega
    exact decide_eq_decide.2 this
theorem add_comm' (s t : Bool) (a b : Nat) : addW s t a b = addW t s b a := by
  unfold addW
  rw [Int.add_comm, Bool.and_comm]
end Go.Proofs.Ytdlaloakochfeaa.Soft
