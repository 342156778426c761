/- HOW NEAR A FLOAT IS TO AN EXACT SUM, the document's. Own work of the verifier. -/
import Derived.Test.YtdlaloakochfeaaB8
namespace Go.Proofs.Ytdlaloakochfeaa
open Go.RowKit Soft

def Sk (K N : Nat) : Prop := N < 4294967296 ^ K
theorem Sk.sh {K N : Nat} (h : Sk K N) (hK : K ≤ 1000) : Sh N := ⟨K, hK, h⟩
theorem Sk.mono {K J N : Nat} (h : Sk K N) (hK : K ≤ J) : Sk J N := Nat.lt_of_lt_of_le h (Nat.pow_le_pow_right (by decide) hK)
theorem Sk.add {K P Q : Nat} (h : Sk K P) (k : Sk K Q) : Sk (K + 1) (P + Q) := by
  unfold Sk at *
  rw [Nat.pow_succ]
  generalize 4294967296 ^ K = B at *
  omega
theorem Sk.le {K P Q : Nat} (h : Sk K P) (k : Q ≤ P) : Sk K Q := Nat.lt_of_le_of_lt k h
theorem Sk.mul {K J P m : Nat} (h : Sk K P) (k : Sk J m) : Sk (K + J) (P * m) := by
  unfold Sk at *
  rw [Nat.pow_add]
  rcases Nat.eq_zero_or_pos m with c | c
  · subst c
    rw [Nat.mul_zero]
    exact Nat.mul_pos (Nat.pow_pos (by decide)) (Nat.pow_pos (by decide))
  · exact Nat.lt_of_lt_of_le (Nat.mul_lt_mul_of_pos_right h c) (Nat.mul_le_mul_left _ (Nat.le_of_lt k))
/-- How far two numbers lie apart. -/
def ap (P Q : Nat) : Nat := (P - Q) + (Q - P)
theorem Sk.ap {K P Q : Nat} (h : Sk K P) (k : Sk K Q) : Sk K (ap P Q) := by
  unfold Sk Go.Proofs.Ytdlaloakochfeaa.ap at *
  omega
theorem plus_v {w : World} {a c : Value} {P Q : Nat} (h : BigAt w a P) (k : BigAt w c Q) (hP : Sh P) (hQ : Sh Q) :
    Calls Try.prog 20 #[a, c] w fun e w' => ∃ v, e = .returned v ∧ Below w.heap.size w w' ∧ BigAt w' v (P + Q) := by
  obtain ⟨ao, b, o, cap, L, rfl, h2, rfl, h4⟩ := h
  obtain ⟨ao', b', o', cap', L', rfl, k2, rfl, k4⟩ := k
  exact plus_rows ao b o cap L ao' b' o' cap' L' w h2 k2 (by have := hP.len h4 rfl; omega) (by have := hQ.len k4 rfl; omega)
theorem apart_v {w : World} {a c : Value} {P Q : Nat} (h : BigAt w a P) (k : BigAt w c Q) (hP : Sh P) (hQ : Sh Q) :
    Calls Try.prog 22 #[a, c] w fun e w' => ∃ v, e = .returned v ∧ Below w.heap.size w w' ∧ BigAt w' v (ap P Q) := by
  obtain ⟨ao, b, o, cap, L, rfl, h2, rfl, h4⟩ := h
  obtain ⟨ao', b', o', cap', L', rfl, k2, rfl, k4⟩ := k
  have l1 := hP.len h4 rfl
  have l2 := hQ.len k4 rfl
  rcases Nat.lt_or_ge (bv L) (bv L') with c | c
  · have := apart_lt ao' b' o' cap' L' ao b o cap L w k2 h2 k4 h4 (by omega) (by omega) c
    rw [show bv L' - bv L = ap (bv L) (bv L') from by unfold ap; omega] at this
    exact this
  · have := apart_ge ao b o cap L ao' b' o' cap' L' w h2 k2 h4 k4 (by omega) (by omega) c
    rw [show bv L - bv L' = ap (bv L) (bv L') from by unfold ap; omega] at this
    exact this
theorem greater_v {w : World} {a c : Value} {P Q : Nat} (h : BigAt w a P) (k : BigAt w c Q) (hP : Sh P) (hQ : Sh Q) :
    Calls Try.prog 26 #[a, c] w fun e w' => e = .returned (.bool (decide (Q < P))) ∧ ∃ m, w' = w.drewN m := by
  obtain ⟨ao, b, o, cap, L, rfl, h2, rfl, h4⟩ := h
  obtain ⟨ao', b', o', cap', L', rfl, k2, rfl, k4⟩ := k
  exact greater_rows ao b o cap L ao' b' o' cap' L' w h2 k2 h4 k4 (by have := hP.len h4 rfl; omega) (by have := hQ.len k4 rfl; omega)
theorem times_v {w : World} {a : Value} {P n : Nat} (h : BigAt w a P) (hP : Sh P) (hn : n < 4294967296) :
    Calls Try.prog 24 #[a, .int .u32 (n : Int)] w fun e w' => ∃ v, e = .returned v ∧ Below w.heap.size w w' ∧ BigAt w' v (P * n) := by
  obtain ⟨ao, b, o, cap, L, rfl, h2, rfl, h4⟩ := h
  refine (times_rows ao b o cap L n hn w h2 (by have := hP.len h4 rfl; omega)).mono ?_
  rintro e w' ⟨v, rfl, h5, h6⟩
  exact ⟨v, rfl, h5, h6.big⟩
theorem by_v {w : World} {a : Value} {P n : Nat} (h : BigAt w a P) (hP : Sh P) (hn : n < 18446744073709551616) :
    Calls Try.prog 23 #[a, .int .u64 (n : Int)] w fun e w' => ∃ v, e = .returned v ∧ Below w.heap.size w w' ∧ BigAt w' v (P * n) := by
  obtain ⟨ao, b, o, cap, L, rfl, h2, rfl, h4⟩ := h
  exact by_rows ao b o cap L n hn w h2 (by have := hP.len h4 rfl; omega)
theorem up_v {w : World} {a : Value} {P : Nat} (h : BigAt w a P) (hP : Sh P) (q r : Nat) (k : Int) (hk : ((32 * q + r : Nat) : Int) = k) (hq : q ≤ 100) (hr : r < 32) :
    Calls Try.prog 25 #[a, .int .i64 k] w fun e w' => ∃ v, e = .returned v ∧ Below w.heap.size w w' ∧ BigAt w' v (P * 2 ^ (32 * q + r)) := by
  obtain ⟨ao, b, o, cap, L, rfl, h2, rfl, h4⟩ := h
  refine (up_lit h2 q r k hk hq hr (by have := hP.len h4 rfl; omega)).mono ?_
  rintro e w' ⟨v, rfl, h5, h6⟩
  exact ⟨v, rfl, h5, h6.big⟩
/-- What a word adds above 0, and below it. -/
def pv (x : Nat) : Nat := if x < 9223372036854775808 then uV x else 0
def nv (x : Nat) : Nat := if x < 9223372036854775808 then 0 else uV (x - 9223372036854775808)
theorem vw_pn (x : Nat) : vw x = (pv x : Int) - (nv x : Int) := by
  unfold vw pv nv
  by_cases h : x < 9223372036854775808
  · rw [if_pos h, if_pos h, if_pos h]; generalize uV x = V; omega
  · rw [if_neg h, if_neg h, if_neg h]; generalize uV (x - 9223372036854775808) = V; omega
theorem abs_pn (x : Nat) : (vw x).natAbs = pv x + nv x := by
  unfold vw pv nv
  by_cases h : x < 9223372036854775808
  · rw [if_pos h, if_pos h, if_pos h]; generalize uV x = V; omega
  · rw [if_neg h, if_neg h, if_neg h]; generalize uV (x - 9223372036854775808) = V; omega
theorem put_v (g : Nat) (x : Nat) (hx : x < 18446744073709551616) (w : World) (P N : Nat) (h : ExAt w g P N) (hP : Sh P) (hN : Sh N) (hV : Sh (vw x).natAbs) :
    Calls Try.prog 10 #[.pointer (some ⟨g, 0, none⟩), .int .u64 (x : Int)] w fun e w' => e = .returned (.tuple #[]) ∧ ExAt w' g (P + pv x) (N + nv x) ∧ Exc g w w' := by
  rw [abs_pn] at hV
  unfold pv nv at *
  by_cases c : x < 9223372036854775808
  · rw [if_pos c, if_pos c] at *
    exact put_above g x c w P N h hP hV
  · rw [if_neg c, if_neg c] at *
    rw [Nat.zero_add] at hV
    exact put_below g x (by omega) hx w P N h hN hV
end Go.Proofs.Ytdlaloakochfeaa
