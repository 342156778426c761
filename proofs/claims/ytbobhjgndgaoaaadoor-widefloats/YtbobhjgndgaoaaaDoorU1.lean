/- THE DOCUMENT's TEXTS: the magnitude, and its tenth. Own work of the verifier. -/
import Derived.Test.YtbobhjgndgaoaaaDoorT8
import Derived.Test.YtbobhjgndgaoaaaDoorT4
import Derived.Handy
import Derived.LoopN
namespace Go.Proofs.YtbobhjgndgaoaaaDoor
open Go.RowKit Go.Sort

set_option maxHeartbeats 400000 in
theorem size_any (ah al : Int) (h1 : Wf ah al) (w : World) :
    Calls Tryd.prog 41 #[.agg #[.int .i64 ah, .int .u64 al]] w fun e w' =>
      e = .returned (.tuple #[.int .u64 (hiOf (mag (val ah al))), .int .u64 (loOf (mag (val ah al)))]) ∧ Below w.heap.size w w' := by
  by_cases hn : 0 ≤ ah
  · obtain ⟨e1, e2⟩ := mag_words h1 hn
    rw [← e1, ← e2]
    clear e1 e2
    obtain ⟨a1, a2, a3, a4⟩ := h1
    go_enter Tryd.func41, Tryd.ntmps41
    go_wp2
    go_quiet (fail)
    go_wp2
    go_ret2
    exact ⟨rfl, Below.drewN' (bel1 w _) _⟩
  · obtain ⟨e1, e2⟩ := mag_words' h1 (by omega)
    rw [← e1, ← e2]
    clear e1 e2
    have hn' : ah < 0 := by omega
    go_enter Tryd.func41, Tryd.ntmps41
    go_wp2_with fail
    refine (refneg_any _ _ h1 _).mono ?_
    rintro e w1 ⟨rfl, hb⟩
    obtain ⟨hc, hf⟩ := bcell hb
    have hz : w.heap.size < w1.heap.size := by have := hb.size; simp at this; omega
    go_wp2
    go_quiet (fail)
    go_wp2
    go_ret2
    exact ⟨rfl, Below.drewN' ((((bel1 w _).trans (hb.mono (by simp))).setCell (by simp) _).setCell (by simp) _) _⟩

set_option maxHeartbeats 2000000 in
set_option maxRecDepth 100000 in
theorem tenth_w (a b p0 p1 p2 p3 : Int) (e0 : a / 4294967296 = p0) (e1 : bits .and .u64 a 4294967295 = p1) (e2 : b / 4294967296 = p2) (e3 : bits .and .u64 b 4294967295 = p3)
    (z00 : 0 ≤ p0) (z01 : p0 < 4294967296) (z10 : 0 ≤ p1) (z11 : p1 < 4294967296) (z20 : 0 ≤ p2) (z21 : p2 < 4294967296) (z30 : 0 ≤ p3) (z31 : p3 < 4294967296) (w : World) :
    Calls Tryd.prog 42 #[.int .u64 a, .int .u64 b] w fun e w' =>
      e = .returned (.tuple #[.int .u64 (p0 / 10 * 4294967296 + (p0 % 10 * 4294967296 + p1) / 10), .int .u64 (((p0 % 10 * 4294967296 + p1) % 10 * 4294967296 + p2) / 10 * 4294967296 + (((p0 % 10 * 4294967296 + p1) % 10 * 4294967296 + p2) % 10 * 4294967296 + p3) / 10), .int .u64 ((((p0 % 10 * 4294967296 + p1) % 10 * 4294967296 + p2) % 10 * 4294967296 + p3) % 10)]) ∧ Below w.heap.size w w' := by
  go_enter Tryd.func42, Tryd.ntmps42
  go_wp2
  go_rounds 5
  go_quiet (fail)
  go_wp2
  go_ret3
  exact ⟨rfl, Below.drewN' (bel1 _ _) _⟩
theorem tenth_math {N p0 p1 p2 p3 : Int} (hN : N = ((p0 * 4294967296 + p1) * 4294967296 + p2) * 4294967296 + p3) (z10 : 0 ≤ p1) (z11 : p1 < 4294967296) (z20 : 0 ≤ p2) (z21 : p2 < 4294967296) (z30 : 0 ≤ p3) (z31 : p3 < 4294967296) :
    p0 / 10 * 4294967296 + (p0 % 10 * 4294967296 + p1) / 10 = hiOf (N / 10) ∧ ((p0 % 10 * 4294967296 + p1) % 10 * 4294967296 + p2) / 10 * 4294967296 + (((p0 % 10 * 4294967296 + p1) % 10 * 4294967296 + p2) % 10 * 4294967296 + p3) / 10 = loOf (N / 10) ∧
    (((p0 % 10 * 4294967296 + p1) % 10 * 4294967296 + p2) % 10 * 4294967296 + p3) % 10 = N % 10 := by
  unfold hiOf loOf
  generalize h0 : p0 / 10 = q0
  generalize g0 : p0 % 10 = r0
  generalize h1 : (r0 * 4294967296 + p1) / 10 = q1
  generalize g1 : (r0 * 4294967296 + p1) % 10 = r1
  generalize h2 : (r1 * 4294967296 + p2) / 10 = q2
  generalize g2 : (r1 * 4294967296 + p2) % 10 = r2
  generalize h3 : (r2 * 4294967296 + p3) / 10 = q3
  generalize g3 : (r2 * 4294967296 + p3) % 10 = r3
  have e : N = (((q0 * 4294967296 + q1) * 4294967296 + q2) * 4294967296 + q3) * 10 + r3 := by omega
  have b : 0 ≤ q1 ∧ q1 < 4294967296 ∧ 0 ≤ q2 ∧ q2 < 4294967296 ∧ 0 ≤ q3 ∧ q3 < 4294967296 ∧ 0 ≤ r3 ∧ r3 < 10 := by omega
  clear hN h0 g0 h1 g1 h2 g2 h3 g3
  omega
/-- A magnitude, divided by ten, and the rest. -/
theorem tenth_any (N : Int) (h0 : 0 ≤ N) (h1 : N < 340282366920938463463374607431768211456) (w : World) :
    Calls Tryd.prog 42 #[.int .u64 (hiOf N), .int .u64 (loOf N)] w fun e w' =>
      e = .returned (.tuple #[.int .u64 (hiOf (N / 10)), .int .u64 (loOf (N / 10)), .int .u64 (N % 10)]) ∧ Below w.heap.size w w' := by
  have a0 : 0 ≤ hiOf N := by unfold hiOf; omega
  have a1 : hiOf N < 18446744073709551616 := by unfold hiOf; omega
  have b0 : 0 ≤ loOf N := by unfold loOf; omega
  have b1 : loOf N < 18446744073709551616 := by unfold loOf; omega
  have hN : N = hiOf N * 18446744073709551616 + loOf N := (val_hl N).symm
  generalize hiOf N = a at *
  generalize loOf N = b at *
  obtain ⟨t1, t2, t3⟩ := tenth_math (N := N) (p0 := a / 4294967296) (p1 := a % 4294967296) (p2 := b / 4294967296) (p3 := b % 4294967296) (by omega) (by omega) (by omega) (by omega) (by omega) (by omega) (by omega)
  have h := tenth_w a b _ _ _ _ rfl (low32 a a0 a1) rfl (low32 b b0 b1) (by omega) (by omega) (by omega) (by omega) (by omega) (by omega) (by omega) (by omega) w
  rw [t1, t2, t3] at h
  exact h
end Go.Proofs.YtbobhjgndgaoaaaDoor
