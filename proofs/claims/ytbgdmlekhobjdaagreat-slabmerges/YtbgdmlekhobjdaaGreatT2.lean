/- Own work of the verifier. -/
import Derived.Test.YtbgdmlekhobjdaaGreatLeaf
import Derived.Laws.Bits64
import Derived.Lib.Zigzag
namespace Go.Proofs.YtbgdmlekhobjdaaGreat
open Go.RowKit

theorem refadd_lo {ah al bh bl : Int} (h1 : Wf ah al) (h2 : Wf bh bl) (h : IntKind.u64.wrap (al + bl) < al) : wrap64 (IntKind.u64.wrap (IntKind.u64.wrap (IntKind.u64.wrap ah + IntKind.u64.wrap bh) + 1)) = hiOf (rnd (val ah al + val bh bl)) ∧ IntKind.u64.wrap (al + bl) = loOf (rnd (val ah al + val bh bl)) := by
  obtain ⟨_, _, _, _⟩ := h1; obtain ⟨_, _, _, _⟩ := h2
  simp only [IntKind.wrap_u64] at *
  unfold wrap64 hiOf loOf rnd val; constructor <;> omega
theorem refadd_hi {ah al bh bl : Int} (h1 : Wf ah al) (h2 : Wf bh bl) (h : ¬ IntKind.u64.wrap (al + bl) < al) : wrap64 (IntKind.u64.wrap (IntKind.u64.wrap ah + IntKind.u64.wrap bh)) = hiOf (rnd (val ah al + val bh bl)) ∧ IntKind.u64.wrap (al + bl) = loOf (rnd (val ah al + val bh bl)) := by
  obtain ⟨_, _, _, _⟩ := h1; obtain ⟨_, _, _, _⟩ := h2
  simp only [IntKind.wrap_u64] at *
  unfold wrap64 hiOf loOf rnd val; constructor <;> omega
set_option maxHeartbeats 400000 in
theorem refadd_any (ah al bh bl : Int) (h1 : Wf ah al) (h2 : Wf bh bl) (w : World) :
    Calls Tryz.prog 25 #[.agg #[.int .i64 ah, .int .u64 al], .agg #[.int .i64 bh, .int .u64 bl]] w fun e w' =>
      e = .returned (num (rnd (val ah al + val bh bl))) ∧ Below w.heap.size w w' := by
  by_cases hc : IntKind.u64.wrap (al + bl) < al
  · rw [num_of (refadd_lo h1 h2 hc)]
    obtain ⟨a1, a2, a3, a4⟩ := h1; obtain ⟨b1, b2, b3, b4⟩ := h2
    go_enter Tryz.func25, Tryz.ntmps25
    go_wp2
    simp [bodyPost, results, Tryz.results25, go_sem]
    exact bel3 _ _ _ _
  · rw [num_of (refadd_hi h1 h2 hc)]
    obtain ⟨a1, a2, a3, a4⟩ := h1; obtain ⟨b1, b2, b3, b4⟩ := h2
    go_enter Tryz.func25, Tryz.ntmps25
    go_wp2
    simp [bodyPost, results, Tryz.results25, go_sem]
    exact bel3 _ _ _ _

theorem not_u64 (x : Int) (h0 : 0 ≤ x) (h1 : x < 18446744073709551616) : bits .xor .u64 IntKind.u64.max x = 18446744073709551615 - x := by
  obtain ⟨n, rfl⟩ := Int.eq_ofNat_of_zero_le h0
  have := bits_xor_u64_nat 18446744073709551615 n (by decide) (by omega)
  have e := Lib.xor_ones64 n (by omega)
  rw [show IntKind.u64.max = ((18446744073709551615 : Nat) : Int) from by decide, this, show (18446744073709551615 : Nat) = 2 ^ 64 - 1 from by decide, e]
  omega
theorem not_u64' (x : Int) (h0 : 0 ≤ x) (h1 : x < 18446744073709551616) : bits .xor .u64 (if IntKind.u64.signed = true then -1 else IntKind.u64.max) x = 18446744073709551615 - x := by
  rw [if_neg (by decide)]; exact not_u64 x h0 h1
def nlo (al : Int) : Int := IntKind.u64.wrap (18446744073709551615 - al + 1)
def nhi (ah : Int) : Int := 18446744073709551615 - IntKind.u64.wrap ah
theorem neg_words0 {ah al : Int} (h1 : Wf ah al) (h : al = 0) : wrap64 (IntKind.u64.wrap (18446744073709551615 - IntKind.u64.wrap ah + 1)) = hiOf (rnd (- val ah al)) ∧ 0 = loOf (rnd (- val ah al)) := by
  obtain ⟨_, _, _, _⟩ := h1
  simp only [IntKind.wrap_u64] at *
  unfold wrap64 hiOf loOf rnd val; constructor <;> omega
theorem neg_words1 {ah al : Int} (h1 : Wf ah al) (h : ¬ al = 0) : wrap64 (18446744073709551615 - IntKind.u64.wrap ah) = hiOf (rnd (- val ah al)) ∧ 18446744073709551615 - al + 1 = loOf (rnd (- val ah al)) := by
  obtain ⟨_, _, _, _⟩ := h1
  simp only [IntKind.wrap_u64] at *
  unfold wrap64 hiOf loOf rnd val; constructor <;> omega
theorem of_words {n : Int} (h1 : -9223372036854775808 ≤ n) (h2 : n ≤ 9223372036854775807) : n / 9223372036854775808 = hiOf n ∧ IntKind.u64.wrap n = loOf n := by
  rw [IntKind.wrap_u64]; unfold hiOf loOf; constructor <;> omega
set_option maxHeartbeats 400000 in
theorem uns_any (n : Int) (h1 : 0 ≤ n) (h2 : n < 18446744073709551616) (w : World) :
    Calls Tryz.prog 83 #[.int .u64 n] w fun e w' => e = .returned (num n) ∧ Below w.heap.size w w' := by
  rw [num_of (h := 0) (l := n) (by unfold hiOf loOf; constructor <;> omega)]
  go_enter Tryz.func83, Tryz.ntmps83
  go_wp2
  simp [bodyPost, results, Tryz.results83, go_sem]
  exact bel1 _ _
end Go.Proofs.YtbgdmlekhobjdaaGreat
