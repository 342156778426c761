import Derived.Test.YtbobhjgndgaoaaaDoorLeaf
import Derived.Laws.Bits64
import Derived.Lib.Zigzag
namespace Go.Proofs.YtbobhjgndgaoaaaDoor
open Go.RowKit

theorem refadd_lo {ah al bh bl : Int} (h1 : Wf ah al) (h2 : Wf bh bl) (h : IntKind.u64.wrap (al + bl) < al) : wrap64 (IntKind.u64.wrap (IntKind.u64.wrap (IntKind.u64.wrap ah + IntKind.u64.wrap bh) + 1)) = hiOf (rnd (val ah al + val bh bl)) ∧ IntKind.u64.wrap (al + bl) = loOf (rnd (val ah al + val bh bl)) := by
  obtain ⟨_, _, _, _⟩ := h1; obtain ⟨_, _, _, _⟩ := h2
  simp only [IntKind.wrap_u64] at *
  unfold wrap64 hiOf loOf rnd val; constructor <;> omega
theorem refadd_hi {ah al bh bl : Int} (h1 : Wf ah al) (h2 : Wf bh bl) (h : ¬ IntKind.u64.wrap (al + bl) < al) : wrap64 (IntKind.u64.wrap (IntKind.u64.wrap ah + IntKind.u64.wrap bh)) = hiOf (rnd (val ah al + val bh bl)) ∧ IntKind.u64.wrap (al + bl) = loOf (rnd (val ah al + val bh bl)) := by
  obtain ⟨_, _, _, _⟩ := h1; obtain ⟨_, _, _, _⟩ := h2
  simp only [IntKind.wrap_u64] at *
  unfold wrap64 hiOf loOf rnd val; constructor <;> omega
set_option maxHeartbeats 400000 in
theorem refadd_any (ah al bh bl : Int) (h1 : Wf ah al) (h2 : Wf bh bl) (w : World) :
    Calls Tryd.prog 11 #[.agg #[.int .i64 ah, .int .u64 al], .agg #[.int .i64 bh, .int .u64 bl]] w fun e w' =>
      e = .returned (num (rnd (val ah al + val bh bl))) ∧ Below w.heap.size w w' := by
  by_cases hc : IntKind.u64.wrap (al + bl) < al
  · rw [num_of (refadd_lo h1 h2 hc)]
    obtain ⟨a1, a2, a3, a4⟩ := h1; obtain ⟨b1, b2, b3, b4⟩ := h2
    go_enter Tryd.func11, Tryd.ntmps11
    go_wp2
    simp [bodyPost, results, Tryd.results11, go_sem]
    exact bel3 _ _ _ _
  · rw [num_of (refadd_hi h1 h2 hc)]
    obtain ⟨a1, a2, a3, a4⟩ := h1; obtain ⟨b1, b2, b3, b4⟩ := h2
    go_enter Tryd.func11, Tryd.ntmps11
    go_wp2
    simp [bodyPost, results, Tryd.results11, go_sem]
    exact bel3 _ _ _ _

theorem not_u64 (x : Int) (h0 : 0 ≤ x) (h1 : x < 18446744073709551616) : bits .xor .u64 IntKind.u64.max x = 18446744073709551615 - x := by
  obtain ⟨n, rfl⟩ := Int.eq_ofNat_of_zero_le h0
  have := bits_xor_u64_nat 18446744073709551615 n (by decide) (by omega)
  have e := Lib.xor_ones64 n (by omega)
  rw [show IntKind.u64.max = ((18446744073709551615 : Nat) : Int) from by decide, this, show (18446744073709551615 : Nat) = 2 ^ 64 - 1 from by decide, e]
  omega
theorem not_u64' (x : Int) (h0 : 0 ≤ x) (h1 : x < 18446744073709551616) : bits .xor .u64 (if IntKind.u64.signed = true then -1 else IntKind.u64.max) x = 18446744073709551615 - x := by
  rw [if_neg (by decide)]; exact not_u64 x h0 h1
def nlo (al : Int) : Int := IntKind.u64.wrap (18446744073709551615 - al + 1)
def nhi (ah : Int) : Int := 18446744073709551615 - IntKind.u64.wrap ah
theorem neg_words0 {ah al : Int} (h1 : Wf ah al) (h : al = 0) : wrap64 (IntKind.u64.wrap (18446744073709551615 - IntKind.u64.wrap ah + 1)) = hiOf (rnd (- val ah al)) ∧ 0 = loOf (rnd (- val ah al)) := by
  obtain ⟨_, _, _, _⟩ := h1
  simp only [IntKind.wrap_u64] at *
  unfold wrap64 hiOf loOf rnd val; constructor <;> omega
theorem neg_words1 {ah al : Int} (h1 : Wf ah al) (h : ¬ al = 0) : wrap64 (18446744073709551615 - IntKind.u64.wrap ah) = hiOf (rnd (- val ah al)) ∧ 18446744073709551615 - al + 1 = loOf (rnd (- val ah al)) := by
  obtain ⟨_, _, _, _⟩ := h1
  simp only [IntKind.wrap_u64] at *
  unfold wrap64 hiOf loOf rnd val; constructor <;> omega
set_option maxHeartbeats 400000 in
theorem refneg_any (ah al : Int) (h1 : Wf ah al) (w : World) :
    Calls Tryd.prog 15 #[.agg #[.int .i64 ah, .int .u64 al]] w fun e w' =>
      e = .returned (num (rnd (- val ah al))) ∧ Below w.heap.size w w' := by
  have hw : 0 ≤ IntKind.u64.wrap ah ∧ IntKind.u64.wrap ah < 18446744073709551616 := by rw [IntKind.wrap_u64]; omega
  obtain ⟨hw1, hw2⟩ := hw
  have x1 := not_u64' al h1.l0 h1.l1
  have x2 := not_u64' (IntKind.u64.wrap ah) hw1 hw2
  by_cases hc : al = 0
  · rw [num_of (neg_words0 h1 hc)]
    subst hc
    obtain ⟨a1, a2, a3, a4⟩ := h1
    go_enter Tryd.func15, Tryd.ntmps15
    go_wp2
    simp [bodyPost, results, Tryd.results15, go_sem]
    exact ⟨by rw [IntKind.wrap_u64]; decide, bel2 _ _ _⟩
  · rw [num_of (neg_words1 h1 hc)]
    have hz : (IntKind.u64.wrap (18446744073709551615 - al + 1) == 0) = false := by
      obtain ⟨_, _, _, _⟩ := h1
      rw [beq_eq_false_iff_ne, IntKind.wrap_u64]; omega
    obtain ⟨a1, a2, a3, a4⟩ := h1
    go_enter Tryd.func15, Tryd.ntmps15
    go_wp2
    simp [bodyPost, results, Tryd.results15, go_sem]
    exact bel2 _ _ _
theorem of_words {n : Int} (h1 : -9223372036854775808 ≤ n) (h2 : n ≤ 9223372036854775807) : n / 9223372036854775808 = hiOf n ∧ IntKind.u64.wrap n = loOf n := by
  rw [IntKind.wrap_u64]; unfold hiOf loOf; constructor <;> omega
set_option maxHeartbeats 400000 in
theorem of_any (n : Int) (h1 : -9223372036854775808 ≤ n) (h2 : n ≤ 9223372036854775807) (w : World) :
    Calls Tryd.prog 20 #[.int .i64 n] w fun e w' => e = .returned (num n) ∧ Below w.heap.size w w' := by
  rw [num_of (of_words h1 h2)]
  go_enter Tryd.func20, Tryd.ntmps20
  go_wp2
  simp [bodyPost, results, Tryd.results20, go_sem]
  exact bel1 _ _
set_option maxHeartbeats 400000 in
theorem refof_any (n : Int) (h1 : -9223372036854775808 ≤ n) (h2 : n ≤ 9223372036854775807) (w : World) :
    Calls Tryd.prog 21 #[.int .i64 n] w fun e w' => e = .returned (num n) ∧ Below w.heap.size w w' := by
  by_cases hc : n < 0
  · rw [num_of (h := -1) (l := IntKind.u64.wrap n) (by rw [IntKind.wrap_u64]; unfold hiOf loOf; constructor <;> omega)]
    go_enter Tryd.func21, Tryd.ntmps21
    go_wp2
    simp [bodyPost, results, Tryd.results21, go_sem]
    exact bel1 _ _
  · rw [num_of (h := 0) (l := n) (by unfold hiOf loOf; constructor <;> omega)]
    have hn : 0 ≤ n := by omega
    go_enter Tryd.func21, Tryd.ntmps21
    go_wp2
    simp [bodyPost, results, Tryd.results21, go_sem]
    exact bel1 _ _
set_option maxHeartbeats 400000 in
theorem uns_any (n : Int) (h1 : 0 ≤ n) (h2 : n < 18446744073709551616) (w : World) :
    Calls Tryd.prog 22 #[.int .u64 n] w fun e w' => e = .returned (num n) ∧ Below w.heap.size w w' := by
  rw [num_of (h := 0) (l := n) (by unfold hiOf loOf; constructor <;> omega)]
  go_enter Tryd.func22, Tryd.ntmps22
  go_wp2
  simp [bodyPost, results, Tryd.results22, go_sem]
  exact bel1 _ _
set_option maxHeartbeats 400000 in
theorem refuns_any (n : Int) (h1 : 0 ≤ n) (h2 : n < 18446744073709551616) (w : World) :
    Calls Tryd.prog 23 #[.int .u64 n] w fun e w' => e = .returned (num n) ∧ Below w.heap.size w w' := by
  rw [num_of (h := 0) (l := n) (by unfold hiOf loOf; constructor <;> omega)]
  go_enter Tryd.func23, Tryd.ntmps23
  go_wp2
  simp [bodyPost, results, Tryd.results23, go_sem]
  exact bel1 _ _
end Go.Proofs.YtbobhjgndgaoaaaDoor
