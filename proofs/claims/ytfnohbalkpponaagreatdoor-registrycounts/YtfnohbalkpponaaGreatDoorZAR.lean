/- THE DOCUMENT's LOSSES AND PAIRS: THE WALKS. Own work of the verifier. -/
import Derived.Test.YtfnohbalkpponaaGreatDoorZAQ
namespace Go.Proofs.YtfnohbalkpponaaGreatDoor.Pr
open Go.RowKit Soft

theorem bel1 (w : World) (o1 : Obj) : Below w.heap.size w (w.alloc o1) := (Below.refl _ _).alloc (Nat.le_refl _) _
theorem bel2 (w : World) (o1 o2 : Obj) : Below w.heap.size w ((w.alloc o1).alloc o2) :=
  ((Below.refl _ _).alloc (Nat.le_refl _) _).alloc (by simp) _
theorem bel3 (w : World) (o1 o2 o3 : Obj) : Below w.heap.size w (((w.alloc o1).alloc o2).alloc o3) :=
  (((Below.refl _ _).alloc (Nat.le_refl _) _).alloc (by simp) _).alloc (by simp only [World.size_alloc]; omega) _
/-- Whole numbers of 64 bits, one behind the other. -/
def RowU (w : World) (b o : Nat) (L : List Nat) : Prop := ∀ i (h : i < L.length), w.cell? ⟨b, o + i, none⟩ = some (.int .u64 ((L[i] : Nat) : Int))
theorem lt_of_cell {w : World} {b o : Nat} {v : Value} (h : w.cell? ⟨b, o, none⟩ = some v) : b < w.heap.size := by
  by_cases k : b < w.heap.size
  · exact k
  · exfalso
    have : w.heap[b]? = none := by simp; omega
    simp [World.cell?, this] at h
theorem RowU.below {w w1 : World} {b o : Nat} {L : List Nat} {B : Nat} (h : RowU w b o L) (hb : Below B w w1) (hB : L ≠ [] → b < B) : RowU w1 b o L := fun i hi => by
  rw [hb.cell (p := ⟨b, o + i, none⟩) (hB (by intro k; rw [k] at hi; simp at hi))]; exact h i hi
/-- A pair that lies in memory. -/
def P2 (w : World) (k x y : Nat) : Prop := w.heap[k]? = some (.cells #[.int .u64 (x : Int), .int .u64 (y : Int)] 264 (0, 0))
theorem P2.c0 {w : World} {k x y : Nat} (h : P2 w k x y) : w.cell? ⟨k, 0, none⟩ = some (.int .u64 (x : Int)) := by unfold P2 at h; simp [World.cell?, h]
theorem P2.c1 {w : World} {k x y : Nat} (h : P2 w k x y) : w.cell? ⟨k, 1, none⟩ = some (.int .u64 (y : Int)) := by unfold P2 at h; simp [World.cell?, h]
theorem P2.fr {w : World} {k x y : Nat} (h : P2 w k x y) (o : Nat) : w.frozen? ⟨k, o, none⟩ = false := by unfold P2 at h; simp [World.frozen?, h]
theorem P2.lt {w : World} {k x y : Nat} (h : P2 w k x y) : k < w.heap.size := lt_of_cell h.c0
theorem P2.put {w : World} {k x y : Nat} (h : P2 w k x y) (x' y' : Nat) : P2 ((w.setCell ⟨k, 0, none⟩ (.int .u64 (x' : Int))).setCell ⟨k, 1, none⟩ (.int .u64 (y' : Int))) k x' y' := by
  unfold P2 at *
  have h1 := heap_setCell_same w k 0 _ _ (.int .u64 (x' : Int)) h
  have h2 := heap_setCell_same _ k 1 _ _ (.int .u64 (y' : Int)) h1
  rw [h2]; rfl
theorem P2.other {w : World} {k x y : Nat} (h : P2 w k x y) {a : Addr} (ha : k ≠ a.block) (v : Value) : P2 (w.setCell a v) k x y := by
  unfold P2 at *
  rw [heap_setCell_other w a k v ha]; exact h
theorem P2.below {w w1 : World} {k x y B : Nat} (h : P2 w k x y) (hb : Below B w w1) (hk : k < B) : P2 w1 k x y := by
  unfold P2 at *
  rw [hb.block k hk]; exact h
theorem new1 (w : World) (o1 o2 : Obj) : ((w.alloc o1).alloc o2).heap[w.heap.size]? = some o1 := by
  show ((w.heap.push o1).push o2)[w.heap.size]? = some o1
  simp [Array.getElem?_push]
theorem new2 (w : World) (o1 o2 : Obj) : ((w.alloc o1).alloc o2).heap[w.heap.size + 1]? = some o2 := by
  show ((w.heap.push o1).push o2)[w.heap.size + 1]? = some o2
  rw [show w.heap.size + 1 = (w.heap.push o1).size from by simp, Array.getElem?_push_size]
theorem RowU.lt {w : World} {b o : Nat} {L : List Nat} (h : RowU w b o L) (hL : L ≠ []) : b < w.heap.size := by
  cases L with
  | nil => exact absurd rfl hL
  | cons x l => exact lt_of_cell (h 0 (by simp))
end Go.Proofs.YtfnohbalkpponaaGreatDoor.Pr
/- THE CODE's LOSSES AND PAIRS: THE WALKS. Own work of the verifier. -/
namespace Go.Proofs.YtfnohbalkpponaaGreatDoor.Pr
open Go.RowKit Soft

theorem cut_nan (x y t : Nat) : (Question.nanBits .f64 x y).cut t < 18446744073709551616 ∧ isn ((Question.nanBits .f64 x y).cut t) = true := by
  show (t % 2) * 2 ^ 63 + 0x7ff0000000000000 + 1 + (t / 2) % (2 ^ 52 - 1) < _ ∧ isn ((t % 2) * 2 ^ 63 + 0x7ff0000000000000 + 1 + (t / 2) % (2 ^ 52 - 1)) = true
  rw [show (2 : Nat) ^ 63 = 9223372036854775808 from by decide, show (2 : Nat) ^ 52 - 1 = 4503599627370495 from by decide]
  unfold isn
  have h1 : t % 2 = 0 ∨ t % 2 = 1 := by omega
  have h2 : (t / 2) % 4503599627370495 < 4503599627370495 := by omega
  generalize (t / 2) % 4503599627370495 = q at *
  rcases h1 with h1 | h1 <;> rw [h1]
  · exact ⟨by omega, decide_eq_true (by omega)⟩
  · exact ⟨by omega, decide_eq_true (by omega)⟩
/-- A sum of floats, as the model has it: NaNs may be any. -/
theorem sum_run (x y : Nat) (hx : x < 18446744073709551616) (hy : y < 18446744073709551616) (w : World) : ∃ r n, r < 18446744073709551616 ∧ one r = fa x y ∧ ∀ t, (binOp .add t (.float .f64 x) (.float .f64 y)).run Tryz.prog w = .ok (.float .f64 r) (w.drewN n) := by
  cases h : Ieee.double.add x y with
  | some r => exact ⟨r, 0, Ieee.double.add_lt h, by unfold fa; rw [h]; exact one_of_not (add_not_nan hx hy h), fun t => run_float_arith w .add t .f64 x y r h⟩
  | none =>
    have hc := cut_nan x y (w.tape w.drawn (.nanBits .f64 x y))
    refine ⟨(Question.nanBits .f64 x y).cut (w.tape w.drawn (.nanBits .f64 x y)), 1, hc.1, ?_, fun t => ?_⟩
    · rw [one_of_nan hc.2]; unfold fa; rw [h]; rfl
    · simp [binOp, Op.floatArith, show FloatKind.f64.format = Ieee.double from rfl, h, go_sem, Question.forced]
      rfl
theorem dif_run (x y : Nat) (hx : x < 18446744073709551616) (hy : y < 18446744073709551616) (w : World) : ∃ r n, r < 18446744073709551616 ∧ one r = fa x (neg y) ∧ ∀ t, (binOp .sub t (.float .f64 x) (.float .f64 y)).run Tryz.prog w = .ok (.float .f64 r) (w.drewN n) := by
  have e := sub_add x y hx hy
  cases h : Ieee.double.add x (neg y) with
  | some r =>
    rw [h] at e
    exact ⟨r, 0, Ieee.double.add_lt h, by unfold fa; rw [h]; exact one_of_not (add_not_nan hx (neg_lt hy) h), fun t => run_float_arith w .sub t .f64 x y r e⟩
  | none =>
    rw [h] at e
    have hc := cut_nan x y (w.tape w.drawn (.nanBits .f64 x y))
    refine ⟨(Question.nanBits .f64 x y).cut (w.tape w.drawn (.nanBits .f64 x y)), 1, hc.1, ?_, fun t => ?_⟩
    · rw [one_of_nan hc.2]; unfold fa; rw [h]; rfl
    · simp [binOp, Op.floatArith, show FloatKind.f64.format = Ieee.double from rfl, e, go_sem, Question.forced]
      rfl
set_option maxHeartbeats 1000000 in
theorem loss_any (x y : Nat) (hx : x < 18446744073709551616) (hy : y < 18446744073709551616) (w : World) :
    Calls Tryz.prog 201 #[.float .f64 x, .float .f64 y] w fun e w' => ∃ r n, e = .returned (.float .f64 r) ∧ w' = w.drewN n ∧ r < 18446744073709551616 ∧ one r = fl x y := by
  obtain ⟨r1, n1, hr1, o1, run1⟩ := sum_run x y hx hy w
  have HX : Hid _ := abs_any x hx
  have HY : Hid _ := abs_any y hy
  have og : (FloatKind.f64.format.order (x % 9223372036854775808) (y % 9223372036854775808) == some .gt || FloatKind.f64.format.order (x % 9223372036854775808) (y % 9223372036854775808) == some .eq) = geq x y := order_geq x y hx hy
  have o1' : one r1 = one (fa x y) := by rw [fa_can x y hx hy]; exact o1
  cases hg : geq x y
  · rw [hg] at og
    obtain ⟨r2, n2, hr2, o2, run2⟩ := dif_run y r1 hy hr1 (w.drewN n1)
    rw [World.drewN_drewN] at run2
    obtain ⟨r3, n3, hr3, o3, run3⟩ := sum_run r2 x hr2 hx (w.drewN (n1 + n2))
    rw [World.drewN_drewN] at run3
    have HV : Hid (one r3 = fl x y) := by
      unfold Hid fl
      rw [if_neg (by rw [hg]; decide), o3]
      have e2 : one r2 = one (fa y (neg (fa x y))) := by
        rw [fa_can y _ hy (neg_lt (fa_lt _ _)), o2]
        exact fa_congr hy (neg_lt hr1) hy (neg_lt (fa_lt _ _)) rfl (neg_one hr1 (fa_lt _ _) o1')
      exact fa_congr hr2 hx (fa_lt _ _) hx e2 rfl
    generalize x % 9223372036854775808 = xa at *
    generalize y % 9223372036854775808 = ya at *
    go_enter Tryz.func201, Tryz.ntmps201
    go_wp2_with (first | simp only | simp only [run2] | simp only [run3] | (go_at_call 151; (first | (with_reducible refine (HX.out _).mono ?_) | (with_reducible refine (HY.out _).mono ?_)); rintro e w' ⟨rfl, rfl⟩))
    go_ret
    exact ⟨r3, _, rfl, rfl, hr3, HV.out⟩
  · rw [hg] at og
    obtain ⟨r2, n2, hr2, o2, run2⟩ := dif_run x r1 hx hr1 (w.drewN n1)
    rw [World.drewN_drewN] at run2
    obtain ⟨r3, n3, hr3, o3, run3⟩ := sum_run r2 y hr2 hy (w.drewN (n1 + n2))
    rw [World.drewN_drewN] at run3
    have HV : Hid (one r3 = fl x y) := by
      unfold Hid fl
      rw [if_pos hg, o3]
      have e2 : one r2 = one (fa x (neg (fa x y))) := by
        rw [fa_can x _ hx (neg_lt (fa_lt _ _)), o2]
        exact fa_congr hx (neg_lt hr1) hx (neg_lt (fa_lt _ _)) rfl (neg_one hr1 (fa_lt _ _) o1')
      exact fa_congr hr2 hy (fa_lt _ _) hy e2 rfl
    generalize x % 9223372036854775808 = xa at *
    generalize y % 9223372036854775808 = ya at *
    go_enter Tryz.func201, Tryz.ntmps201
    go_wp2_with (first | simp only | simp only [run2] | simp only [run3] | (go_at_call 151; (first | (with_reducible refine (HX.out _).mono ?_) | (with_reducible refine (HY.out _).mono ?_)); rintro e w' ⟨rfl, rfl⟩))
    go_ret
    exact ⟨r3, _, rfl, rfl, hr3, HV.out⟩
theorem ptotal_any (a c : Nat) (ha : a < 18446744073709551616) (hc : c < 18446744073709551616) (w : World) :
    Calls Tryz.prog 125 #[.complex .f64 a c] w fun e w' => ∃ r n, e = .returned (.float .f64 r) ∧ w' = w.drewN n ∧ r < 18446744073709551616 ∧ one r = fa a c := by
  obtain ⟨r1, n1, hr1, o1, run1⟩ := sum_run a c ha hc w
  go_enter Tryz.func125, Tryz.ntmps125
  go_wp2_with (first | simp only [run1])
  go_ret
  exact ⟨r1, n1, rfl, rfl, hr1, o1⟩
theorem pmerge_any (a c u v : Nat) (ha : a < 18446744073709551616) (hc : c < 18446744073709551616) (hu : u < 18446744073709551616) (hv : v < 18446744073709551616) (w : World) :
    Calls Tryz.prog 136 #[.complex .f64 a c, .complex .f64 u v] w fun e w' => ∃ r d n, e = .returned (.complex .f64 r d) ∧ w' = w.drewN n ∧ r < 18446744073709551616 ∧ d < 18446744073709551616 ∧ one r = fa a u ∧ one d = fa (fa c v) (fl a u) := by
  obtain ⟨r0, n0, hr0, o0, run0⟩ := sum_run c v hc hv w
  obtain ⟨r1, n1, hr1, o1, run1⟩ := sum_run a u ha hu (w.drewN n0)
  rw [World.drewN_drewN] at run1
  have HL : Hid _ := loss_any a u ha hu
  have HS : Hid (∀ x y : Nat, x < 18446744073709551616 → y < 18446744073709551616 → ∀ W, ∃ r n, r < 18446744073709551616 ∧ one r = fa x y ∧ ∀ t, (binOp .add t (.float .f64 x) (.float .f64 y)).run Tryz.prog W = .ok (.float .f64 r) (W.drewN n)) := sum_run
  go_enter Tryz.func136, Tryz.ntmps136
  go_wp2_with (first | simp only | simp only [run1] | (go_at_call 201; with_reducible refine (HL.out _).mono ?_; rintro e w' ⟨r2, n2, rfl, rfl, hr2, o2⟩; rw [World.drewN_drewN]; obtain ⟨r3, n3, hr3, o3, run3⟩ := HS.out r0 r2 hr0 hr2 (w.drewN (n0 + n1 + n2)); rw [World.drewN_drewN] at run3) | simp only [run3])
  go_ret
  exact ⟨r1, r3, _, rfl, rfl, hr1, hr3, o1, o3.trans (fa_congr hr0 hr2 (fa_lt _ _) (fl_lt _ _) (o0.trans (fa_can c v hc hv).symm) (o2.trans (fl_can a u ha hu).symm))⟩
end Go.Proofs.YtfnohbalkpponaaGreatDoor.Pr
