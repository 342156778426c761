/- PairFollows: THE LEAVES. Own work of the verifier. -/
import Derived.Test.YtdlaloakochfeaaQ7
import Derived.Test.YtdlaloakochfeaaSoftMath12
import Derived.Handy
namespace Go.Proofs.Ytdlaloakochfeaa
open Go.RowKit Soft


theorem low63 (x : Nat) (h : x < 18446744073709551616) : bits .and .u64 (x : Int) 9223372036854775807 = ((x % 9223372036854775808 : Nat) : Int) := by
  have := u64_and_nat x 9223372036854775807 h (by decide)
  rw [show ((9223372036854775807 : Nat) : Int) = 9223372036854775807 from rfl] at this
  rw [this, show (9223372036854775807 : Nat) = 2 ^ 63 - 1 from by decide, Nat.and_two_pow_sub_one_eq_mod]
theorem padd_iw {x y : Int} (hx : Lim x) (hy : Lim y) (hs : Lim (x + y)) (w : World) :
    Calls Try.prog 17 #[.complex .f64 (iw x) 0, .float .f64 (iw y)] w fun e w' => e = .returned (.complex .f64 (iw (x + y)) 0) ∧ ∃ n, w' = w.drewN n := by
  refine (padd_any (iw x) 0 (iw y) (vw_iw hx).2.1.1 (by decide) (vw_iw hy).2.1.1 w).mono ?_
  rintro e w' ⟨r, d, n, rfl, rfl, _, _, e1, e2⟩
  rw [add_iw hx hy] at e1
  rw [fl_iw hx hy hs, show fa 0 0 = 0 from by decide +kernel] at e2
  rw [one_eq e1 (fin_not_nan (vw_iw hs).2.1), one_eq e2 (by decide)]
  exact ⟨rfl, n, rfl⟩
theorem pmerge_iw {x y : Int} (hx : Lim x) (hy : Lim y) (hs : Lim (x + y)) (w : World) :
    Calls Try.prog 7 #[.complex .f64 (iw x) 0, .complex .f64 (iw y) 0] w fun e w' => e = .returned (.complex .f64 (iw (x + y)) 0) ∧ ∃ n, w' = w.drewN n := by
  refine (pmerge_any (iw x) 0 (iw y) 0 (vw_iw hx).2.1.1 (by decide) (vw_iw hy).2.1.1 (by decide) w).mono ?_
  rintro e w' ⟨r, d, n, rfl, rfl, _, _, e1, e2⟩
  rw [add_iw hx hy] at e1
  rw [fl_iw hx hy hs, show fa (fa 0 0) 0 = 0 from by decide +kernel] at e2
  rw [one_eq e1 (fin_not_nan (vw_iw hs).2.1), one_eq e2 (by decide)]
  exact ⟨rfl, n, rfl⟩
theorem total_iw {x : Int} (hx : Lim x) : fa (iw x) 0 = iw x := by
  have := add_iw hx (show Lim 0 from ⟨by decide, by decide⟩)
  rw [iw_zero, Int.add_zero] at this
  exact this
theorem ptotal_iw {x : Int} (hx : Lim x) (w : World) :
    Calls Try.prog 14 #[.complex .f64 (iw x) 0] w fun e w' => e = .returned (.float .f64 (iw x)) ∧ ∃ n, w' = w.drewN n :=
  ptotal_at (iw x) 0 (iw x) (vw_iw hx).2.1.1 (by decide) (total_iw hx) (fin_not_nan (vw_iw hx).2.1) w
theorem cell3 (w : World) (n : Nat) (x y z : Value) (t : TypeId) (i : Nat) (v : Value) (h : #[x, y, z][i]? = some v) : ((w.drewN n).alloc (.cells #[x, y, z] t)).cell? ⟨w.heap.size, i, none⟩ = some v := by
  have e : ((w.drewN n).alloc (.cells #[x, y, z] t)).heap[w.heap.size]? = some (.cells #[x, y, z] t) := by
    show (w.heap.push _)[w.heap.size]? = _
    simp
  unfold World.cell?
  rw [e]
  exact h
set_option maxHeartbeats 1000000 in
/-- Nothing here has an infinity, a NaN, or a 0 with a sign. -/
theorem stays_any (r d t : Nat) (hr : Ok r) (hd : Ok d) (ht : fa r d = t) (hto : Ok t) (w : World) :
    Calls Try.prog 11 #[.complex .f64 r d] w fun e w' => e = .returned (.bool true) ∧ Below w.heap.size w w' := by
  have HT : Hid _ := ptotal_at r d t hr.1.1 hd.1.1 ht (fin_not_nan hto.1)
  have l1 := low63 r hr.1.1
  have l2 := low63 d hd.1.1
  have l3 := low63 t hto.1.1
  have b1 : decide ((9218868437227405312 : Int) ≤ ((r % 9223372036854775808 : Nat) : Int)) = false := decide_eq_false (by have := hr.1.2; omega)
  have b2 : decide ((9218868437227405312 : Int) ≤ ((d % 9223372036854775808 : Nat) : Int)) = false := decide_eq_false (by have := hd.1.2; omega)
  have b3 : decide ((9218868437227405312 : Int) ≤ ((t % 9223372036854775808 : Nat) : Int)) = false := decide_eq_false (by have := hto.1.2; omega)
  have c1 : ((r : Int) == 9223372036854775808) = false := by rw [beq_eq_false_iff_ne]; have := hr.2; omega
  have c2 : ((d : Int) == 9223372036854775808) = false := by rw [beq_eq_false_iff_ne]; have := hd.2; omega
  have c3 : ((t : Int) == 9223372036854775808) = false := by rw [beq_eq_false_iff_ne]; have := hto.2; omega
  clear ht hr hd hto
  generalize r % 9223372036854775808 = r' at *
  generalize d % 9223372036854775808 = d' at *
  generalize t % 9223372036854775808 = t' at *
  go_enter Try.func11, Try.ntmps11
  go_wp2_with (first | simp only [mf64bits] | (go_at_call 14; with_reducible refine (HT.out _).mono ?_; rintro e w' ⟨rfl, n, rfl⟩))
  have z0 := cell3 w n (.int .u64 (r : Int)) (.int .u64 (d : Int)) (.int .u64 (t : Int)) 31 0 _ rfl
  have z1 := cell3 w n (.int .u64 (r : Int)) (.int .u64 (d : Int)) (.int .u64 (t : Int)) 31 1 _ rfl
  have z2 := cell3 w n (.int .u64 (r : Int)) (.int .u64 (d : Int)) (.int .u64 (t : Int)) 31 2 _ rfl
  go_loop [4] (fun a => ∃ i : Nat, i ≤ 3 ∧ a = .int .i64 (i : Int)) (fun a => (3 - (intOf a).toNat))
  case atStart => exact ⟨0, by omega, rfl⟩
  case round =>
    obtain ⟨i, hi, rfl⟩ := hrel
    have hc : i = 0 ∨ i = 1 ∨ i = 2 ∨ i = 3 := by omega
    rcases hc with rfl | rfl | rfl | rfl
    · go_wp2
      go_round
      case rel => exact ⟨1, by omega, rfl⟩
      case measure => simp [intOf]
    · go_wp2
      go_round
      case rel => exact ⟨2, by omega, rfl⟩
      case measure => simp [intOf]
    · go_wp2
      go_round
      case rel => exact ⟨3, by omega, rfl⟩
      case measure => simp [intOf]
    · go_wp2
      go_ret
      exact ⟨rfl, bdrew (Below.refl _ _) _ |>.trans ((bel1 _ _).mono (by simp))⟩
end Go.Proofs.Ytdlaloakochfeaa
