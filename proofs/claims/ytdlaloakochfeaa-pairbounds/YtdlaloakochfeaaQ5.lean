/- THE CODE's LOSSES AND PAIRS: THE WALKS. Own work of the verifier. -/
import Derived.Test.YtdlaloakochfeaaQ4
namespace Go.Proofs.Ytdlaloakochfeaa
open Go.RowKit Soft

theorem cut_nan (x y t : Nat) : (Question.nanBits .f64 x y).cut t < 18446744073709551616 ∧ isn ((Question.nanBits .f64 x y).cut t) = true := by
  show (t % 2) * 2 ^ 63 + 0x7ff0000000000000 + 1 + (t / 2) % (2 ^ 52 - 1) < _ ∧ isn ((t % 2) * 2 ^ 63 + 0x7ff0000000000000 + 1 + (t / 2) % (2 ^ 52 - 1)) = true
  rw [show (2 : Nat) ^ 63 = 9223372036854775808 from by decide, show (2 : Nat) ^ 52 - 1 = 4503599627370495 from by decide]
  unfold isn
  have h1 : t % 2 = 0 ∨ t % 2 = 1 := by omega
  have h2 : (t / 2) % 4503599627370495 < 4503599627370495 := by omega
  generalize (t / 2) % 4503599627370495 = q at *
  rcases h1 with h1 | h1 <;> rw [h1]
  · exact ⟨by omega, decide_eq_true (by omega)⟩
  · exact ⟨by omega, decide_eq_true (by omega)⟩
/-- A sum of floats, as the model has it: NaNs may be any. -/
theorem sum_run (x y : Nat) (hx : x < 18446744073709551616) (hy : y < 18446744073709551616) (w : World) : ∃ r n, r < 18446744073709551616 ∧ one r = fa x y ∧ ∀ t, (binOp .add t (.float .f64 x) (.float .f64 y)).run Try.prog w = .ok (.float .f64 r) (w.drewN n) := by
  cases h : Ieee.double.add x y with
  | some r => exact ⟨r, 0, Ieee.double.add_lt h, by unfold fa; rw [h]; exact one_of_not (add_not_nan hx hy h), fun t => run_float_arith w .add t .f64 x y r h⟩
  | none =>
    have hc := cut_nan x y (w.tape w.drawn (.nanBits .f64 x y))
    refine ⟨(Question.nanBits .f64 x y).cut (w.tape w.drawn (.nanBits .f64 x y)), 1, hc.1, ?_, fun t => ?_⟩
    · rw [one_of_nan hc.2]; unfold fa; rw [h]; rfl
    · simp [binOp, Op.floatArith, show FloatKind.f64.format = Ieee.double from rfl, h, go_sem, Question.forced]
      rfl
theorem dif_run (x y : Nat) (hx : x < 18446744073709551616) (hy : y < 18446744073709551616) (w : World) : ∃ r n, r < 18446744073709551616 ∧ one r = fa x (neg y) ∧ ∀ t, (binOp .sub t (.float .f64 x) (.float .f64 y)).run Try.prog w = .ok (.float .f64 r) (w.drewN n) := by
  have e := sub_add x y hx hy
  cases h : Ieee.double.add x (neg y) with
  | some r =>
    rw [h] at e
    exact ⟨r, 0, Ieee.double.add_lt h, by unfold fa; rw [h]; exact one_of_not (add_not_nan hx (neg_lt hy) h), fun t => run_float_arith w .sub t .f64 x y r e⟩
  | none =>
    rw [h] at e
    have hc := cut_nan x y (w.tape w.drawn (.nanBits .f64 x y))
    refine ⟨(Question.nanBits .f64 x y).cut (w.tape w.drawn (.nanBits .f64 x y)), 1, hc.1, ?_, fun t => ?_⟩
    · rw [one_of_nan hc.2]; unfold fa; rw [h]; rfl
    · simp [binOp, Op.floatArith, show FloatKind.f64.format = Ieee.double from rfl, e, go_sem, Question.forced]
      rfl
set_option maxHeartbeats 1000000 in
theorem loss_any (x y : Nat) (hx : x < 18446744073709551616) (hy : y < 18446744073709551616) (w : World) :
    Calls Try.prog 16 #[.float .f64 x, .float .f64 y] w fun e w' => ∃ r n, e = .returned (.float .f64 r) ∧ w' = w.drewN n ∧ r < 18446744073709551616 ∧ one r = fl x y := by
  obtain ⟨r1, n1, hr1, o1, run1⟩ := sum_run x y hx hy w
  have HX : Hid _ := abs_any x hx
  have HY : Hid _ := abs_any y hy
  have og : (FloatKind.f64.format.order (x % 9223372036854775808) (y % 9223372036854775808) == some .gt || FloatKind.f64.format.order (x % 9223372036854775808) (y % 9223372036854775808) == some .eq) = geq x y := order_geq x y hx hy
  have o1' : one r1 = one (fa x y) := by rw [fa_can x y hx hy]; exact o1
  cases hg : geq x y
  · rw [hg] at og
    obtain ⟨r2, n2, hr2, o2, run2⟩ := dif_run y r1 hy hr1 (w.drewN n1)
    rw [World.drewN_drewN] at run2
    obtain ⟨r3, n3, hr3, o3, run3⟩ := sum_run r2 x hr2 hx (w.drewN (n1 + n2))
    rw [World.drewN_drewN] at run3
    have HV : Hid (one r3 = fl x y) := by
      unfold Hid fl
      rw [if_neg (by rw [hg]; decide), o3]
      have e2 : one r2 = one (fa y (neg (fa x y))) := by
        rw [fa_can y _ hy (neg_lt (fa_lt _ _)), o2]
        exact fa_congr hy (neg_lt hr1) hy (neg_lt (fa_lt _ _)) rfl (neg_one hr1 (fa_lt _ _) o1')
      exact fa_congr hr2 hx (fa_lt _ _) hx e2 rfl
    generalize x % 9223372036854775808 = xa at *
    generalize y % 9223372036854775808 = ya at *
    go_enter Try.func16, Try.ntmps16
    go_wp2_with (first | simp only | simp only [run2] | simp only [run3] | (go_at_call 27; (first | (with_reducible refine (HX.out _).mono ?_) | (with_reducible refine (HY.out _).mono ?_)); rintro e w' ⟨rfl, rfl⟩))
    go_ret
    exact ⟨r3, _, rfl, rfl, hr3, HV.out⟩
  · rw [hg] at og
    obtain ⟨r2, n2, hr2, o2, run2⟩ := dif_run x r1 hx hr1 (w.drewN n1)
    rw [World.drewN_drewN] at run2
    obtain ⟨r3, n3, hr3, o3, run3⟩ := sum_run r2 y hr2 hy (w.drewN (n1 + n2))
    rw [World.drewN_drewN] at run3
    have HV : Hid (one r3 = fl x y) := by
      unfold Hid fl
      rw [if_pos hg, o3]
      have e2 : one r2 = one (fa x (neg (fa x y))) := by
        rw [fa_can x _ hx (neg_lt (fa_lt _ _)), o2]
        exact fa_congr hx (neg_lt hr1) hx (neg_lt (fa_lt _ _)) rfl (neg_one hr1 (fa_lt _ _) o1')
      exact fa_congr hr2 hy (fa_lt _ _) hy e2 rfl
    generalize x % 9223372036854775808 = xa at *
    generalize y % 9223372036854775808 = ya at *
    go_enter Try.func16, Try.ntmps16
    go_wp2_with (first | simp only | simp only [run2] | simp only [run3] | (go_at_call 27; (first | (with_reducible refine (HX.out _).mono ?_) | (with_reducible refine (HY.out _).mono ?_)); rintro e w' ⟨rfl, rfl⟩))
    go_ret
    exact ⟨r3, _, rfl, rfl, hr3, HV.out⟩
theorem ptotal_any (a c : Nat) (ha : a < 18446744073709551616) (hc : c < 18446744073709551616) (w : World) :
    Calls Try.prog 14 #[.complex .f64 a c] w fun e w' => ∃ r n, e = .returned (.float .f64 r) ∧ w' = w.drewN n ∧ r < 18446744073709551616 ∧ one r = fa a c := by
  obtain ⟨r1, n1, hr1, o1, run1⟩ := sum_run a c ha hc w
  go_enter Try.func14, Try.ntmps14
  go_wp2_with (first | simp only [run1])
  go_ret
  exact ⟨r1, n1, rfl, rfl, hr1, o1⟩
theorem padd_any (a c y : Nat) (ha : a < 18446744073709551616) (hc : c < 18446744073709551616) (hy : y < 18446744073709551616) (w : World) :
    Calls Try.prog 17 #[.complex .f64 a c, .float .f64 y] w fun e w' => ∃ r d n, e = .returned (.complex .f64 r d) ∧ w' = w.drewN n ∧ r < 18446744073709551616 ∧ d < 18446744073709551616 ∧ one r = fa a y ∧ one d = fa c (fl a y) := by
  obtain ⟨r1, n1, hr1, o1, run1⟩ := sum_run a y ha hy w
  have HL : Hid _ := loss_any a y ha hy
  have HS : Hid (∀ x y : Nat, x < 18446744073709551616 → y < 18446744073709551616 → ∀ W, ∃ r n, r < 18446744073709551616 ∧ one r = fa x y ∧ ∀ t, (binOp .add t (.float .f64 x) (.float .f64 y)).run Try.prog W = .ok (.float .f64 r) (W.drewN n)) := sum_run
  go_enter Try.func17, Try.ntmps17
  go_wp2_with (first | simp only | (go_at_call 16; with_reducible refine (HL.out _).mono ?_; rintro e w' ⟨r2, n2, rfl, rfl, hr2, o2⟩; rw [World.drewN_drewN]; obtain ⟨r3, n3, hr3, o3, run3⟩ := HS.out c r2 hc hr2 (w.drewN (n1 + n2)); rw [World.drewN_drewN] at run3) | simp only [run3])
  go_ret
  exact ⟨r1, r3, _, rfl, rfl, hr1, hr3, o1, o3.trans (fa_congr hc hr2 hc (fl_lt _ _) rfl (o2.trans (fl_can a y ha hy).symm))⟩
theorem pmerge_any (a c u v : Nat) (ha : a < 18446744073709551616) (hc : c < 18446744073709551616) (hu : u < 18446744073709551616) (hv : v < 18446744073709551616) (w : World) :
    Calls Try.prog 7 #[.complex .f64 a c, .complex .f64 u v] w fun e w' => ∃ r d n, e = .returned (.complex .f64 r d) ∧ w' = w.drewN n ∧ r < 18446744073709551616 ∧ d < 18446744073709551616 ∧ one r = fa a u ∧ one d = fa (fa c v) (fl a u) := by
  obtain ⟨r0, n0, hr0, o0, run0⟩ := sum_run c v hc hv w
  obtain ⟨r1, n1, hr1, o1, run1⟩ := sum_run a u ha hu (w.drewN n0)
  rw [World.drewN_drewN] at run1
  have HL : Hid _ := loss_any a u ha hu
  have HS : Hid (∀ x y : Nat, x < 18446744073709551616 → y < 18446744073709551616 → ∀ W, ∃ r n, r < 18446744073709551616 ∧ one r = fa x y ∧ ∀ t, (binOp .add t (.float .f64 x) (.float .f64 y)).run Try.prog W = .ok (.float .f64 r) (W.drewN n)) := sum_run
  go_enter Try.func7, Try.ntmps7
  go_wp2_with (first | simp only | simp only [run1] | (go_at_call 16; with_reducible refine (HL.out _).mono ?_; rintro e w' ⟨r2, n2, rfl, rfl, hr2, o2⟩; rw [World.drewN_drewN]; obtain ⟨r3, n3, hr3, o3, run3⟩ := HS.out r0 r2 hr0 hr2 (w.drewN (n0 + n1 + n2)); rw [World.drewN_drewN] at run3) | simp only [run3])
  go_ret
  exact ⟨r1, r3, _, rfl, rfl, hr1, hr3, o1, o3.trans (fa_congr hr0 hr2 (fa_lt _ _) (fl_lt _ _) (o0.trans (fa_can c v hc hv).symm) (o2.trans (fl_can a u ha hu).symm))⟩
/-- Floats, one behind the other. -/
def RowF (w : World) (b o : Nat) (L : List Nat) : Prop := ∀ i (h : i < L.length), w.cell? ⟨b, o + i, none⟩ = some (.float .f64 L[i])
theorem ofW_can (L : List Nat) (hL : Small L) (i : Nat) : one (ofW (L.take i)).1 = (ofW (L.take i)).1 ∧ one (ofW (L.take i)).2 = (ofW (L.take i)).2 := by
  cases i with
  | zero => simp [ofW]; decide
  | succ i =>
    by_cases h : i < L.length
    · rw [ofW_take L i h]
      have hx : L[i] < 18446744073709551616 := hL _ (List.getElem_mem h)
      obtain ⟨h1, h2⟩ := ofW_lt L i
      exact ⟨fa_can _ _ h1 hx, fa_can _ _ h2 (fl_lt _ _)⟩
    · rcases List.eq_nil_or_concat (L.take (i + 1)) with k | ⟨l, x, k⟩
      · rw [k]; decide
      · have hl : Small l := fun z hz => hL z (List.mem_of_mem_take (i := i + 1) (by rw [k]; simp [hz]))
        have hx : x < 18446744073709551616 := hL x (List.mem_of_mem_take (i := i + 1) (by rw [k]; simp))
        rw [k, List.concat_eq_append, ofW_snoc]
        have := ofW_lt l l.length
        rw [List.take_length] at this
        exact ⟨fa_can _ _ this.1 hx, fa_can _ _ this.2 (fl_lt _ _)⟩
set_option maxHeartbeats 1000000 in
theorem pof_any (ao : Option Addr) (b o cap : Nat) (L : List Nat) (hao : L ≠ [] → ao = some ⟨b, o, none⟩) (hL : Small L) (hlen : L.length < 9223372036854775807) (w : World) (hR : RowF w b o L) :
    Calls Try.prog 8 #[.slice ao L.length cap] w fun e w' => ∃ r d n, e = .returned (.complex .f64 r d) ∧ w' = w.drewN n ∧ r < 18446744073709551616 ∧ d < 18446744073709551616 ∧ one r = (ofW L).1 ∧ one d = (ofW L).2 := by
  go_enter Try.func8, Try.ntmps8
  go_wp2_with fail
  go_loopw [3, 8] (fun p a wr => ∃ i r d n : Nat, i ≤ L.length ∧ p = .complex .f64 r d ∧ a = .int .i64 (i : Int) ∧ r < 18446744073709551616 ∧ d < 18446744073709551616 ∧ one r = (ofW (L.take i)).1 ∧ one d = (ofW (L.take i)).2 ∧ wr = w.drewN n) (fun _ a _ => (L.length - (intOf a).toNat))
  case atStart => exact ⟨0, 0, 0, 0, by omega, rfl, rfl, by omega, by omega, by simp [ofW]; decide, by simp [ofW]; decide, rfl⟩
  case round =>
    obtain ⟨i, r, d, n, hi, rfl, rfl, hr, hd, e1, e2, rfl⟩ := hrel
    by_cases hlt : i < L.length
    · obtain rfl := hao (by intro k; rw [k] at hlt; simp at hlt)
      have hx : L[i] < 18446744073709551616 := hL _ (List.getElem_mem hlt)
      have hc := hR i hlt
      have HA : Hid _ := padd_any r d L[i] hr hd hx
      obtain ⟨l1, l2⟩ := ofW_lt L i
      obtain ⟨k1, k2⟩ := ofW_can L hL i
      have HN : Hid ((ofW (L.take (i + 1))).1 = fa r L[i] ∧ (ofW (L.take (i + 1))).2 = fa d (fl r L[i])) := by
        unfold Hid; rw [ofW_take L i hlt]
        refine ⟨fa_congr l1 hx hr hx (k1.trans e1.symm) rfl, ?_⟩
        show fa _ (fl _ _) = _
        rw [fl_congr l1 hx hr hx (k1.trans e1.symm) rfl]
        exact fa_congr l2 (fl_lt _ _) hd (fl_lt _ _) (k2.trans e2.symm) rfl
      have hlt' : (i : Int) < (L.length : Int) := by omega
      clear e1 e2 k1 k2 l1 l2
      generalize L[i] = x at *
      go_wp2_with (go_at_call 17; with_reducible refine (HA.out _).mono ?_; rintro e w' ⟨r2, d2, n2, rfl, rfl, hr2, hd2, o1, o2⟩)
      go_round
      case rel => exact ⟨i + 1, r2, d2, n + n2, by omega, rfl, by go_num, hr2, hd2, o1.trans HN.out.1.symm, o2.trans HN.out.2.symm, rfl⟩
      case measure => simp [intOf]; omega
    · obtain rfl : i = L.length := by omega
      rw [List.take_length] at e1 e2
      have hlt' : ¬ (L.length : Int) < (L.length : Int) := by omega
      go_wp2
      go_ret
      exact ⟨r, d, rfl, ⟨n, rfl⟩, hr, hd, e1, e2⟩
end Go.Proofs.Ytdlaloakochfeaa
