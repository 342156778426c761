/- WHAT A VALUE HOLDS: floats, products, signs. Own work of the verifier. -/
import Derived.Test.YtgkdggcpplmnaaaGreatZAI
import Derived.Test.YtgkdggcpplmnaaaGreatZAL
namespace Go.Proofs.YtgkdggcpplmnaaaGreat
open Go.RowKit Me

/-- Are the floats 0, without a sign? -/
def fz (x : Vl) : Bool := decide (x.sum = 0) && decide (x.mn = 0) && decide (x.mx = 0)
set_option maxRecDepth 100000 in
set_option maxHeartbeats 2000000 in
theorem sfl_any (s1 m1 x1 s2 m2 x2 : Nat) (h1 : s1 < 18446744073709551616) (h2 : m1 < 18446744073709551616) (h3 : x1 < 18446744073709551616) (h4 : s2 < 18446744073709551616) (h5 : m2 < 18446744073709551616) (h6 : x2 < 18446744073709551616)
    (a0 a1 a2 a3 a4 a5 a6 a7 b0 b1 b2 b3 b4 b5 b6 b7 : Value) (w : World) :
    Calls Tryz.prog 72 #[.agg #[a0, a1, a2, a3, a4, a5, a6, a7, .float .f64 s1, .float .f64 m1, .float .f64 x1], .agg #[b0, b1, b2, b3, b4, b5, b6, b7, .float .f64 s2, .float .f64 m2, .float .f64 x2]] w fun e w' => e = .returned (.bool (Re.sF s1 s2 && Re.sF m1 m2 && Re.sF x1 x2)) ∧ Below w.heap.size w w' := by
  have H1 : Hid (∀ W, Calls Tryz.prog 92 #[.float .f64 s1, .float .f64 s2] W fun e w' => e = .returned (.bool (Re.sF s1 s2)) ∧ w' = W) := fun W => Re.same_any s1 s2 h1 h4 W
  have H2 : Hid (∀ W, Calls Tryz.prog 92 #[.float .f64 m1, .float .f64 m2] W fun e w' => e = .returned (.bool (Re.sF m1 m2)) ∧ w' = W) := fun W => Re.same_any m1 m2 h2 h5 W
  have H3 : Hid (∀ W, Calls Tryz.prog 92 #[.float .f64 x1, .float .f64 x2] W fun e w' => e = .returned (.bool (Re.sF x1 x2)) ∧ w' = W) := fun W => Re.same_any x1 x2 h3 h6 W
  generalize Re.sF s1 s2 = p at *
  generalize Re.sF m1 m2 = q at *
  generalize Re.sF x1 x2 = r at *
  clear h1 h2 h3 h4 h5 h6
  cases p <;> cases q <;> cases r
  all_goals as_aux_lemma =>
    go_enter Tryz.func72, Tryz.ntmps72
    go_wp2_with (go_at_call 92; (first | (with_reducible refine (H1.out _).mono ?_) | (with_reducible refine (H2.out _).mono ?_) | (with_reducible refine (H3.out _).mono ?_)); rintro e w1 ⟨rfl, rfl⟩)
    go_ret
    exact ⟨rfl, bel2 w _ _⟩
theorem fz_sf (x : Vl) (h : VW x) : (Re.sF x.sum 0 && Re.sF x.mn 0 && Re.sF x.mx 0) = fz x := by
  unfold fz
  rw [Re.zero_rk _ h.sum, Re.zero_rk _ h.mn, Re.zero_rk _ h.mx]
set_option maxRecDepth 100000 in
set_option maxHeartbeats 2000000 in
theorem nofl_any (x : Vl) (lv cv : Value) (h : VW x) (w : World) :
    Calls Tryz.prog 53 #[vx x lv cv] w fun e w' => e = .returned (.bool (fz x)) ∧ Below w.heap.size w w' := by
  have H1 : Hid (∀ a0 a1 a2 a3 a4 a5 a6 a7 b0 b1 b2 b3 b4 b5 b6 b7 W, Calls Tryz.prog 72 #[.agg #[a0, a1, a2, a3, a4, a5, a6, a7, .float .f64 x.sum, .float .f64 x.mn, .float .f64 x.mx], .agg #[b0, b1, b2, b3, b4, b5, b6, b7, .float .f64 0, .float .f64 0, .float .f64 0]] W fun e w' => e = .returned (.bool (fz x)) ∧ Below W.heap.size W w') := fun a0 a1 a2 a3 a4 a5 a6 a7 b0 b1 b2 b3 b4 b5 b6 b7 W => by
    have := sfl_any x.sum x.mn x.mx 0 0 0 h.sum h.mn h.mx (by decide) (by decide) (by decide) a0 a1 a2 a3 a4 a5 a6 a7 b0 b1 b2 b3 b4 b5 b6 b7 W
    rw [fz_sf x h] at this
    exact this
  generalize fz x = z at *
  obtain ⟨⟨kd, nm, hp, D⟩, t, C, n, s, m, M⟩ := x
  clear h
  go_enter Tryz.func53, Tryz.ntmps53
  go_wp2_with (go_at_call 72; with_reducible refine (H1.out _ _ _ _ _ _ _ _ _ _ _ _ _ _ _ _ _).mono ?_; rintro e w1 ⟨rfl, hb⟩)
  go_ret
  exact ⟨rfl, bt (bel1 w _) hb⟩
theorem wf0 : Wf 0 0 := ⟨by decide, by decide, by decide, by decide⟩
set_option maxHeartbeats 1000000 in
theorem sign_any (t : Int) (h : InR t) (w : World) :
    Calls Tryz.prog 52 #[.agg #[.int .i64 (hiOf t), .int .u64 (loOf t)]] w fun e w' => e = .returned (.int .i64 (cmp t 0)) ∧ Below w.heap.size w w' := by
  have H1 : Hid (∀ W, Calls Tryz.prog 71 #[.agg #[.int .i64 (hiOf t), .int .u64 (loOf t)], .agg #[.int .i64 0, .int .u64 0]] W fun e w' => e = .returned (.int .i64 (cmp t 0)) ∧ Below W.heap.size W w') := fun W => by
    have := cmp_any (hiOf t) (loOf t) 0 0 (wf_of h) wf0 W
    rw [val_hl] at this
    exact this
  generalize cmp t 0 = z at *
  generalize hiOf t = a at *
  generalize loOf t = b at *
  go_enter Tryz.func52, Tryz.ntmps52
  go_wp2_with (go_at_call 71; with_reducible refine (H1.out _).mono ?_; rintro e w1 ⟨rfl, hb⟩)
  go_ret
  exact ⟨rfl, bt (bel1 w _) hb⟩
theorem prod_lt {x y : Nat} (hx : x < 9223372036854775808) (hy : y < 18446744073709551616) : x * y < 170141183460469231731687303715884105728 := by
  have : x * y ≤ 9223372036854775807 * 18446744073709551615 := Nat.mul_le_mul (by omega) (by omega)
  omega
theorem hi_small {z : Int} (h0 : 0 ≤ z) (h1 : z < 170141183460469231731687303715884105728) : wrap64 (hiOf z) = hiOf z := by unfold wrap64 hiOf; omega
set_option maxHeartbeats 1000000 in
theorem times_any (x y : Nat) (hx : x < 9223372036854775808) (hy : y < 18446744073709551616) (w : World) :
    Calls Tryz.prog 78 #[.int .i64 (x : Int), .int .u64 (y : Int)] w fun e w' => e = .returned (.agg #[.int .i64 (hiOf ((x * y : Nat) : Int)), .int .u64 (loOf ((x * y : Nat) : Int))]) ∧ Below w.heap.size w w' := by
  have H1 : Hid (∀ W, Calls Tryz.prog 97 #[.int .u64 (x : Int), .int .u64 (y : Int)] W fun e w' => e = .returned (.tuple #[.int .u64 (hiOf ((x * y : Nat) : Int)), .int .u64 (loOf ((x * y : Nat) : Int))]) ∧ w' = W) := fun W => by
    have := cmul_any (x : Int) (y : Int) (by omega) (by omega) (by omega) (by omega) W
    rw [← Int.natCast_mul] at this
    exact this
  have hp := prod_lt hx hy
  have hw := hi_small (z := ((x * y : Nat) : Int)) (by omega) (by omega)
  have hx' : IntKind.u64.wrap (x : Int) = (x : Int) := by rw [IntKind.wrap_u64]; omega
  generalize hiOf ((x * y : Nat) : Int) = a at *
  generalize loOf ((x * y : Nat) : Int) = b at *
  clear hp
  go_enter Tryz.func78, Tryz.ntmps78
  go_wp2_with (go_at_call 97; with_reducible refine (H1.out _).mono ?_; rintro e w1 ⟨rfl, rfl⟩)
  simp [bodyPost, results, Tryz.results78, go_sem]
  exact bel1 w _
end Go.Proofs.YtgkdggcpplmnaaaGreat
/- WHAT A VALUE HOLDS: counts. Own work of the verifier. -/
namespace Go.Proofs.YtgkdggcpplmnaaaGreat
open Go.RowKit Me

def lowN (P : Nat) (C : List Cn) : Nat := (C.map fun c => lo (2 ^ P) c.1.toNat * c.2).sum
def highN (P : Nat) (C : List Cn) : Nat := (C.map fun c => hiV P c.1.toNat * c.2).sum
theorem lowN_take (P : Nat) (C : List Cn) (i : Nat) (h : i < C.length) : lowN P (C.take (i + 1)) = lowN P (C.take i) + lo (2 ^ P) C[i].1.toNat * C[i].2 := by
  unfold lowN
  rw [List.take_succ_eq_append_getElem h, List.map_append, List.sum_append]
  simp
theorem highN_take (P : Nat) (C : List Cn) (i : Nat) (h : i < C.length) : highN P (C.take (i + 1)) = highN P (C.take i) + hiV P C[i].1.toNat * C[i].2 := by
  unfold highN
  rw [List.take_succ_eq_append_getElem h, List.map_append, List.sum_append]
  simp
/-- The error of counts. -/
noncomputable def mayE (p : Int) (C : List Cn) : Int := Classical.choose (mayIs_ex p C)
theorem mayE_is (p : Int) (C : List Cn) : MayIs p C (mayE p C) := Classical.choose_spec (mayIs_ex p C)
theorem sum_mul_le (C : List Cn) (f : Cn → Nat) (M : Nat) (h : ∀ c ∈ C, f c ≤ M) : (C.map fun c => f c * c.2).sum ≤ M * (C.map (·.2)).sum := by
  induction C with
  | nil => simp
  | cons c C ih =>
    simp only [List.map_cons, List.sum_cons, Nat.mul_add]
    have := ih (fun d hd => h d (List.mem_cons_of_mem _ hd))
    have := Nat.mul_le_mul_right c.2 (h c List.mem_cons_self)
    omega
theorem sum_take_le (C : List Cn) (i : Nat) : ((C.take i).map (·.2)).sum ≤ (C.map (·.2)).sum := by
  conv => rhs; rw [← List.take_append_drop i C]
  rw [List.map_append, List.sum_append]
  omega
theorem in_may {p : Nat} {C : List Cn} (h : MayIs (p : Int) C 0) {c : Cn} (hc : c ∈ C) : c.1.toNat < (64 - p) * 2 ^ p ∧ lo (2 ^ p) c.1.toNat ≤ 9223372036854775807 ∧ hiV p c.1.toNat ≤ 9223372036854775807 := by
  obtain ⟨hp, _, h3⟩ := may_ok h
  obtain ⟨i, hi, rfl⟩ := List.mem_iff_getElem.1 hc
  obtain ⟨g1, g2, _⟩ := h3 i hi
  simp only [Int.toNat_natCast] at g2
  have hlt : C[i].1.toNat < (64 - p) * 2 ^ p := by omega
  have ht := hi_top hlt (by omega)
  have h2 : 0 < 2 ^ kk (2 ^ p) C[i].1.toNat := Nat.two_pow_pos _
  unfold hiV
  refine ⟨hlt, ?_, ?_⟩ <;> omega
theorem low_bound {p : Nat} {C : List Cn} (h : MayIs (p : Int) C 0) (i : Nat) : lowN p (C.take i) ≤ 85070591730234615847396907784232501249 ∧ highN p (C.take i) ≤ 85070591730234615847396907784232501249 := by
  obtain ⟨hp, h2, h3⟩ := may_ok h
  have hs : ((C.take i).map (·.2)).sum ≤ 9223372036854775807 := Nat.le_trans (sum_take_le C i) (by exact h2)
  constructor
  · have := sum_mul_le (C.take i) (fun c => lo (2 ^ p) c.1.toNat) 9223372036854775807 (fun c hc => (in_may h (List.mem_of_mem_take hc)).2.1)
    have k := Nat.mul_le_mul_left 9223372036854775807 hs
    unfold lowN
    omega
  · have := sum_mul_le (C.take i) (fun c => hiV p c.1.toNat) 9223372036854775807 (fun c hc => (in_may h (List.mem_of_mem_take hc)).2.2)
    have k := Nat.mul_le_mul_left 9223372036854775807 hs
    unfold highN
    omega
/-- Does the sum lie between what the buckets let it be? -/
def btw (p : Int) (x : Vl) : Bool := decide ((lowN p.toNat x.cs : Int) ≤ x.t) && decide (x.t ≤ (highN p.toNat x.cs : Int))
noncomputable def cntB (p : Int) (x : Vl) : Bool := decide (mayE p x.cs = 0) && decide (x.n = tot x.cs) && btw p x
/-- A sum in memory that one more is added to. -/
theorem addN_any {s y : Nat} (hs : s + y < 170141183460469231731687303715884105728) (W : World) :
    Calls Tryz.prog 77 #[.agg #[.int .i64 (hiOf (s : Int)), .int .u64 (loOf (s : Int))], .agg #[.int .i64 (hiOf (y : Int)), .int .u64 (loOf (y : Int))]] W fun e w' => e = .returned (.agg #[.int .i64 (hiOf ((s + y : Nat) : Int)), .int .u64 (loOf ((s + y : Nat) : Int))]) ∧ Below W.heap.size W w' := by
  have := add_any _ _ _ _ (wf_of (n := (s : Int)) ⟨by omega, by omega⟩) (wf_of (n := (y : Int)) ⟨by omega, by omega⟩) W
  rw [val_hl, val_hl, rnd_of ⟨by omega, by omega⟩, ← Int.natCast_add] at this
  exact this
theorem cmp_le_any (s t : Int) (hs : InR s) (ht : InR t) (W : World) :
    Calls Tryz.prog 71 #[.agg #[.int .i64 (hiOf s), .int .u64 (loOf s)], .agg #[.int .i64 (hiOf t), .int .u64 (loOf t)]] W fun e w' => e = .returned (.int .i64 (cmp s t)) ∧ Below W.heap.size W w' := by
  have := cmp_any _ _ _ _ (wf_of hs) (wf_of ht) W
  rw [val_hl, val_hl] at this
  exact this
theorem cmp_le (s t : Int) : decide (cmp s t ≤ 0) = decide (s ≤ t) := by
  apply decide_eq_decide.2
  unfold cmp
  split
  · omega
  · split <;> omega
end Go.Proofs.YtgkdggcpplmnaaaGreat
