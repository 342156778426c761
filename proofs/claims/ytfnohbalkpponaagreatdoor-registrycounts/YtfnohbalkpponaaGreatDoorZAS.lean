/- THE ORDER OF FLOATS, the code's and the document's (out of wip/real O1, L18, O2). Own work of the verifier. -/
import Derived.Test.YtfnohbalkpponaaGreatDoorZAP
import Derived.Test.YtfnohbalkpponaaGreatDoorZAO
import Derived.Test.YtfnohbalkpponaaGreatDoorX5
import Derived.Test.YtfnohbalkpponaaGreatDoorZAR
import Derived.Laws.LoneSync
namespace Go.Proofs.YtfnohbalkpponaaGreatDoor.Pr
open Go.RowKit


/-- Is a word a NaN's? -/
def isN (x : Nat) : Bool := decide (9218868437227405312 < x % 9223372036854775808)
/-- Where a word that is no NaN's stands. -/
def ov (x : Nat) : Int := if x < 9223372036854775808 then (x : Int) else 9223372036854775808 - (x : Int)
theorem ov_sw (s : Bool) (a : Nat) (h : a < 9223372036854775808) : ov (sw s a) = sr s a := by
  unfold ov sw sr; cases s <;> simp <;> omega
theorem isN_sw (s : Bool) (a : Nat) (h : a < 9223372036854775808) : isN (sw s a) = decide (9218868437227405312 < a) := by
  unfold isN sw; congr 2; cases s <;> simp <;> omega
theorem ord_nan {x : Nat} (hx : x < 18446744073709551616) (h : isN x = true) (y : Nat) : FloatKind.f64.format.order x y = none ∧ FloatKind.f64.format.order y x = none := by
  obtain ⟨s, a, rfl, ha⟩ := sw_of x hx
  rw [isN_sw s a ha] at h
  have h := of_decide_eq_true h
  exact ⟨order_nan1 s a y h ha, order_nan2 s a y h ha⟩
theorem ord_num {x y : Nat} (hx : x < 18446744073709551616) (hy : y < 18446744073709551616) (h : isN x = false) (k : isN y = false) : FloatKind.f64.format.order x y = some (compare (ov x) (ov y)) := by
  obtain ⟨s, a, rfl, ha⟩ := sw_of x hx
  obtain ⟨t, b, rfl, hb⟩ := sw_of y hy
  rw [isN_sw s a ha] at h
  rw [isN_sw t b hb] at k
  have h := of_decide_eq_false h
  have k := of_decide_eq_false k
  rw [ov_sw s a ha, ov_sw t b hb]
  exact order_all s t a b (by omega) (by omega)
theorem ord_self {x : Nat} (hx : x < 18446744073709551616) : (FloatKind.f64.format.order x x != some .eq) = isN x := by
  cases h : isN x
  · rw [ord_num hx hx h h]; simp
  · rw [(ord_nan hx h x).1]; decide
theorem isnan_f (x : Nat) (hx : x < 18446744073709551616) (w : World) :
    Calls Tryz.prog 264 #[.float .f64 x] w fun e w' => e = .returned (.bool (isN x)) ∧ w' = w := by
  have o1 := ord_self hx
  go_enter Tryz.func264, Tryz.ntmps264
  go_wp2
  go_ret
  exact ⟨rfl, rfl⟩
/-- How two stand, NaNs ahead, the two zeros alike. -/
def cmpF (x y : Nat) : Int := if isN x then (if isN y then 0 else -1) else if isN y then 1 else if ov x < ov y then -1 else if ov y < ov x then 1 else 0
set_option maxHeartbeats 400000 in
theorem cmpf_any (x y : Nat) (hx : x < 18446744073709551616) (hy : y < 18446744073709551616) (w : World) :
    Calls Tryz.prog 240 #[.float .f64 x, .float .f64 y] w fun e w' => e = .returned (.int .i64 (cmpF x y)) ∧ w' = w := by
  have HX : Hid _ := isnan_f x hx
  have HY : Hid _ := isnan_f y hy
  unfold cmpF
  cases hn : isN x
  · cases hm : isN y
    · have o := ord_num hx hy hn hm
      rw [hn] at HX; rw [hm] at HY
      rcases Int.lt_trichotomy (ov x) (ov y) with k | k | k
      · rw [Int.compare_eq_lt.2 k] at o
        have o1 : (FloatKind.f64.format.order x y == some .lt) = true := by rw [o]; decide
        rw [if_neg (by decide), if_neg (by decide), if_pos k]
        clear o
        go_enter Tryz.func240, Tryz.ntmps240
        go_wp2_with (go_at_call 264; (first | (with_reducible refine (HX.out _).mono ?_) | (with_reducible refine (HY.out _).mono ?_)); rintro e w' ⟨rfl, rfl⟩)
        go_ret
        exact ⟨rfl, rfl⟩
      · have o0 : compare (ov x) (ov y) = .eq := by rw [k]; simp
        rw [o0] at o
        have o1 : (FloatKind.f64.format.order x y == some .lt) = false := by rw [o]; decide
        have o2 : (FloatKind.f64.format.order x y == some .gt) = false := by rw [o]; decide
        rw [if_neg (by decide), if_neg (by decide), if_neg (by omega), if_neg (by omega)]
        clear o o0
        go_enter Tryz.func240, Tryz.ntmps240
        go_wp2_with (go_at_call 264; (first | (with_reducible refine (HX.out _).mono ?_) | (with_reducible refine (HY.out _).mono ?_)); rintro e w' ⟨rfl, rfl⟩)
        go_ret
        exact ⟨rfl, rfl⟩
      · rw [Int.compare_eq_gt.2 k] at o
        have o1 : (FloatKind.f64.format.order x y == some .lt) = false := by rw [o]; decide
        have o2 : (FloatKind.f64.format.order x y == some .gt) = true := by rw [o]; decide
        rw [if_neg (by decide), if_neg (by decide), if_neg (by omega), if_pos k]
        clear o
        go_enter Tryz.func240, Tryz.ntmps240
        go_wp2_with (go_at_call 264; (first | (with_reducible refine (HX.out _).mono ?_) | (with_reducible refine (HY.out _).mono ?_)); rintro e w' ⟨rfl, rfl⟩)
        go_ret
        exact ⟨rfl, rfl⟩
    · rw [hn] at HX; rw [hm] at HY
      go_enter Tryz.func240, Tryz.ntmps240
      go_wp2_with (go_at_call 264; (first | (with_reducible refine (HX.out _).mono ?_) | (with_reducible refine (HY.out _).mono ?_)); rintro e w' ⟨rfl, rfl⟩)
      go_ret
      exact ⟨rfl, rfl⟩
  · rw [hn] at HX
    cases hm : isN y <;> rw [hm] at HY
    all_goals
      go_enter Tryz.func240, Tryz.ntmps240
      go_wp2_with (go_at_call 264; (first | (with_reducible refine (HX.out _).mono ?_) | (with_reducible refine (HY.out _).mono ?_)); rintro e w' ⟨rfl, rfl⟩)
      go_ret
      exact ⟨rfl, rfl⟩
/-- One, with a float's sign. -/
def oneS (x : Nat) : Nat := x / 9223372036854775808 * 9223372036854775808 + 4607182418800017408
theorem one_or (x : Nat) (h : x < 18446744073709551616) : bits .or .u64 4607182418800017408 ((x / 9223372036854775808 * 9223372036854775808 : Nat) : Int) = ((oneS x : Nat) : Int) := by
  have := u64_or_nat 4607182418800017408 (x / 9223372036854775808 * 9223372036854775808) (by decide) (by omega)
  rw [show ((4607182418800017408 : Nat) : Int) = 4607182418800017408 from rfl] at this
  rw [this]
  unfold oneS
  congr 1
  rw [Nat.or_comm, nat_join 63 _ _ (by rw [show (2 : Nat) ^ 63 = 9223372036854775808 from by decide]; omega) (by decide)]
theorem one_not : bits .andNot .u64 4607182418800017408 9223372036854775808 = 4607182418800017408 := by decide +kernel
set_option maxHeartbeats 400000 in
theorem copysign_any (x : Nat) (h : x < 18446744073709551616) (w : World) : Calls Tryz.prog 241 #[.float .f64 4607182418800017408, .float .f64 x] w fun e w' => e = .returned (.float .f64 (oneS x)) ∧ w' = w := by
  have h1 := sign_bit x h
  have h2 := one_or x h
  have h3 := one_not
  generalize x / 9223372036854775808 * 9223372036854775808 = y at *
  generalize oneS x = z at *
  go_enter Tryz.func241, Tryz.ntmps241
  go_wp2_with (first | simp only [mf64bits] | simp only [mf64from])
  go_ret
  exact ⟨rfl, rfl⟩
/-- Where a float stands, as the document has it. -/
def rk (x : Nat) : Nat := if isN x then 0 else if 9223372036854775808 ≤ x then 18446744073709551615 - x else x + 9223372036854775808
def sg (a b : Nat) : Int := if a < b then -1 else if b < a then 1 else 0
theorem rk_nan {x : Nat} (h : isN x = true) : rk x = 0 := by unfold rk; rw [if_pos h]
theorem rk_num {x : Nat} (hx : x < 18446744073709551616) (h : isN x = false) : (rk x : Int) = if 9223372036854775808 ≤ x then 18446744073709551615 - (x : Int) else (x : Int) + 9223372036854775808 := by
  unfold rk; rw [if_neg (by rw [h]; decide)]; split <;> omega
theorem isN_oneS (x : Nat) (_hx : x < 18446744073709551616) : isN (oneS x) = false := by
  unfold isN oneS; apply decide_eq_false; omega
theorem oneS_lt (x : Nat) (hx : x < 18446744073709551616) : oneS x < 18446744073709551616 := by unfold oneS; omega
theorem nan_size {x : Nat} (h : isN x = false) : x % 9223372036854775808 ≤ 9218868437227405312 := by
  have := of_decide_eq_false h; omega
theorem cmp_rk_ne (x y : Nat) (hx : x < 18446744073709551616) (hy : y < 18446744073709551616) (h : isN x = true ∨ isN y = true ∨ ov x ≠ ov y) : cmpF x y = sg (rk x) (rk y) := by
  unfold cmpF sg
  cases hn : isN x <;> cases hm : isN y
  · have n1 := rk_num hx hn
    have n2 := rk_num hy hm
    have z1 := nan_size hn
    have z2 := nan_size hm
    have ho : ov x ≠ ov y := by rcases h with h | h | h; · rw [hn] at h; cases h
                                · rw [hm] at h; cases h
                                · exact h
    unfold ov at ho ⊢
    simp only [Bool.false_eq_true, if_false]
    generalize rk x = A at *
    generalize rk y = B at *
    split at n1 <;> split at n2 <;> split at ho <;> split at ho <;> split <;> split <;> (try split) <;> (try split) <;> omega
  · rw [rk_nan hm]
    have n1 := rk_num hx hn
    have z1 := nan_size hn
    simp only [Bool.false_eq_true, if_false, if_true]
    rw [if_neg (by omega), if_pos (by split at n1 <;> omega)]
  · rw [rk_nan hn]
    have n2 := rk_num hy hm
    have z2 := nan_size hm
    simp only [Bool.false_eq_true, if_false, if_true]
    rw [if_pos (by split at n2 <;> omega)]
  · rw [rk_nan hn, rk_nan hm]
    simp
theorem cmp_rk_eq (x y : Nat) (hx : x < 18446744073709551616) (hy : y < 18446744073709551616) (hn : isN x = false) (hm : isN y = false) (h : ov x = ov y) : cmpF (oneS x) (oneS y) = sg (rk x) (rk y) := by
  unfold cmpF sg
  rw [isN_oneS x hx, isN_oneS y hy]
  have n1 := rk_num hx hn
  have n2 := rk_num hy hm
  have z1 := nan_size hn
  have z2 := nan_size hm
  unfold ov oneS at *
  simp only [Bool.false_eq_true, if_false]
  generalize rk x = A at *
  generalize rk y = B at *
  split at n1 <;> split at n2 <;> split at h <;> split at h <;> split <;> split <;> (try split) <;> (try split) <;> (try split) <;> (try split) <;> omega
set_option maxHeartbeats 1000000 in
theorem compare_any (x y : Nat) (hx : x < 18446744073709551616) (hy : y < 18446744073709551616) (w : World) :
    Calls Tryz.prog 202 #[.float .f64 x, .float .f64 y] w fun e w' => e = .returned (.int .i64 (sg (rk x) (rk y))) ∧ w' = w := by
  by_cases h : isN x = true ∨ isN y = true ∨ ov x ≠ ov y
  · rw [← cmp_rk_ne x y hx hy h]
    have o1 : (FloatKind.f64.format.order x y == some .eq) = false := by
      cases hn : isN x
      · cases hm : isN y
        · rw [ord_num hx hy hn hm]
          rcases h with h | h | h
          · rw [hn] at h; cases h
          · rw [hm] at h; cases h
          · rcases Int.lt_trichotomy (ov x) (ov y) with k | k | k
            · rw [Int.compare_eq_lt.2 k]; decide
            · exact absurd k h
            · rw [Int.compare_eq_gt.2 k]; decide
        · rw [(ord_nan hy hm x).2]; decide
      · rw [(ord_nan hx hn y).1]; decide
    clear h
    go_enter Tryz.func202, Tryz.ntmps202
    go_wp2_with fail
    refine (cmpf_any x y hx hy w).mono ?_
    rintro e w ⟨rfl, rfl⟩
    go_wp2
    go_ret
    exact ⟨rfl, rfl⟩
  · have hn : isN x = false := by cases hh : isN x <;> simp_all
    have hm : isN y = false := by cases hh : isN y <;> simp_all
    have ho : ov x = ov y := Classical.byContradiction fun k => h (Or.inr (Or.inr k))
    rw [← cmp_rk_eq x y hx hy hn hm ho]
    have o1 : (FloatKind.f64.format.order x y == some .eq) = true := by rw [ord_num hx hy hn hm, ho]; simp
    clear h ho hn hm
    have HX : Hid _ := copysign_any x hx
    have HY : Hid _ := copysign_any y hy
    have HC : Hid _ := cmpf_any (oneS x) (oneS y) (oneS_lt x hx) (oneS_lt y hy)
    go_enter Tryz.func202, Tryz.ntmps202
    go_wp2_with (first
      | (go_at_call 241; (first | (with_reducible refine (HX.out _).mono ?_) | (with_reducible refine (HY.out _).mono ?_)); rintro e w ⟨rfl, rfl⟩)
      | (go_at_call 240; with_reducible refine (HC.out _).mono ?_; rintro e w ⟨rfl, rfl⟩)
      | fail)
    go_ret
    exact ⟨rfl, rfl⟩
end Go.Proofs.YtfnohbalkpponaaGreatDoor.Pr
/- WORDS WITHOUT A GATE; rows of words. Own work of the verifier. -/
namespace Go.Proofs.YtfnohbalkpponaaGreatDoor
open Go.RowKit

theorem swap_run (w : World) (a : Addr) (x y : Int) (hc : w.cell? a = some (.int .i64 x)) (hz : w.frozen? a = false) :
    (callFunc 235 #[.pointer (some a), .int .i64 y]).run Tryz.prog w = .ok (.value (.int .i64 x)) (w.setCell a (.int .i64 y)) := by
  rw [run_callFunc_extern Tryz.func235 (by kernel_rfl) (by kernel_rfl) (by kernel_rfl) (e := Extern.Atomic.swapT (.int .i64)) (by kernel_rfl)]
  change (Sem.run Tryz.prog (do
    let a' ← asAddr (.pointer (some a))
    let old ← Extern.Atomic.read (.int .i64) a'
    store a' (.int .i64 y) .atomic
    pure old) w).andThen _ = _
  simp [Extern.Atomic.read, asAddr, hc, hz, run_store Tryz.prog w a (.int .i64 y) .atomic rfl, Result.andThen]
theorem addw_run (w : World) (a : Addr) (x y : Int) (hc : w.cell? a = some (.int .i64 x)) (hz : w.frozen? a = false) :
    (callFunc 122 #[.pointer (some a), .int .i64 y]).run Tryz.prog w = .ok (.value (.int .i64 (wrap64 (x + y)))) (w.setCell a (.int .i64 (wrap64 (x + y)))) :=
  run_call_add Tryz.func122 (by kernel_rfl) (by kernel_rfl) (by kernel_rfl) .i64 (by kernel_rfl) hc hz (by simp [go_sem, wrap64, IntKind.wrap_i64])
theorem step_nil (w : World) : Calls Tryz.prog 105 #[.pointer none] w fun e w' => e = .returned (.tuple #[]) ∧ w' = w := by
  go_enter Tryz.func105, Tryz.ntmps105
  go_wp2
  first | go_end0 | refine bodyPost_ret (results_none rfl _ _ _) rfl ?_
  exact ⟨rfl, rfl⟩
theorem aswap_any (b o : Nat) (x y : Int) (w : World) (hc : w.cell? ⟨b, o, none⟩ = some (.int .i64 x)) (hz : w.frozen? ⟨b, o, none⟩ = false) :
    Calls Tryz.prog 193 #[.pointer (some ⟨b, o, none⟩), .int .i64 y] w fun e w' => e = .returned (.int .i64 x) ∧ w' = w.setCell ⟨b, o, none⟩ (.int .i64 y) := by
  have hs := swap_run w ⟨b, o, none⟩ x y hc hz
  go_enter Tryz.func193, Tryz.ntmps193
  go_wp2
  go_ret
  exact ⟨rfl, rfl⟩
theorem aadd_any (b o : Nat) (x y : Int) (w : World) (hc : w.cell? ⟨b, o, none⟩ = some (.int .i64 x)) (hz : w.frozen? ⟨b, o, none⟩ = false) :
    Calls Tryz.prog 77 #[.pointer (some ⟨b, o, none⟩), .int .i64 y] w fun e w' => e = .returned (.int .i64 (wrap64 (x + y))) ∧ w' = w.setCell ⟨b, o, none⟩ (.int .i64 (wrap64 (x + y))) := by
  have hs := addw_run w ⟨b, o, none⟩ x y hc hz
  go_enter Tryz.func77, Tryz.ntmps77
  go_wp2
  go_ret
  exact ⟨rfl, rfl⟩
theorem wswap_any (b o : Nat) (x y : Int) (w : World) (hc : w.cell? ⟨b, o, none⟩ = some (.int .i64 x)) (hz : w.frozen? ⟨b, o, none⟩ = false) :
    Calls Tryz.prog 133 #[.pointer (some ⟨b, o, none⟩), .pointer none, .int .i64 y] w fun e w' => e = .returned (.int .i64 x) ∧ w' = w.setCell ⟨b, o, none⟩ (.int .i64 y) := by
  have HS : Hid (∀ W, _) := step_nil
  have HA : Hid (∀ _ : Unit, _) := fun _ => aswap_any b o x y w hc hz
  go_enter Tryz.func133, Tryz.ntmps133
  go_wp2_with (first
    | (go_at_call 105; refine (HS.out _).mono ?_; rintro e w ⟨rfl, rfl⟩)
    | (go_at_call 193; refine (HA.out ()).mono ?_; rintro e w ⟨rfl, rfl⟩))
  go_ret
  exact ⟨rfl, rfl⟩
theorem wadd_any (b o : Nat) (x y : Int) (w : World) (hx : -9223372036854775808 ≤ x) (hx1 : x < 9223372036854775808) (hc : w.cell? ⟨b, o, none⟩ = some (.int .i64 x)) (hz : w.frozen? ⟨b, o, none⟩ = false) :
    Calls Tryz.prog 59 #[.pointer (some ⟨b, o, none⟩), .pointer none, .int .i64 y] w fun e w' => e = .returned (.int .i64 x) ∧ w' = w.setCell ⟨b, o, none⟩ (.int .i64 (wrap64 (x + y))) := by
  have HS : Hid (∀ W, _) := step_nil
  have HA : Hid (∀ _ : Unit, _) := fun _ => aadd_any b o x y w hc hz
  have HX : Hid (wrap64 (wrap64 (x + y) - y) = x) := by unfold Hid wrap64; omega
  generalize wrap64 (x + y) = z at *
  go_enter Tryz.func59, Tryz.ntmps59
  go_wp2_with (first
    | (go_at_call 105; refine (HS.out _).mono ?_; rintro e w ⟨rfl, rfl⟩)
    | (go_at_call 77; refine (HA.out ()).mono ?_; rintro e w ⟨rfl, rfl⟩))
  go_ret
  exact ⟨congrArg (fun z => Ending.returned (Value.int .i64 z)) HX.out, rfl⟩
/-- A row of words. -/
def RowW (w : World) (g : Nat) (xs : List Int) : Prop := w.heap[g]? = some (.cells (xs.map fun x => Value.int .i64 x).toArray 90 (0, 0))
theorem RowW.cell {w : World} {g : Nat} {xs : List Int} (h : RowW w g xs) (i : Nat) (hi : i < xs.length) : w.cell? ⟨g, i, none⟩ = some (.int .i64 xs[i]) := by
  unfold RowW at h; simp [World.cell?, h, hi]
theorem RowW.fr {w : World} {g : Nat} {xs : List Int} (h : RowW w g xs) (i : Nat) : w.frozen? ⟨g, i, none⟩ = false := by
  unfold RowW at h; simp [World.frozen?, h]
theorem RowW.lt {w : World} {g : Nat} {xs : List Int} (h : RowW w g xs) : g < w.heap.size := (Array.getElem?_eq_some_iff.1 h).1
theorem RowW.set {w : World} {g : Nat} {xs : List Int} (h : RowW w g xs) (i : Nat) (y : Int) : RowW (w.setCell ⟨g, i, none⟩ (.int .i64 y)) g (xs.set i y) := by
  unfold RowW at *
  rw [heap_setCell_same w g i _ _ _ h, List.map_set]
  simp
theorem RowW.mid {w w' : World} {g n0 B : Nat} {xs : List Int} (h : RowW w g xs) (hm : Mid n0 B w w') (hg : ¬ (n0 ≤ g ∧ g < B)) : RowW w' g xs := by
  have hl := h.lt
  unfold RowW at *; rw [hm.block g hl hg]; exact h
theorem RowW.below {w w' : World} {g B : Nat} {xs : List Int} (h : RowW w g xs) (hb : Below B w w') (hg : g < B) : RowW w' g xs := by
  unfold RowW at *; rw [hb.block g hg]; exact h
theorem RowW.alloc {w : World} {g : Nat} {xs : List Int} (h : RowW w g xs) (o : Obj) : RowW (w.alloc o) g xs := h.below ((Below.refl _ _).alloc (Nat.le_refl _) _) h.lt
theorem hid_mid {n0 B k : Nat} {W W' : World} {o : Obj} (h : Hid (W.heap[k]? = some o)) (hm : Hid (Mid n0 B W W')) (hk : ¬ (n0 ≤ k ∧ k < B)) : Hid (W'.heap[k]? = some o) := by
  unfold Hid at *; rw [hm.block k (Array.getElem?_eq_some_iff.1 h).1 hk]; exact h
theorem two_0 {W : World} {b : Nat} {u v : Value} {t : TypeId} (h : Hid (W.heap[b]? = some (.cells #[u, v] t (0, 0)))) : W.cell? ⟨b, 0, none⟩ = some u := by unfold Hid at h; simp [World.cell?, h]
theorem two_1 {W : World} {b : Nat} {u v : Value} {t : TypeId} (h : Hid (W.heap[b]? = some (.cells #[u, v] t (0, 0)))) : W.cell? ⟨b, 1, none⟩ = some v := by unfold Hid at h; simp [World.cell?, h]
theorem hid_fr {W : World} {b : Nat} {c : Array Value} {t : TypeId} (h : Hid (W.heap[b]? = some (.cells c t (0, 0)))) (o : Nat) : W.frozen? ⟨b, o, none⟩ = false := by unfold Hid at h; simp [World.frozen?, h]
theorem set_two {W : World} {b : Nat} {u v u' v' : Value} {t : TypeId} (h : W.heap[b]? = some (.cells #[u, v] t (0, 0))) : ((W.setCell ⟨b, 0, none⟩ u').setCell ⟨b, 1, none⟩ v').heap[b]? = some (.cells #[u', v'] t (0, 0)) := by
  rw [heap_setCell_same _ b 1 _ _ _ (heap_setCell_same W b 0 _ _ _ h)]; rfl
theorem RowW.other {w : World} {g : Nat} {xs : List Int} (h : RowW w g xs) {a : Addr} (ha : g ≠ a.block) (u : Value) : RowW (w.setCell a u) g xs := by
  unfold RowW at *; rw [heap_setCell_other w a g u ha]; exact h
theorem mid_set {W : World} (g i : Nat) (u : Value) : Mid g (g + 1) W (W.setCell ⟨g, i, none⟩ u) := (Mid.refl _ _ _).setCell (p := ⟨g, i, none⟩) (Or.inl ⟨Nat.le_refl _, Nat.lt_succ_self _⟩) u
theorem wswap_row (g i : Nat) (xs : List Int) (x y : Int) (W : World) (h : RowW W g xs) (hi : i < xs.length) (hx : xs[i] = x) (ys : List Int) (hy : xs.set i y = ys) :
    Calls Tryz.prog 133 #[.pointer (some ⟨g, i, none⟩), .pointer none, .int .i64 y] W fun e w' => e = .returned (.int .i64 x) ∧ Hid (RowW w' g ys) ∧ Hid (Mid g (g + 1) W w') := by
  subst hx hy
  refine Calls.mono (wswap_any g i xs[i] y W (h.cell i hi) (h.fr i)) ?_
  rintro e w' ⟨rfl, rfl⟩
  exact ⟨rfl, h.set i y, mid_set g i _⟩
theorem wadd_row (g i : Nat) (xs : List Int) (x y : Int) (W : World) (h : RowW W g xs) (hi : i < xs.length) (hx : xs[i] = x) (x0 : -9223372036854775808 ≤ x) (x1 : x < 9223372036854775808) (ys : List Int) (hy : xs.set i (wrap64 (x + y)) = ys) :
    Calls Tryz.prog 59 #[.pointer (some ⟨g, i, none⟩), .pointer none, .int .i64 y] W fun e w' => e = .returned (.int .i64 x) ∧ Hid (RowW w' g ys) ∧ Hid (Mid g (g + 1) W w') := by
  subst hx hy
  refine Calls.mono (wadd_any g i xs[i] y W x0 x1 (h.cell i hi) (h.fr i)) ?_
  rintro e w' ⟨rfl, rfl⟩
  exact ⟨rfl, h.set i _, mid_set g i _⟩
set_option maxHeartbeats 1000000 in
theorem drainSum_any (g cap : Nat) (lo hi : Int) (rest : List Int) (w : World) (h : RowW w g (lo :: hi :: rest)) :
    Calls Tryz.prog 304 #[.pointer none, .slice (some ⟨g, 0, none⟩) (rest.length + 2) cap] w fun e w' => e = .returned (.agg #[.int .i64 hi, .int .u64 (IntKind.u64.wrap lo)]) ∧ RowW w' g (0 :: 0 :: rest) ∧ Mid g (g + 1) w w' := by
  have HS0 : Hid (∀ W, RowW W g (lo :: hi :: rest) → Calls Tryz.prog 133 #[.pointer (some ⟨g, 0, none⟩), .pointer none, .int .i64 0] W fun e w' => e = .returned (.int .i64 lo) ∧ Hid (RowW w' g (0 :: hi :: rest)) ∧ Hid (Mid g (g + 1) W w')) := fun W hW => wswap_row g 0 _ lo 0 W hW (by simp) rfl _ rfl
  have HS1 : Hid (∀ W, RowW W g (0 :: hi :: rest) → Calls Tryz.prog 133 #[.pointer (some ⟨g, 1, none⟩), .pointer none, .int .i64 0] W fun e w' => e = .returned (.int .i64 hi) ∧ Hid (RowW w' g (0 :: 0 :: rest)) ∧ Hid (Mid g (g + 1) W w')) := fun W hW => wswap_row g 1 _ hi 0 W hW (by simp) rfl _ rfl
  have HR : Hid (RowW w g (lo :: hi :: rest)) := h
  have hl := h.lt
  have hn1 : ¬ (g ≤ w.heap.size ∧ w.heap.size < g + 1) := by omega
  have HN : Hid _ := new_1 w (.cells #[.int .i64 0, .int .u64 0] 70)
  clear h
  go_enter Tryz.func304, Tryz.ntmps304
  go_wp2_with (first
    | (go_at_call 133; with_reducible refine Calls.mono (HS0.out _ (HR.out.alloc _)) ?_; rintro e w1 ⟨rfl, HR1, HM1⟩)
    | (go_at_call 133; with_reducible refine Calls.mono (HS1.out _ HR1.out) ?_; rintro e w2 ⟨rfl, HR2, HM2⟩; have HN2 := hid_mid (hid_mid HN HM1 hn1) HM2 hn1; have q0 := two_0 HN2; have q1 := two_1 HN2; have f0 := hid_fr HN2 0; have f1 := hid_fr HN2 1))
  have HE := set_two (u' := .int .i64 hi) (v' := .int .u64 (IntKind.u64.wrap lo)) HN2.out
  have z0 := two_0 HE
  have z1 := two_1 HE
  simp [bodyPost, results, Tryz.results304, go_sem, z0, z1]
  have hM : Mid g (g + 1) w w2 := ((Mid.refl _ _ _).alloc _).trans (HM1.out.trans HM2.out)
  exact ⟨(HR2.out.other (by show g ≠ w.heap.size; omega) _).other (by show g ≠ w.heap.size; omega) _, (hM.setCell (p := ⟨w.heap.size, 0, none⟩) (Or.inr (Nat.le_refl _)) _).setCell (p := ⟨w.heap.size, 1, none⟩) (Or.inr (Nat.le_refl _)) _⟩
/-- A part, as the code has it. -/
abbrev part (hi lo : Int) (v : Value) (n : Int) (s c mn mx : Nat) : Value := .agg #[.int .i64 hi, .int .u64 lo, v, .int .u64 n, .complex .f64 s c, .float .f64 mn, .float .f64 mx]
theorem hid_below {B k : Nat} {W W' : World} {o : Obj} (h : Hid (W.heap[k]? = some o)) (hb : Below B W W') (hk : k < B) : Hid (W'.heap[k]? = some o) := by
  unfold Hid at *; rw [hb.block k hk]; exact h
theorem seven_cells {W : World} {b : Nat} {u0 u1 u2 u3 u4 u5 u6 : Value} {t : TypeId} (h : Hid (W.heap[b]? = some (.cells #[u0, u1, u2, u3, u4, u5, u6] t (0, 0)))) : W.cell? ⟨b, 0, none⟩ = some u0 ∧ W.cell? ⟨b, 1, none⟩ = some u1 ∧ W.cell? ⟨b, 2, none⟩ = some u2 ∧ W.cell? ⟨b, 3, none⟩ = some u3 ∧ W.cell? ⟨b, 4, none⟩ = some u4 ∧ W.cell? ⟨b, 5, none⟩ = some u5 ∧ W.cell? ⟨b, 6, none⟩ = some u6 := by
  unfold Hid at h; simp [World.cell?, h]
theorem seven_fr {W : World} {b : Nat} {u0 u1 u2 u3 u4 u5 u6 : Value} {t : TypeId} (h : Hid (W.heap[b]? = some (.cells #[u0, u1, u2, u3, u4, u5, u6] t (0, 0)))) : W.frozen? ⟨b, 0, none⟩ = false ∧ W.frozen? ⟨b, 1, none⟩ = false ∧ W.frozen? ⟨b, 2, none⟩ = false ∧ W.frozen? ⟨b, 3, none⟩ = false ∧ W.frozen? ⟨b, 4, none⟩ = false ∧ W.frozen? ⟨b, 5, none⟩ = false ∧ W.frozen? ⟨b, 6, none⟩ = false :=
  ⟨hid_fr h 0, hid_fr h 1, hid_fr h 2, hid_fr h 3, hid_fr h 4, hid_fr h 5, hid_fr h 6⟩
/-- A part is stored. -/
def put7 (W : World) (b : Nat) (v0 v1 v2 v3 v4 v5 v6 : Value) : World := ((((((W.setCell ⟨b, 0, none⟩ v0).setCell ⟨b, 1, none⟩ v1).setCell ⟨b, 2, none⟩ v2).setCell ⟨b, 3, none⟩ v3).setCell ⟨b, 4, none⟩ v4).setCell ⟨b, 5, none⟩ v5).setCell ⟨b, 6, none⟩ v6
theorem put7_eq (W : World) (b : Nat) (v0 v1 v2 v3 v4 v5 v6 : Value) : ((((((W.setCell ⟨b, 0, none⟩ v0).setCell ⟨b, 1, none⟩ v1).setCell ⟨b, 2, none⟩ v2).setCell ⟨b, 3, none⟩ v3).setCell ⟨b, 4, none⟩ v4).setCell ⟨b, 5, none⟩ v5).setCell ⟨b, 6, none⟩ v6 = put7 W b v0 v1 v2 v3 v4 v5 v6 := rfl
theorem set_seven {W : World} {b : Nat} {u0 u1 u2 u3 u4 u5 u6 v0 v1 v2 v3 v4 v5 v6 : Value} {t : TypeId} (h : W.heap[b]? = some (.cells #[u0, u1, u2, u3, u4, u5, u6] t (0, 0))) : (put7 W b v0 v1 v2 v3 v4 v5 v6).heap[b]? = some (.cells #[v0, v1, v2, v3, v4, v5, v6] t (0, 0)) := by
  unfold put7
  rw [heap_setCell_same _ b 6 _ _ _ (heap_setCell_same _ b 5 _ _ _ (heap_setCell_same _ b 4 _ _ _ (heap_setCell_same _ b 3 _ _ _ (heap_setCell_same _ b 2 _ _ _ (heap_setCell_same _ b 1 _ _ _ (heap_setCell_same _ b 0 _ _ _ (h)))))))]; rfl
theorem put7_other (W : World) (b k : Nat) (v0 v1 v2 v3 v4 v5 v6 : Value) (h : k ≠ b) : (put7 W b v0 v1 v2 v3 v4 v5 v6).heap[k]? = W.heap[k]? := by
  unfold put7
  rw [heap_setCell_other _ _ k _ h, heap_setCell_other _ _ k _ h, heap_setCell_other _ _ k _ h, heap_setCell_other _ _ k _ h, heap_setCell_other _ _ k _ h, heap_setCell_other _ _ k _ h, heap_setCell_other _ _ k _ h]
theorem put7_size (W : World) (b : Nat) (v0 v1 v2 v3 v4 v5 v6 : Value) : (put7 W b v0 v1 v2 v3 v4 v5 v6).heap.size = W.heap.size := by unfold put7; simp
theorem Mid.put7 {n0 B : Nat} {a w : World} (h : Mid n0 B a w) {b : Nat} (hb : a.heap.size ≤ b) (v0 v1 v2 v3 v4 v5 v6 : Value) : Mid n0 B a (put7 w b v0 v1 v2 v3 v4 v5 v6) := by
  unfold Go.Proofs.YtfnohbalkpponaaGreatDoor.put7
  exact ((((((h.setCell (p := ⟨b, 0, none⟩) (Or.inr hb) _).setCell (p := ⟨b, 1, none⟩) (Or.inr hb) _).setCell (p := ⟨b, 2, none⟩) (Or.inr hb) _).setCell (p := ⟨b, 3, none⟩) (Or.inr hb) _).setCell (p := ⟨b, 4, none⟩) (Or.inr hb) _).setCell (p := ⟨b, 5, none⟩) (Or.inr hb) _).setCell (p := ⟨b, 6, none⟩) (Or.inr hb) _
theorem RowW.put7 {w : World} {g : Nat} {xs : List Int} (h : RowW w g xs) {b : Nat} (hb : g ≠ b) (v0 v1 v2 v3 v4 v5 v6 : Value) : RowW (put7 w b v0 v1 v2 v3 v4 v5 v6) g xs := by
  unfold RowW at *; rw [put7_other _ _ _ _ _ _ _ _ _ _ hb]; exact h
theorem store_f (W : World) (a : Addr) (x : Nat) (m : Mode) : (store a (.float .f64 x) m).run Tryz.prog W = stored Tryz.prog W a (.float .f64 x) m := run_store Tryz.prog W a _ m rfl
theorem store_c (W : World) (a : Addr) (x y : Nat) (m : Mode) : (store a (.complex .f64 x y) m).run Tryz.prog W = stored Tryz.prog W a (.complex .f64 x y) m := run_store Tryz.prog W a _ m rfl
set_option maxHeartbeats 1000000 in
theorem cdrain_any (p : Value) (g cap : Nat) (lo hi : Int) (rest : List Int) (w : World) (h : RowW w g (lo :: hi :: rest)) :
    Calls Tryz.prog 295 #[p, .pointer none, .slice (some ⟨g, 0, none⟩) (rest.length + 2) cap] w fun e w' => e = .returned (part hi (IntKind.u64.wrap lo) (.slice none 0 0) 0 0 0 0 0) ∧ RowW w' g (0 :: 0 :: rest) ∧ Mid g (g + 1) w w' := by
  have HD : Hid (∀ W, RowW W g (lo :: hi :: rest) → Calls Tryz.prog 304 #[.pointer none, .slice (some ⟨g, 0, none⟩) (rest.length + 2) cap] W fun e w' => e = .returned (.agg #[.int .i64 hi, .int .u64 (IntKind.u64.wrap lo)]) ∧ Hid (RowW w' g (0 :: 0 :: rest)) ∧ Hid (Mid g (g + 1) W w')) := fun W hW => drainSum_any g cap lo hi rest W hW
  have HR : Hid (RowW w g (lo :: hi :: rest)) := h
  have hl := h.lt
  have hn1 : ¬ (g ≤ w.heap.size ∧ w.heap.size < g + 1) := by omega
  have HN : Hid _ := new_1 w (.cells #[.int .i64 0, .int .u64 0, .slice none 0 0, .int .u64 0, .complex .f64 0 0, .float .f64 0, .float .f64 0] 184)
  clear h
  have sF := store_f
  have sC := store_c
  go_enter Tryz.func295, Tryz.ntmps295
  go_wp2_with (go_at_call 304; with_reducible refine Calls.mono (HD.out _ (HR.out.alloc _)) ?_; rintro e w1 ⟨rfl, HR1, HM1⟩; have HN1 := hid_mid HN HM1 hn1; obtain ⟨q0, q1, q2, q3, q4, q5, q6⟩ := seven_cells HN1; obtain ⟨f0, f1, f2, f3, f4, f5, f6⟩ := seven_fr HN1)
  rw [put7_eq]
  have HE := set_seven (v0 := .int .i64 hi) (v1 := .int .u64 (IntKind.u64.wrap lo)) (v2 := .slice none 0 0) (v3 := .int .u64 0) (v4 := .complex .f64 0 0) (v5 := .float .f64 0) (v6 := .float .f64 0) HN1.out
  obtain ⟨z0, z1, z2, z3, z4, z5, z6⟩ := seven_cells HE
  simp [bodyPost, results, Tryz.results295, go_sem, z0, z1, z2, z3, z4, z5, z6]
  have hM : Mid g (g + 1) w w1 := ((Mid.refl _ _ _).alloc _).trans HM1.out
  exact ⟨HR1.out.put7 (by omega) _ _ _ _ _ _ _, hM.put7 (Nat.le_refl _) _ _ _ _ _ _ _⟩
end Go.Proofs.YtfnohbalkpponaaGreatDoor
/- PARTS: what two come to. Own work of the verifier. -/
namespace Go.Proofs.YtfnohbalkpponaaGreatDoor
open Go.RowKit

/-- Of x of a and y of b, the one at an end. -/
def endF (n n' x y : Nat) (side : Int) : Nat := if n = 0 then y else if n' = 0 then x else if Pr.sg (Pr.rk y) (Pr.rk x) = side then y else x
theorem endF_lt {n n' x y : Nat} {side : Int} (hx : x < 18446744073709551616) (hy : y < 18446744073709551616) : endF n n' x y side < 18446744073709551616 := by
  unfold endF; repeat' split
  all_goals assumption
set_option maxHeartbeats 1000000 in
theorem end_any (ah al bh bl : Int) (v v' : Value) (n n' s c u d mn mx mn' mx' x y : Nat) (side : Int) (hx : x < 18446744073709551616) (hy : y < 18446744073709551616) (w : World) :
    Calls Tryz.prog 137 #[part ah al v n s c mn mx, part bh bl v' n' u d mn' mx', .float .f64 x, .float .f64 y, .int .i64 side] w fun e w' => e = .returned (.float .f64 (endF n n' x y side)) ∧ Below w.heap.size w w' := by
  have HC : Hid _ := Pr.compare_any y x hy hx
  unfold endF
  generalize Pr.sg (Pr.rk y) (Pr.rk x) = z at *
  by_cases h0 : n = 0
  · subst h0
    rw [if_pos rfl]
    go_enter Tryz.func137, Tryz.ntmps137
    go_wp2_with fail
    go_ret
    exact ⟨rfl, bel2 _ _ _⟩
  · have t0 : ((n : Int) == 0) = false := by simp; omega
    rw [if_neg h0]
    by_cases h1 : n' = 0
    · subst h1
      rw [if_pos rfl]
      go_enter Tryz.func137, Tryz.ntmps137
      go_wp2_with fail
      go_ret
      exact ⟨rfl, bel2 _ _ _⟩
    · have t1 : ((n' : Int) == 0) = false := by simp; omega
      rw [if_neg h1]
      by_cases h2 : z = side
      · have t2 : (z == side) = true := by simp [h2]
        rw [if_pos h2]
        clear h2
        go_enter Tryz.func137, Tryz.ntmps137
        go_wp2_with (go_at_call 202; with_reducible refine (HC.out _).mono ?_; rintro e w ⟨rfl, rfl⟩)
        go_ret
        exact ⟨rfl, bel2 _ _ _⟩
      · have t2 : (z == side) = false := by simp [h2]
        rw [if_neg h2]
        clear h2
        go_enter Tryz.func137, Tryz.ntmps137
        go_wp2_with (go_at_call 202; with_reducible refine (HC.out _).mono ?_; rintro e w ⟨rfl, rfl⟩)
        go_ret
        exact ⟨rfl, bel2 _ _ _⟩
end Go.Proofs.YtfnohbalkpponaaGreatDoor
