/- RealReturns: what it holds against each other. Own work of the verifier. -/
import Derived.Test.YtndoilgepidjeaaGreatDoorATA
import Derived.Test.YtndoilgepidjeaaGreatDoorL19
import Derived.Test.YtndoilgepidjeaaGreatDoorD2
import Derived.HandedShaped
import Derived.Shelf.Vars
namespace Go.Proofs.YtndoilgepidjeaaGreatDoor
open Go.RowKit Go.Sort Soft

/-- The same float, bit by bit, or two NaNs. -/
def sameB (a b : Nat) : Bool := decide (a = b) || (isN a && isN b)
theorem rk_inj (a b : Nat) (ha : a < 18446744073709551616) (hb : b < 18446744073709551616) : (sg (rk a) (rk b) == 0) = sameB a b := by
  have key : sg (rk a) (rk b) = 0 ↔ rk a = rk b := by unfold sg; split <;> (try split) <;> omega
  have h2 : rk a = rk b ↔ (a = b ∨ isN a = true ∧ isN b = true) := by
    cases ka : isN a <;> cases kb : isN b
    · have n1 := rk_num ha ka
      have n2 := rk_num hb kb
      simp only [Bool.false_eq_true, false_and, or_false]
      split at n1 <;> split at n2 <;> omega
    · have n1 := rk_num ha ka
      have n2 := rk_nan kb
      have s1 := nan_size ka
      have s2 : 9218868437227405312 < b % 9223372036854775808 := of_decide_eq_true kb
      simp only [Bool.false_eq_true, false_and, or_false]
      split at n1 <;> omega
    · have n1 := rk_nan ka
      have n2 := rk_num hb kb
      have s1 := nan_size kb
      have s2 : 9218868437227405312 < a % 9223372036854775808 := of_decide_eq_true ka
      simp only [Bool.false_eq_true, and_false, or_false]
      split at n2 <;> omega
    · rw [rk_nan ka, rk_nan kb]
      simp
  unfold sameB
  rw [Bool.eq_iff_iff, beq_iff_eq, key, h2, Bool.or_eq_true, decide_eq_true_eq, Bool.and_eq_true]
/-- The text tells the sign. -/
theorem head_x (x : Nat) (h0 : x % 9223372036854775808 ≠ 0) (h1 : x % 9223372036854775808 < 9218868437227405312) : (pText x).head? = some 45 ↔ 9223372036854775808 ≤ x := by
  obtain ⟨m, xx, A, c, z, hF, _⟩ := reads_x x h0 h1
  obtain ⟨d, r, hm, hd⟩ := hF.fst
  rw [hF.is, hm]
  by_cases k : 9223372036854775808 ≤ x
  · rw [decide_eq_true k]
    exact ⟨fun _ => k, fun _ => rfl⟩
  · rw [decide_eq_false k]
    refine ⟨fun e => ?_, fun e => absurd e k⟩
    have : d = 45 := by simpa [sgn] using e
    rw [this] at hd
    exact absurd hd (by decide)
theorem text_inj (a b : Nat) (ha : a < 18446744073709551616) (hb : b < 18446744073709551616) (h : pText a = pText b) : a = b ∨ isN a = true ∧ isN b = true := by
  by_cases fa : a % 9223372036854775808 ≠ 0 ∧ a % 9223372036854775808 < 9218868437227405312
  · by_cases fb : b % 9223372036854775808 ≠ 0 ∧ b % 9223372036854775808 < 9218868437227405312
    · left
      have hs : 9223372036854775808 ≤ a ↔ 9223372036854775808 ≤ b := by rw [← head_x a fa.1 fa.2, ← head_x b fb.1 fb.2, h]
      have hw : val a = val b := by rw [← wt_x a fa.1 fa.2, ← wt_x b fb.1 fb.2, h]
      rw [val_mod a, val_mod b] at hw
      have hm : a % 9223372036854775808 = b % 9223372036854775808 := by
        rcases Nat.lt_trichotomy (a % 9223372036854775808) (b % 9223372036854775808) with k | k | k
        · have := val_lt (by omega) k fb.2; omega
        · exact k
        · have := val_lt (by omega) k fa.2; omega
      omega
    · exfalso
      have h1 := wt_x a fa.1 fa.2
      have h2 := wt_special b (by omega)
      have h3 := val_pos fa.1 fa.2
      rw [h, h2] at h1
      omega
  · by_cases fb : b % 9223372036854775808 ≠ 0 ∧ b % 9223372036854775808 < 9218868437227405312
    · exfalso
      have h1 := wt_x b fb.1 fb.2
      have h2 := wt_special a (by omega)
      have h3 := val_pos fb.1 fb.2
      rw [← h, h2] at h1
      omega
    · have ca : a % 9223372036854775808 = 0 ∨ a % 9223372036854775808 = 9218868437227405312 ∨ 9218868437227405312 < a % 9223372036854775808 := by omega
      have cb : b % 9223372036854775808 = 0 ∨ b % 9223372036854775808 = 9218868437227405312 ∨ 9218868437227405312 < b % 9223372036854775808 := by omega
      rcases ca with ca | ca | ca <;> rcases cb with cb | cb | cb
      · rw [text_zero a ca, text_zero b cb] at h
        left
        by_cases k1 : 9223372036854775808 ≤ a <;> by_cases k2 : 9223372036854775808 ≤ b
        · omega
        · rw [if_pos k1, if_neg k2] at h; cases h
        · rw [if_neg k1, if_pos k2] at h; cases h
        · omega
      · rw [text_zero a ca, text_inf b cb] at h
        split at h <;> split at h <;> cases h
      · rw [text_zero a ca, text_nan b cb] at h
        split at h <;> cases h
      · rw [text_inf a ca, text_zero b cb] at h
        split at h <;> split at h <;> cases h
      · rw [text_inf a ca, text_inf b cb] at h
        left
        by_cases k1 : 9223372036854775808 ≤ a <;> by_cases k2 : 9223372036854775808 ≤ b
        · omega
        · rw [if_pos k1, if_neg k2] at h; cases h
        · rw [if_neg k1, if_pos k2] at h; cases h
        · omega
      · rw [text_inf a ca, text_nan b cb] at h
        split at h <;> cases h
      · rw [text_nan a ca, text_zero b cb] at h
        split at h <;> cases h
      · rw [text_nan a ca, text_inf b cb] at h
        split at h <;> cases h
      · right
        exact ⟨decide_eq_true ca, decide_eq_true cb⟩
theorem text_same (a b : Nat) (ha : a < 18446744073709551616) (hb : b < 18446744073709551616) : (pText a = pText b) ↔ sameB a b = true := by
  unfold sameB
  rw [Bool.or_eq_true, decide_eq_true_eq, Bool.and_eq_true]
  refine ⟨text_inj a b ha hb, fun k => ?_⟩
  rcases k with k | ⟨k1, k2⟩
  · rw [k]
  · rw [text_nan a (of_decide_eq_true k1), text_nan b (of_decide_eq_true k2)]
theorem back_facts (x u : Nat) (hx : x < 18446744073709551616) (h : Back x u) : sameB u x = true ∧ isN u = isN x ∧ (isN x = false → u = x) := by
  cases k : isN x
  · have s := nan_size k
    have e := h.1 s
    subst e
    exact ⟨by unfold sameB; simp, k, fun _ => rfl⟩
  · have s : 9218868437227405312 < x % 9223372036854775808 := of_decide_eq_true k
    obtain ⟨q1, q2⟩ := h.2 s
    have hu : isN u = true := decide_eq_true (by omega)
    exact ⟨by unfold sameB; rw [hu, k]; simp, hu, fun h => by cases h⟩
theorem P10_of {w : World} (h : P10F w) : P10 w := by
  obtain ⟨b, o, p1, p2⟩ := h
  exact ⟨b, o, p1, p2 1 (by decide)⟩
def KR (w : World) (W : World) : Prop := Glob2 W ∧ P10F W ∧ 8 < W.heap.size ∧ Below w.heap.size w W
theorem keepR {w W W1 : World} (hb : Below W.heap.size W W1) (h : KR w W) : KR w W1 := ⟨h.1.below hb, h.2.1.below hb, by have := hb.size; have := h.2.2.1; omega, h.2.2.2.trans (hb.mono h.2.2.2.size)⟩
set_option maxRecDepth 100000 in
set_option maxHeartbeats 4000000 in
theorem returns_walk (a b : Nat) (ha : a < 18446744073709551616) (hb : b < 18446744073709551616) (w : World) (hG : Glob2 w) (hP : P10F w) (hg : 8 < w.heap.size) :
    Calls Tryz.prog 3 #[.int .u64 (a : Int), .int .u64 (b : Int)] w fun e w' => e = .returned (.bool true) ∧ Below w.heap.size w w' := by
  have HA : Hid (∀ W, KR w W → Calls Tryz.prog 5 #[] W fun e w' => e = .returned (.bool true) ∧ KR w w') := fun W h => (awake_any W h.1.glob (P10_of h.2.1)).mono fun e w' k => ⟨k.1, keepR k.2 h⟩
  have HPa : Hid (∀ W, KR w W → Calls Tryz.prog 7 #[.float .f64 a] W fun e w' => e = .returned (.string ⟨(pText a).toArray⟩) ∧ KR w w') := fun W h => (print_all a ha W h.1).mono fun e w' k => ⟨k.1, keepR k.2 h⟩
  have HPb : Hid (∀ W, KR w W → Calls Tryz.prog 7 #[.float .f64 b] W fun e w' => e = .returned (.string ⟨(pText b).toArray⟩) ∧ KR w w') := fun W h => (print_all b hb W h.1).mono fun e w' k => ⟨k.1, keepR k.2 h⟩
  have HQ : Hid (∀ W, KR w W → Calls Tryz.prog 8 #[.string ⟨(pText a).toArray⟩] W fun e w' => (∃ u, e = .returned (.tuple #[.float .f64 u, .int .i64 0]) ∧ Back a u) ∧ KR w w') := fun W h => (Parse_all a ha W h.1 h.2.1 h.2.2.1).mono fun e w' k => ⟨k.1, keepR k.2 h⟩
  have hK : KR w w := ⟨hG, hP, hg, Below.refl _ _⟩
  have ho1 := ord_self ha
  have ho2 := ord_self hb
  have HB : Hid (∀ u, Back a u → sameB u a = true ∧ isN u = isN a ∧ (isN a = false → u = a) ∧ u < 18446744073709551616) := fun u h => ⟨(back_facts a u ha h).1, (back_facts a u ha h).2.1, (back_facts a u ha h).2.2, back_lt a u ha h⟩
  have HT : Hid _ := text_same a b ha hb
  have HI : Hid _ := rk_inj a b ha hb
  have HS : Hid (∀ (x y : Nat), x < 18446744073709551616 → y < 18446744073709551616 → ∀ W, Calls Tryz.prog 9 #[.float .f64 x, .float .f64 y] W fun e w' => e = .returned (.bool (sameB x y)) ∧ w' = W) := fun x y hx hy W => by
    rw [← rk_inj x y hx hy]; exact same_any x y hx hy W
  generalize pText a = TA at *
  generalize pText b = TB at *
  have HK : Hid _ := hK
  clear hG hP hg hK
  go_enter Tryz.func3, Tryz.ntmps3
  go_wp2_with fail
  refine (HA.out _ HK.out).mono ?_
  rintro e w1 ⟨rfl, HK1⟩
  go_wp2_with (first | simp only [mf64from] | fail)
  refine (HPa.out _ HK1).mono ?_
  rintro e w2 ⟨rfl, HK2⟩
  go_wp2_with fail
  refine (HPb.out _ HK2).mono ?_
  rintro e w3 ⟨rfl, HK3⟩
  go_wp2_with fail
  refine (HQ.out _ HK3).mono ?_
  rintro e w4 ⟨⟨u, rfl, hu⟩, HK4⟩
  obtain ⟨q1, q2, q3, q4⟩ := HB.out u hu
  have ho3 := ord_self q4
  clear hu HB
  have HS1 : Hid (∀ W, Calls Tryz.prog 9 #[.float .f64 u, .float .f64 a] W fun e w' => e = .returned (.bool true) ∧ w' = W) := fun W => by
    have := HS.out u a q4 ha W
    rw [q1] at this
    exact this
  have HS2 : Hid (∀ W, Calls Tryz.prog 9 #[.float .f64 a, .float .f64 b] W fun e w' => e = .returned (.bool (sameB a b)) ∧ w' = W) := fun W => HS.out a b ha hb W
  have hsb : sameB a b = (decide (a = b) || (isN a && isN b)) := rfl
  have hbel := HK4.2.2.2
  rw [q2] at ho3
  generalize sameB a b = sb at *
  have hT := HT.out
  clear HS HI HT HA HPa HPb HQ HK HK1 HK2 HK3 HK4 q1 q2
  by_cases hab : a = b
  · subst hab
    have hsb' : sb = true := by rw [hsb]; simp
    subst hsb'
    have hTT : TA = TB := hT.2 rfl
    subst hTT
    clear hT hsb
    cases hna : isN a
    · obtain rfl := q3 hna
      rw [hna] at ho1 ho2 ho3
      as_aux_lemma =>
        go_wp2_with (first
          | simp only [mf64bits]
          | (go_at_call 9; with_reducible refine (HS1.out _).mono ?_; rintro e w5 ⟨rfl, rfl⟩)
          | fail)
        go_ret
        exact ⟨rfl, hbel⟩
    · rw [hna] at ho1 ho2 ho3
      as_aux_lemma =>
        go_wp2_with (first
          | simp only
          | (go_at_call 9; first | (with_reducible refine (HS1.out _).mono ?_; rintro e w5 ⟨rfl, rfl⟩) | (with_reducible refine (HS2.out _).mono ?_; rintro e w5 ⟨rfl, rfl⟩))
          | fail)
        go_ret
        exact ⟨rfl, hbel⟩
  · have hab1 : ((a : Int) == (b : Int)) = false := by rw [beq_eq_false_iff_ne]; omega
    cases hna : isN a <;> cases hnb : isN b
    · rw [hna, hnb, decide_eq_false hab] at hsb
      have hsb' : sb = false := hsb
      subst hsb'
      rw [hna] at ho1 ho3
      rw [hnb] at ho2
      obtain rfl := q3 hna
      have hTT : ¬ TA = TB := fun k => by have := hT.1 k; cases this
      have hTB : (TA == TB) = false := by simpa using hTT
      clear hT hsb
      as_aux_lemma =>
        go_wp2_with (first
          | simp only [mf64bits]
          | (go_at_call 9; first | (with_reducible refine (HS1.out _).mono ?_; rintro e w5 ⟨rfl, rfl⟩) | (with_reducible refine (HS2.out _).mono ?_; rintro e w5 ⟨rfl, rfl⟩))
          | fail)
        go_ret
        exact ⟨rfl, hbel⟩
    · rw [hna, hnb, decide_eq_false hab] at hsb
      have hsb' : sb = false := hsb
      subst hsb'
      rw [hna] at ho1 ho3
      rw [hnb] at ho2
      obtain rfl := q3 hna
      have hTT : ¬ TA = TB := fun k => by have := hT.1 k; cases this
      have hTB : (TA == TB) = false := by simpa using hTT
      clear hT hsb
      as_aux_lemma =>
        go_wp2_with (first
          | simp only [mf64bits]
          | (go_at_call 9; first | (with_reducible refine (HS1.out _).mono ?_; rintro e w5 ⟨rfl, rfl⟩) | (with_reducible refine (HS2.out _).mono ?_; rintro e w5 ⟨rfl, rfl⟩))
          | fail)
        go_ret
        exact ⟨rfl, hbel⟩
    · rw [hna, hnb, decide_eq_false hab] at hsb
      have hsb' : sb = false := hsb
      subst hsb'
      rw [hna] at ho1 ho3
      rw [hnb] at ho2
      have hTT : ¬ TA = TB := fun k => by have := hT.1 k; cases this
      have hTB : (TA == TB) = false := by simpa using hTT
      clear hT hsb
      as_aux_lemma =>
        go_wp2_with (first
          | simp only
          | (go_at_call 9; first | (with_reducible refine (HS1.out _).mono ?_; rintro e w5 ⟨rfl, rfl⟩) | (with_reducible refine (HS2.out _).mono ?_; rintro e w5 ⟨rfl, rfl⟩))
          | fail)
        go_ret
        exact ⟨rfl, hbel⟩
    · rw [hna, hnb, decide_eq_false hab] at hsb
      have hsb' : sb = true := hsb
      subst hsb'
      rw [hna] at ho1 ho3
      rw [hnb] at ho2
      have hTT : TA = TB := hT.2 rfl
      subst hTT
      clear hT hsb
      as_aux_lemma =>
        go_wp2_with (first
          | simp only
          | (go_at_call 9; first | (with_reducible refine (HS1.out _).mono ?_; rintro e w5 ⟨rfl, rfl⟩) | (with_reducible refine (HS2.out _).mono ?_; rintro e w5 ⟨rfl, rfl⟩))
          | fail)
        go_ret
        exact ⟨rfl, hbel⟩
end Go.Proofs.YtndoilgepidjeaaGreatDoor
/- THE DOOR OF RealReturns: the world's shape, and the table of powers of ten as floats. Own work of the verifier. -/
namespace Go.Proofs.YtndoilgepidjeaaGreatDoor
open Go.ChangeShapes Go.WideShapes Go.ChangeAt Go.RowKit

theorem u64n {n : Int} (a : (Lit.int .u64 n).wf = true) : n = ((n.toNat : Nat) : Int) ∧ n.toNat < 18446744073709551616 := by
  simp [Lit.wf, IntKind.min, IntKind.max, IntKind.signed, IntKind.bits] at a
  omega
/-- The world's shape kept beside what the row lists. -/
theorem returns_and_shaped {H : Type} {enc : TypeId × Value → H} {a : Assume} {C : Checked} {os : Os} {f : FuncId} {fn : Func} {s : ChangeSpec} {conds : List PathCond} {apart fresh handsOn again : Bool} {X : World → Array Value → Prop}
    (hX : ∀ (w w' : World) (args : Array Value), w.heap = w'.heap → X w args → X w' args)
    (own : ownKnob C.prog.godebug = none) (started : os.Started) (noInit : C.prog.inits.idxOf? f = none) (hfn : C.prog.funcs[f]? = some fn)
    (witness : ∃ (w : World) (tape : Tape) (i : Input), w.os = os ∧ (w.forCall tape i).Shaped C.prog ∧ i.vars = [] ∧ Input.okWide C.prog (w.forCall tape i) .any w.heap.size f i ∧
      ((s.pre enc C.prog fn conds apart (w.forCall tape i).memory i.args ∧ X (w.forCall tape i).memory i.args) ∧ sizedMet enc C.prog fn (OpenSpec.ofChange s) apart (w.forCall tape i).memory i.args) ∧ a.holds C.prog (lone (Frame.enter C.prog f i.args .normal) [] (w.forCall tape i)))
    (contract : ∀ (W : World) (base : Nat) (args : Array Value) (ds gs : List (DataW H)) (before : List MemPlace),
      (∀ (j : Nat) t v, fn.params[j]? = some t → args[j]? = some v → Value.okWide C.prog W .any base t v) →
      DataW.Whole enc C.prog fn.params.toList s.vars apart W args.toList ds gs before →
      conds.all (PathCond.test C.prog ⟨fn.params.toList, ds, s.plain.varTypes C.prog, gs⟩) = true →
      (DataW.weightsEach C.prog (fn.params.toList ++ s.plain.varTypes C.prog) (ds ++ gs)).all (· ≤ reachBytes) = true → X W args → W.ShapedOpen C.prog →
      a.holds C.prog (lone (Frame.enter C.prog f args .normal) [] W) →
      Calls C.prog f args W fun e W' => ∃ v, e = .returned v ∧ s.post enc C.prog fn apart fresh handsOn again W args v W') :
    ReturnsInHanded a C os f .any (fun w args => (s.pre enc C.prog fn conds apart w args ∧ X w args) ∧ sizedMet enc C.prog fn (OpenSpec.ofChange s) apart w args) (s.post enc C.prog fn apart fresh handsOn again) := by
  refine returnsInHanded_of_calls own started noInit witness ?_
  intro w tape i _ hsh _ hok hpre hholds
  obtain ⟨_, _, _, fn', hfn', _, _, _, _, hval⟩ := hok
  have e : fn' = fn := Option.some.inj (hfn'.symm.trans hfn)
  subst e
  obtain ⟨⟨⟨ds, gs, before, hw, hc⟩, hx⟩, hz⟩ := hpre
  have hw' := DataW.Whole.of_heap (w' := w.forCall tape i) (by rfl) hw
  refine (contract (w.forCall tape i) w.heap.size i.args ds gs before hval hw' hc (hz.weights hw) (hX _ _ _ (by rfl) hx) hsh hholds).mono fun e W' ⟨v, he, hp⟩ => ?_
  subst he
  exact ChangeSpec.post_blind hp
set_option maxRecDepth 100000 in
theorem maxLen_cell {W : World} (h : W.ShapedOpen Tryz.prog) : ∃ m, W.cell? ⟨4, 0, none⟩ = some (.int .i64 m) :=
  cell_of_shapedOpen_int (t := 3) (zero := #[.int .i64 0]) h (of_decide_eq_true (by kernel_rfl)) (by kernel_rfl) rfl (by kernel_rfl) (by kernel_rfl) Tryz.underlying3
theorem ten_lits : ∀ k, k < 23 → (Rows.laid_internal_strconv_float64pow10 : DataW Unit) = .slice (tenL.map fun n => .lit (.float .f64 n)) [] := fun _ _ => by kernel_rfl
set_option maxRecDepth 100000 in
theorem ten_of_laid {W : World} (h : laidMetH Tryz.prog laids W) : P10F W := by
  rw [MakeChecks.laidMetH_plain _ _ _ (by kernel_rfl)] at h
  obtain ⟨ps, hl, _, _⟩ := h
  obtain ⟨g, t, cs, fuel, p, hg, ht, hv, hd⟩ := laid_at _ _ hl "internal/strconv.float64pow10" Rows.laid_internal_strconv_float64pow10 (by simp)
  obtain rfl := Option.some.inj ((show Tryz.prog.globalNamed "internal/strconv.float64pow10" = some 12 by kernel_rfl).symm.trans hg)
  obtain rfl := Option.some.inj ((show (Tryz.prog.globals[12]?).map (·.type) = some 158 by kernel_rfl).symm.trans ht)
  rw [ten_lits 0 (by decide)] at hd
  rcases DataW.trod_slice Tryz.underlying158 hd with ⟨_, e⟩ | ⟨a, len, cap, elems, rest, n, _, hcs, ex, _, _, _, hlen, hel, hsp, _⟩
  · cases (Prod.mk.inj e).1
  · have e3 := DataW.slice.inj (Prod.mk.inj ex).1
    have e5 : elems.length = 23 := by have := congrArg List.length e3.1; simpa [tenL] using this.symm
    have e6 : rest = [] := by have := e3.2; simpa using this.symm
    have e7 := (hsp rfl).1
    rw [e6] at e7
    have hcap : cap = 23 := by have : (0 : Nat) = cap - len := e7; omega
    have hlen23 : len = 23 := by omega
    subst hcap hlen23
    have c1 : Tryz.prog.cellsOf 24 = 1 := by kernel_rfl
    have hk : ∀ k, k < 23 → W.cell? (a.add k) = some (.float .f64 (tenW k)) := by
      intro k hk
      have hE := hel k hk
      have q : elems[k]? = some (elems[k]'(by omega)) := List.getElem?_eq_getElem (by omega)
      rw [c1, q] at hE
      obtain ⟨cs1, k1, k2⟩ := Option.bind_eq_some_iff.1 hE
      obtain ⟨b1, r1, r2⟩ := trod_float Tryz.underlying24 k2
      have n1 := (World.cells?_some k1).2.2 0 (by decide)
      rw [r1] at n1
      have m1 : W.cell? (a.add (k * 1)) = some (.float .f64 b1) := n1
      rw [Nat.mul_one] at m1
      have e8 : (elems.map (·.1))[k]? = some (.lit (.float .f64 (tenW k))) := by
        rw [← e3.1, List.getElem?_map]
        have : tenL[k]? = some (tenW k) := by
          have hl : k < tenL.length := by show k < 23; exact hk
          unfold tenW
          rw [List.getD_eq_getElem?_getD, List.getElem?_eq_getElem hl]
          rfl
        rw [this]
        rfl
      rw [List.getElem?_map, q, r2] at e8
      simp only [Option.map_some, Option.some.injEq, DataW.lit.injEq, Lit.float.injEq, true_and] at e8
      rw [m1, e8]
    have m0 := hk 0 (by decide)
    have hs := spot_none m0
    obtain ⟨ab, ao, asp⟩ := a
    have hs : asp = none := by simpa [Addr.add] using hs
    subst hs
    refine ⟨ab, ao, cs_cell hg hv 0 _ (by rw [hcs]; rfl), fun k h => ?_⟩
    have := hk k h
    rw [Addr.add_lit] at this
    exact this
end Go.Proofs.YtndoilgepidjeaaGreatDoor
/- RealReturns: THE ROW AND THE CARD. Own work of the verifier. -/
namespace Go.Proofs.YtndoilgepidjeaaGreatDoor
open Go.ChangeShapes Go.WideShapes Go.ChangeAt Go.RowKit

set_option maxRecDepth 100000 in
theorem realReturns_lifted (os : Os) (started : os.Started) (H : Type) (enc : TypeId × Value → H) :
    ReturnsInHanded {} Tryz.checked os 3 .any (fun w args => (Rows.realReturnsSpec.pre enc Tryz.prog Tryz.f3 [] false w args ∧ laidMetH Tryz.prog laids w) ∧ sizedMet enc Tryz.prog Tryz.f3 (OpenSpec.ofChange Rows.realReturnsSpec) false w args)
      (Rows.realReturnsSpec.post enc Tryz.prog Tryz.f3 false true false false) := by
  refine returns_and_shaped (C := Tryz.checked) (X := fun w _ => laidMetH Tryz.prog laids w) (fun _ _ _ hh h => h.of_heap hh) own started (by kernel_rfl) Tryz.func3
    (ChangeSpec.witness_shaped (enc := enc) (C := Tryz.checked) (os := os) (X := fun w _ => laidMetH Tryz.prog laids w) false (World.laidAll Tryz.prog os laids) #[.int .u64 0, .int .u64 0] 8 (World.laidAll_os _ _ _) (start_shaped os _) (by kernel_rfl) (by kernel_rfl) (by kernel_rfl) (start_met os _)) ?_
  intro W base args ds gs before hval0 hW _ _ hL hSh _
  have hval : ∀ (j : Nat) t v, Tryz.f3.params[j]? = some t → args[j]? = some v → Value.okWide Tryz.prog W .any base t v := hval0
  have hW' := hW
  obtain ⟨p, q, hA0, hV, rfl, hfz, hnd⟩ := hW
  have hA : DataW.TrodAll enc Tryz.prog W 0 (fun _ => true) true Tryz.f3.params.toList args.toList ds p := hA0
  rw [Tryz.params3] at hA hval
  obtain ⟨v0, v1, d0, d1, p0, p1, rfl, rfl, rfl, h0, h1⟩ := trodAll_two hA
  obtain ⟨rfl, rfl⟩ := trodVars_none hV
  obtain ⟨x0, rfl, rfl, rfl, wx0⟩ := open_int Tryz.underlying22 (hval 0 22 v0 rfl rfl) h0
  obtain ⟨x1, rfl, rfl, rfl, wx1⟩ := open_int Tryz.underlying22 (hval 1 22 v1 rfl rfl) h1
  obtain ⟨hGl, _⟩ := glob_of_laid hL
  have hP := ten_of_laid hL
  have hg : 8 < W.heap.size := lt_of_cell (hGl.pow 0 (by decide)).1
  clear hA0 hval0
  simp only [List.append_nil] at hW'
  have e0 := (u64n wx0).1
  have e1 := (u64n wx1).1
  rw [e0] at hW' wx0
  rw [e1] at hW' wx1
  rw [e0, e1]
  refine (returns_walk _ _ (u64n wx0).2 (u64n wx1).2 W ⟨hGl, maxLen_cell hSh⟩ hP hg).mono fun e W' ⟨he, hb⟩ => ?_
  subst he
  exact ⟨_, rfl, _, _, _, [], [], [], hW', trodAll_mk1 (shut_bool Tryz.underlying4 _), trodAll_mk2 (shut_int Tryz.underlying22 wx0) (shut_int Tryz.underlying22 wx1), rfl, hb.frame _, fun h => by cases h⟩
theorem realReturns_holds : Rows.RealReturnsSaid :=
  OpenClaim.holds_of_wide 3 Tryz.f3 rfl rfl rfl rfl rfl rfl rfl ⟨rfl, rfl, rfl, rfl, rfl⟩ rfl rfl rfl rfl rfl (by kernel_rfl) Tryz.func3 (by kernel_rfl)
    (of_decide_eq_true (by kernel_rfl)) (by unfold Func.isWrapper; first | (rw [if_pos (by decide +kernel)]; kernel_rfl) | (rw [if_neg (by decide +kernel)]; exact ⟨rfl, rfl⟩))
    (fun os started H enc _ => realReturns_lifted os started H enc)
theorem realReturns_card : Rows.RealReturnsCardSaid :=
  Claim7.holds_tied_plain_at .later [] [.data, .data, .widerDeep, .widerDeep, .data, .data, .data, .data, .data, .sentinel, .sentinel, .pinned, .pinned] true Rows.realReturnsCard.stood.harness true
    realReturns_holds (fun _ h => by cases h) (by kernel_rfl) (fun _ h => by cases h) realReturns_row_tie rfl ⟨rfl, rfl⟩ (by kernel_rfl) rfl
    (fun f fn hf hfn => by
      obtain rfl : f = 3 := Option.some.inj ((show Tryz.prog.funcNamed Rows.realReturnsRow.func = some 3 by kernel_rfl).symm.trans hf) |>.symm
      obtain rfl : fn = Tryz.f3 := (Option.some.inj (Tryz.func3.symm.trans hfn)).symm
      exact ⟨by kernel_rfl, fun j t ht => by
        rw [Tryz.params3] at ht
        have hm : t ∈ [22, 22] := by simpa using Array.mem_of_getElem? ht
        have hall : ([22, 22].all fun u => !Tryz.prog.wantsStandIn u) = true := by kernel_rfl
        exact (show Tryz.prog.wantsStandIn t = false by simpa using List.all_eq_true.1 hall t hm)⟩)
    (by kernel_rfl)
end Go.Proofs.YtndoilgepidjeaaGreatDoor
