/- SMALL THINGS OF THE READING, AND THE DOOR THAT KEEPS THE WORLD's SHAPE. Own work of the verifier. -/
import Derived.Test.YthgpdniflkojpaaGreatDoorPXA
import Derived.Test.YthgpdniflkojpaaGreatDoorL17
import Derived.Test.YthgpdniflkojpaaGreatDoorL19
import Derived.Test.YthgpdniflkojpaaGreatDoorD2
import Derived.WalkMore
import Derived.HandedShaped
import Derived.Shelf.Vars
namespace Go.Proofs.YthgpdniflkojpaaGreatDoor
open Go.RowKit Go.Sort Soft

theorem tail_bytes (c : UInt8) (r : List UInt8) : (ByteArray.mk (c :: r).toArray).extract 1 (r.length + 1) = ⟨r.toArray⟩ := by
  apply ByteArray.ext
  rw [ByteArray.data_extract]
  simp
theorem P10F.below {w w' : World} (h : P10F w) (hb : Below w.heap.size w w') : P10F w' := by
  obtain ⟨b, o, p1, p2⟩ := h
  exact ⟨b, o, by rw [(bcell hb).1 _ _ (lt_of_cell p1), p1], fun k hk => by rw [(bcell hb).1 _ _ (lt_of_cell (p2 k hk)), p2 k hk]⟩
theorem inf_pos (w : World) : Calls Tryz.prog 123 #[.int .i64 1] w fun e w' => e = .returned (.float .f64 9218868437227405312) ∧ w' = w := by
  go_enter Tryz.func123, Tryz.ntmps123
  go_wp2_with (first | simp only [f64from] | fail)
  go_ret
  exact ⟨rfl, rfl⟩
theorem inf_neg (w : World) : Calls Tryz.prog 123 #[.int .i64 (-1)] w fun e w' => e = .returned (.float .f64 18442240474082181120) ∧ w' = w := by
  go_enter Tryz.func123, Tryz.ntmps123
  go_wp2_with (first | simp only [f64from] | fail)
  go_ret
  exact ⟨rfl, rfl⟩
theorem nan_any (w : World) : Calls Tryz.prog 124 #[] w fun e w' => (∃ u, e = .returned (.float .f64 u) ∧ 9218868437227405312 < u ∧ u < 9223372036854775808) ∧ w' = w := by
  go_enter Tryz.func124, Tryz.ntmps124
  go_wp2_with (first | simp only [f64from] | fail)
  go_ret
  exact ⟨⟨_, rfl, by decide, by decide⟩, rfl⟩
end Go.Proofs.YthgpdniflkojpaaGreatDoor
namespace Go.Proofs.YthgpdniflkojpaaGreatDoor
open Go.ChangeShapes Go.WideShapes Go.ChangeAt Go.RowKit

theorem P10_of {w : World} (h : P10F w) : P10 w := by
  obtain ⟨b, o, p1, p2⟩ := h
  exact ⟨b, o, p1, p2 1 (by decide)⟩
/-- The world's shape kept beside what the row lists. -/
theorem returns_and_shaped {H : Type} {enc : TypeId × Value → H} {a : Assume} {C : Checked} {os : Os} {f : FuncId} {fn : Func} {s : ChangeSpec} {conds : List PathCond} {apart fresh handsOn again : Bool} {X : World → Array Value → Prop}
    (hX : ∀ (w w' : World) (args : Array Value), w.heap = w'.heap → X w args → X w' args)
    (own : ownKnob C.prog.godebug = none) (started : os.Started) (noInit : C.prog.inits.idxOf? f = none) (hfn : C.prog.funcs[f]? = some fn)
    (witness : ∃ (w : World) (tape : Tape) (i : Input), w.os = os ∧ (w.forCall tape i).Shaped C.prog ∧ i.vars = [] ∧ Input.okWide C.prog (w.forCall tape i) .any w.heap.size f i ∧
      ((s.pre enc C.prog fn conds apart (w.forCall tape i).memory i.args ∧ X (w.forCall tape i).memory i.args) ∧ sizedMet enc C.prog fn (OpenSpec.ofChange s) apart (w.forCall tape i).memory i.args) ∧ a.holds C.prog (lone (Frame.enter C.prog f i.args .normal) [] (w.forCall tape i)))
    (contract : ∀ (W : World) (base : Nat) (args : Array Value) (ds gs : List (DataW H)) (before : List MemPlace),
      (∀ (j : Nat) t v, fn.params[j]? = some t → args[j]? = some v → Value.okWide C.prog W .any base t v) →
      DataW.Whole enc C.prog fn.params.toList s.vars apart W args.toList ds gs before →
      conds.all (PathCond.test C.prog ⟨fn.params.toList, ds, s.plain.varTypes C.prog, gs⟩) = true →
      (DataW.weightsEach C.prog (fn.params.toList ++ s.plain.varTypes C.prog) (ds ++ gs)).all (· ≤ reachBytes) = true → X W args → W.ShapedOpen C.prog →
      a.holds C.prog (lone (Frame.enter C.prog f args .normal) [] W) →
      Calls C.prog f args W fun e W' => ∃ v, e = .returned v ∧ s.post enc C.prog fn apart fresh handsOn again W args v W') :
    ReturnsInHanded a C os f .any (fun w args => (s.pre enc C.prog fn conds apart w args ∧ X w args) ∧ sizedMet enc C.prog fn (OpenSpec.ofChange s) apart w args) (s.post enc C.prog fn apart fresh handsOn again) := by
  refine returnsInHanded_of_calls own started noInit witness ?_
  intro w tape i _ hsh _ hok hpre hholds
  obtain ⟨_, _, _, fn', hfn', _, _, _, _, hval⟩ := hok
  have e : fn' = fn := Option.some.inj (hfn'.symm.trans hfn)
  subst e
  obtain ⟨⟨⟨ds, gs, before, hw, hc⟩, hx⟩, hz⟩ := hpre
  have hw' := DataW.Whole.of_heap (w' := w.forCall tape i) (by rfl) hw
  refine (contract (w.forCall tape i) w.heap.size i.args ds gs before hval hw' hc (hz.weights hw) (hX _ _ _ (by rfl) hx) hsh hholds).mono fun e W' ⟨v, he, hp⟩ => ?_
  subst he
  exact ChangeSpec.post_blind hp
set_option maxRecDepth 100000 in
theorem maxLen_cell {W : World} (h : W.ShapedOpen Tryz.prog) : ∃ m, W.cell? ⟨6, 0, none⟩ = some (.int .i64 m) :=
  cell_of_shapedOpen_int (t := 3) (zero := #[.int .i64 0]) h (of_decide_eq_true (by kernel_rfl)) (by kernel_rfl) rfl (by kernel_rfl) (by kernel_rfl) Tryz.underlying3
theorem ten_lits : ∀ k, k < 23 → (Rows.laid_internal_strconv_float64pow10 : DataW Unit) = .slice (tenL.map fun n => .lit (.float .f64 n)) [] := fun _ _ => by kernel_rfl
set_option maxRecDepth 100000 in
theorem ten_of_laid {W : World} (h : laidMetH Tryz.prog laids W) : P10F W := by
  rw [MakeChecks.laidMetH_plain _ _ _ (by kernel_rfl)] at h
  obtain ⟨ps, hl, _, _⟩ := h
  obtain ⟨g, t, cs, fuel, p, hg, ht, hv, hd⟩ := laid_at _ _ hl "internal/strconv.float64pow10" Rows.laid_internal_strconv_float64pow10 (by simp)
  obtain rfl := Option.some.inj ((show Tryz.prog.globalNamed "internal/strconv.float64pow10" = some 10 by kernel_rfl).symm.trans hg)
  obtain rfl := Option.some.inj ((show (Tryz.prog.globals[10]?).map (·.type) = some 160 by kernel_rfl).symm.trans ht)
  rw [ten_lits 0 (by decide)] at hd
  rcases DataW.trod_slice Tryz.underlying160 hd with ⟨_, e⟩ | ⟨a, len, cap, elems, rest, n, _, hcs, ex, _, _, _, hlen, hel, hsp, _⟩
  · cases (Prod.mk.inj e).1
  · have e3 := DataW.slice.inj (Prod.mk.inj ex).1
    have e5 : elems.length = 23 := by have := congrArg List.length e3.1; simpa [tenL] using this.symm
    have e6 : rest = [] := by have := e3.2; simpa using this.symm
    have e7 := (hsp rfl).1
    rw [e6] at e7
    have hcap : cap = 23 := by have : (0 : Nat) = cap - len := e7; omega
    have hlen23 : len = 23 := by omega
    subst hcap hlen23
    have c1 : Tryz.prog.cellsOf 24 = 1 := by kernel_rfl
    have hk : ∀ k, k < 23 → W.cell? (a.add k) = some (.float .f64 (tenW k)) := by
      intro k hk
      have hE := hel k hk
      have q : elems[k]? = some (elems[k]'(by omega)) := List.getElem?_eq_getElem (by omega)
      rw [c1, q] at hE
      obtain ⟨cs1, k1, k2⟩ := Option.bind_eq_some_iff.1 hE
      obtain ⟨b1, r1, r2⟩ := trod_float Tryz.underlying24 k2
      have n1 := (World.cells?_some k1).2.2 0 (by decide)
      rw [r1] at n1
      have m1 : W.cell? (a.add (k * 1)) = some (.float .f64 b1) := n1
      rw [Nat.mul_one] at m1
      have e8 : (elems.map (·.1))[k]? = some (.lit (.float .f64 (tenW k))) := by
        rw [← e3.1, List.getElem?_map]
        have : tenL[k]? = some (tenW k) := by
          have hl : k < tenL.length := by show k < 23; exact hk
          unfold tenW
          rw [List.getD_eq_getElem?_getD, List.getElem?_eq_getElem hl]
          rfl
        rw [this]
        rfl
      rw [List.getElem?_map, q, r2] at e8
      simp only [Option.map_some, Option.some.injEq, DataW.lit.injEq, Lit.float.injEq, true_and] at e8
      rw [m1, e8]
    have m0 := hk 0 (by decide)
    have hs := spot_none m0
    obtain ⟨ab, ao, asp⟩ := a
    have hs : asp = none := by simpa [Addr.add] using hs
    subst hs
    refine ⟨ab, ao, cs_cell hg hv 0 _ (by rw [hcs]; rfl), fun k h => ?_⟩
    have := hk k h
    rw [Addr.add_lit] at this
    exact this
end Go.Proofs.YthgpdniflkojpaaGreatDoor
