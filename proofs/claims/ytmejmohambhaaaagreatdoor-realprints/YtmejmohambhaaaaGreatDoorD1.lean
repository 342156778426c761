/- THE DOOR: what the listed variables give, and a start. Own work of the verifier. -/
import Derived.Test.YtmejmohambhaaaaGreatDoorL19
import Derived.Test.YtmejmohambhaaaaGreatDoorCards
import Derived.Test.YtmejmohambhaaaaGreatDoorTie
import Derived.ProofKit
import Derived.OpenShut
import Derived.LaidMore
import Derived.Lay
import Derived.SevenTiedAt
import Derived.Stop.Joined
import Derived.Lib.LaidTab
import Derived.Deep.Slices
namespace Go.Proofs.YtmejmohambhaaaaGreatDoor
open Go.ChangeShapes Go.WideShapes Go.ChangeAt Go.RowKit

theorem own : ownKnob Tryz.prog.godebug = none := by kernel_rfl
abbrev laids : List (String × DataW Unit) := [("math/bits.deBruijn32tab", Rows.laid_math_bits_deBruijn32tab), ("math/bits.deBruijn64tab", Rows.laid_math_bits_deBruijn64tab), ("internal/strconv.float32info", Rows.laid_internal_strconv_float32info), ("internal/strconv.float64info", Rows.laid_internal_strconv_float64info), ("internal/strconv.optimize", Rows.laid_internal_strconv_optimize), ("internal/strconv.powtab", Rows.laid_internal_strconv_powtab), ("internal/strconv.float64pow10", Rows.laid_internal_strconv_float64pow10), ("internal/strconv.float32pow10", Rows.laid_internal_strconv_float32pow10), ("internal/strconv.uint64pow10", Rows.laid_internal_strconv_uint64pow10), ("strconv.ErrRange", Rows.laid_strconv_ErrRange), ("strconv.ErrSyntax", Rows.laid_strconv_ErrSyntax), ("internal/strconv.leftcheats", Rows.laid_internal_strconv_leftcheats), ("internal/strconv.pow10Tab", Rows.laid_internal_strconv_pow10Tab)]
/-- One of the listed variables. -/
theorem laid_at {P : Program} {w : World} : ∀ (l : List (String × DataW Unit)) (ps : List MemPlace), DataW.LaidVars P w l ps → ∀ n d, (n, d) ∈ l →
    ∃ g t cs fuel p, P.globalNamed n = some g ∧ (P.globals[g]?).map (·.type) = some t ∧ w.var? P n = some cs ∧ DataW.trod (fun _ => ()) P w 0 (fun _ => true) false fuel t cs.toList = some (d, p)
  | [], _, _, _, _, h => by cases h
  | (m, e) :: r, ps, hl, n, d, h => by
    obtain ⟨g, t, cs, fuel, p, q, h1, h2, h3, h4, h5, _⟩ := hl
    rcases List.mem_cons.1 h with h | h
    · cases h; exact ⟨g, t, cs, fuel, p, h1, h2, h3, h4⟩
    · exact laid_at r q h5 n d h
theorem trod_float {H : Type} {enc : TypeId × Value → H} {P : Program} {w : World} {base : Nat} {spare : Nat → Bool} {held : Bool} {fuel : Nat} {t : TypeId} {cs : List Value} {x : DataW H × List MemPlace} {k : FloatKind} (ht : P.underlying t = some (.float k)) (h : DataW.trod enc P w base spare held fuel t cs = some x) : ∃ b, cs = [.float k b] ∧ x = (.lit (.float k b), []) := by
  cases fuel with
  | zero => simp [DataW.trod] at h
  | succ n =>
    unfold DataW.trod at h
    rw [ht] at h
    split at h <;> simp_all
theorem spot_none {w : World} {a : Addr} {v : Value} (h : w.cell? a = some v) : a.spot = none := by
  unfold World.cell? at h
  split at h
  · split at h
    · cases h
    · rename_i k
      cases hs : a.spot with
      | none => rfl
      | some x => rw [hs] at k; simp at k
  · cases h
theorem cs_cell {W : World} {n : String} {g : Nat} {cs : Array Value} (hg : Tryz.prog.globalNamed n = some g) (hv : W.var? Tryz.prog n = some cs) (i : Nat) (v : Value) (h : ((cs.toList.drop i).take 1) = [v]) : W.cell? ⟨g, i, none⟩ = some v := by
  rw [World.var?_cell hg hv i]
  have h0 : ((cs.toList.drop i).take 1)[0]? = some v := by rw [h]; rfl
  simpa using h0
set_option maxRecDepth 100000 in
theorem glob_of_laid {W : World} (h : laidMetH Tryz.prog laids W) : Glob W ∧ P10 W := by
  rw [MakeChecks.laidMetH_plain _ _ _ (by kernel_rfl)] at h
  obtain ⟨ps, hl, _, _⟩ := h
  refine ⟨⟨?_, ?_, ?_, ?_⟩, ?_⟩
  · obtain ⟨g, t, cs, fuel, p, hg, ht, hv, hd⟩ := laid_at _ _ hl "internal/strconv.pow10Tab" Rows.laid_internal_strconv_pow10Tab (by simp)
    obtain rfl := Option.some.inj ((show Tryz.prog.globalNamed "internal/strconv.pow10Tab" = some 8 by kernel_rfl).symm.trans hg)
    obtain rfl := Option.some.inj ((show (Tryz.prog.globals[8]?).map (·.type) = some 163 by kernel_rfl).symm.trans ht)
    obtain ⟨xs, m, _, ex, _, hlen, hel⟩ := DataW.trod_array Tryz.underlying163 hd
    have c2 : Tryz.prog.cellsOf 162 = 2 := by kernel_rfl
    have c1 : Tryz.prog.cellsOf 24 = 1 := by kernel_rfl
    intro i hi
    have hE := hel i hi
    rw [c2, List.getElem?_eq_getElem (by omega)] at hE
    obtain ⟨y0, y1, n, e0, _, h0, h1⟩ := trod_struct2 Tryz.underlying162 hE
    obtain ⟨z0, f0, g0, _⟩ := DataW.trod_int Tryz.underlying24 h0
    obtain ⟨z1, f1, g1, _⟩ := DataW.trod_int Tryz.underlying24 h1
    have e3 : (xs.map (·.1)) = Go.Pinned.pow10Rows.map fun x => (.agg [.lit (.int .u64 x.1), .lit (.int .u64 x.2)] : DataW Unit) := (DataW.agg.inj (Prod.mk.inj ex).1).symm
    have hl : Go.Pinned.pow10Rows.length = 696 := by kernel_rfl
    have e4 : (xs.map (·.1))[i]? = (Go.Pinned.pow10Rows.map fun x => (.agg [.lit (.int .u64 x.1), .lit (.int .u64 x.2)] : DataW Unit))[i]? := by rw [e3]
    rw [List.getElem?_map, List.getElem?_map, List.getElem?_eq_getElem (by omega : i < xs.length), List.getElem?_eq_getElem (by omega : i < Go.Pinned.pow10Rows.length), e0, g0, g1] at e4
    simp only [Option.map_some, Option.some.injEq, DataW.agg.injEq, List.cons.injEq, DataW.lit.injEq, Lit.int.injEq, true_and, and_true] at e4
    have hD : Go.Pinned.pow10Rows.getD i (0, 0) = Go.Pinned.pow10Rows[i]'(by omega) := by rw [List.getD, List.getElem?_eq_getElem (by omega : i < Go.Pinned.pow10Rows.length)]; rfl
    have q0 : z0 = (tabHi i : Int) := by unfold tabHi; rw [hD]; exact e4.1
    have q1 : z1 = (tabLo i : Int) := by unfold tabLo; rw [hD]; exact e4.2
    rw [← q0, ← q1]
    refine ⟨cs_cell hg hv _ _ ?_, cs_cell hg hv _ _ ?_⟩
    · rw [c1] at f0
      simpa [List.take_take, List.drop_take] using f0
    · rw [c1] at f1
      simpa [List.take_take, List.drop_take, List.drop_drop, Nat.add_comm] using f1
  · obtain ⟨g, t, cs, fuel, p, hg, ht, hv, hd⟩ := laid_at _ _ hl "internal/strconv.uint64pow10" Rows.laid_internal_strconv_uint64pow10 (by simp)
    obtain rfl := Option.some.inj ((show Tryz.prog.globalNamed "internal/strconv.uint64pow10" = some 5 by kernel_rfl).symm.trans hg)
    obtain rfl := Option.some.inj ((show (Tryz.prog.globals[5]?).map (·.type) = some 125 by kernel_rfl).symm.trans ht)
    rw [show (Rows.laid_internal_strconv_uint64pow10 : DataW Unit) = Lib.tabData .u64 Lib.pow10Tab from by kernel_rfl] at hd
    have hc := Lib.cells_of_tab Tryz.underlying125 Tryz.underlying24 (by kernel_rfl) (by kernel_rfl) hd
    show Lib.TabIs _ _ _ _ _
    unfold Lib.TabIs
    rw [hv, ← hc]
  · obtain ⟨g, t, cs, fuel, p, hg, ht, hv, hd⟩ := laid_at _ _ hl "internal/strconv.optimize" Rows.laid_internal_strconv_optimize (by simp)
    obtain rfl := Option.some.inj ((show Tryz.prog.globalNamed "internal/strconv.optimize" = some 1 by kernel_rfl).symm.trans hg)
    obtain rfl := Option.some.inj ((show (Tryz.prog.globals[1]?).map (·.type) = some 4 by kernel_rfl).symm.trans ht)
    obtain ⟨b, e1, e2⟩ := DataW.trod_bool Tryz.underlying4 hd
    have hb : b = true := by
      have := (Prod.mk.inj e2).1
      unfold Rows.laid_internal_strconv_optimize at this
      simpa using this.symm
    subst hb
    exact cs_cell hg hv 0 _ (by rw [e1]; rfl)
  · obtain ⟨g, t, cs, fuel, p, hg, ht, hv, hd⟩ := laid_at _ _ hl "internal/strconv.float64info" Rows.laid_internal_strconv_float64info (by simp)
    obtain rfl := Option.some.inj ((show Tryz.prog.globalNamed "internal/strconv.float64info" = some 7 by kernel_rfl).symm.trans hg)
    obtain rfl := Option.some.inj ((show (Tryz.prog.globals[7]?).map (·.type) = some 138 by kernel_rfl).symm.trans ht)
    obtain ⟨xs, m, _, ex, _, hlen, hel⟩ := DataW.trod_struct Tryz.underlying138 hd
    have c1 : Tryz.prog.cellsOf 70 = 1 := by kernel_rfl
    have hE := hel 0 _ rfl
    have hlen3 : xs.length = 3 := hlen
    rw [List.getElem?_eq_getElem (by omega)] at hE
    obtain ⟨z0, f0, g0, _⟩ := DataW.trod_int Tryz.underlying70 hE
    have e3 : (xs.map (·.1)) = [.lit (.int .u64 52), .lit (.int .u64 11), .lit (.int .i64 (-1023))] := (DataW.agg.inj (Prod.mk.inj ex).1).symm
    have e4 : (xs.map (·.1))[0]? = some (.lit (.int .u64 52)) := by rw [e3]; rfl
    rw [List.getElem?_map, List.getElem?_eq_getElem (by omega : 0 < xs.length), g0] at e4
    simp only [Option.map_some, Option.some.injEq, DataW.lit.injEq, Lit.int.injEq, true_and] at e4
    subst e4
    have f0' : (cs.toList.drop 0).take (Tryz.prog.cellsOf 70) = [.int .u64 52] := f0
    rw [c1] at f0'
    exact cs_cell hg hv 0 _ f0'
  · obtain ⟨g, t, cs, fuel, p, hg, ht, hv, hd⟩ := laid_at _ _ hl "internal/strconv.float64pow10" Rows.laid_internal_strconv_float64pow10 (by simp)
    obtain rfl := Option.some.inj ((show Tryz.prog.globalNamed "internal/strconv.float64pow10" = some 12 by kernel_rfl).symm.trans hg)
    obtain rfl := Option.some.inj ((show (Tryz.prog.globals[12]?).map (·.type) = some 176 by kernel_rfl).symm.trans ht)
    rcases DataW.trod_slice Tryz.underlying176 hd with ⟨_, e⟩ | ⟨a, len, cap, elems, rest, n, _, hcs, ex, _, _, _, hlen, hel, hsp, _⟩
    · cases (Prod.mk.inj e).1
    · have e3 := DataW.slice.inj (Prod.mk.inj ex).1
      have e5 : elems.length = 23 := by have := congrArg List.length e3.1; simpa using this.symm
      have e6 : rest = [] := by have := e3.2; simpa using this.symm
      have e7 := (hsp rfl).1
      rw [e6] at e7
      have hcap : cap = 23 := by have : (0 : Nat) = cap - len := e7; omega
      have hlen23 : len = 23 := by omega
      subst hcap hlen23
      have c1 : Tryz.prog.cellsOf 25 = 1 := by kernel_rfl
      have hE0 := hel 0 (by decide)
      have hE1 := hel 1 (by decide)
      have q0 : elems[0]? = some (elems[0]'(by omega)) := List.getElem?_eq_getElem (by omega)
      have q1 : elems[1]? = some (elems[1]'(by omega)) := List.getElem?_eq_getElem (by omega)
      rw [c1, q0] at hE0
      rw [c1, q1] at hE1
      obtain ⟨cs0, k0, k3⟩ := Option.bind_eq_some_iff.1 hE0
      obtain ⟨cs1, k1, k2⟩ := Option.bind_eq_some_iff.1 hE1
      obtain ⟨b0, r0, _⟩ := trod_float Tryz.underlying25 k3
      obtain ⟨b1, r1, r2⟩ := trod_float Tryz.underlying25 k2
      have n0 := (World.cells?_some k0).2.2 0 (by decide)
      have n1 := (World.cells?_some k1).2.2 0 (by decide)
      rw [r0] at n0
      rw [r1] at n1
      have m0 : W.cell? a = some (.float .f64 b0) := n0
      have hs := spot_none m0
      have m1 : W.cell? (a.add 1) = some (.float .f64 b1) := n1
      have e8 : (elems.map (·.1))[1]? = some (.lit (.float .f64 4621819117588971520)) := by rw [← e3.1]; rfl
      rw [List.getElem?_map, q1, r2] at e8
      simp only [Option.map_some, Option.some.injEq, DataW.lit.injEq, Lit.float.injEq, true_and] at e8
      subst e8
      obtain ⟨ab, ao, asp⟩ := a
      have hs : asp = none := hs
      subst hs
      refine ⟨ab, ao, cs_cell hg hv 0 _ (by rw [hcs]; rfl), ?_⟩
      rw [Addr.add_lit] at m1
      exact m1
end Go.Proofs.YtmejmohambhaaaaGreatDoor
