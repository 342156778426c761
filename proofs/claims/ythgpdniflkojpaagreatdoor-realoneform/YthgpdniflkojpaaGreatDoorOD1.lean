/- THE DOOR TO THE READING OF EVERY TEXT: what the listed variables give. Own work of the verifier. -/
import Derived.Test.YthgpdniflkojpaaGreatDoorAT0
import Derived.Test.YthgpdniflkojpaaGreatDoorOAA
namespace Go.Proofs.YthgpdniflkojpaaGreatDoor
open Go.ChangeShapes Go.WideShapes Go.ChangeAt Go.RowKit

theorem trod_err {H : Type} {enc : TypeId × Value → H} {P : Program} {w : World} {base : Nat} {spare : Nat → Bool} {held : Bool} {fuel : Nat} {t : TypeId} {cs : List Value} {name : String} {d : DataW H} {p : List MemPlace} {ms : Array (String × TypeId)} (ht : P.underlying t = some (.interface ms)) (h : DataW.trod enc P w base spare held fuel t cs = some (.iface name d, p)) : ∃ u v, cs = [.iface u v] := by
  cases fuel with
  | zero => simp [DataW.trod] at h
  | succ n =>
    unfold DataW.trod at h
    rw [ht] at h
    split at h <;> simp_all
set_option maxRecDepth 100000 in
theorem errs_of_laid {W : World} (h : laidMetH Tryz.prog laids W) : Errs W := by
  rw [MakeChecks.laidMetH_plain _ _ _ (by kernel_rfl)] at h
  obtain ⟨ps, hl, _, _⟩ := h
  refine ⟨?_, ?_⟩
  · obtain ⟨g, t, cs, fuel, p, hg, ht, hv, hd⟩ := laid_at _ _ hl "strconv.ErrSyntax" Rows.laid_strconv_ErrSyntax (by simp)
    obtain rfl := Option.some.inj ((show Tryz.prog.globalNamed "strconv.ErrSyntax" = some 1 by kernel_rfl).symm.trans hg)
    obtain rfl := Option.some.inj ((show (Tryz.prog.globals[1]?).map (·.type) = some 37 by kernel_rfl).symm.trans ht)
    obtain ⟨u, v, hc⟩ := trod_err Tryz.underlying37 hd
    exact ⟨_, cs_cell hg hv 0 (.iface u v) (by rw [hc]; rfl), Or.inr ⟨u, v, rfl⟩⟩
  · obtain ⟨g, t, cs, fuel, p, hg, ht, hv, hd⟩ := laid_at _ _ hl "strconv.ErrRange" Rows.laid_strconv_ErrRange (by simp)
    obtain rfl := Option.some.inj ((show Tryz.prog.globalNamed "strconv.ErrRange" = some 2 by kernel_rfl).symm.trans hg)
    obtain rfl := Option.some.inj ((show (Tryz.prog.globals[2]?).map (·.type) = some 37 by kernel_rfl).symm.trans ht)
    obtain ⟨u, v, hc⟩ := trod_err Tryz.underlying37 hd
    exact ⟨_, cs_cell hg hv 0 (.iface u v) (by rw [hc]; rfl), Or.inr ⟨u, v, rfl⟩⟩
def powL : List Nat := [1, 3, 6, 9, 13, 16, 19, 23, 26]
theorem pow_lits : (Rows.laid_internal_strconv_powtab : DataW Unit) = .slice (powL.map fun (n : Nat) => .lit (.int .i64 (n : Int))) [] := by kernel_rfl
set_option maxRecDepth 100000 in
theorem pow_of_laid {W : World} (h : laidMetH Tryz.prog laids W) : ∃ b o c, b < W.heap.size ∧ W.cell? ⟨9, 0, none⟩ = some (.slice (some ⟨b, o, none⟩) 9 c) ∧ ∀ i, i < 9 → W.cell? ⟨b, o + i, none⟩ = some (.int .i64 (powN i : Int)) := by
  rw [MakeChecks.laidMetH_plain _ _ _ (by kernel_rfl)] at h
  obtain ⟨ps, hl, _, _⟩ := h
  obtain ⟨g, t, cs, fuel, p, hg, ht, hv, hd⟩ := laid_at _ _ hl "internal/strconv.powtab" Rows.laid_internal_strconv_powtab (by simp)
  obtain rfl := Option.some.inj ((show Tryz.prog.globalNamed "internal/strconv.powtab" = some 9 by kernel_rfl).symm.trans hg)
  obtain rfl := Option.some.inj ((show (Tryz.prog.globals[9]?).map (·.type) = some 159 by kernel_rfl).symm.trans ht)
  rw [pow_lits] at hd
  rcases DataW.trod_slice Tryz.underlying159 hd with ⟨_, e⟩ | ⟨a, len, cap, elems, rest, n, _, hcs, ex, _, _, _, hlen, hel, hsp, _⟩
  · cases (Prod.mk.inj e).1
  · have e3 := DataW.slice.inj (Prod.mk.inj ex).1
    have e5 : elems.length = 9 := by have := congrArg List.length e3.1; simpa [powL] using this.symm
    have hlen9 : len = 9 := by omega
    subst hlen9
    have c1 : Tryz.prog.cellsOf 3 = 1 := by kernel_rfl
    have hk : ∀ k, k < 9 → W.cell? (a.add k) = some (.int .i64 (powN k : Int)) := by
      intro k hk
      have hE := hel k hk
      have q : elems[k]? = some (elems[k]'(by omega)) := List.getElem?_eq_getElem (by omega)
      rw [c1, q] at hE
      obtain ⟨cs1, k1, k2⟩ := Option.bind_eq_some_iff.1 hE
      obtain ⟨b1, r1, r2, _⟩ := DataW.trod_int Tryz.underlying3 k2
      have n1 := (World.cells?_some k1).2.2 0 (by decide)
      rw [r1] at n1
      have m1 : W.cell? (a.add (k * 1)) = some (.int .i64 b1) := n1
      rw [Nat.mul_one] at m1
      have e8 : (elems.map (·.1))[k]? = some (.lit (.int .i64 (powN k : Int))) := by
        rw [← e3.1, List.getElem?_map]
        have : powL[k]? = some (powN k) := by
          have hl : k < powL.length := by show k < 9; exact hk
          unfold powN
          rw [List.getD_eq_getElem?_getD]
          show powL[k]? = some ((powL[k]?).getD 0)
          rw [List.getElem?_eq_getElem hl]
          rfl
        rw [this]
        rfl
      rw [List.getElem?_map, q, r2] at e8
      simp only [Option.map_some, Option.some.injEq, DataW.lit.injEq, Lit.int.injEq, true_and] at e8
      rw [m1, e8]
    have m0 := hk 0 (by decide)
    have hs := spot_none m0
    obtain ⟨ab, ao, asp⟩ := a
    have hs : asp = none := by simpa [Addr.add] using hs
    subst hs
    refine ⟨ab, ao, cap, ?_, cs_cell hg hv 0 _ (by rw [hcs]; rfl), fun k h => ?_⟩
    · rw [Addr.add_lit] at m0; exact lt_of_cell m0
    · have := hk k h
      rw [Addr.add_lit] at this
      exact this
theorem cheat_lits : (Rows.laid_internal_strconv_leftcheats : DataW Unit) = .slice (Go.Pinned.cheatRows.map fun x => .agg [.lit (.int .i64 x.1), .lit (.string x.2)]) [] := rfl
set_option maxRecDepth 100000 in
theorem cheat_of_laid {W : World} (h : laidMetH Tryz.prog laids W) : CheatB W.heap.size W := by
  rw [MakeChecks.laidMetH_plain _ _ _ (by kernel_rfl)] at h
  obtain ⟨ps, hl, _, _⟩ := h
  obtain ⟨g, t, cs, fuel, p, hg, ht, hv, hd⟩ := laid_at _ _ hl "internal/strconv.leftcheats" Rows.laid_internal_strconv_leftcheats (by simp)
  obtain rfl := Option.some.inj ((show Tryz.prog.globalNamed "internal/strconv.leftcheats" = some 12 by kernel_rfl).symm.trans hg)
  obtain rfl := Option.some.inj ((show (Tryz.prog.globals[12]?).map (·.type) = some 175 by kernel_rfl).symm.trans ht)
  rw [cheat_lits] at hd
  rcases DataW.trod_slice Tryz.underlying175 hd with ⟨_, e⟩ | ⟨a, len, cap, elems, rest, n, _, hcs, ex, _, _, _, hlen, hel, hsp, _⟩
  · cases (Prod.mk.inj e).1
  · have e3 := DataW.slice.inj (Prod.mk.inj ex).1
    have hr : Go.Pinned.cheatRows.length = 61 := by kernel_rfl
    have e5 : elems.length = 61 := by have := congrArg List.length e3.1; rw [List.length_map, List.length_map, hr] at this; exact this.symm
    have hlen61 : len = 61 := by omega
    subst hlen61
    have c2 : Tryz.prog.cellsOf 174 = 2 := by kernel_rfl
    have c1 : Tryz.prog.cellsOf 3 = 1 := by kernel_rfl
    have c1s : Tryz.prog.cellsOf 9 = 1 := by kernel_rfl
    have hk : ∀ k, k < 61 → W.cell? (a.add (k * 2)) = some (.int .i64 (chD k : Int)) ∧ W.cell? ((a.add (k * 2)).add 1) = some (.string ⟨(chS k).toArray⟩) := by
      intro k hk
      have hE := hel k hk
      have q : elems[k]? = some (elems[k]'(by omega)) := List.getElem?_eq_getElem (by omega)
      rw [c2, q] at hE
      obtain ⟨cs1, k1, k2⟩ := Option.bind_eq_some_iff.1 hE
      obtain ⟨xs, m, _, exs, _, hxl, hxe⟩ := DataW.trod_struct Tryz.underlying174 k2
      have hx2 : xs.length = 2 := hxl
      have hE0 := hxe 0 _ rfl
      have hE1 := hxe 1 _ rfl
      rw [List.getElem?_eq_getElem (by omega)] at hE0 hE1
      obtain ⟨z0, f0, g0, _⟩ := DataW.trod_int Tryz.underlying3 hE0
      obtain ⟨z1, f1, g1, _⟩ := DataW.trod_string Tryz.underlying9 hE1
      have hD : Go.Pinned.cheatRows[k]? = some (chD k, chS k) := by
        have hlt : k < Go.Pinned.cheatRows.length := by omega
        unfold chD chS
        rw [List.getD_eq_getElem?_getD, List.getElem?_eq_getElem hlt]
        rfl
      have e8 : (elems.map (·.1))[k]? = some (.agg [.lit (.int .i64 (chD k : Int)), .lit (.string (chS k))]) := by
        rw [← e3.1, List.getElem?_map, hD]
        rfl
      rw [List.getElem?_map, q, Option.map_some, exs, Option.some.injEq] at e8
      have e9 := DataW.agg.inj e8
      have a0 : (xs.map (·.1))[0]? = some (.lit (.int .i64 (chD k : Int))) := by rw [e9]; rfl
      have a1 : (xs.map (·.1))[1]? = some (.lit (.string (chS k))) := by rw [e9]; rfl
      rw [List.getElem?_map, List.getElem?_eq_getElem (by omega : 0 < xs.length), g0] at a0
      rw [List.getElem?_map, List.getElem?_eq_getElem (by omega : 1 < xs.length), g1] at a1
      simp only [Option.map_some, Option.some.injEq, DataW.lit.injEq, Lit.int.injEq, true_and] at a0
      simp only [Option.map_some, Option.some.injEq, DataW.lit.injEq, Lit.string.injEq] at a1
      have f0' : (cs1.drop 0).take (Tryz.prog.cellsOf 3) = [.int .i64 z0] := f0
      have f1' : (cs1.drop 1).take (Tryz.prog.cellsOf 9) = [.string z1] := f1
      rw [c1] at f0'
      rw [c1s] at f1'
      have n0 := (World.cells?_some k1).2.2 0 (by decide)
      have n1 := (World.cells?_some k1).2.2 1 (by decide)
      have b0 : cs1[0]? = some (.int .i64 z0) := by
        have h0 : ((cs1.drop 0).take 1)[0]? = some (.int .i64 z0) := by rw [f0']; rfl
        simpa using h0
      have b1 : cs1[1]? = some (.string z1) := by
        have h0 : ((cs1.drop 1).take 1)[0]? = some (.string z1) := by rw [f1']; rfl
        simpa using h0
      have hz : z1 = ⟨(chS k).toArray⟩ := ByteArray.ext (by rw [← a1])
      refine ⟨?_, ?_⟩
      · have : (a.add (k * 2)).add 0 = a.add (k * 2) := by simp [Addr.add]
        rw [this] at n0
        rw [n0, b0, a0]
      · rw [n1, b1, hz]
    have m0 := (hk 0 (by decide)).1
    have hs := spot_none m0
    obtain ⟨ab, ao, asp⟩ := a
    have hs : asp = none := by simpa [Addr.add] using hs
    subst hs
    have hG0 : W.cell? ⟨12, 0, none⟩ = some (.slice (some ⟨ab, ao, none⟩) 61 cap) := cs_cell hg hv 0 _ (by rw [hcs]; rfl)
    refine ⟨lt_of_cell hG0, ab, ao, cap, ?_, hG0, fun k h => ?_⟩
    · rw [Addr.add_lit] at m0; exact lt_of_cell m0
    · have := hk k h
      rw [Addr.add_lit, Addr.add_lit] at this
      exact this
set_option maxRecDepth 100000 in
theorem info_of_laid {W : World} (h : laidMetH Tryz.prog laids W) : InfoB W.heap.size W := by
  have hp := pow_of_laid h
  have hm := (glob_of_laid h).1.m52
  rw [MakeChecks.laidMetH_plain _ _ _ (by kernel_rfl)] at h
  obtain ⟨ps, hl, _, _⟩ := h
  obtain ⟨g, t, cs, fuel, p, hg, ht, hv, hd⟩ := laid_at _ _ hl "internal/strconv.float64info" Rows.laid_internal_strconv_float64info (by simp)
  obtain rfl := Option.some.inj ((show Tryz.prog.globalNamed "internal/strconv.float64info" = some 5 by kernel_rfl).symm.trans hg)
  obtain rfl := Option.some.inj ((show (Tryz.prog.globals[5]?).map (·.type) = some 114 by kernel_rfl).symm.trans ht)
  obtain ⟨xs, m, _, ex, _, hlen, hel⟩ := DataW.trod_struct Tryz.underlying114 hd
  have c1 : Tryz.prog.cellsOf 64 = 1 := by kernel_rfl
  have c1i : Tryz.prog.cellsOf 3 = 1 := by kernel_rfl
  have hE1 := hel 1 _ rfl
  have hE2 := hel 2 _ rfl
  have hlen3 : xs.length = 3 := hlen
  rw [List.getElem?_eq_getElem (by omega)] at hE1 hE2
  obtain ⟨z1, f1, g1, _⟩ := DataW.trod_int Tryz.underlying64 hE1
  obtain ⟨z2, f2, g2, _⟩ := DataW.trod_int Tryz.underlying3 hE2
  have e3 : (xs.map (·.1)) = [.lit (.int .u64 52), .lit (.int .u64 11), .lit (.int .i64 (-1023))] := (DataW.agg.inj (Prod.mk.inj ex).1).symm
  have e4 : (xs.map (·.1))[1]? = some (.lit (.int .u64 11)) := by rw [e3]; rfl
  have e5 : (xs.map (·.1))[2]? = some (.lit (.int .i64 (-1023))) := by rw [e3]; rfl
  rw [List.getElem?_map, List.getElem?_eq_getElem (by omega : 1 < xs.length), g1] at e4
  rw [List.getElem?_map, List.getElem?_eq_getElem (by omega : 2 < xs.length), g2] at e5
  simp only [Option.map_some, Option.some.injEq, DataW.lit.injEq, Lit.int.injEq, true_and] at e4 e5
  subst e4
  subst e5
  have f1' : (cs.toList.drop 1).take (Tryz.prog.cellsOf 64) = [.int .u64 11] := f1
  have f2' : (cs.toList.drop 2).take (Tryz.prog.cellsOf 3) = [.int .i64 (-1023)] := f2
  rw [c1] at f1'
  rw [c1i] at f2'
  obtain ⟨b, o, c, p1, p2, p3⟩ := hp
  exact ⟨lt_of_cell hm, lt_of_cell p2, hm, cs_cell hg hv 1 _ f1', cs_cell hg hv 2 _ f2', b, o, c, p1, p2, p3⟩
/-- Both descriptions are rows of their own. -/
def Blks (w : World) : Prop := (∃ ca t, w.heap[5]? = some (.cells ca t)) ∧ ∃ cb t, w.heap[4]? = some (.cells cb t)
theorem Blks.below {w w' : World} (h : Blks w) (hb : Below w.heap.size w w') : Blks w' := by
  obtain ⟨⟨ca, t, h1⟩, cb, u, h2⟩ := h
  have k1 : 5 < w.heap.size := by
    rcases Nat.lt_or_ge 5 w.heap.size with k | k
    · exact k
    · rw [Array.getElem?_eq_none k] at h1; cases h1
  have k2 : 4 < w.heap.size := by
    rcases Nat.lt_or_ge 4 w.heap.size with k | k
    · exact k
    · rw [Array.getElem?_eq_none k] at h2; cases h2
  exact ⟨⟨ca, t, by rw [hb.block _ k1]; exact h1⟩, cb, u, by rw [hb.block _ k2]; exact h2⟩
theorem drewN_heap' (w : World) (q : Nat) : (w.drewN q).heap = w.heap := by
  induction q with
  | zero => rfl
  | succ q ih => exact ih
theorem Blks.eq {w : World} (h : Blks w) (q : Nat) : (binOp .eql 112 (.pointer (some ⟨5, 0, none⟩)) (.pointer (some ⟨4, 0, none⟩))).run Tryz.prog (w.drewN q) = .ok (.bool false) (w.drewN q) := by
  obtain ⟨⟨ca, t, h1⟩, cb, u, h2⟩ := h
  obtain ⟨j, hj, hs⟩ := Option.map_eq_some_iff.1 (show (Tryz.prog.info? 114).map (·.size) = some 3 by kernel_rfl)
  exact run_eql_ptr_other (w.drewN q) Tryz.underlying112 hj (by rw [hs]; decide) (fun k => by injection k with k; exact absurd k (by decide)) (by rw [drewN_heap']; exact h1) (by rw [drewN_heap']; exact h2)
set_option maxRecDepth 100000 in
theorem blks_of {W : World} (h : W.ShapedOpen Tryz.prog) : Blks W := by
  obtain ⟨ca, h1, _⟩ := h.1 5 #[.int .u64 0, .int .u64 0, .int .i64 0] 114 (of_decide_eq_true (by kernel_rfl)) (by kernel_rfl)
  obtain ⟨cb, h2, _⟩ := h.1 4 #[.int .u64 0, .int .u64 0, .int .i64 0] 114 (of_decide_eq_true (by kernel_rfl)) (by kernel_rfl)
  exact ⟨⟨ca, _, h1⟩, cb, _, h2⟩
end Go.Proofs.YthgpdniflkojpaaGreatDoor
