/- THE DOOR of layer 5: counts and what is asked of them, opened. Own work of the verifier. -/
import Derived.Test.YthhoklgfgandpaaE7
import Derived.Test.YthhoklgfgandpaaDr
import Derived.Deep.SlicePairs
import Derived.JoinedCond
namespace Go.Proofs.Ythhoklgfgandpaa
open Go.ChangeShapes Go.WideShapes Go.ChangeAt Go.RowKit Go.Joins

theorem laidOut : laidOutB Try.prog = true := by kernel_rfl
theorem cellsC : Try.prog.cellsOf 49 = 2 := by kernel_rfl
theorem cellsInt : Try.prog.cellsOf 3 = 1 := by kernel_rfl
theorem cellsU64 : Try.prog.cellsOf 24 = 1 := by kernel_rfl
theorem cellsI64 : Try.prog.cellsOf 2 = 1 := by kernel_rfl
theorem cellsSC : Try.prog.cellsOf 23 = 1 := by kernel_rfl
theorem cellsSI : Try.prog.cellsOf 40 = 1 := by kernel_rfl
theorem cellsAsked : Try.prog.cellsOf 26 = 8 := by kernel_rfl
theorem cellsQ : Try.prog.cellsOf 42 = 4 := by kernel_rfl
theorem typesAsked : Try.prog.cellTypes Try.prog.depth 26 = some [3, 23, 23, 24, 24, 2, 2, 2] := by kernel_rfl
theorem typesQ : Try.prog.cellTypes Try.prog.depth 42 = some [3, 40, 2, 2] := by kernel_rfl
theorem range_i64 {n : Int} (h : (Lit.int .i64 n).wf = true) : -9223372036854775808 ≤ n ∧ n < 9223372036854775808 := by
  have hx : -9223372036854775808 ≤ n ∧ n ≤ 9223372036854775807 := by simpa [Lit.wf, IntKind.min, IntKind.max, IntKind.signed, IntKind.bits] using h
  omega
theorem nat_u64 {n : Int} (h : (Lit.int .u64 n).wf = true) : ∃ k : Nat, n = (k : Int) ∧ k < 18446744073709551616 := by
  have hx : 0 ≤ n ∧ n ≤ 18446744073709551615 := by simpa [Lit.wf, IntKind.min, IntKind.max, IntKind.signed, IntKind.bits] using h
  exact ⟨n.toNat, by omega, by omega⟩
section
variable {H : Type} {enc : TypeId × Value → H}
theorem bulk_len (l : List (DataW H)) : l.length ≤ Rows.uptoBulkAll l := by
  have one : ∀ d : DataW H, 1 ≤ Rows.uptoBulk d := fun d => by
    cases d with
    | lit l => cases l <;> simp [Rows.uptoBulk]
    | nil => simp [Rows.uptoBulk]
    | ptr d => simp [Rows.uptoBulk]
    | slice elems spare => simp [Rows.uptoBulk]
    | agg parts => simp [Rows.uptoBulk]
    | iface t d => simp [Rows.uptoBulk]
    | map entries => simp [Rows.uptoBulk]
    | held h => simp [Rows.uptoBulk]
  induction l with
  | nil => simp [Rows.uptoBulkAll]
  | cons x r ih => have := one x; simp only [Rows.uptoBulkAll, List.length_cons]; omega
set_option maxRecDepth 100000 in
/-- A slice within a struct: its address is a plain one. -/
theorem spot_field {W : World} {base : Nat} {t : TypeId} {fs : Array Field} {cs : Array Value} {ts : List TypeId} (hs : Try.prog.underlying t = some (.struct fs)) (hv : Value.okWide Try.prog W .any base t (.agg cs)) (hts : Try.prog.cellTypes Try.prog.depth t = some ts)
    {i : Nat} {u e : TypeId} (hu : ts[i % ts.length]? = some u) (hue : Try.prog.underlying u = some (.slice e)) {a : Addr} {len cap : Nat} (hc : cs[i]? = some (.slice (some a) len cap)) : a.spot = none := by
  simp only [Value.okWide, hs] at hv
  obtain ⟨cs', h1, h2, ts', h3, h4, h5⟩ := hv
  cases h1
  rw [hts] at h3
  cases h3
  obtain ⟨u', h6, h7⟩ := h5 i _ hc
  rw [hu] at h6
  cases h6
  simp only [Cell.okWide, hue, Cell.ok] at h7
  exact h7.2.2.2.1
set_option maxRecDepth 100000 in
theorem spot_arg {W : World} {base : Nat} {t e : TypeId} (ht : Try.prog.underlying t = some (.slice e)) {a : Addr} {len cap : Nat} (hv : Value.okWide Try.prog W .any base t (.slice (some a) len cap)) : a.spot = none := by
  simp only [Value.okWide, ht, Cell.okWide, Cell.ok] at hv
  exact hv.2.2.2.1
set_option maxRecDepth 100000 in
/-- Counts, opened. -/
theorem open_counts {W : World} {fuel : Nat} {v : Value} {x : DataW H × List MemPlace} (hsp : ∀ a len cap, v = .slice (some a) len cap → a.spot = none) (h : DataW.trod enc Try.prog W 0 (fun _ => true) true fuel 23 [v] = some x) :
    ∃ L, SN W v L ∧ Wc L ∧ L.length ≤ Rows.uptoBulk x.1 := by
  rcases Deep.open_slice_pairs Try.underlying23 Try.underlying49 cellsC rfl rfl cellsInt cellsU64 h with ⟨hcs, _⟩ | ⟨a, len, cap, m, n, V0, V1, D0, D1, P0, P1, hcs, _, hl, hm, hmm, rfl, hx⟩
  · simp at hcs
    subst hcs
    exact ⟨[], Or.inl ⟨rfl, rfl⟩, (fun c hc => by cases hc), Nat.zero_le _⟩
  · simp at hcs
    subst hcs
    simp only [if_true] at hmm
    subst hmm
    have hspot := hsp _ _ _ rfl
    obtain ⟨b, off, spot⟩ := a
    simp at hspot
    subst hspot
    have key : ∀ i, i < m → ∃ (z : Int) (y : Nat), V0 i = .int .i64 z ∧ V1 i = .int .u64 (y : Int) ∧ -9223372036854775808 ≤ z ∧ z < 9223372036854775808 ∧ y < 18446744073709551616 := fun i hi => by
      obtain ⟨_, _, h0, h1⟩ := hx i hi
      obtain ⟨z, e0, _, w0⟩ := DataW.trod_int Try.underlying3 h0
      obtain ⟨y, e1, _, w1⟩ := DataW.trod_int Try.underlying24 h1
      simp at e0 e1
      obtain ⟨k, rfl, hk⟩ := nat_u64 w1
      exact ⟨z, k, e0, e1, (range_i64 w0).1, (range_i64 w0).2, hk⟩
    have hLlen : ((List.range len).map fun i => ((intOf (V0 i), (intOf (V1 i)).toNat) : Cn)).length = len := by simp
    refine ⟨(List.range len).map fun i => (intOf (V0 i), (intOf (V1 i)).toNat), Or.inr ⟨b, off, m, by rw [hLlen], by rw [hLlen]; exact hl, fun i hi => ?_⟩, fun c hc => ?_, ?_⟩
    · rw [hLlen] at hi
      obtain ⟨c0, c1, _, _⟩ := hx i (by omega)
      obtain ⟨z, y, e0, e1, _⟩ := key i (by omega)
      rw [Addr.add_lit] at c0 c1
      simp only [List.getElem_map, List.getElem_range]
      rw [e0] at c0 ⊢
      rw [e1] at c1 ⊢
      exact ⟨c0, by rw [← Nat.add_assoc] at c1; simpa [intOf] using c1⟩
    · obtain ⟨i, hi, rfl⟩ := List.mem_map.1 hc
      obtain ⟨z, y, e0, e1, r0, r1, r2⟩ := key i (by have := List.mem_range.1 hi; omega)
      simp only [e0, e1, intOf]
      exact ⟨r0, r1, by simpa using r2⟩
    · rw [hLlen]
      have := bulk_len ((List.range len).map fun i => (DataW.agg [D0 i, D1 i] : DataW H))
      simp only [List.length_map, List.length_range] at this
      simp only [Rows.uptoBulk]
      omega
set_option maxRecDepth 100000 in
/-- What is asked, opened. -/
theorem open_asked {W : World} {base : Nat} {v : Value} {d : DataW H} {pl : List MemPlace} (hv : Value.okWide Try.prog W .any base 26 v) (h : DataW.Trod enc Try.prog W 0 (fun _ => true) true 26 v d pl) (hk : Rows.uptoBulk d ≤ 1048576) :
    ∃ (p num den y : Int) (r n : Nat) (v1 v2 : Value) (L M : List Cn), v = .agg #[.int .i64 p, v1, v2, .int .u64 (r : Int), .int .u64 (n : Int), .int .i64 num, .int .i64 den, .int .i64 y] ∧ r < 18446744073709551616 ∧ n < 18446744073709551616 ∧ den < 9223372036854775808 ∧ SN W v1 L ∧ SN W v2 M ∧ Wc (L ++ M) ∧ L.length ≤ 1048576 ∧ M.length ≤ 1048576 := by
  obtain ⟨cs, rfl, hsz⟩ := okWide_struct Try.underlying26 hv
  obtain ⟨fuel, hf⟩ := h
  obtain ⟨xs, n, _, hx, _, hlen, hfs⟩ := DataW.trod_struct Try.underlying26 hf
  rw [cellsAsked] at hsz
  obtain ⟨l⟩ := cs
  match l, hsz, xs, hlen with
  | [c0, c1, c2, c3, c4, c5, c6, c7], _, [y0, y1, y2, y3, y4, y5, y6, y7], _ =>
    have g0 := hfs 0 _ rfl
    have g1 := hfs 1 _ rfl
    have g2 := hfs 2 _ rfl
    have g3 := hfs 3 _ rfl
    have g4 := hfs 4 _ rfl
    have g5 := hfs 5 _ rfl
    have g6 := hfs 6 _ rfl
    have g7 := hfs 7 _ rfl
    simp [Value.cells, cellsInt, cellsU64, cellsI64, cellsSC] at g0 g1 g2 g3 g4 g5 g6 g7
    obtain ⟨p, e0, f0, w0⟩ := DataW.trod_int Try.underlying3 g0
    obtain ⟨L, sL, wL, bL⟩ := open_counts (fun a len cap e => spot_field Try.underlying26 hv typesAsked (i := 1) rfl Try.underlying23 (by rw [e]; rfl)) g1
    obtain ⟨M, sM, wM, bM⟩ := open_counts (fun a len cap e => spot_field Try.underlying26 hv typesAsked (i := 2) rfl Try.underlying23 (by rw [e]; rfl)) g2
    obtain ⟨r, e3, f3, w3⟩ := DataW.trod_int Try.underlying24 g3
    obtain ⟨q, e4, f4, w4⟩ := DataW.trod_int Try.underlying24 g4
    obtain ⟨num, e5, f5, w5⟩ := DataW.trod_int Try.underlying2 g5
    obtain ⟨den, e6, f6, w6⟩ := DataW.trod_int Try.underlying2 g6
    obtain ⟨y, e7, f7, w7⟩ := DataW.trod_int Try.underlying2 g7
    simp at e0 e3 e4 e5 e6 e7
    subst e0 e3 e4 e5 e6 e7
    obtain ⟨r, rfl, hr⟩ := nat_u64 w3
    obtain ⟨q, rfl, hq⟩ := nat_u64 w4
    simp only [Prod.mk.injEq] at hx
    rw [hx.1] at hk
    simp only [List.map_cons, List.map_nil, Rows.uptoBulk, Rows.uptoBulkAll] at hk
    exact ⟨p, num, den, y, r, q, c1, c2, L, M, rfl, hr, hq, (range_i64 w6).2, sL, sM, (fun c hc => by rcases List.mem_append.1 hc with k | k; exact wL c k; exact wM c k), by omega, by omega⟩
end
end Go.Proofs.Ythhoklgfgandpaa
