/- THE DOOR of layer 11: a raw part, opened. Own work of the verifier. -/
import Derived.Test.YtbgdmlekhobjdaaGreatMSA
import Derived.Test.YtbgdmlekhobjdaaGreatDr
import Derived.Deep.SlicePairs
import Derived.JoinedCond
namespace Go.Proofs.YtbgdmlekhobjdaaGreat
open Go.ChangeShapes Go.WideShapes Go.ChangeAt Go.RowKit Go.Joins

theorem laidOut : laidOutB Tryz.prog = true := by kernel_rfl
theorem cellsC : Tryz.prog.cellsOf 45 = 2 := by kernel_rfl
theorem cellsInt : Tryz.prog.cellsOf 3 = 1 := by kernel_rfl
theorem cellsU64 : Tryz.prog.cellsOf 22 = 1 := by kernel_rfl
theorem cellsI64 : Tryz.prog.cellsOf 2 = 1 := by kernel_rfl
theorem cellsSC : Tryz.prog.cellsOf 25 = 1 := by kernel_rfl
theorem cellsI128 : Tryz.prog.cellsOf 24 = 2 := by kernel_rfl
theorem cellsRaw : Tryz.prog.cellsOf 27 = 8 := by kernel_rfl
theorem typesRaw : Tryz.prog.cellTypes Tryz.prog.depth 27 = some [2, 22, 25, 22, 22, 22, 22, 22] := by kernel_rfl
theorem range_i64 {n : Int} (h : (Lit.int .i64 n).wf = true) : -9223372036854775808 ≤ n ∧ n < 9223372036854775808 := by
  have hx : -9223372036854775808 ≤ n ∧ n ≤ 9223372036854775807 := by simpa [Lit.wf, IntKind.min, IntKind.max, IntKind.signed, IntKind.bits] using h
  omega
theorem nat_u64 {n : Int} (h : (Lit.int .u64 n).wf = true) : ∃ k : Nat, n = (k : Int) ∧ k < 18446744073709551616 := by
  have hx : 0 ≤ n ∧ n ≤ 18446744073709551615 := by simpa [Lit.wf, IntKind.min, IntKind.max, IntKind.signed, IntKind.bits] using h
  exact ⟨n.toNat, by omega, by omega⟩
section
variable {H : Type} {enc : TypeId × Value → H}
theorem bulk_one (d : DataW H) : 1 ≤ Rows.uptoBulk d := by
  cases d with
  | lit l => cases l <;> simp [Rows.uptoBulk]
  | nil => simp [Rows.uptoBulk]
  | ptr d => simp [Rows.uptoBulk]
  | slice elems spare => simp [Rows.uptoBulk]
  | agg parts => simp [Rows.uptoBulk]
  | iface t d => simp [Rows.uptoBulk]
  | map entries => simp [Rows.uptoBulk]
  | held h => simp [Rows.uptoBulk]
theorem bulk_three (D0 D1 : Nat → DataW H) (l : List Nat) : 3 * l.length ≤ Rows.uptoBulkAll (l.map fun i => (DataW.agg [D0 i, D1 i] : DataW H)) := by
  induction l with
  | nil => simp [Rows.uptoBulkAll]
  | cons x r ih =>
    have h0 := bulk_one (D0 x)
    have h1 := bulk_one (D1 x)
    simp only [List.map_cons, Rows.uptoBulkAll, Rows.uptoBulk, List.length_cons]
    omega
set_option maxRecDepth 100000 in
/-- A slice within a struct: its address is a plain one. -/
theorem spot_field {W : World} {base : Nat} {t : TypeId} {fs : Array Field} {cs : Array Value} {ts : List TypeId} (hs : Tryz.prog.underlying t = some (.struct fs)) (hv : Value.okWide Tryz.prog W .any base t (.agg cs)) (hts : Tryz.prog.cellTypes Tryz.prog.depth t = some ts)
    {i : Nat} {u e : TypeId} (hu : ts[i % ts.length]? = some u) (hue : Tryz.prog.underlying u = some (.slice e)) {a : Addr} {len cap : Nat} (hc : cs[i]? = some (.slice (some a) len cap)) : a.spot = none := by
  simp only [Value.okWide, hs] at hv
  obtain ⟨cs', h1, h2, ts', h3, h4, h5⟩ := hv
  cases h1
  rw [hts] at h3
  cases h3
  obtain ⟨u', h6, h7⟩ := h5 i _ hc
  rw [hu] at h6
  cases h6
  simp only [Cell.okWide, hue, Cell.ok] at h7
  exact h7.2.2.2.1
set_option maxRecDepth 100000 in
/-- Counts, opened. -/
theorem open_counts {W : World} {fuel : Nat} {v : Value} {x : DataW H × List MemPlace} (hsp : ∀ a len cap, v = .slice (some a) len cap → a.spot = none) (h : DataW.trod enc Tryz.prog W 0 (fun _ => true) true fuel 25 [v] = some x) :
    ∃ L, SN W v L ∧ Wc L ∧ 3 * L.length ≤ Rows.uptoBulk x.1 := by
  rcases Deep.open_slice_pairs Tryz.underlying25 Tryz.underlying45 cellsC rfl rfl cellsInt cellsU64 h with ⟨hcs, _⟩ | ⟨a, len, cap, m, n, V0, V1, D0, D1, P0, P1, hcs, _, hl, hm, hmm, rfl, hx⟩
  · simp at hcs
    subst hcs
    exact ⟨[], Or.inl ⟨rfl, rfl⟩, (fun c hc => by cases hc), Nat.zero_le _⟩
  · simp at hcs
    subst hcs
    simp only [if_true] at hmm
    subst hmm
    have hspot := hsp _ _ _ rfl
    obtain ⟨b, off, spot⟩ := a
    simp at hspot
    subst hspot
    have key : ∀ i, i < m → ∃ (z : Int) (y : Nat), V0 i = .int .i64 z ∧ V1 i = .int .u64 (y : Int) ∧ -9223372036854775808 ≤ z ∧ z < 9223372036854775808 ∧ y < 18446744073709551616 := fun i hi => by
      obtain ⟨_, _, h0, h1⟩ := hx i hi
      obtain ⟨z, e0, _, w0⟩ := DataW.trod_int Tryz.underlying3 h0
      obtain ⟨y, e1, _, w1⟩ := DataW.trod_int Tryz.underlying22 h1
      simp at e0 e1
      obtain ⟨k, rfl, hk⟩ := nat_u64 w1
      exact ⟨z, k, e0, e1, (range_i64 w0).1, (range_i64 w0).2, hk⟩
    have hLlen : ((List.range len).map fun i => ((intOf (V0 i), (intOf (V1 i)).toNat) : Cn)).length = len := by simp
    refine ⟨(List.range len).map fun i => (intOf (V0 i), (intOf (V1 i)).toNat), Or.inr ⟨b, off, m, by rw [hLlen], by rw [hLlen]; exact hl, fun i hi => ?_⟩, fun c hc => ?_, ?_⟩
    · rw [hLlen] at hi
      obtain ⟨c0, c1, _, _⟩ := hx i (by omega)
      obtain ⟨z, y, e0, e1, _⟩ := key i (by omega)
      rw [Addr.add_lit] at c0 c1
      simp only [List.getElem_map, List.getElem_range]
      rw [e0] at c0 ⊢
      rw [e1] at c1 ⊢
      exact ⟨c0, by rw [← Nat.add_assoc] at c1; simpa [intOf] using c1⟩
    · obtain ⟨i, hi, rfl⟩ := List.mem_map.1 hc
      obtain ⟨z, y, e0, e1, r0, r1, r2⟩ := key i (by have := List.mem_range.1 hi; omega)
      simp only [e0, e1, intOf]
      exact ⟨r0, r1, by simpa using r2⟩
    · rw [hLlen]
      have := bulk_three D0 D1 (List.range len)
      simp only [List.length_range] at this
      simp only [Rows.uptoBulk]
      omega
set_option maxRecDepth 100000 in
/-- A raw part, opened. -/
theorem open_raw {W : World} {base : Nat} {v : Value} {d : DataW H} {pl : List MemPlace} (hv : Value.okWide Tryz.prog W .any base 27 v) (h : DataW.Trod enc Tryz.prog W 0 (fun _ => true) true 27 v d pl) (hk : Rows.uptoBulk d ≤ 1048576) :
    ∃ X : Rq, v = rpart X.hi X.lo (.slice X.ao X.L.length X.cap) X.n X.s X.c X.mn X.mx ∧ X.Ok ∧ SN W (.slice X.ao X.L.length X.cap) X.L ∧ 3 * X.L.length ≤ Rows.uptoBulk d := by
  obtain ⟨cs, rfl, hsz⟩ := okWide_struct Tryz.underlying27 hv
  obtain ⟨fuel, hf⟩ := h
  obtain ⟨xs, n, _, hx, _, hlen, hfs⟩ := DataW.trod_struct Tryz.underlying27 hf
  rw [cellsRaw] at hsz
  obtain ⟨l⟩ := cs
  match l, hsz, xs, hlen with
  | [c0, c1, c2, c3, c4, c5, c6, c7], _, [y0, y1, y2, y3, y4, y5, y6], _ =>
    have g0 := hfs 0 _ rfl
    have g1 := hfs 1 _ rfl
    have g2 := hfs 2 _ rfl
    have g3 := hfs 3 _ rfl
    have g4 := hfs 4 _ rfl
    have g5 := hfs 5 _ rfl
    have g6 := hfs 6 _ rfl
    simp [Value.cells, cellsI128, cellsU64, cellsSC] at g0 g1 g2 g3 g4 g5 g6
    obtain ⟨z0, z1, m0, e0, _, k0, k1⟩ := trod_struct2 Tryz.underlying24 g0
    simp [cellsI64, cellsU64] at k0 k1
    obtain ⟨hi, e0, f0, w0⟩ := DataW.trod_int Tryz.underlying2 k0
    obtain ⟨lo, e1, f1, w1⟩ := DataW.trod_int Tryz.underlying22 k1
    obtain ⟨L, sL, wL, bL⟩ := open_counts (fun a len cap e => spot_field Tryz.underlying27 hv typesRaw (i := 2) rfl Tryz.underlying25 (by rw [e]; rfl)) g1
    obtain ⟨n3, e3, f3, w3⟩ := DataW.trod_int Tryz.underlying22 g2
    obtain ⟨n4, e4, f4, w4⟩ := DataW.trod_int Tryz.underlying22 g3
    obtain ⟨n5, e5, f5, w5⟩ := DataW.trod_int Tryz.underlying22 g4
    obtain ⟨n6, e6, f6, w6⟩ := DataW.trod_int Tryz.underlying22 g5
    obtain ⟨n7, e7, f7, w7⟩ := DataW.trod_int Tryz.underlying22 g6
    simp at e0 e1 e3 e4 e5 e6 e7
    subst e0 e1 e3 e4 e5 e6 e7
    obtain ⟨lo', rfl, hlo⟩ := nat_u64 w1
    obtain ⟨n3, rfl, h3⟩ := nat_u64 w3
    obtain ⟨n4, rfl, h4⟩ := nat_u64 w4
    obtain ⟨n5, rfl, h5⟩ := nat_u64 w5
    obtain ⟨n6, rfl, h6⟩ := nat_u64 w6
    obtain ⟨n7, rfl, h7⟩ := nat_u64 w7
    simp only [Prod.mk.injEq] at hx
    rw [hx.1] at hk ⊢
    simp only [List.map_cons, List.map_nil, Rows.uptoBulk, Rows.uptoBulkAll] at hk ⊢
    obtain ⟨ao, b, o, cap, hc, _⟩ := sL.sc
    subst hc
    have hwf : Wf hi (lo' : Int) := by
      have := range_i64 w0
      constructor <;> omega
    exact ⟨⟨hi, (lo' : Int), ao, cap, n3, n4, n5, n6, n7, L⟩, rfl, ⟨hwf, h4, h5, h6, h7, by show L.length ≤ 349525; omega, wL⟩, sL, by show 3 * L.length ≤ _; omega⟩
end
end Go.Proofs.YtbgdmlekhobjdaaGreat
