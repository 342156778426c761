/- SlabValues: THE ROW of its second form. Own work of the verifier. -/
import Derived.Test.YtbgdmlekhobjdaaGreatNA
import Derived.Test.YtbgdmlekhobjdaaGreatMR0
namespace Go.Proofs.YtbgdmlekhobjdaaGreat
open Go.ChangeShapes Go.WideShapes Go.ChangeAt Go.RowKit Go.Joins

theorem cellsS : Tryz.prog.cellsOf 9 = 1 := by kernel_rfl
theorem cellsLb : Tryz.prog.cellsOf 56 = 2 := by kernel_rfl
theorem cellsSL : Tryz.prog.cellsOf 52 = 1 := by kernel_rfl
theorem cellsD : Tryz.prog.cellsOf 54 = 4 := by kernel_rfl
theorem typesD : Tryz.prog.cellTypes Tryz.prog.depth 54 = some [3, 9, 9, 52] := by kernel_rfl
section
variable {H : Type} {enc : TypeId × Value → H}
theorem bulk_mem (D : Nat → DataW H) (l : List Nat) (i : Nat) (hi : i ∈ l) : Rows.uptoBulk (D i) ≤ Rows.uptoBulkAll (l.map D) := by
  induction l with
  | nil => cases hi
  | cons x r ih =>
    simp only [List.map_cons, Rows.uptoBulkAll]
    rcases List.mem_cons.1 hi with rfl | h
    · omega
    · have := ih h
      omega
/-- A text's bytes; none of any other value. -/
def strV (v : Value) : List UInt8 := match v with | .string s => s.data.toList | _ => []
set_option maxRecDepth 100000 in
/-- Labels, opened. -/
theorem open_labels {W : World} {fuel : Nat} {v : Value} {x : DataW H × List MemPlace} (hsp : ∀ a len cap, v = .slice (some a) len cap → a.spot = none) (h : DataW.trod enc Tryz.prog W 0 (fun _ => true) true fuel 52 [v] = some x) (hk : Rows.uptoBulk x.1 ≤ 1048576) :
    ∃ L, SLb W v L ∧ L.length ≤ 1048575 ∧ ∀ a ∈ L, a.2.length ≤ 1048576 := by
  rcases Deep.open_slice_pairs Tryz.underlying52 Tryz.underlying56 cellsLb rfl rfl cellsS cellsS h with ⟨hcs, _⟩ | ⟨a, len, cap, m, n, V0, V1, D0, D1, P0, P1, hcs, _, hl, hm, hmm, rfl, hx⟩
  · simp at hcs
    subst hcs
    exact ⟨[], Or.inl ⟨rfl, rfl⟩, Nat.zero_le _, fun a ha => by cases ha⟩
  · simp at hcs
    subst hcs
    simp only [if_true] at hmm
    subst hmm
    have hspot := hsp _ _ _ rfl
    obtain ⟨b, off, spot⟩ := a
    simp at hspot
    subst hspot
    have key : ∀ i, i < m → ∃ (s t : List UInt8), V0 i = .string ⟨s.toArray⟩ ∧ V1 i = .string ⟨t.toArray⟩ ∧ D0 i = .lit (.string s) ∧ D1 i = .lit (.string t) := fun i hi => by
      obtain ⟨_, _, h0, h1⟩ := hx i hi
      obtain ⟨s, e0, f0, _⟩ := DataW.trod_string Tryz.underlying9 h0
      obtain ⟨t, e1, f1, _⟩ := DataW.trod_string Tryz.underlying9 h1
      simp at e0 e1
      exact ⟨s.data.toList, t.data.toList, e0, e1, (Prod.mk.inj f0).1, (Prod.mk.inj f1).1⟩
    have hLlen : ((List.range len).map fun i => ((strV (V0 i), strV (V1 i)) : Lb)).length = len := by simp
    simp only [Rows.uptoBulk] at hk
    have h3 := bulk_three D0 D1 (List.range len)
    rw [List.length_range] at h3
    refine ⟨(List.range len).map fun i => (strV (V0 i), strV (V1 i)), Or.inr ⟨b, off, m, by rw [hLlen], by rw [hLlen]; exact hl, fun i hi => ?_⟩, by rw [hLlen]; omega, fun c hc => ?_⟩
    · rw [hLlen] at hi
      obtain ⟨c0, c1, _, _⟩ := hx i (by omega)
      obtain ⟨s, t, e0, e1, _⟩ := key i (by omega)
      rw [Addr.add_lit] at c0 c1
      simp only [List.getElem_map, List.getElem_range]
      rw [e0] at c0 ⊢
      rw [e1] at c1 ⊢
      exact ⟨c0, by rw [← Nat.add_assoc] at c1; exact c1⟩
    · obtain ⟨i, hi, rfl⟩ := List.mem_map.1 hc
      have hi' := List.mem_range.1 hi
      obtain ⟨s, t, e0, e1, e2, e3⟩ := key i (by omega)
      have hb := bulk_mem (fun i => (DataW.agg [D0 i, D1 i] : DataW H)) (List.range len) i hi
      simp only [e2, e3, Rows.uptoBulk, Rows.uptoBulkAll] at hb
      have et : (strV (V1 i)).length = t.length := by rw [e1]; rfl
      show (strV (V1 i)).length ≤ _
      omega
set_option maxRecDepth 100000 in
/-- A description, opened. -/
theorem open_desc {W : World} {base : Nat} {v : Value} {d : DataW H} {pl : List MemPlace} (hv : Value.okWide Tryz.prog W .any base 54 v) (h : DataW.Trod enc Tryz.prog W 0 (fun _ => true) true 54 v d pl) (hk : Rows.uptoBulk d ≤ 1048576) :
    ∃ (kd : Int) (nm hp : ByteArray) (la : Option Addr) (lc : Nat) (D : List Lb), v = .agg #[.int .i64 kd, .string nm, .string hp, .slice la D.length lc] ∧ SLb W (.slice la D.length lc) D ∧ D.length ≤ 1048575 ∧ ∀ a ∈ D, a.2.length ≤ 1048576 := by
  obtain ⟨cs, rfl, hsz⟩ := okWide_struct Tryz.underlying54 hv
  obtain ⟨fuel, hf⟩ := h
  obtain ⟨xs, n, _, hx, _, hlen, hfs⟩ := DataW.trod_struct Tryz.underlying54 hf
  rw [cellsD] at hsz
  obtain ⟨l⟩ := cs
  match l, hsz, xs, hlen with
  | [c0, c1, c2, c3], _, [y0, y1, y2, y3], _ =>
    have g0 := hfs 0 _ rfl
    have g1 := hfs 1 _ rfl
    have g2 := hfs 2 _ rfl
    have g3 := hfs 3 _ rfl
    simp [Value.cells, cellsInt, cellsS, cellsSL] at g0 g1 g2 g3
    obtain ⟨kd, e0, f0, w0⟩ := DataW.trod_int Tryz.underlying3 g0
    obtain ⟨s1, e1, f1, w1⟩ := DataW.trod_string Tryz.underlying9 g1
    obtain ⟨s2, e2, f2, w2⟩ := DataW.trod_string Tryz.underlying9 g2
    simp only [Prod.mk.injEq] at hx
    rw [hx.1] at hk
    simp only [List.map_cons, List.map_nil, Rows.uptoBulk, Rows.uptoBulkAll] at hk
    obtain ⟨L, sL, lL, bL⟩ := open_labels (fun a len cap e => spot_field Tryz.underlying54 hv typesD (i := 3) rfl Tryz.underlying52 (by rw [e]; rfl)) g3 (by omega)
    simp at e0 e1 e2
    subst e0 e1 e2
    rcases sL with ⟨rfl, rfl⟩ | ⟨b, o, cap, rfl, h1, h2⟩
    · exact ⟨kd, s1, s2, none, 0, [], rfl, Or.inl ⟨rfl, rfl⟩, lL, bL⟩
    · exact ⟨kd, s1, s2, some ⟨b, o, none⟩, cap, L, rfl, Or.inr ⟨b, o, cap, rfl, h1, h2⟩, lL, bL⟩
end
set_option maxRecDepth 100000 in
theorem slabValues_contract (H : Type) (enc : TypeId × Value → H) (W : World) (base : Nat) (args : Array Value) (ds gs : List (DataW H)) (before : List MemPlace)
    (hval0 : ∀ (j : Nat) t v, Tryz.f4.params[j]? = some t → args[j]? = some v → Value.okWide Tryz.prog W .any base t v)
    (hW : DataW.Whole enc Tryz.prog Tryz.f4.params.toList Rows.slabValuesSpec.vars false W args.toList ds gs before) (hk : Rows.uptoSmall H (ds ++ gs) = true) :
    Calls Tryz.prog 4 args W fun e W' => ∃ v, e = .returned v ∧ Rows.slabValuesSpec.post enc Tryz.prog Tryz.f4 false true false false W args v W' := by
  have hval := hval0
  have hW' := hW
  obtain ⟨p, q, hA0, hV, rfl, hfz, hnd⟩ := hW
  have hA : DataW.TrodAll enc Tryz.prog W 0 (fun _ => true) true Tryz.f4.params.toList args.toList ds p := hA0
  rw [Tryz.params4] at hA hval
  obtain ⟨v0, v1, d0, d1, p0, p1, rfl, rfl, rfl, h0, h1⟩ := trodAll_two hA
  obtain ⟨rfl, rfl⟩ := trodVars_none hV
  clear hA0 hval0
  simp only [List.append_nil] at hW' hk
  have hlt : ∀ x ∈ p0 ++ p1, x.block < W.heap.size := fun x hx => by simpa using hW'.lt x (by simpa using hx)
  have hargs : ∀ (W' : World), Below W.heap.size W W' → DataW.TrodAll enc Tryz.prog W' 0 (fun b => decide (b < W.heap.size)) true [54, 27] [v0, v1] [d0, d1] (p0 ++ p1) := fun W' hn =>
    trodAll_mk2 (Below.trod laidOut (by kernel_rfl) (of_decide_eq_true (by kernel_rfl)) h0 hn (fun x hx => hlt x (by simp [hx]))) (Below.trod laidOut (by kernel_rfl) (of_decide_eq_true (by kernel_rfl)) h1 hn (fun x hx => hlt x (by simp [hx])))
  have hbk : Rows.uptoBulk d0 + Rows.uptoBulk d1 ≤ 1048576 := by
    have h := of_decide_eq_true hk
    simp only [Rows.uptoBulkAll] at h
    omega
  obtain ⟨kd, nm, hp, la, lc, D, rfl, sD, lD, zD⟩ := open_desc (hval 0 54 v0 rfl rfl) h0 (by omega)
  obtain ⟨X, rfl, oX, sX, _⟩ := open_raw (hval 1 27 v1 rfl rfl) h1 (by omega)
  refine (slabValues_walk W X kd nm hp la lc D oX sX sD lD zD).mono fun e W' ⟨he, hg⟩ => ?_
  subst he
  exact ⟨_, rfl, _, _, _, [], _, [], hW', trodAll_mk1 (shut_bool Tryz.underlying4 _), hargs W' hg, rfl, hg.frame _, fun h => by cases h⟩
set_option maxRecDepth 100000 in
theorem slabValues_lifted (os : Os) (started : os.Started) (H : Type) (enc : TypeId × Value → H) (F : Stop.Interp) :
    ReturnsInHanded {} Tryz.checked os 4 .any ((Rows.OpenSpec.upto Rows.slabValuesSpec).pre6 enc Tryz.prog Tryz.f4 Rows.slabValuesUptoRow.domain false) (((Rows.OpenSpec.upto Rows.slabValuesSpec).at F).post enc Tryz.prog Tryz.f4 false true false false) := by
  refine returnsInHanded_of_cond (C := Tryz.checked) (s := Rows.OpenSpec.upto Rows.slabValuesSpec) (k := Rows.uptoSmall) rfl own started (by kernel_rfl) Tryz.func4
    (OpenSpec.witness (enc := enc) (C := Tryz.checked) (s := Rows.OpenSpec.upto Rows.slabValuesSpec) (k := Rows.uptoSmall) rfl false ⟨#[], #[.agg #[.int .i64 0, .string ⟨#[]⟩, .string ⟨#[]⟩, .slice none 0 0], .agg #[.int .i64 0, .int .u64 0, .slice none 0 0, .int .u64 0, .int .u64 0, .int .u64 0, .int .u64 0, .int .u64 0]], []⟩ 8 (by kernel_rfl) (by kernel_rfl) (by kernel_rfl)
      (x := ([.agg [.lit (.int .i64 0), .lit (.string []), .lit (.string []), .nil], .agg [.agg [.lit (.int .i64 0), .lit (.int .u64 0)], .nil, .lit (.int .u64 0), .lit (.int .u64 0), .lit (.int .u64 0), .lit (.int .u64 0), .lit (.int .u64 0)]], [], [])) (by kernel_rfl) rfl (by kernel_rfl)) ?_
  intro W base args ds gs before hval hW _ hk _
  exact slabValues_contract H enc W base args ds gs before hval hW hk
theorem slabValues_upto : Rows.SlabValuesUptoSaid :=
  OpenClaim.holds_of_cond 4 Tryz.f4 rfl rfl rfl rfl rfl rfl rfl ⟨rfl, rfl, rfl, rfl, rfl⟩ rfl rfl rfl rfl rfl (by kernel_rfl) Tryz.func4 (by kernel_rfl)
    (of_decide_eq_true (by kernel_rfl)) (by unfold Func.isWrapper; first | (rw [if_pos (by decide +kernel)]; kernel_rfl) | (rw [if_neg (by decide +kernel)]; exact ⟨rfl, rfl⟩))
    (fun os started H enc _ F => slabValues_lifted os started H enc F)
end Go.Proofs.YtbgdmlekhobjdaaGreat
