/- THE DOOR of layer 10: texts, labels, descriptions, opened. Own work of the verifier. -/
import Derived.Test.YtmphajfhilpgeabCB8
import Derived.SliceStrings
import Derived.Deep.SlicePairs
import Derived.SizedLaws
import Derived.JoinedCond
import Derived.ChangeArms
import Derived.ProofKit
import Derived.OpenShut
import Derived.Carry
import Derived.ChangeSlices
import Derived.Lib.SmallJoins
namespace Go.Proofs.Ytmphajfhilpgeab
open Go.ChangeShapes Go.WideShapes Go.ChangeAt Go.RowKit Go.Joins

theorem own : ownKnob Try.prog.godebug = none := by kernel_rfl
theorem laidOut : laidOutB Try.prog = true := by kernel_rfl
theorem cellsS : Try.prog.cellsOf 9 = 1 := by kernel_rfl
theorem cellsLb : Try.prog.cellsOf 41 = 2 := by kernel_rfl
theorem cellsInt : Try.prog.cellsOf 3 = 1 := by kernel_rfl
theorem cellsSL : Try.prog.cellsOf 22 = 1 := by kernel_rfl
theorem cellsD : Try.prog.cellsOf 24 = 4 := by kernel_rfl
theorem typesD : Try.prog.cellTypes Try.prog.depth 24 = some [3, 9, 9, 22] := by kernel_rfl
/-- Texts, one behind the other. -/
def RowS (W : World) (b o : Nat) (L : List (List UInt8)) : Prop := ∀ i (h : i < L.length), W.cell? ⟨b, o + i, none⟩ = some (.string ⟨L[i].toArray⟩)
theorem RowS.below {W W1 : World} {b o : Nat} {L : List (List UInt8)} (h : RowS W b o L) (hb : Below W.heap.size W W1) : RowS W1 b o L := fun i hi => (hb.cell (lt_of_cell (h i hi))).trans (h i hi)
section
variable {H : Type} {enc : TypeId × Value → H}
theorem w_strs (P : Program) (e : TypeId) (l : List ByteArray) (s : ByteArray) (hs : s ∈ l) : s.size ∈ DataW.weightsAll (H := H) P e (strs l) := by
  induction l with
  | nil => cases hs
  | cons x r ih =>
    unfold strs
    rw [List.map_cons, DataW.weightsAll, List.mem_append]
    rcases List.mem_cons.1 hs with rfl | h
    · left
      simp [DataW.weights]
    · exact Or.inr (ih h)
theorem all_mem {l : List Nat} {B n : Nat} (h : l.all (· ≤ B) = true) (hn : n ∈ l) : n ≤ B := by
  have := List.all_eq_true.1 h n hn
  simpa using this
set_option maxRecDepth 100000 in
/-- A slice within a struct: its address is a plain one. -/
theorem spot_field {W : World} {base : Nat} {t : TypeId} {fs : Array Field} {cs : Array Value} {ts : List TypeId} (hs : Try.prog.underlying t = some (.struct fs)) (hv : Value.okWide Try.prog W .any base t (.agg cs)) (hts : Try.prog.cellTypes Try.prog.depth t = some ts)
    {i : Nat} {u e : TypeId} (hu : ts[i % ts.length]? = some u) (hue : Try.prog.underlying u = some (.slice e)) {a : Addr} {len cap : Nat} (hc : cs[i]? = some (.slice (some a) len cap)) : a.spot = none := by
  simp only [Value.okWide, hs] at hv
  obtain ⟨cs', h1, h2, ts', h3, h4, h5⟩ := hv
  cases h1
  rw [hts] at h3
  cases h3
  obtain ⟨u', h6, h7⟩ := h5 i _ hc
  rw [hu] at h6
  cases h6
  simp only [Cell.okWide, hue, Cell.ok] at h7
  exact h7.2.2.2.1
set_option maxRecDepth 100000 in
theorem spot_arg {W : World} {base : Nat} {t e : TypeId} (ht : Try.prog.underlying t = some (.slice e)) {a : Addr} {len cap : Nat} (hv : Value.okWide Try.prog W .any base t (.slice (some a) len cap)) : a.spot = none := by
  simp only [Value.okWide, ht, Cell.okWide, Cell.ok] at hv
  exact hv.2.2.2.1
theorem w_aggs (P : Program) (e : TypeId) (D : Nat → DataW H) (n i : Nat) (hi : i < n) (k : Nat) (hk : k ∈ (D i).weights P e) : k ∈ DataW.weightsAll P e ((List.range n).map D) := by
  have key : ∀ l : List Nat, i ∈ l → k ∈ DataW.weightsAll P e (l.map D) := fun l hl => by
    induction l with
    | nil => cases hl
    | cons x r ih =>
      rw [List.map_cons, DataW.weightsAll, List.mem_append]
      rcases List.mem_cons.1 hl with rfl | h
      · exact Or.inl hk
      · exact Or.inr (ih h)
  exact key _ (List.mem_range.2 hi)
/-- A list of labels as it is handed in. -/
def SLb (W : World) (v : Value) (L : List Lb) : Prop := ∃ (ao : Option Addr) (b o cap : Nat), v = .slice ao L.length cap ∧ (L ≠ [] → ao = some ⟨b, o, none⟩) ∧ L.length ≤ cap ∧ cap ≤ 9223372036854775807 ∧ RowL W b o L
set_option maxRecDepth 100000 in
/-- Labels, opened. -/
theorem open_labels {W : World} {fuel : Nat} {v : Value} {x : DataW H × List MemPlace} (hsp : ∀ a len cap, v = .slice (some a) len cap → a.spot = none) (h : DataW.trod enc Try.prog W 0 (fun _ => true) true fuel 22 [v] = some x) (hw : (x.1.weights Try.prog 22).all (· ≤ reachBytes) = true) :
    ∃ L, SLb W v L ∧ (∀ a ∈ L, a.1.length ≤ 140737488351232 ∧ a.2.length ≤ 140737488351232) := by
  rcases Deep.open_slice_pairs Try.underlying22 Try.underlying41 cellsLb rfl rfl cellsS cellsS h with ⟨hcs, _⟩ | ⟨a, len, cap, m, n, V0, V1, D0, D1, P0, P1, hcs, _, hl, hm, hmm, rfl, hx⟩
  · simp at hcs
    subst hcs
    exact ⟨[], ⟨none, 0, 0, 0, rfl, fun k => absurd rfl k, Nat.le_refl _, by decide, fun i hi => by simp at hi⟩, fun a ha => by cases ha⟩
  · simp at hcs
    subst hcs
    simp only [if_true] at hmm
    subst hmm
    have hspot := hsp _ _ _ rfl
    obtain ⟨b, off, spot⟩ := a
    simp at hspot
    subst hspot
    have key : ∀ i, i < m → ∃ (s t : List UInt8), V0 i = .string ⟨s.toArray⟩ ∧ V1 i = .string ⟨t.toArray⟩ ∧ D0 i = .lit (.string s) ∧ D1 i = .lit (.string t) := fun i hi => by
      obtain ⟨_, _, h0, h1⟩ := hx i hi
      obtain ⟨s, e0, f0, _⟩ := DataW.trod_string Try.underlying9 h0
      obtain ⟨t, e1, f1, _⟩ := DataW.trod_string Try.underlying9 h1
      simp at e0 e1
      exact ⟨s.data.toList, t.data.toList, e0, e1, (Prod.mk.inj f0).1, (Prod.mk.inj f1).1⟩
    let strV : Value → List UInt8 := fun v => match v with | .string s => s.data.toList | _ => []
    have hLlen : ((List.range len).map fun i => ((strV (V0 i), strV (V1 i)) : Lb)).length = len := by simp
    refine ⟨(List.range len).map fun i => (strV (V0 i), strV (V1 i)), ⟨some ⟨b, off, none⟩, b, off, m, by rw [hLlen], fun _ => rfl, by rw [hLlen]; exact hl, by unfold maxLen at hm; omega, fun i hi => ?_⟩, fun c hc => ?_⟩
    · rw [hLlen] at hi
      obtain ⟨c0, c1, _, _⟩ := hx i (by omega)
      obtain ⟨s, t, e0, e1, _⟩ := key i (by omega)
      rw [Addr.add_lit] at c0 c1
      simp only [List.getElem_map, List.getElem_range]
      rw [e0] at c0 ⊢
      rw [e1] at c1 ⊢
      exact ⟨c0, by rw [← Nat.add_assoc] at c1; exact c1⟩
    · obtain ⟨i, hi, rfl⟩ := List.mem_map.1 hc
      have hi' := List.mem_range.1 hi
      obtain ⟨s, t, e0, e1, e2, e3⟩ := key i (by omega)
      simp only [DataW.weights, Try.underlying22] at hw
      have hin : ∀ k, k ∈ (DataW.agg [D0 i, D1 i] : DataW H).weights Try.prog 41 → k ≤ reachBytes := fun k hk => all_mem hw (List.mem_cons_of_mem _ (List.mem_append_left _ (w_aggs Try.prog 41 (fun i => DataW.agg [D0 i, D1 i]) len i hi' k hk)))
      rw [e2, e3] at hin
      simp only [DataW.weights, Try.underlying41, DataW.weightsEach, List.map_cons, List.map_nil] at hin
      unfold reachBytes at hin
      simp only [e0, e1]
      have es : s.length ≤ 140737488351232 := hin s.length (by simp)
      have et : t.length ≤ 140737488351232 := hin t.length (by simp)
      exact ⟨es, et⟩
set_option maxRecDepth 100000 in
/-- A description, opened. -/
theorem open_desc {W : World} {base : Nat} {v : Value} {d : DataW H} {pl : List MemPlace} (hv : Value.okWide Try.prog W .any base 24 v) (h : DataW.Trod enc Try.prog W 0 (fun _ => true) true 24 v d pl) (hw : (d.weights Try.prog 24).all (· ≤ reachBytes) = true) :
    ∃ D : Ds, DsC W D v ∧ D.name.length ≤ 140737488351232 ∧ D.help.length ≤ 140737488351232 ∧ ∀ a ∈ D.labels, a.1.length ≤ 140737488351232 ∧ a.2.length ≤ 140737488351232 := by
  obtain ⟨cs, rfl, hsz⟩ := okWide_struct Try.underlying24 hv
  obtain ⟨fuel, hf⟩ := h
  obtain ⟨xs, n, _, hx, _, hlen, hfs⟩ := DataW.trod_struct Try.underlying24 hf
  rw [cellsD] at hsz
  obtain ⟨l⟩ := cs
  match l, hsz, xs, hlen with
  | [c0, c1, c2, c3], _, [y0, y1, y2, y3], _ =>
    have g0 := hfs 0 _ rfl
    have g1 := hfs 1 _ rfl
    have g2 := hfs 2 _ rfl
    have g3 := hfs 3 _ rfl
    simp [Value.cells, cellsInt, cellsS, cellsSL] at g0 g1 g2 g3
    obtain ⟨kd, e0, f0, w0⟩ := DataW.trod_int Try.underlying3 g0
    obtain ⟨s1, e1, f1, w1⟩ := DataW.trod_string Try.underlying9 g1
    obtain ⟨s2, e2, f2, w2⟩ := DataW.trod_string Try.underlying9 g2
    simp only [Prod.mk.injEq] at hx
    rw [hx.1] at hw
    simp only [List.map_cons, List.map_nil, DataW.weights, Try.underlying24, DataW.weightsEach, List.all_append, Bool.and_eq_true] at hw
    obtain ⟨k0, k1, k2, k3, _⟩ := hw
    obtain ⟨L, sL, bL⟩ := open_labels (fun a len cap e => spot_field Try.underlying24 hv typesD (i := 3) rfl Try.underlying22 (by rw [e]; rfl)) g3 k3
    obtain ⟨ao, b, o, cap, rfl, h1, h2, h3, h4⟩ := sL
    simp at e0 e1 e2
    subst e0 e1 e2
    rw [f1] at k1
    rw [f2] at k2
    unfold reachBytes at k1 k2
    simp [DataW.weights] at k1 k2
    exact ⟨⟨kd, s1.data.toList, s2.data.toList, L⟩, ⟨ao, b, o, cap, rfl, h1, h2, h3, h4⟩, k1, k2, bL⟩
end
end Go.Proofs.Ytmphajfhilpgeab
