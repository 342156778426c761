/- THE DOOR of layer 12. Own work of the verifier. -/
import Derived.Test.YthghillefmppjaaP6
import Derived.Lib.SmallJoins
import Derived.Carry
import Derived.SizedLaws
import Derived.ProofKit
import Derived.OpenShut
import Derived.ChangeSlices
import Derived.Deep.Slices
import Derived.JoinedCond
namespace Go.Proofs.Ythghillefmppjaa
open Go.ChangeShapes Go.WideShapes Go.ChangeAt Go.RowKit Go.Joins

/-- One of the law's steps. -/
abbrev Sp := Int × Int × Bool
/-- A list of steps as it is handed in. -/
def SS (W : World) (b o : Nat) (L : List Sp) : Prop := ∀ i (h : i < L.length), W.cell? ⟨b, o + i * 3, none⟩ = some (.int .i64 L[i].1) ∧ W.cell? ⟨b, o + i * 3 + 1, none⟩ = some (.int .i64 L[i].2.1) ∧ W.cell? ⟨b, o + i * 3 + 2, none⟩ = some (.bool L[i].2.2)
theorem SS.bel {w W : World} {b o : Nat} {L : List Sp} (h : SS w b o L) (hb : Below w.heap.size w W) : SS W b o L := fun i hi => by
  obtain ⟨h0, h1, h2⟩ := h i hi
  have hl := World.block_lt_of_cell? w _ h0
  exact ⟨(hb.cell (p := ⟨b, o + i * 3, none⟩) hl).trans h0, (hb.cell (p := ⟨b, o + i * 3 + 1, none⟩) hl).trans h1, (hb.cell (p := ⟨b, o + i * 3 + 2, none⟩) hl).trans h2⟩
/-- Whole numbers, one behind the other. -/
def NR (W : World) (b o : Nat) (L : List Int) : Prop := ∀ i (h : i < L.length), W.cell? ⟨b, o + i, none⟩ = some (.int .i64 L[i])
theorem NR.bel {w W : World} {b o : Nat} {L : List Int} (h : NR w b o L) (hb : Below w.heap.size w W) : NR W b o L := fun i hi => by
  have h0 := h i hi
  exact (hb.cell (p := ⟨b, o + i, none⟩) (World.block_lt_of_cell? w _ h0)).trans h0
theorem own : ownKnob Try.prog.godebug = none := by kernel_rfl
theorem laidOut : laidOutB Try.prog = true := by kernel_rfl
theorem cellsStep : Try.prog.cellsOf 32 = 3 := by kernel_rfl
theorem cellsInt : Try.prog.cellsOf 3 = 1 := by kernel_rfl
theorem cellsBool : Try.prog.cellsOf 4 = 1 := by kernel_rfl
theorem range_i64 {n : Int} (h : (Lit.int .i64 n).wf = true) : -9223372036854775808 ≤ n ∧ n < 9223372036854775808 := by
  have hx : -9223372036854775808 ≤ n ∧ n ≤ 9223372036854775807 := by simpa [Lit.wf, IntKind.min, IntKind.max, IntKind.signed, IntKind.bits] using h
  omega
section
variable {H : Type} {enc : TypeId × Value → H}
set_option maxRecDepth 100000 in
/-- A script, opened. -/
theorem open_script {W : World} {base : Nat} {v : Value} {d : DataW H} {pl : List MemPlace} (hv : Value.okWide Try.prog W .any base 22 v) (h : DataW.Trod enc Try.prog W 0 (fun _ => true) true 22 v d pl) :
    ∃ (ao : Option Addr) (b off cap : Nat) (L : List Sp), v = .slice ao L.length cap ∧ SS W b off L ∧ (0 < L.length → ao = some ⟨b, off, none⟩) ∧ L.length ≤ 9223372036854775807 := by
  have hM : maxLen = 9223372036854775807 := by unfold maxLen; decide
  obtain ⟨a0, len, cap, rfl⟩ := okWide_slice Try.underlying22 hv
  obtain ⟨fuel, hf⟩ := h
  rcases Deep.open_slice Try.underlying22 hf with ⟨hcs, _⟩ | ⟨a, len', cap', m, n, D, Pl, hcs, _, hl, hm, hmm, _, hx⟩
  · simp [Value.cells] at hcs
    obtain ⟨rfl, rfl, rfl⟩ := hcs
    exact ⟨none, 0, 0, 0, [], rfl, (fun i hi => by simp at hi), (fun k => by simp at k), by decide⟩
  · simp [Value.cells] at hcs
    obtain ⟨rfl, rfl, rfl⟩ := hcs
    simp only [if_true] at hmm
    subst hmm
    have each : ∀ i, i < m → ∃ s : Sp, W.cell? (a.add (i * 3)) = some (.int .i64 s.1) ∧ W.cell? (a.add (i * 3 + 1)) = some (.int .i64 s.2.1) ∧ W.cell? (a.add (i * 3 + 2)) = some (.bool s.2.2) := by
      intro i hi
      obtain ⟨cs', h1, h2⟩ := hx i hi
      rw [cellsStep] at h1
      obtain ⟨_, hlen, hcell⟩ := World.cells?_some h1
      obtain ⟨xs, k, hk, hxy, _, hxl, hfs⟩ := DataW.trod_struct Try.underlying32 h2
      match xs, hxl, cs', hlen with
      | [y0, y1, y2], _, [v0, v1, v2], _ =>
        have g0 := hfs 0 _ rfl
        have g1 := hfs 1 _ rfl
        have g2 := hfs 2 _ rfl
        simp [cellsInt, cellsBool] at g0 g1 g2
        obtain ⟨z0, e0, _, _⟩ := DataW.trod_int Try.underlying3 g0
        obtain ⟨z1, e1, _, _⟩ := DataW.trod_int Try.underlying3 g1
        obtain ⟨z2, e2, _⟩ := DataW.trod_bool Try.underlying4 g2
        simp at e0 e1 e2
        subst e0 e1 e2
        have c0 := hcell 0 (by omega)
        have c1 := hcell 1 (by omega)
        have c2 := hcell 2 (by omega)
        rw [Deep.add_add] at c0 c1 c2
        exact ⟨(z0, z1, z2), by simpa using c0, by simpa using c1, by simpa using c2⟩
    obtain ⟨f, hf'⟩ := Deep.choose_lt each
    have hlen : ((List.range len).map f).length = len := by simp
    obtain ⟨b, off, spot⟩ := a
    have hs : 0 < len → spot = none := fun k => by simpa [Addr.add] using World.cell?_spot (hf' 0 (by omega)).1
    refine ⟨some ⟨b, off, spot⟩, b, off, m, (List.range len).map f, by rw [hlen], fun i hi => ?_, fun k => ?_, by rw [hlen]; omega⟩
    · rw [hlen] at hi
      obtain ⟨c0, c1, c2⟩ := hf' i (by omega)
      have e := hs (by omega)
      subst e
      rw [Addr.add_lit] at c0 c1 c2
      simp only [List.getElem_map, List.getElem_range]
      exact ⟨c0, by rw [← Nat.add_assoc] at c1; exact c1, by rw [← Nat.add_assoc] at c2; exact c2⟩
    · rw [hlen] at k
      rw [hs k]
/-- Whole numbers, as they are handed in. -/
theorem open_numbers {W : World} {base : Nat} {v : Value} {d : DataW H} {p : List MemPlace} (hv : Value.okWide Try.prog W .any base 35 v) (h : DataW.Trod enc Try.prog W 0 (fun _ => true) true 35 v d p) :
    ∃ (ao : Option Addr) (b off cap : Nat) (L : List Int), v = .slice ao L.length cap ∧ NR W b off L ∧ (0 < L.length → ao = some ⟨b, off, none⟩) ∧ L.length ≤ 9223372036854775807 ∧ ∀ z ∈ L, -9223372036854775808 ≤ z ∧ z < 9223372036854775808 := by
  have hM : maxLen = 9223372036854775807 := by unfold maxLen; decide
  obtain ⟨a0, len, cap, rfl⟩ := okWide_slice Try.underlying35 hv
  obtain ⟨fuel, hf⟩ := h
  rcases open_ints Try.underlying35 Try.underlying3 cellsInt hf with ⟨hcs, hx⟩ | ⟨a, len', cap', zs, hcs, _, hl, hm, hz, hx, hcell, hwz⟩
  · simp [Value.cells] at hcs
    obtain ⟨rfl, rfl, rfl⟩ := hcs
    exact ⟨none, 0, 0, 0, [], rfl, (fun i hi => by simp at hi), (fun k => by simp at k), by decide, fun z hz => by cases hz⟩
  · simp [Value.cells] at hcs
    obtain ⟨rfl, rfl, rfl⟩ := hcs
    simp only [if_true] at hz
    have hlen : (zs.take len).length = len := by simp; omega
    obtain ⟨b, off, spot⟩ := a
    have hs : 0 < len → spot = none := fun k => by simpa [Addr.add] using World.cell?_spot (hcell 0 (by omega))
    refine ⟨some ⟨b, off, spot⟩, b, off, cap, zs.take len, by rw [hlen], fun i hi => ?_, fun k => ?_, by rw [hlen]; omega, fun z hzm => range_i64 (hwz z (List.mem_of_mem_take hzm))⟩
    · rw [hlen] at hi
      have hc := hcell i (by omega)
      have e := hs (by omega)
      subst e
      rw [Addr.add_lit] at hc
      rw [hc]
      have hi' : i < zs.length := by omega
      simp [List.getD, hi']
    · rw [hlen] at k
      rw [hs k]
end
end Go.Proofs.Ythghillefmppjaa
