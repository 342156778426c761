/- PairDoes: THE WALK, its first half. Own work of the verifier. -/
import Derived.Test.YtdlaloakochfeaaQ7
namespace Go.Proofs.Ytdlaloakochfeaa
open Go.RowKit Soft

theorem below_drew (w : World) (n : Nat) : Below w.heap.size w (w.drewN n) := bdrew (Below.refl _ _) n

theorem GB.row {B : Nat} {W0 v : _} {L : List Nat} {w : World} (h : GB B 42 (.float .f64) W0 v L w) : ∃ g cap, v = .slice (some ⟨g, 0, none⟩) L.length cap ∧ B ≤ g ∧ RowF w g 0 L := by
  obtain ⟨g, cap, cur, rfl, hB, hcur, h1, h2, h3, h4⟩ := own_of h.own h.nz
  refine ⟨g, cap, rfl, hB, ?_⟩
  intro i hi
  have := h.own.cellAt i (by simpa using hi)
  rw [Nat.zero_add, this]
  simp [hi]
theorem RowF.below {w w1 : World} {b o : Nat} {L : List Nat} {B : Nat} (h : RowF w b o L) (hb : Below B w w1) (hB : L ≠ [] → b < B) : RowF w1 b o L := fun i hi => by
  rw [hb.cell (p := ⟨b, o + i, none⟩) (hB (by intro k; rw [k] at hi; simp at hi))]; exact h i hi
theorem RowF.lt {w : World} {b o : Nat} {L : List Nat} (h : RowF w b o L) (hL : L ≠ []) : b < w.heap.size := by
  cases L with
  | nil => exact absurd rfl hL
  | cons x l => exact lt_of_cell (h 0 (by simp))
theorem RowF.other {w : World} {b o : Nat} {L : List Nat} (h : RowF w b o L) {a : Addr} (ha : b ≠ a.block) (v : Value) : RowF (w.setCell a v) b o L := fun i hi => by
  rw [World.cell?_setCell_other w a ⟨b, o + i, none⟩ v (fun e => ha (by rw [e]))]; exact h i hi
end Go.Proofs.Ytdlaloakochfeaa
