/- Compare, the document's: THE WALK. Own work of the verifier. -/
import Derived.Test.YtmphajfhilpgeabLA10
namespace Go.Proofs.Ytmphajfhilpgeab
open Go.RowKit

theorem ordE_cases (a b : List UInt8) : ordE a b = -1 ∨ ordE a b = 0 ∨ ordE a b = 1 := by
  unfold ordE
  split
  · exact Or.inl rfl
  · split
    · exact Or.inr (Or.inr rfl)
    · exact Or.inr (Or.inl rfl)
/-- What the loop finds in memory. -/
structure KC (w : World) (ao ao' : Option Addr) (b o cap b' o' cap' : Nat) (A B : List Lb) (W : World) : Prop where
  f1 : W.cell? ⟨w.heap.size, 3, none⟩ = some (.slice ao A.length cap)
  f2 : W.cell? ⟨w.heap.size + 1, 3, none⟩ = some (.slice ao' B.length cap')
  r1 : RowL W b o A
  r2 : RowL W b' o' B
  bl : Below w.heap.size w W
theorem KC.drew {w W : World} {ao ao' : Option Addr} {b o cap b' o' cap' : Nat} {A B : List Lb} (h : KC w ao ao' b o cap b' o' cap' A B W) (n : Nat) : KC w ao ao' b o cap b' o' cap' A B (W.drewN n) := by
  have hb := below_drewN W n
  exact ⟨by rw [hb.cell (p := ⟨w.heap.size, 3, none⟩) (lt_of_cell h.f1)]; exact h.f1, by rw [hb.cell (p := ⟨w.heap.size + 1, 3, none⟩) (lt_of_cell h.f2)]; exact h.f2, h.r1.below hb, h.r2.below hb, h.bl.trans (hb.mono h.bl.size)⟩
theorem box_cells (w : World) (t t' : TypeId) (x0 x1 x2 x3 y0 y1 y2 y3 : Value) :
    ((w.alloc (.cells #[x0, x1, x2, x3] t)).alloc (.cells #[y0, y1, y2, y3] t')).cell? ⟨w.heap.size, 3, none⟩ = some x3 ∧ ((w.alloc (.cells #[x0, x1, x2, x3] t)).alloc (.cells #[y0, y1, y2, y3] t')).cell? ⟨w.heap.size + 1, 3, none⟩ = some y3 := by
  constructor <;> simp [go_sem]
end Go.Proofs.Ytmphajfhilpgeab
