/- THE DOCUMENT's LOSSES AND PAIRS: THE WALKS. Own work of the verifier. -/
import Derived.Test.YtdlaloakochfeaaQ3
import Derived.Test.YtdlaloakochfeaaSoftMath9
namespace Go.Proofs.Ytdlaloakochfeaa
open Go.RowKit Soft

theorem bel1 (w : World) (o1 : Obj) : Below w.heap.size w (w.alloc o1) := (Below.refl _ _).alloc (Nat.le_refl _) _
theorem bel2 (w : World) (o1 o2 : Obj) : Below w.heap.size w ((w.alloc o1).alloc o2) :=
  ((Below.refl _ _).alloc (Nat.le_refl _) _).alloc (by simp) _
theorem bel3 (w : World) (o1 o2 o3 : Obj) : Below w.heap.size w (((w.alloc o1).alloc o2).alloc o3) :=
  (((Below.refl _ _).alloc (Nat.le_refl _) _).alloc (by simp) _).alloc (by simp only [World.size_alloc]; omega) _
/-- Whole numbers of 64 bits, one behind the other. -/
def RowU (w : World) (b o : Nat) (L : List Nat) : Prop := ∀ i (h : i < L.length), w.cell? ⟨b, o + i, none⟩ = some (.int .u64 ((L[i] : Nat) : Int))
def Small (L : List Nat) : Prop := ∀ x ∈ L, x < 18446744073709551616
theorem ofW_snoc (L : List Nat) (x : Nat) : ofW (L ++ [x]) = putW (ofW L) x := by unfold ofW; rw [List.foldl_append]; rfl
theorem ofW_take (L : List Nat) (i : Nat) (h : i < L.length) : ofW (L.take (i + 1)) = putW (ofW (L.take i)) L[i] := by
  rw [List.take_succ_eq_append_getElem h, ofW_snoc]
theorem lt_of_cell {w : World} {b o : Nat} {v : Value} (h : w.cell? ⟨b, o, none⟩ = some v) : b < w.heap.size := by
  by_cases k : b < w.heap.size
  · exact k
  · exfalso
    have : w.heap[b]? = none := by simp; omega
    simp [World.cell?, this] at h
theorem RowU.below {w w1 : World} {b o : Nat} {L : List Nat} {B : Nat} (h : RowU w b o L) (hb : Below B w w1) (hB : L ≠ [] → b < B) : RowU w1 b o L := fun i hi => by
  rw [hb.cell (p := ⟨b, o + i, none⟩) (hB (by intro k; rw [k] at hi; simp at hi))]; exact h i hi
theorem new1 (w : World) (o1 o2 : Obj) : ((w.alloc o1).alloc o2).heap[w.heap.size]? = some o1 := by
  show ((w.heap.push o1).push o2)[w.heap.size]? = some o1
  simp [Array.getElem?_push]
theorem new2 (w : World) (o1 o2 : Obj) : ((w.alloc o1).alloc o2).heap[w.heap.size + 1]? = some o2 := by
  show ((w.heap.push o1).push o2)[w.heap.size + 1]? = some o2
  rw [show w.heap.size + 1 = (w.heap.push o1).size from by simp, Array.getElem?_push_size]
theorem RowU.lt {w : World} {b o : Nat} {L : List Nat} (h : RowU w b o L) (hL : L ≠ []) : b < w.heap.size := by
  cases L with
  | nil => exact absurd rfl hL
  | cons x l => exact lt_of_cell (h 0 (by simp))
theorem putW_lt (p : Nat × Nat) (x : Nat) : (putW p x).1 < 18446744073709551616 ∧ (putW p x).2 < 18446744073709551616 := ⟨fa_lt _ _, fa_lt _ _⟩
theorem ofW_lt (L : List Nat) (i : Nat) : (ofW (L.take i)).1 < 18446744073709551616 ∧ (ofW (L.take i)).2 < 18446744073709551616 := by
  rcases List.eq_nil_or_concat (L.take i) with h | ⟨l, x, h⟩
  · rw [h]; decide
  · rw [h, List.concat_eq_append, ofW_snoc]; exact putW_lt _ _
end Go.Proofs.Ytdlaloakochfeaa
