/- Unhelp, the document's. Own work of the verifier. -/
import Derived.Test.YthgfeghgcickhaaGreatDoorYAE
namespace Go.Proofs.YthgfeghgcickhaaGreatDoor.La
open Go.RowKit

/-- How far the loop has come. -/
def UnI (l : List UInt8) (i : Nat) (xs : List Nat) : Prop := unL l = (unL (l.drop i)).map (txs xs ++ ·) ∧ (∀ x ∈ xs, x < 256)
theorem UnI.step {l : List UInt8} {i j : Nat} {xs : List Nat} {x : Nat} {b : UInt8} (h : UnI l i xs) (hx : x < 256) (hb : UInt8.ofNat x = b) (hd : unL (l.drop i) = (unL (l.drop j)).map (b :: ·)) : UnI l j (xs ++ [x]) := by
  obtain ⟨h1, h2⟩ := h
  refine ⟨?_, fun y hy => ?_⟩
  · rw [h1, hd, Option.map_map]
    congr 1
    funext z
    show txs xs ++ b :: z = txs (xs ++ [x]) ++ z
    rw [txs_app, ← hb, List.append_assoc]
    rfl
  · rcases List.mem_append.1 hy with g | g
    · exact h2 y g
    · rw [List.mem_singleton.1 g]; exact hx
theorem UnI.none {l : List UInt8} {i : Nat} {xs : List Nat} (h : UnI l i xs) (hd : unL (l.drop i) = none) : unL l = none := by
  rw [h.1, hd]; rfl
end Go.Proofs.YthgfeghgcickhaaGreatDoor.La
/- LISTS OF LABELS in memory; SameLabels, the document's. Own work of the verifier. -/
namespace Go.Proofs.YthgfeghgcickhaaGreatDoor.La
open Go.RowKit

abbrev Lb : Type := List UInt8 × List UInt8
theorem lt_of_cell {w : World} {a : Addr} {v : Value} (h : w.cell? a = some v) : a.block < w.heap.size := by
  unfold World.cell? at h
  split at h
  · rename_i h1
    rcases Nat.lt_or_ge a.block w.heap.size with k | k
    · exact k
    · rw [Array.getElem?_eq_none k] at h1; cases h1
  · cases h
/-- Labels, one behind the other. -/
def RowL (W : World) (b o : Nat) (L : List Lb) : Prop := ∀ i (h : i < L.length), W.cell? ⟨b, o + i * 2, none⟩ = some (.string ⟨L[i].1.toArray⟩) ∧ W.cell? ⟨b, o + i * 2 + 1, none⟩ = some (.string ⟨L[i].2.toArray⟩)
theorem RowL.below {W W1 : World} {b o : Nat} {L : List Lb} (h : RowL W b o L) (hb : Below W.heap.size W W1) : RowL W1 b o L := fun i hi => by
  obtain ⟨h1, h2⟩ := h i hi
  rw [hb.cell (p := ⟨b, o + i * 2, none⟩) (lt_of_cell h1), hb.cell (p := ⟨b, o + i * 2 + 1, none⟩) (lt_of_cell h2)]
  exact ⟨h1, h2⟩
theorem below_drewN (w : World) (n : Nat) : Below w.heap.size w (w.drewN n) := by
  induction n with
  | zero => exact Below.refl _ _
  | succ n ih => exact ⟨ih.os, ih.tape, ih.output, ih.size, ih.block⟩
theorem RowL.drew {W : World} {b o : Nat} {L : List Lb} (h : RowL W b o L) (n : Nat) : RowL (W.drewN n) b o L := h.below (below_drewN W n)
theorem retB {A B : Bool} (h : A = B) : Ending.returned (Value.bool A) = .returned (.bool B) := by rw [h]
theorem retI {k : IntKind} {A B : Int} (h : A = B) : Ending.returned (Value.int k A) = .returned (.int k B) := by rw [h]
end Go.Proofs.YthgfeghgcickhaaGreatDoor.La
/- Same, Compare, the document's. Own work of the verifier. -/
namespace Go.Proofs.YthgfeghgcickhaaGreatDoor.La
open Go.RowKit

/-- A description. -/
structure Ds where
  kind : Int
  name : List UInt8
  help : List UInt8
  labels : List Lb
  deriving DecidableEq
/-- A description as it is handed in. -/
structure DsAt (W : World) (d : Ds) (v : Value) : Prop where
  ex : ∃ (ao : Option Addr) (b o cap : Nat), v = .agg #[.int .i64 d.kind, .string ⟨d.name.toArray⟩, .string ⟨d.help.toArray⟩, .slice ao d.labels.length cap] ∧ (d.labels ≠ [] → ao = some ⟨b, o, none⟩) ∧ d.labels.length ≤ 9223372036854775807 ∧ RowL W b o d.labels
theorem DsAt.below {W W1 : World} {d : Ds} {v : Value} (h : DsAt W d v) (hb : Below W.heap.size W W1) : DsAt W1 d v := by
  obtain ⟨ao, b, o, cap, e, h1, h2, h3⟩ := h.ex
  exact ⟨ao, b, o, cap, e, h1, h2, h3.below hb⟩
theorem bel2 (w : World) (o1 o2 : Obj) : Below w.heap.size w ((w.alloc o1).alloc o2) :=
  ((Below.refl _ _).alloc (Nat.le_refl _) _).alloc (by simp) _
/-- How two lists of labels stand. -/
def ordL : List Lb → List Lb → Int
  | [], [] => 0
  | [], _ :: _ => -1
  | _ :: _, [] => 1
  | a :: A, b :: B => if ordE a.1 b.1 ≠ 0 then ordE a.1 b.1 else if ordE a.2 b.2 ≠ 0 then ordE a.2 b.2 else ordL A B
/-- How two series stand. -/
def ordD (d e : Ds) : Int := if ordE d.name e.name ≠ 0 then ordE d.name e.name else ordL d.labels e.labels
end Go.Proofs.YthgfeghgcickhaaGreatDoor.La
/- Compare, the document's: THE WALK. Own work of the verifier. -/
namespace Go.Proofs.YthgfeghgcickhaaGreatDoor.La
open Go.RowKit

/-- What the loop finds in memory. -/
structure KC (w : World) (ao ao' : Option Addr) (b o cap b' o' cap' : Nat) (A B : List Lb) (W : World) : Prop where
  f1 : W.cell? ⟨w.heap.size, 3, none⟩ = some (.slice ao A.length cap)
  f2 : W.cell? ⟨w.heap.size + 1, 3, none⟩ = some (.slice ao' B.length cap')
  r1 : RowL W b o A
  r2 : RowL W b' o' B
  bl : Below w.heap.size w W
theorem KC.drew {w W : World} {ao ao' : Option Addr} {b o cap b' o' cap' : Nat} {A B : List Lb} (h : KC w ao ao' b o cap b' o' cap' A B W) (n : Nat) : KC w ao ao' b o cap b' o' cap' A B (W.drewN n) := by
  have hb := below_drewN W n
  exact ⟨by rw [hb.cell (p := ⟨w.heap.size, 3, none⟩) (lt_of_cell h.f1)]; exact h.f1, by rw [hb.cell (p := ⟨w.heap.size + 1, 3, none⟩) (lt_of_cell h.f2)]; exact h.f2, h.r1.below hb, h.r2.below hb, h.bl.trans (hb.mono h.bl.size)⟩
end Go.Proofs.YthgfeghgcickhaaGreatDoor.La
