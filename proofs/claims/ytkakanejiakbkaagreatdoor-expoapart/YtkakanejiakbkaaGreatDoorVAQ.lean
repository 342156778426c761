/- Merge, the document's. Own work of the verifier. -/
import Derived.Test.YtkakanejiakbkaaGreatDoorVAO
namespace Go.Proofs.YtkakanejiakbkaaGreatDoor
open Go.RowKit

/-- What lies in memory while a group is summed. -/
structure MC (w3 : World) (gc : Nat) (O : List Cn) (b3 o3 : Nat) (S : List Cn) (x : Int) (N : Nat) (vO : Value) (W : World) : Prop where
  c0 : W.cell? ⟨gc, 0, none⟩ = some (.int .i64 x)
  c1 : W.cell? ⟨gc, 1, none⟩ = some (.int .u64 (N : Int))
  fr : ∀ o, W.frozen? ⟨gc, o, none⟩ = false
  g : GC w3.heap.size w3 vO O W
  r : RowC W b3 o3 S
  ne : ∀ g cap n, vO = .slice (some ⟨g, 0, none⟩) n cap → g ≠ gc
  nb : S ≠ [] → b3 ≠ gc
  le : w3.heap.size ≤ gc
theorem GC.lt {B : Nat} {W0 w : World} {vO : Value} {O : List Cn} (h : GC B W0 vO O w) {g n cap : Nat} (hv : vO = .slice (some ⟨g, 0, none⟩) n cap) : g < w.heap.size := by
  rcases h.own.2 with ⟨k, _⟩ | ⟨g', cap', cur, hv', _, hh, _⟩
  · rw [k] at hv; cases hv
  · rw [hv'] at hv
    cases hv
    rcases Nat.lt_or_ge g w.heap.size with c | c
    · exact c
    · rw [Array.getElem?_eq_none c] at hh; cases hh
theorem GC.alloc {B : Nat} {W0 w : World} {vO : Value} {O : List Cn} (h : GC B W0 vO O w) (ob : Obj) : GC B W0 vO O (w.alloc ob) := ⟨h.own.alloc _, h.below.alloc h.size _, by have := h.size; simp; omega⟩
theorem MC.drew {w3 : World} {gc : Nat} {O : List Cn} {b3 o3 : Nat} {S : List Cn} {x : Int} {N : Nat} {vO : Value} {W : World} (h : MC w3 gc O b3 o3 S x N vO W) : MC w3 gc O b3 o3 S x N vO W.drew := ⟨h.c0, h.c1, h.fr, h.g.drew, h.r, h.ne, h.nb, h.le⟩
theorem MC.store {w3 : World} {gc : Nat} {O : List Cn} {b3 o3 : Nat} {S : List Cn} {x : Int} {N : Nat} {vO : Value} {W : World} (h : MC w3 gc O b3 o3 S x N vO W) (M : Nat) : MC w3 gc O b3 o3 S x M vO (W.setCell ⟨gc, 1, none⟩ (.int .u64 (M : Int))) := by
  refine ⟨?_, World.cell?_setCell_same _ _ _ h.c1, fun o => ?_, ⟨⟨h.g.own.1, ?_⟩, h.g.below.setCell h.le _, by rw [World.size_setCell]; exact h.g.size⟩, fun i hi => ?_, h.ne, h.nb, h.le⟩
  · rw [World.cell?_setCell_other _ _ _ _ (by intro e; cases e)]; exact h.c0
  · rw [World.frozen?_setCell]; exact h.fr o
  · rcases h.g.own.2 with k | ⟨g, cap, cur, hv, hB, hh, hrest⟩
    · exact Or.inl k
    · refine Or.inr ⟨g, cap, cur, hv, hB, ?_, hrest⟩
      rw [Below.heap_setCell _ _ _ _ (h.ne g cap _ hv)]
      exact hh
  · have hne : b3 ≠ gc := h.nb (fun e => by rw [e] at hi; simp at hi)
    rw [World.cell?_setCell_other _ _ _ _ (fun e => hne (congrArg Addr.block e).symm), World.cell?_setCell_other _ _ _ _ (fun e => hne (congrArg Addr.block e).symm)]
    exact h.r i hi
end Go.Proofs.YtkakanejiakbkaaGreatDoor
