/- TEXTS THAT GROW; Help and Unhelp, the document's. Own work of the verifier. -/
import Derived.Test.YtmphajfhilpgeabLA5
import Derived.Maps.AppendAt
import Derived.Deep.AppendLies
import Derived.Laws.IdiomStrings
namespace Go.Proofs.Ytmphajfhilpgeab
open Go.RowKit

theorem bel1 (w : World) (o1 : Obj) : Below w.heap.size w (w.alloc o1) := (Below.refl _ _).alloc (Nat.le_refl _) _
/-- A row of the call's own (at B or behind it) that grows. -/
structure GB (B : Nat) (e : TypeId) (f : Nat → Value) (W0 : World) (v : Value) (xs : List Nat) (w : World) : Prop where
  own : w.ownsRow B e 1 v xs.length (xs.map f)
  nz : v ≠ .slice none 0 0
  below : Below B W0 w
  size : B ≤ w.heap.size
theorem own_ofG {w : World} {B : Nat} {e : TypeId} {v : Value} {n : Nat} {xs : List Value} (h : w.ownsRow B e 1 v n xs) (hn : v ≠ .slice none 0 0) : ∃ g cap cur, v = .slice (some ⟨g, 0, none⟩) n cap ∧ B ≤ g ∧ w.heap[g]? = some (.cells cur e) ∧ n ≤ cap ∧ cap ≤ maxLen ∧ cur.size = cap ∧ cur.toList.take n = xs := by
  rcases h.2 with h2 | ⟨g, cap, cur, hv, hg, hh, h3, h4, h5, h6⟩
  · exact absurd h2.1 hn
  · exact ⟨g, cap, cur, hv, hg, hh, h3, h4, by simpa using h5, by simpa using h6⟩
theorem GB.push {B : Nat} {e : TypeId} {f : Nat → Value} {W0 w w' : World} {v v' : Value} {xs : List Nat} {x : Nat} {y : Value} (h : GB B e f W0 v xs w) (ob : Obj) (hy : y = f x)
    (hown : w'.ownsRow B e 1 v' (xs.length + 1) (xs.map f ++ [y])) (hg : (w.alloc ob).grownBy w' v.ownBlock) (hnil : v' = .slice none 0 0 ↔ v = .slice none 0 0 ∧ 1 = 0) : GB B e f W0 v' (xs ++ [x]) w' := by
  obtain ⟨gv, cap, cur, rfl, hB, hcur, _⟩ := own_ofG h.own h.nz
  have hw := World.grownBy_alloc w ob none
  have hg' : (w.alloc ob).grownBy w' (some gv) := hg
  have s1 := hw.size
  have s2 := hg'.size
  refine ⟨?_, fun e => h.nz (hnil.1 e).1, ?_, by have := h.size; omega⟩
  · rw [List.length_append, List.map_append]; subst hy; exact hown
  · exact (h.below.grown hw h.size (fun k e => by cases e)).grown hg' (by have := h.size; omega) (fun k e => by cases e; exact hB)
theorem GB.push2 {B : Nat} {e : TypeId} {f : Nat → Value} {W0 w w' : World} {v v' : Value} {xs : List Nat} {x y : Nat} {p q : Value} (h : GB B e f W0 v xs w) (ob : Obj) (hp : p = f x) (hq : q = f y)
    (hown : w'.ownsRow B e 1 v' (xs.length + 2) (xs.map f ++ [p, q])) (hg : (w.alloc ob).grownBy w' v.ownBlock) (hnil : v' = .slice none 0 0 ↔ v = .slice none 0 0 ∧ 2 = 0) : GB B e f W0 v' (xs ++ [x, y]) w' := by
  obtain ⟨gv, cap, cur, rfl, hB, hcur, _⟩ := own_ofG h.own h.nz
  have hw := World.grownBy_alloc w ob none
  have hg' : (w.alloc ob).grownBy w' (some gv) := hg
  have s1 := hw.size
  have s2 := hg'.size
  refine ⟨?_, fun e => h.nz (hnil.1 e).1, ?_, by have := h.size; omega⟩
  · rw [List.length_append, List.map_append]; subst hp hq; exact hown
  · exact (h.below.grown hw h.size (fun k e => by cases e)).grown hg' (by have := h.size; omega) (fun k e => by cases e; exact hB)
theorem GB.new {e : TypeId} {f : Nat → Value} (w : World) : GB w.heap.size e f w (.slice (some ⟨w.heap.size, 0, none⟩) 0 0) [] (w.alloc (.cells #[] e)) := by
  refine ⟨⟨rfl, .inr ⟨w.heap.size, 0, #[], rfl, Nat.le_refl _, ?_, Nat.le_refl _, by unfold maxLen; omega, rfl, rfl⟩⟩, (fun h => by cases h), bel1 w _, by simp⟩
  show (w.heap.push _)[w.heap.size]? = _
  simp
def bV (n : Nat) : Value := .int .u8 (n : Int)
/-- The text in a row of bytes. -/
def txs (xs : List Nat) : List UInt8 := xs.map UInt8.ofNat
end Go.Proofs.Ytmphajfhilpgeab
