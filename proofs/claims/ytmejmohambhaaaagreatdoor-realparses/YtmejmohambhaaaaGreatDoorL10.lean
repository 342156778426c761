/- WHAT THE WALKS READ OF THE LIBRARY's VARIABLES; the row of bytes through calls. Own work of the verifier. -/
import Derived.Test.YtmejmohambhaaaaGreatDoorL9
namespace Go.Proofs.YtmejmohambhaaaaGreatDoor
open Go.RowKit Go.Sort

theorem lt_of_cell {w : World} {b o : Nat} {v : Value} (h : w.cell? ⟨b, o, none⟩ = some v) : b < w.heap.size := by
  obtain ⟨c, e, fr, h1, _⟩ := cells_of_cell? h
  rcases Nat.lt_or_ge b w.heap.size with k | k
  · exact k
  · rw [Array.getElem?_eq_none k] at h1; cases h1
theorem Pow.lt {w : World} (h : Pow w) : 8 < w.heap.size := lt_of_cell (h 0 (by decide)).1
theorem Pow.below {w w' : World} (h : Pow w) (hb : Below w.heap.size w w') : Pow w' := by
  intro i hi
  obtain ⟨h0, h1⟩ := h i hi
  exact ⟨by rw [(bcell hb).1 _ _ h.lt, h0], by rw [(bcell hb).1 _ _ h.lt, h1]⟩
theorem Tab.below {w w' : World} (h : Tab w) (hb : Below w.heap.size w w') : Tab w' := by
  unfold Tab Lib.TabIs World.var? at *
  cases hg : Tryz.prog.globalNamed "internal/strconv.uint64pow10" with
  | none => simp [hg] at h
  | some g =>
    simp only [hg, Option.bind_some] at h ⊢
    have hlt : g < w.heap.size := by
      rcases Nat.lt_or_ge g w.heap.size with h' | h'
      · exact h'
      · rw [Array.getElem?_eq_none h'] at h; simp at h
    rw [hb.block g hlt]
    exact h
/-- What is read of the library's variables. -/
structure Glob (w : World) : Prop where
  pow : Pow w
  tab : Tab w
  opt : w.cell? ⟨1, 0, none⟩ = some (.bool true)
  m52 : w.cell? ⟨7, 0, none⟩ = some (.int .u64 52)
theorem Glob.below {w w' : World} (h : Glob w) (hb : Below w.heap.size w w') : Glob w' :=
  ⟨h.pow.below hb, h.tab.below hb, by rw [(bcell hb).1 _ _ (lt_of_cell h.opt), h.opt], by rw [(bcell hb).1 _ _ (lt_of_cell h.m52), h.m52]⟩
theorem own_below {B : Nat} {e : TypeId} {k : Nat} {v : Value} {n : Nat} {xs : List Value} {w w' : World} (h : w.ownsRow B e k v n xs) (hb : Below w.heap.size w w') : w'.ownsRow B e k v n xs := by
  obtain ⟨h1, h2⟩ := h
  refine ⟨h1, ?_⟩
  rcases h2 with h2 | ⟨g, cap, cur, hv, hg, hh, r⟩
  · exact Or.inl h2
  · have hlt : g < w.heap.size := by
      rcases Nat.lt_or_ge g w.heap.size with h' | h'
      · exact h'
      · rw [Array.getElem?_eq_none h'] at hh; cases hh
    exact Or.inr ⟨g, cap, cur, hv, hg, by rw [hb.block g hlt]; exact hh, r⟩
theorem Buf.step {B : Nat} {W0 w w' : World} {v : Value} {zs : List Int} (h : Buf B none W0 v zs w) (hb : Below w.heap.size w w') : Buf B none W0 v zs w' :=
  ⟨own_below h.own hb, h.nz, h.below.trans (hb.mono h.size), by have := h.size; have := hb.size; omega, h.len, fun g u e => by cases e⟩
theorem Buf.digits {B g u : Nat} {W0 w w' : World} {v : Value} {zs : List Int} {arr : Array Value} (h : Buf B none W0 v zs w) (hob : w.heap[g]? = some (.cells arr 81)) (hgB : B ≤ g) (hg : w.grownBy w' (some g)) (hd : DigAt g u w') : Buf B (some (g, u)) W0 v zs w' := by
  obtain ⟨gv, cap, cur, hv, hB, hcur⟩ := own_of h.own h.nz
  have hne : g ≠ gv := fun e => by rw [e, hcur] at hob; cases hob
  refine ⟨h.own.kept hg (Or.inr ?_), h.nz, h.below.grown hg h.size (fun k e => by cases e; exact hgB), by have := h.size; have := hg.size; omega, h.len, fun g' u' e => by cases e; exact hd⟩
  rw [hv]
  exact fun e => hne (Option.some.inj e).symm
end Go.Proofs.YtmejmohambhaaaaGreatDoor
