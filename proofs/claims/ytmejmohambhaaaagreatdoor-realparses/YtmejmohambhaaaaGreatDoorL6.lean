/- A ROW OF BYTES THAT GROWS, and the digits beside it. Own work of the verifier. -/
import Derived.Test.YtmejmohambhaaaaGreatDoorL5
import Derived.Maps.AppendAt
import Derived.Deep.AppendLies
namespace Go.Proofs.YtmejmohambhaaaaGreatDoor
open Go.RowKit Go.Sort

/-- The row that is being written (base B), and the digits of a number in a block of their own. -/
structure Buf (B : Nat) (o : Option (Nat × Nat)) (W0 : World) (v : Value) (zs : List Int) (w : World) : Prop where
  own : w.ownsRow B 5 1 v zs.length (zs.map (Value.int .u8))
  nz : v ≠ .slice none 0 0
  below : Below B W0 w
  size : B ≤ w.heap.size
  len : zs.length ≤ 1000
  dig : ∀ g u, o = some (g, u) → DigAt g u w
theorem own_of {w : World} {B : Nat} {e : TypeId} {v : Value} {n : Nat} {xs : List Value} (h : w.ownsRow B e 1 v n xs) (hn : v ≠ .slice none 0 0) : ∃ g cap cur, v = .slice (some ⟨g, 0, none⟩) n cap ∧ B ≤ g ∧ w.heap[g]? = some (.cells cur e) := by
  rcases h.2 with h2 | ⟨g, cap, cur, hv, hg, hh, _⟩
  · exact absurd h2.1 hn
  · exact ⟨g, cap, cur, hv, hg, hh⟩
theorem Buf.grow {B : Nat} {o : Option (Nat × Nat)} {W0 w w1 w' : World} {v v' : Value} {zs news : List Int} (h : Buf B o W0 v zs w) (hw : w.grownBy w1 none) (m : Nat) (hm : news.length = m)
    (hown : w'.ownsRow B 5 1 v' (zs.length + m) (zs.map (Value.int .u8) ++ news.map (Value.int .u8))) (hg : w1.grownBy w' v.ownBlock) (hnil : v' = .slice none 0 0 ↔ v = .slice none 0 0 ∧ m = 0) (hl : (zs ++ news).length ≤ 1000) : Buf B o W0 v' (zs ++ news) w' := by
  obtain ⟨gv, cap, cur, rfl, hB, hcur⟩ := own_of h.own h.nz
  have hg' : w1.grownBy w' (some gv) := hg
  have hlt : gv < w.heap.size := by
    rcases Nat.lt_or_ge gv w.heap.size with k | k
    · exact k
    · rw [Array.getElem?_eq_none k] at hcur; cases hcur
  have s1 := hw.size
  have s2 := hg'.size
  refine ⟨?_, fun e => h.nz (hnil.1 e).1, ?_, by have := h.size; omega, hl, ?_⟩
  · rw [List.length_append, hm, List.map_append]; exact hown
  · exact (h.below.grown hw h.size (fun k e => by cases e)).grown hg' (by have := h.size; omega) (fun k e => by cases e; exact hB)
  · intro g u e
    obtain ⟨arr, h1, h0, h2⟩ := h.dig g u e
    have hne : g ≠ gv := fun e => by rw [e, hcur] at h1; cases h1
    have hgl : g < w.heap.size := by
      rcases Nat.lt_or_ge g w.heap.size with k | k
      · exact k
      · rw [Array.getElem?_eq_none k] at h1; cases h1
    refine ⟨arr, ?_, h0, h2⟩
    rw [hg'.block g (by omega) (fun e => hne (Option.some.inj e)), hw.block g hgl (by simp), h1]
theorem Buf.push {B : Nat} {o : Option (Nat × Nat)} {W0 w w' : World} {v v' : Value} {zs : List Int} {z : Int} (h : Buf B o W0 v zs w) (ob : Obj)
    (hown : w'.ownsRow B 5 1 v' (zs.length + 1) (zs.map (Value.int .u8) ++ [.int .u8 z])) (hg : (w.alloc ob).grownBy w' v.ownBlock) (hnil : v' = .slice none 0 0 ↔ v = .slice none 0 0 ∧ 1 = 0) (hl : (zs ++ [z]).length ≤ 1000) : Buf B o W0 v' (zs ++ [z]) w' :=
  h.grow (World.grownBy_alloc w ob none) 1 rfl hown hg hnil hl
theorem Buf.drew {B : Nat} {o : Option (Nat × Nat)} {W0 w : World} {v : Value} {zs : List Int} (h : Buf B o W0 v zs w) : Buf B o W0 v zs w.drew := ⟨h.own, h.nz, h.below.drew, h.size, h.len, h.dig⟩
theorem infoByte : (Tryz.prog.info? 5).map (fun i => (i.zero, i.size, i.bytes)) = some (some (.int .u8 0), 1, 1) := by kernel_rfl
end Go.Proofs.YtmejmohambhaaaaGreatDoor
