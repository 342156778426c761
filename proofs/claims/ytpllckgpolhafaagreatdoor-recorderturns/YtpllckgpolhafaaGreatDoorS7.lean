/- THE CELLS ARE LAID. Own work of the verifier. -/
import Derived.Test.YtpllckgpolhafaaGreatDoorS5
import Derived.Deep.AppendLies
import Derived.Deep.RegionLaw
namespace Go.Proofs.YtpllckgpolhafaaGreatDoor
open Go.RowKit

theorem infoW : (Tryz.prog.info? 72).map (fun i => (i.zero, i.size, i.bytes)) = some (some (.agg #[.int .i64 0]), 1, 8) := by kernel_rfl
theorem infoWS : (Tryz.prog.info? 123).map (fun i => (i.zero, i.size, i.bytes)) = some (some (.slice none 0 0), 1, 24) := by kernel_rfl
/-- A row, as a slice. -/
abbrev slc (wd g : Nat) : Value := .slice (some ⟨g, 0, none⟩) wd wd
theorem made_zero (n : Nat) : madeCells #[.int .i64 0] n = ((List.replicate n (0 : Int)).map fun x => Value.int .i64 x).toArray := by
  unfold madeCells
  apply Array.ext'
  simp
  apply List.ext_getElem
  · simp
  · intro i h1 h2
    simp [Nat.mod_one]
theorem row_rep (wd : Nat) : ((List.replicate wd (0 : Int)).map fun x => Value.int .i64 x).toArray = Array.replicate wd (Value.int .i64 0) := by simp
theorem make_words (wd : Nat) (hw : wd ≤ 16777216) (w : World) : (Instr.makeSlice 123 (.int .i64 (wd : Int)) (.int .i64 (wd : Int))).run Tryz.prog w = .ok (slc wd w.heap.size) (w.alloc (.cells (Array.replicate wd (Value.int .i64 0)) 72)) := by
  obtain ⟨i, hi, hz, hs, hb⟩ := info_parts infoW
  have hr := run_make (P := Tryz.prog) w 123 72 i (.agg #[.int .i64 0]) Tryz.underlying123 hi hz .i64 .i64 (wd : Int) (wd : Int) (by omega) (Int.le_refl _) (by rw [hb]; omega) (by omega)
  rw [hr, hs, Nat.mul_one, Int.toNat_natCast, ← row_rep, ← made_zero]
  rfl
/-- The rows of one buffer, while they are laid. -/
structure LI (c b wd : Nat) (W1 : World) (G : List Nat) (x : Value) (w : World) : Prop where
  cell : w.cell? ⟨c, b, none⟩ = some x
  own : w.ownsRow W1.heap.size 123 1 x G.length (G.map (slc wd))
  rows : ∀ g ∈ G, RowW w g (List.replicate wd 0)
  ge : ∀ g ∈ G, W1.heap.size ≤ g
  nd : G.Nodup
  ap : ∀ k, x.ownBlock = some k → k ∉ G
  mid : Mid c (c + 1) W1 w
  oth : ∀ j, j ≠ b → w.cell? ⟨c, j, none⟩ = W1.cell? ⟨c, j, none⟩
  fr : ∀ j, w.frozen? ⟨c, j, none⟩ = false
  clt : c < W1.heap.size
theorem grown_row {W W' : World} {o : Option Nat} {g : Nat} {xs : List Int} (h : RowW W g xs) (hg : W.grownBy W' o) (hn : some g ≠ o) : RowW W' g xs := by
  have hl := h.lt
  unfold RowW at *; rw [hg.block g hl hn]; exact h
/-- One row more. -/
theorem LI.push {c b wd : Nat} {W1 : World} {G : List Nat} {x : Value} {w w' : World} {g cap : Nat} (h : LI c b wd W1 G x w) (t : TypeId)
    (hown : w'.ownsRow W1.heap.size 123 1 (.slice (some ⟨g, 0, none⟩) (G.length + 1) cap) (G.length + 1) (G.map (slc wd) ++ [slc wd w.heap.size]))
    (hgr : ((w.alloc (.cells (Array.replicate wd (Value.int .i64 0)) 72)).alloc (.cells #[slc wd w.heap.size] t)).grownBy w' x.ownBlock) (hat : x.ownBlock = some g ∨ g = w.heap.size + 2) :
    LI c b wd W1 (G ++ [w.heap.size]) (.slice (some ⟨g, 0, none⟩) (G.length + 1) cap) (w'.setCell ⟨c, b, none⟩ (.slice (some ⟨g, 0, none⟩) (G.length + 1) cap)) := by
  have hs := h.mid.size
  have hcl := h.clt
  have hxb : ∀ k, x.ownBlock = some k → W1.heap.size ≤ k ∧ k < w.heap.size := fun k hk => h.own.lt k hk
  have hgs : W1.heap.size ≤ g ∧ (g < w.heap.size ∨ g = w.heap.size + 2) := by
    rcases hat with k | k
    · have := hxb g k; omega
    · omega
  have hsz : w.heap.size + 2 ≤ w'.heap.size := by have := hgr.size; simp at this; omega
  have hnew : RowW w' w.heap.size (List.replicate wd 0) := by
    refine grown_row (W := (w.alloc _).alloc _) ?_ hgr (fun e => ?_)
    · exact RowW.alloc (by unfold RowW; rw [row_rep]; exact new_1 w _) _
    · have := hxb w.heap.size e.symm; omega
  have hcx : some c ≠ x.ownBlock := fun e => by have := hxb c e.symm; omega
  have hcell : ∀ j, w'.cell? ⟨c, j, none⟩ = w.cell? ⟨c, j, none⟩ := fun j => by
    rw [hgr.cell_far ⟨c, j, none⟩ (by simp; omega) hcx]
    exact ((bel2 w _ _).cell (p := ⟨c, j, none⟩) (by show c < _; omega))
  have hfr : ∀ j, w'.frozen? ⟨c, j, none⟩ = w.frozen? ⟨c, j, none⟩ := fun j => by
    rw [hgr.frozen_far ⟨c, j, none⟩ (by simp; omega) hcx]
    exact ((bel2 w _ _).frozen (p := ⟨c, j, none⟩) (by show c < _; omega))
  have hold : ∀ k ∈ G, RowW w' k (List.replicate wd 0) := fun k hk =>
    grown_row (((h.rows k hk).alloc _).alloc _) hgr (fun e => h.ap k e.symm hk)
  have hGlt : ∀ k ∈ G, k < w.heap.size := fun k hk => (h.rows k hk).lt
  have hmid : Mid c (c + 1) W1 w' := by
    refine ⟨hgr.os.trans h.mid.os, hgr.tape.trans h.mid.tape, hgr.output.trans h.mid.output, by omega, fun k hk hn => ?_⟩
    rw [hgr.block k (by simp; omega) (fun e => by have := hxb k e.symm; omega), (bel2 w _ _).block k (by omega)]
    exact h.mid.block k hk hn
  refine ⟨World.cell?_setCell_same w' _ _ ((hcell b).trans h.cell), ?_, ?_, ?_, ?_, ?_, hmid.setCell (p := ⟨c, b, none⟩) (Or.inl ⟨Nat.le_refl _, Nat.lt_succ_self _⟩) _, ?_, ?_, h.clt⟩
  · have e1 : (G ++ [w.heap.size]).length = G.length + 1 := by simp
    rw [e1, List.map_append]
    refine ⟨hown.1, ?_⟩
    rcases hown.2 with k | ⟨g2, cap2, cur, hv, hB, hh, hrest⟩
    · exact Or.inl k
    · refine Or.inr ⟨g2, cap2, cur, hv, hB, ?_, hrest⟩
      have : g = g2 := by injection hv with e; injection e with e; injection e
      rw [heap_setCell_other w' ⟨c, b, none⟩ g2 _ (by show g2 ≠ c; omega)]
      exact hh
  · intro k hk
    rcases List.mem_append.1 hk with hk | hk
    · exact (hold k hk).other (by have := h.ge k hk; show k ≠ c; omega) _
    · simp at hk; subst hk
      exact hnew.other (by show w.heap.size ≠ c; omega) _
  · intro k hk
    rcases List.mem_append.1 hk with hk | hk
    · exact h.ge k hk
    · simp at hk; omega
  · rw [List.nodup_append]
    refine ⟨h.nd, by simp, fun a ha b hb => ?_⟩
    simp at hb
    have := hGlt a ha
    omega
  · intro k hk hm
    have hk' : g = k := by simpa [Value.ownBlock] using hk
    subst hk'
    rcases List.mem_append.1 hm with hm | hm
    · rcases hat with e | e
      · exact h.ap g e hm
      · have := hGlt g hm; omega
    · simp at hm; omega
  · intro j hj
    rw [World.cell?_setCell_other w' ⟨c, b, none⟩ ⟨c, j, none⟩ _ (fun e => hj (by injection e with _ e2; exact e2.symm))]
    exact (hcell j).trans (h.oth j hj)
  · intro j
    rw [World.frozen?_setCell]
    exact (hfr j).trans (h.fr j)
end Go.Proofs.YtpllckgpolhafaaGreatDoor
