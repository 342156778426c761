/- The document's Width, Cells, First; the cells that its New makes. Own work of the verifier. -/
import Derived.Test.YtpiebfdcddjneaaS14
namespace Go.Proofs.Ytpiebfdcddjneaa
open Go.RowKit

set_option maxHeartbeats 1000000 in
theorem rwidth_any (k p : Int) (w : World) : Calls Try.prog 14 #[.int .i64 k, .int .i64 p] w fun e w' => e = .returned (.int .i64 (widF k p : Nat)) ∧ w' = w := by
  unfold widF
  by_cases h1 : k = 1
  · subst h1
    rw [if_pos rfl]
    go_enter Try.func14, Try.ntmps14
    go_wp2_with fail
    go_ret
    exact ⟨rfl, rfl⟩
  · have t1 : (k == 1) = false := by simpa using h1
    rw [if_neg h1]
    by_cases h2 : k = 2
    · subst h2
      rw [if_pos rfl]
      have HL : Hid (∀ W, _) := rlength_any p
      have hl := Lg_le p
      generalize Lg p = q at *
      go_enter Try.func14, Try.ntmps14
      go_wp2_with (go_at_call 19; with_reducible refine (HL.out _).mono ?_; rintro e w ⟨rfl, rfl⟩)
      go_ret
      exact ⟨congrArg (fun z => Ending.returned (Value.int .i64 z)) (by omega), rfl⟩
    · have t2 : (k == 2) = false := by simpa using h2
      rw [if_neg h2]
      by_cases h3 : k = 3
      · subst h3
        rw [if_pos rfl]
        go_enter Try.func14, Try.ntmps14
        go_wp2_with fail
        go_ret
        exact ⟨rfl, rfl⟩
      · have t3 : (k == 3) = false := by simpa using h3
        rw [if_neg h3]
        go_enter Try.func14, Try.ntmps14
        go_wp2_with fail
        go_ret
        exact ⟨rfl, rfl⟩
set_option maxHeartbeats 1000000 in
theorem rcells_any (k s p : Int) (w : World) : Calls Try.prog 6 #[.int .i64 k, .int .i64 s, .int .i64 p] w fun e w' => e = .returned (.int .i64 (celF k s p)) ∧ w' = w := by
  have HW : Hid (∀ W, _) := rwidth_any k p
  have hwl := widF_le k p
  unfold celF
  by_cases h1 : s < 1
  · rw [if_neg (fun c => by have := c.1; omega)]
    go_enter Try.func6, Try.ntmps6
    go_wp2_with fail
    go_ret
    exact ⟨rfl, rfl⟩
  · by_cases h2 : 16 < s
    · rw [if_neg (fun c => by have := c.2.1; omega)]
      go_enter Try.func6, Try.ntmps6
      go_wp2_with fail
      go_ret
      exact ⟨rfl, rfl⟩
    · by_cases h3 : p < 1
      · rw [if_neg (fun c => by have := c.2.2.1; omega)]
        go_enter Try.func6, Try.ntmps6
        go_wp2_with fail
        go_ret
        exact ⟨rfl, rfl⟩
      · by_cases h4 : 14 < p
        · rw [if_neg (fun c => by have := c.2.2.2; omega)]
          go_enter Try.func6, Try.ntmps6
          go_wp2_with fail
          go_ret
          exact ⟨rfl, rfl⟩
        · rw [if_pos ⟨by omega, by omega, by omega, by omega⟩]
          generalize widF k p = q at *
          have hw1 : IntKind.i64.wrap (2 * s) = 2 * s := by rw [IntKind.wrap_i64]; omega
          have hw2 : IntKind.i64.wrap (2 * s * (q : Int)) = 2 * s * (q : Int) := by rw [IntKind.wrap_i64]; have := mul_small (by omega : 1 ≤ s) (by omega) hwl; omega
          go_enter Try.func6, Try.ntmps6
          go_wp2_with (go_at_call 14; with_reducible refine (HW.out _).mono ?_; rintro e w ⟨rfl, rfl⟩)
          go_ret
          exact ⟨rfl, rfl⟩
set_option maxHeartbeats 1000000 in
theorem first_any (k j : Int) (w : World) : Calls Try.prog 15 #[.int .i64 k, .int .i64 j] w fun e w' => ∃ y, e = .returned (.int .i64 y) ∧ w' = w := by
  cases h1 : (k == 3)
  · go_enter Try.func15, Try.ntmps15
    go_wp2_with fail
    go_ret
    exact ⟨_, rfl, rfl⟩
  · cases h2 : (j == 3)
    · cases h3 : (j == 4)
      · go_enter Try.func15, Try.ntmps15
        go_wp2_with fail
        go_ret
        exact ⟨_, rfl, rfl⟩
      · go_enter Try.func15, Try.ntmps15
        go_wp2_with fail
        go_ret
        exact ⟨_, rfl, rfl⟩
    · go_enter Try.func15, Try.ntmps15
      go_wp2_with fail
      go_ret
      exact ⟨_, rfl, rfl⟩
theorem infoI : (Try.prog.info? 2).map (fun i => (i.zero, i.size, i.bytes)) = some (some (.int .i64 0), 1, 8) := by kernel_rfl
theorem infoIS : (Try.prog.info? 56).map (fun i => (i.zero, i.size, i.bytes)) = some (some (.slice none 0 0), 1, 24) := by kernel_rfl
theorem make_ints (wd : Nat) (hw : wd ≤ 16777216) (w : World) : (Instr.makeSlice 56 (.int .i64 (wd : Int)) (.int .i64 (wd : Int))).run Try.prog w = .ok (slc wd w.heap.size) (w.alloc (.cells (Array.replicate wd (Value.int .i64 0)) 2)) := by
  obtain ⟨i, hi, hz, hs, hb⟩ := info_parts infoI
  have hr := run_make (P := Try.prog) w 56 2 i (.int .i64 0) Try.underlying56 hi hz .i64 .i64 (wd : Int) (wd : Int) (by omega) (Int.le_refl _) (by rw [hb]; omega) (by omega)
  rw [hr, hs, Nat.mul_one, Int.toNat_natCast, ← row_rep, ← made_zero]
  rfl
/-- The document's rows of one buffer, while they are made: the rest of memory stays. -/
structure LJ (c b : Nat) (W1 : World) (n : Nat) (x : Value) (w : World) : Prop where
  cell : w.cell? ⟨c, 3 + b, none⟩ = some x
  own : ∃ xs, w.ownsRow W1.heap.size 56 1 x n xs
  mid : Mid c (c + 1) W1 w
  oth : ∀ j, j ≠ 3 + b → w.cell? ⟨c, j, none⟩ = W1.cell? ⟨c, j, none⟩
  fr : ∀ j, w.frozen? ⟨c, j, none⟩ = false
  clt : c < W1.heap.size
/-- A new row, while it is filled. -/
structure Fl (g wd : Nat) (w wr : World) : Prop where
  mid : Mid g (g + 1) w wr
  row : ∃ cs : Array Value, cs.size = wd ∧ wr.heap[g]? = some (.cells cs 2 (0, 0))
theorem Fl.set {g wd : Nat} {w wr : World} (h : Fl g wd w wr) (i : Nat) (u : Value) : Fl g wd w (wr.setCell ⟨g, i, none⟩ u) := by
  obtain ⟨cs, h1, h2⟩ := h.row
  exact ⟨h.mid.setCell (p := ⟨g, i, none⟩) (Or.inl ⟨Nat.le_refl _, Nat.lt_succ_self _⟩) u, _, by rw [← h1]; simp, heap_setCell_same wr g i cs _ u h2⟩
theorem Fl.facts {g wd i : Nat} {w wr : World} (h : Hid (Fl g wd w wr)) (hi : i < wd) : (∃ u, wr.cell? ⟨g, i, none⟩ = some u) ∧ wr.frozen? ⟨g, i, none⟩ = false := by
  obtain ⟨cs, h1, h2⟩ := h.out.row
  refine ⟨⟨cs[i], ?_⟩, ?_⟩
  · simp [World.cell?, h2, h1, hi]
  · simp [World.frozen?, h2]
theorem LJ.filled {c b wd n : Nat} {W1 w wr : World} {x : Value} (h : LJ c b W1 n x w) (o : Obj) (hf : Fl w.heap.size wd (w.alloc o) wr) : LJ c b W1 n x wr := by
  have hs := h.mid.size
  have hc := h.clt
  have hm := hf.mid
  have hbl : ∀ k, k < w.heap.size → wr.heap[k]? = w.heap[k]? := fun k hk => by
    rw [hm.block k (by simp; omega) (by omega)]; exact (bel1 w o).block k hk
  obtain ⟨xs, hx⟩ := h.own
  have hcell : ∀ j, wr.cell? ⟨c, j, none⟩ = w.cell? ⟨c, j, none⟩ := fun j => World.cell?_of_block (hbl c (by omega))
  refine ⟨(hcell _).trans h.cell, ⟨xs, hx.1, ?_⟩, ?_, fun j hj => (hcell j).trans (h.oth j hj), fun j => (World.frozen?_of_block (a := ⟨c, j, none⟩) (hbl c (by omega))).trans (h.fr j), hc⟩
  · rcases hx.2 with k | ⟨g, cap, cur, hv, hB, hh, hrest⟩
    · exact Or.inl k
    · exact Or.inr ⟨g, cap, cur, hv, hB, (hbl g (Array.getElem?_eq_some_iff.1 hh).1).trans hh, hrest⟩
  · have hsz := hm.size
    simp at hsz
    exact ⟨hm.os.trans h.mid.os, hm.tape.trans h.mid.tape, hm.output.trans h.mid.output, by omega, fun k hk hn => (hbl k (by omega)).trans (h.mid.block k hk hn)⟩
theorem LJ.push {c b n : Nat} {W1 w w' : World} {x : Value} {g cap : Nat} {o : Obj} {xs : List Value} (h : LJ c b W1 n x w)
    (hown : w'.ownsRow W1.heap.size 56 1 (.slice (some ⟨g, 0, none⟩) (n + 1) cap) (n + 1) xs)
    (hgr : (w.alloc o).grownBy w' x.ownBlock) (hat : x.ownBlock = some g ∨ g = w.heap.size + 1) :
    LJ c b W1 (n + 1) (.slice (some ⟨g, 0, none⟩) (n + 1) cap) (w'.setCell ⟨c, 3 + b, none⟩ (.slice (some ⟨g, 0, none⟩) (n + 1) cap)) := by
  have hs := h.mid.size
  have hcl := h.clt
  obtain ⟨ys, hy⟩ := h.own
  have hxb : ∀ k, x.ownBlock = some k → W1.heap.size ≤ k ∧ k < w.heap.size := fun k hk => hy.lt k hk
  have hgs : W1.heap.size ≤ g := by
    rcases hat with k | k
    · exact (hxb g k).1
    · omega
  have hsz : w.heap.size + 1 ≤ w'.heap.size := by have := hgr.size; simp at this; omega
  have hcx : some c ≠ x.ownBlock := fun e => by have := hxb c e.symm; omega
  have hcell : ∀ j, w'.cell? ⟨c, j, none⟩ = w.cell? ⟨c, j, none⟩ := fun j => by
    rw [hgr.cell_far ⟨c, j, none⟩ (by simp; omega) hcx]
    exact ((bel1 w _).cell (p := ⟨c, j, none⟩) (by show c < _; omega))
  have hfr : ∀ j, w'.frozen? ⟨c, j, none⟩ = w.frozen? ⟨c, j, none⟩ := fun j => by
    rw [hgr.frozen_far ⟨c, j, none⟩ (by simp; omega) hcx]
    exact ((bel1 w _).frozen (p := ⟨c, j, none⟩) (by show c < _; omega))
  have hmid : Mid c (c + 1) W1 w' := by
    refine ⟨hgr.os.trans h.mid.os, hgr.tape.trans h.mid.tape, hgr.output.trans h.mid.output, by omega, fun k hk hn => ?_⟩
    rw [hgr.block k (by simp; omega) (fun e => by have := hxb k e.symm; omega), (bel1 w _).block k (by omega)]
    exact h.mid.block k hk hn
  refine ⟨World.cell?_setCell_same w' _ _ ((hcell _).trans h.cell), ⟨xs, hown.1, ?_⟩, hmid.setCell (p := ⟨c, 3 + b, none⟩) (Or.inl ⟨Nat.le_refl _, Nat.lt_succ_self _⟩) _, ?_, ?_, h.clt⟩
  · rcases hown.2 with k | ⟨g2, cap2, cur, hv, hB, hh, hrest⟩
    · exact Or.inl k
    · refine Or.inr ⟨g2, cap2, cur, hv, hB, ?_, hrest⟩
      rw [heap_setCell_other w' ⟨c, 3 + b, none⟩ g2 _ (by show g2 ≠ c; omega)]
      exact hh
  · intro j hj
    rw [World.cell?_setCell_other w' ⟨c, 3 + b, none⟩ ⟨c, j, none⟩ _ (fun e => hj (by injection e with _ e2; exact e2.symm))]
    exact (hcell j).trans (h.oth j hj)
  · intro j
    rw [World.frozen?_setCell]
    exact (hfr j).trans (h.fr j)
end Go.Proofs.Ytpiebfdcddjneaa
