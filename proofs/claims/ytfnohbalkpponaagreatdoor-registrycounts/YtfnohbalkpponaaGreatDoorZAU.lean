/- THE CELLS ARE LAID. Own work of the verifier. -/
import Derived.Test.YtfnohbalkpponaaGreatDoorZAT
import Derived.Deep.AppendLies
import Derived.Deep.RegionLaw
import Derived.Test.YtfnohbalkpponaaGreatDoorZAA
namespace Go.Proofs.YtfnohbalkpponaaGreatDoor
open Go.RowKit

theorem infoW : (Tryz.prog.info? 90).map (fun i => (i.zero, i.size, i.bytes)) = some (some (.agg #[.int .i64 0]), 1, 8) := by kernel_rfl
theorem infoWS : (Tryz.prog.info? 253).map (fun i => (i.zero, i.size, i.bytes)) = some (some (.slice none 0 0), 1, 24) := by kernel_rfl
/-- A row, as a slice. -/
abbrev slc (wd g : Nat) : Value := .slice (some ⟨g, 0, none⟩) wd wd
theorem made_zero (n : Nat) : madeCells #[.int .i64 0] n = ((List.replicate n (0 : Int)).map fun x => Value.int .i64 x).toArray := by
  unfold madeCells
  apply Array.ext'
  simp
  apply List.ext_getElem
  · simp
  · intro i h1 h2
    simp [Nat.mod_one]
theorem row_rep (wd : Nat) : ((List.replicate wd (0 : Int)).map fun x => Value.int .i64 x).toArray = Array.replicate wd (Value.int .i64 0) := by simp
theorem make_words (wd : Nat) (hw : wd ≤ 16777216) (w : World) : (Instr.makeSlice 253 (.int .i64 (wd : Int)) (.int .i64 (wd : Int))).run Tryz.prog w = .ok (slc wd w.heap.size) (w.alloc (.cells (Array.replicate wd (Value.int .i64 0)) 90)) := by
  obtain ⟨i, hi, hz, hs, hb⟩ := info_parts infoW
  have hr := run_make (P := Tryz.prog) w 253 90 i (.agg #[.int .i64 0]) Tryz.underlying253 hi hz .i64 .i64 (wd : Int) (wd : Int) (by omega) (Int.le_refl _) (by rw [hb]; omega) (by omega)
  rw [hr, hs, Nat.mul_one, Int.toNat_natCast, ← row_rep, ← made_zero]
  rfl
/-- The rows of one buffer, while they are laid. -/
structure LI (c b wd : Nat) (W1 : World) (G : List Nat) (x : Value) (w : World) : Prop where
  cell : w.cell? ⟨c, b, none⟩ = some x
  own : w.ownsRow W1.heap.size 253 1 x G.length (G.map (slc wd))
  rows : ∀ g ∈ G, RowW w g (List.replicate wd 0)
  ge : ∀ g ∈ G, W1.heap.size ≤ g
  nd : G.Nodup
  ap : ∀ k, x.ownBlock = some k → k ∉ G
  mid : Mid c (c + 1) W1 w
  oth : ∀ j, j ≠ b → w.cell? ⟨c, j, none⟩ = W1.cell? ⟨c, j, none⟩
  fr : ∀ j, w.frozen? ⟨c, j, none⟩ = false
  clt : c < W1.heap.size
theorem grown_row {W W' : World} {o : Option Nat} {g : Nat} {xs : List Int} (h : RowW W g xs) (hg : W.grownBy W' o) (hn : some g ≠ o) : RowW W' g xs := by
  have hl := h.lt
  unfold RowW at *; rw [hg.block g hl hn]; exact h
/-- One row more. -/
theorem LI.push {c b wd : Nat} {W1 : World} {G : List Nat} {x : Value} {w w' : World} {g cap : Nat} (h : LI c b wd W1 G x w) (t : TypeId)
    (hown : w'.ownsRow W1.heap.size 253 1 (.slice (some ⟨g, 0, none⟩) (G.length + 1) cap) (G.length + 1) (G.map (slc wd) ++ [slc wd w.heap.size]))
    (hgr : ((w.alloc (.cells (Array.replicate wd (Value.int .i64 0)) 90)).alloc (.cells #[slc wd w.heap.size] t)).grownBy w' x.ownBlock) (hat : x.ownBlock = some g ∨ g = w.heap.size + 2) :
    LI c b wd W1 (G ++ [w.heap.size]) (.slice (some ⟨g, 0, none⟩) (G.length + 1) cap) (w'.setCell ⟨c, b, none⟩ (.slice (some ⟨g, 0, none⟩) (G.length + 1) cap)) := by
  have hs := h.mid.size
  have hcl := h.clt
  have hxb : ∀ k, x.ownBlock = some k → W1.heap.size ≤ k ∧ k < w.heap.size := fun k hk => h.own.lt k hk
  have hgs : W1.heap.size ≤ g ∧ (g < w.heap.size ∨ g = w.heap.size + 2) := by
    rcases hat with k | k
    · have := hxb g k; omega
    · omega
  have hsz : w.heap.size + 2 ≤ w'.heap.size := by have := hgr.size; simp at this; omega
  have hnew : RowW w' w.heap.size (List.replicate wd 0) := by
    refine grown_row (W := (w.alloc _).alloc _) ?_ hgr (fun e => ?_)
    · exact RowW.alloc (by unfold RowW; rw [row_rep]; exact new_1 w _) _
    · have := hxb w.heap.size e.symm; omega
  have hcx : some c ≠ x.ownBlock := fun e => by have := hxb c e.symm; omega
  have hcell : ∀ j, w'.cell? ⟨c, j, none⟩ = w.cell? ⟨c, j, none⟩ := fun j => by
    rw [hgr.cell_far ⟨c, j, none⟩ (by simp; omega) hcx]
    exact ((bel2 w _ _).cell (p := ⟨c, j, none⟩) (by show c < _; omega))
  have hfr : ∀ j, w'.frozen? ⟨c, j, none⟩ = w.frozen? ⟨c, j, none⟩ := fun j => by
    rw [hgr.frozen_far ⟨c, j, none⟩ (by simp; omega) hcx]
    exact ((bel2 w _ _).frozen (p := ⟨c, j, none⟩) (by show c < _; omega))
  have hold : ∀ k ∈ G, RowW w' k (List.replicate wd 0) := fun k hk =>
    grown_row (((h.rows k hk).alloc _).alloc _) hgr (fun e => h.ap k e.symm hk)
  have hGlt : ∀ k ∈ G, k < w.heap.size := fun k hk => (h.rows k hk).lt
  have hmid : Mid c (c + 1) W1 w' := by
    refine ⟨hgr.os.trans h.mid.os, hgr.tape.trans h.mid.tape, hgr.output.trans h.mid.output, by omega, fun k hk hn => ?_⟩
    rw [hgr.block k (by simp; omega) (fun e => by have := hxb k e.symm; omega), (bel2 w _ _).block k (by omega)]
    exact h.mid.block k hk hn
  refine ⟨World.cell?_setCell_same w' _ _ ((hcell b).trans h.cell), ?_, ?_, ?_, ?_, ?_, hmid.setCell (p := ⟨c, b, none⟩) (Or.inl ⟨Nat.le_refl _, Nat.lt_succ_self _⟩) _, ?_, ?_, h.clt⟩
  · have e1 : (G ++ [w.heap.size]).length = G.length + 1 := by simp
    rw [e1, List.map_append]
    refine ⟨hown.1, ?_⟩
    rcases hown.2 with k | ⟨g2, cap2, cur, hv, hB, hh, hrest⟩
    · exact Or.inl k
    · refine Or.inr ⟨g2, cap2, cur, hv, hB, ?_, hrest⟩
      have : g = g2 := by injection hv with e; injection e with e; injection e
      rw [heap_setCell_other w' ⟨c, b, none⟩ g2 _ (by show g2 ≠ c; omega)]
      exact hh
  · intro k hk
    rcases List.mem_append.1 hk with hk | hk
    · exact (hold k hk).other (by have := h.ge k hk; show k ≠ c; omega) _
    · simp at hk; subst hk
      exact hnew.other (by show w.heap.size ≠ c; omega) _
  · intro k hk
    rcases List.mem_append.1 hk with hk | hk
    · exact h.ge k hk
    · simp at hk; omega
  · rw [List.nodup_append]
    refine ⟨h.nd, by simp, fun a ha b hb => ?_⟩
    simp at hb
    have := hGlt a ha
    omega
  · intro k hk hm
    have hk' : g = k := by simpa [Value.ownBlock] using hk
    subst hk'
    rcases List.mem_append.1 hm with hm | hm
    · rcases hat with e | e
      · exact h.ap g e hm
      · have := hGlt g hm; omega
    · simp at hm; omega
  · intro j hj
    rw [World.cell?_setCell_other w' ⟨c, b, none⟩ ⟨c, j, none⟩ _ (fun e => hj (by injection e with _ e2; exact e2.symm))]
    exact (hcell j).trans (h.oth j hj)
  · intro j
    rw [World.frozen?_setCell]
    exact (hfr j).trans (h.fr j)
end Go.Proofs.YtfnohbalkpponaaGreatDoor
/- THE CELLS ARE LAID: the walk. Own work of the verifier. -/
namespace Go.Proofs.YtfnohbalkpponaaGreatDoor
open Go.RowKit

/-- Both buffers, laid. -/
def LayQ (c n wd : Nat) (w wr : World) : Prop := ∃ x0 G0 x1 G1 w1, G0.length = n ∧ G1.length = n ∧ LI c 0 wd w G0 x0 w1 ∧ LI c 1 wd w1 G1 x1 wr
def OI (c n wd : Nat) (w : World) : Nat → World → Prop
  | 0, wr => wr = w
  | 1, wr => ∃ x0 G0, G0.length = n ∧ LI c 0 wd w G0 x0 wr
  | _, wr => LayQ c n wd w wr
/-- Where nothing is laid yet. -/
def Bare (c : Nat) (w : World) : Prop := w.cell? ⟨c, 0, none⟩ = some (.slice none 0 0) ∧ w.cell? ⟨c, 1, none⟩ = some (.slice none 0 0) ∧ (∀ j, w.frozen? ⟨c, j, none⟩ = false)
theorem oi_start {c n wd b : Nat} {w wr : World} (h : OI c n wd w b wr) (hw : Bare c w) (hb : b < 2) : LI c b wd wr [] (.slice none 0 0) wr := by
  have hl := lt_of_cell hw.1
  rcases (show b = 0 ∨ b = 1 by omega) with rfl | rfl
  · obtain rfl : wr = w := h
    exact ⟨hw.1, World.ownsRow_nil _ _ _ _, (fun g hg => by cases hg), (fun g hg => by cases hg), List.nodup_nil, (fun k hk => by cases hk), Mid.refl _ _ _, fun _ _ => rfl, hw.2.2, hl⟩
  · obtain ⟨x0, G0, _, hI⟩ := h
    exact ⟨(hI.oth 1 (by decide)).trans hw.2.1, World.ownsRow_nil _ _ _ _, (fun g hg => by cases hg), (fun g hg => by cases hg), List.nodup_nil, (fun k hk => by cases hk), Mid.refl _ _ _, fun _ _ => rfl, hI.fr, Nat.lt_of_lt_of_le hl hI.mid.size⟩
theorem oi_next {c n wd b : Nat} {w wr w' : World} {G : List Nat} {x : Value} (h : OI c n wd w b wr) (hb : b < 2) (hI : LI c b wd wr G x w') (hG : G.length = n) : OI c n wd w (b + 1) w' := by
  rcases (show b = 0 ∨ b = 1 by omega) with rfl | rfl
  · obtain rfl : wr = w := h
    exact ⟨x, G, hG, hI⟩
  · obtain ⟨x0, G0, hG0, hI0⟩ := h
    exact ⟨x0, G0, x, G, wr, hG0, hG, hI0, hI⟩
theorem grown_drew {W W' : World} {o : Option Nat} (h : W.drew.grownBy W' o) : W.grownBy W' o := ⟨h.os, h.tape, h.output, h.size, h.block⟩
theorem li_allocs {c b wd : Nat} {W1 w : World} {G : List Nat} {x : Value} (h : Hid (LI c b wd W1 G x w)) : (∀ o1, (w.alloc o1).cell? ⟨c, b, none⟩ = some x) ∧ (∀ o1 o2, ((w.alloc o1).alloc o2).cell? ⟨c, b, none⟩ = some x) := by
  have hl := lt_of_cell h.out.cell
  exact ⟨fun o1 => ((bel1 w o1).cell (p := ⟨c, b, none⟩) hl).trans h.out.cell, fun o1 o2 => ((bel2 w o1 o2).cell (p := ⟨c, b, none⟩) hl).trans h.out.cell⟩
theorem li_facts {c b wd : Nat} {W1 w : World} {G : List Nat} {x : Value} (h : Hid (LI c b wd W1 G x w)) : w.cell? ⟨c, b, none⟩ = some x ∧ w.frozen? ⟨c, b, none⟩ = false := ⟨h.out.cell, h.out.fr b⟩
theorem li_own {c b wd : Nat} {W1 w : World} {G : List Nat} {x : Value} (h : LI c b wd W1 G x w) (o1 o2 : Obj) : ((w.alloc o1).alloc o2).drew.ownsRow W1.heap.size 253 1 x G.length (G.map (slc wd)) := World.ownsRow.drew ((h.own.alloc _).alloc _)
/-- The two blocks behind which the append goes on keep the instrument's cell. -/
theorem li_kept {c b wd : Nat} {W1 w w' : World} {G : List Nat} {x : Value} {o1 o2 : Obj} (h : LI c b wd W1 G x w) (hgr : ((w.alloc o1).alloc o2).drew.grownBy w' x.ownBlock) : w'.cell? ⟨c, b, none⟩ = some x ∧ w'.frozen? ⟨c, b, none⟩ = false := by
  have hs := h.mid.size
  have hcl := h.clt
  have hcx : some c ≠ x.ownBlock := fun e => by have := h.own.lt c e.symm; omega
  constructor
  · rw [hgr.cell_far ⟨c, b, none⟩ (by simp; omega) hcx]
    exact ((bel2 w _ _).cell (p := ⟨c, b, none⟩) (by show c < w.heap.size; omega)).trans h.cell
  · rw [hgr.frozen_far ⟨c, b, none⟩ (by simp; omega) hcx]
    exact ((bel2 w _ _).frozen (p := ⟨c, b, none⟩) (by show c < w.heap.size; omega)).trans (h.fr b)
set_option maxRecDepth 10000 in
set_option maxHeartbeats 4000000 in
theorem lay_any (c n wd : Nat) (hn : n ≤ 16) (hwd : wd ≤ 16777216) (w : World) (hw : Bare c w) :
    Calls Tryz.prog 297 #[.pointer (some ⟨c, 0, none⟩), .int .i64 (n : Int), .int .i64 (wd : Int)] w fun e w' => e = .returned (.tuple #[]) ∧ LayQ c n wd w w' := by
  have HW : Hid (Bare c w) := hw
  have hmk := make_words wd hwd
  obtain ⟨i0, hi, hz0, hz1, hz2⟩ := info_parts infoWS
  clear hw
  go_enter Tryz.func297, Tryz.ntmps297
  go_wp2_with fail
  go_loopw [7] (fun a wr => ∃ b : Nat, b ≤ 2 ∧ a = .int .i64 (b : Int) ∧ Hid (OI c n wd w b wr)) (fun a _ => 2 - (intOf a).toNat)
  case atStart => exact ⟨0, by omega, rfl, rfl⟩
  case round =>
    obtain ⟨b, hb2, rfl, HO⟩ := hrel
    by_cases hb : b < 2
    · have hb' : (b : Int) < 2 := by omega
      have HLI : Hid (LI c b wd wr [] (.slice none 0 0) wr) := oi_start HO.out HW.out hb
      obtain ⟨w1, hw1⟩ : ∃ w1, w1 = wr := ⟨_, rfl⟩
      subst hw1
      go_wp2_with fail
      go_loopw [11] (fun a wi => ∃ i x G, i ≤ n ∧ a = .int .i64 (i : Int) ∧ G.length = i ∧ Hid (LI c b wd w1 G x wi)) (fun a _ => n - (intOf a).toNat)
      case atStart => exact ⟨0, _, [], by omega, rfl, rfl, HLI.out⟩
      case round =>
        obtain ⟨i, x, G, hin, rfl, rfl, HI⟩ := hrel
        by_cases hlt : G.length < n
        · have hlt' : (G.length : Int) < (n : Int) := by omega
          obtain ⟨q0, f0⟩ := li_facts HI
          obtain ⟨qa, qb⟩ := li_allocs HI
          go_wp2_with fail
          go_region_law (refine step_append_lies _ (by rfl) _ _ 251 (by rfl) w1.heap.size 253 i0 (.slice none 0 0) 1 24 Tryz.underlying251 hi hz0 hz1 hz2 rfl (by decide) x G.length (G.map (slc wd)) (by rfl) (li_own HI.out _ _) ⟨wr.heap.size + 1, 0, none⟩ 1 1 [slc wd wr.heap.size] (by rfl) rfl (World.news_of_block (cs := #[slc wd wr.heap.size]) (Pr.new2 wr _ _)) (by simp [Value.oneCell']) (by decide) (by unfold maxLen; omega) (by omega) (by have := HI.out.mid.size; simp; omega) (wr.heap.size + 2) (by simp) ?_; intro g cap w' hown hgr hat hgl; obtain ⟨q1, f1⟩ := li_kept HI.out hgr)
          all_goals
            go_wp2_with fail
            exact ⟨⟨G.length + 1, _, G ++ [wr.heap.size], by omega, by simp, by simp, HI.out.push _ hown (grown_drew hgr) hat⟩, by simp [intOf]; omega⟩
        · have hE : G.length = n := by omega
          have hlt' : ¬ (G.length : Int) < (n : Int) := by omega
          go_wp2_with fail
          exact ⟨⟨b + 1, by omega, by simp, oi_next HO.out hb HI.out hE⟩, by simp [intOf]; omega⟩
    · obtain rfl : b = 2 := by omega
      go_wp2_with fail
      first | go_end0 | refine bodyPost_ret (results_none rfl _ _ _) rfl ?_
      exact ⟨rfl, HO.out⟩
end Go.Proofs.YtfnohbalkpponaaGreatDoor
/- THE CELLS: rows of noughts are emptied, of histograms and summaries. Own work of the verifier. -/
namespace Go.Proofs.YtfnohbalkpponaaGreatDoor
open Go.RowKit

theorem inf_up (w : World) : Calls Tryz.prog 317 #[.int .i64 1] w fun e w' => e = .returned (.float .f64 9218868437227405312) ∧ w' = w := by
  have hf := Pr.mf64from
  go_enter Tryz.func317, Tryz.ntmps317
  go_wp2
  go_ret
  exact ⟨rfl, rfl⟩
theorem inf_down (w : World) : Calls Tryz.prog 317 #[.int .i64 (-1)] w fun e w' => e = .returned (.float .f64 18442240474082181120) ∧ w' = w := by
  have hf := Pr.mf64from
  go_enter Tryz.func317, Tryz.ntmps317
  go_wp2
  go_ret
  exact ⟨rfl, rfl⟩
theorem swapF_zero (g i : Nat) (xs : List Int) (b : Nat) (y : Int) (hb : wrap64 (b : Int) = y) (W : World) (h : RowW W g xs) (hi : i < xs.length) (hx : xs[i] = 0) (ys : List Int) (hy : xs.set i y = ys) :
    Calls Tryz.prog 316 #[.pointer none, .pointer (some ⟨g, i, none⟩), .float .f64 b] W fun e w' => e = .returned (.float .f64 0) ∧ Hid (RowW w' g ys) ∧ Hid (Mid g (g + 1) W w') := by
  have HS : Hid (∀ _ : Unit, _) := fun _ => wswap_row g i xs 0 y W h hi hx ys hy
  have h1 := Pr.mf64bits
  have h2 := Pr.mf64from
  clear h
  subst hb
  go_enter Tryz.func316, Tryz.ntmps316
  go_wp2_with (go_at_call 133; with_reducible refine Calls.mono (HS.out ()) ?_; rintro e w1 ⟨rfl, HR1, HM1⟩)
  go_ret
  exact ⟨rfl, HR1, HM1⟩
set_option maxRecDepth 10000 in
set_option maxHeartbeats 4000000 in
theorem sdrain_zero (p : Value) (g : Nat) (w : World) (h : RowW w g [0, 0, 0, 0, 0]) :
    Calls Tryz.prog 312 #[p, .pointer none, .slice (some ⟨g, 0, none⟩) 5 5] w fun e w' => e = .returned (part 0 0 (.slice none 0 0) 0 0 0 0 0) ∧ Hid (RowW w' g [0, 0, 0, 9218868437227405312, -4503599627370496]) ∧ Hid (Mid g (g + 1) w w') := by
  have HS0 : Hid (∀ W, RowW W g [0, 0, 0, 0, 0] → _) := fun W hW => wswap_row g 0 _ 0 0 W hW (by simp) rfl [0, 0, 0, 0, 0] rfl
  have HS1 : Hid (∀ W, RowW W g [0, 0, 0, 0, 0] → _) := fun W hW => swapF_zero g 1 _ 0 0 (by unfold wrap64; omega) W hW (by simp) rfl [0, 0, 0, 0, 0] rfl
  have HS2 : Hid (∀ W, RowW W g [0, 0, 0, 0, 0] → _) := fun W hW => swapF_zero g 2 _ 0 0 (by unfold wrap64; omega) W hW (by simp) rfl [0, 0, 0, 0, 0] rfl
  have HS3 : Hid (∀ W, RowW W g [0, 0, 0, 0, 0] → _) := fun W hW => swapF_zero g 3 _ 9218868437227405312 9218868437227405312 (by unfold wrap64; omega) W hW (by simp) rfl [0, 0, 0, 9218868437227405312, 0] rfl
  have HS4 : Hid (∀ W, RowW W g [0, 0, 0, 9218868437227405312, 0] → _) := fun W hW => swapF_zero g 4 _ 18442240474082181120 (-4503599627370496) (by unfold wrap64; omega) W hW (by simp) rfl [0, 0, 0, 9218868437227405312, -4503599627370496] rfl
  have HU : Hid (∀ W, _) := inf_up
  have HD : Hid (∀ W, _) := inf_down
  have hl := h.lt
  have hn1 : ¬ (g ≤ w.heap.size ∧ w.heap.size < g + 1) := by omega
  have HN : Hid _ := new_1 w (.cells #[.int .i64 0, .int .u64 0, .slice none 0 0, .int .u64 0, .complex .f64 0 0, .float .f64 0, .float .f64 0] 184)
  obtain ⟨w0, hw0⟩ : ∃ w0, w.alloc (.cells #[.int .i64 0, .int .u64 0, .slice none 0 0, .int .u64 0, .complex .f64 0 0, .float .f64 0, .float .f64 0] 184) = w0 := ⟨_, rfl⟩
  have HR : Hid (RowW w0 g [0, 0, 0, 0, 0]) := by rw [← hw0]; exact h.alloc _
  have HM0 : Hid (Mid g (g + 1) w w0) := by rw [← hw0]; exact (Mid.refl _ _ _).alloc _
  rw [hw0] at HN
  clear h
  go_enter Tryz.func312, Tryz.ntmps312
  go_upto_region 4 with (first
    | (go_at_call 133; with_reducible refine Calls.mono (HS0.out _ HR.out) ?_; rintro e w1 ⟨rfl, HR1, HM1⟩)
    | (go_at_call 316; with_reducible refine Calls.mono (HS1.out _ HR1.out) ?_; rintro e w2 ⟨rfl, HR2, HM2⟩)
    | (go_at_call 316; with_reducible refine Calls.mono (HS2.out _ HR2.out) ?_; rintro e w3 ⟨rfl, HR3, HM3⟩))
  clear hw0
  have HR3d : Hid (RowW w3.drew g [0, 0, 0, 0, 0]) := HR3
  go_region_held3 (fun W => Mid g (g + 1) w3 W) (first | with_reducible assumption | exact Mid.refl _ _ _ | exact (Mid.refl _ _ _).drew)
    (first
      | (go_at_call 317; with_reducible refine Calls.mono (HU.out _) ?_; rintro e w4 ⟨rfl, rfl⟩)
      | (go_at_call 316; with_reducible refine Calls.mono (HS3.out _ HR3d.out) ?_; rintro e w4 ⟨rfl, HR4, HM4⟩; have hm4 := mid_drew HM4.out))
  go_upto_region 5 with fail
  have HR4d : Hid (RowW w4.drew g [0, 0, 0, 9218868437227405312, 0]) := HR4
  go_region_held3 (fun W => Mid g (g + 1) w4 W) (first | with_reducible assumption | exact Mid.refl _ _ _ | exact (Mid.refl _ _ _).drew)
    (first
      | (go_at_call 317; with_reducible refine Calls.mono (HD.out _) ?_; rintro e w5 ⟨rfl, rfl⟩)
      | (go_at_call 316; with_reducible refine Calls.mono (HS4.out _ HR4d.out) ?_; rintro e w5 ⟨rfl, HR5, HM5⟩; have hm5 := mid_drew HM5.out))
  have HM : Hid (Mid g (g + 1) w w5) := HM0.out.trans (HM1.out.trans (HM2.out.trans (HM3.out.trans (hm4.trans hm5))))
  have HN5 := hid_mid (hid_mid HN (HM1.out.trans (HM2.out.trans (HM3.out.trans (hm4.trans hm5)))) hn1) (Mid.refl g (g + 1) w5) hn1
  obtain ⟨q0, q1, q2, q3, q4, q5, q6⟩ := seven_cells HN5
  obtain ⟨f0, f1, f2, f3, f4, f5, f6⟩ := seven_fr HN5
  have sF := store_f
  have sC := store_c
  go_wp2_with fail
  rw [put7_eq]
  have HE := set_seven (v0 := .int .i64 0) (v1 := .int .u64 0) (v2 := .slice none 0 0) (v3 := .int .u64 0) (v4 := .complex .f64 0 0) (v5 := .float .f64 0) (v6 := .float .f64 0) HN5.out
  obtain ⟨z0, z1, z2, z3, z4, z5, z6⟩ := seven_cells HE
  simp [bodyPost, results, Tryz.results312, go_sem, z0, z1, z2, z3, z4, z5, z6]
  exact ⟨HR5.out.put7 (by omega) _ _ _ _ _ _ _, HM.out.put7 (Nat.le_refl _) _ _ _ _ _ _ _⟩
/-- Where a histogram's emptying stands. -/
structure HdI (g k m : Nat) (w wr : World) : Prop where
  row : RowW wr g (List.replicate (m + 2) 0)
  mid : Mid g (g + 1) w wr
  res : wr.heap[w.heap.size]? = some (.cells #[.int .i64 0, .int .u64 0, .slice none 0 0, .int .u64 0, .complex .f64 0 0, .float .f64 0, .float .f64 0] 184 (0, 0))
  prt : wr.heap[k]? = some (.cells #[.int .i64 0, .int .u64 0, .slice none 0 0, .int .u64 0, .complex .f64 0 0, .float .f64 0, .float .f64 0] 184 (0, 0))
theorem HdI.next {g k m : Nat} {w wr w1 : World} (h : HdI g k m w wr) (hg : g < w.heap.size) (hk : w.heap.size ≤ k) (hr : RowW w1 g (List.replicate (m + 2) 0)) (hm : Mid g (g + 1) wr w1) : HdI g k m w w1 :=
  ⟨hr, h.mid.trans hm, (hm.block _ (Array.getElem?_eq_some_iff.1 h.res).1 (by omega)).trans h.res, (hm.block _ (Array.getElem?_eq_some_iff.1 h.prt).1 (by omega)).trans h.prt⟩
set_option maxRecDepth 10000 in
set_option maxHeartbeats 4000000 in
theorem hdrain_zero (p : Value) (g m : Nat) (hm : m ≤ 16777216) (w : World) (h : RowW w g (List.replicate (m + 2) 0)) :
    Calls Tryz.prog 306 #[p, .pointer none, .slice (some ⟨g, 0, none⟩) (m + 2) (m + 2)] w fun e w' => e = .returned (part 0 0 (.slice none 0 0) 0 0 0 0 0) ∧ Hid (RowW w' g (List.replicate (m + 2) 0)) ∧ Hid (Mid g (g + 1) w w') := by
  have HS : Hid (∀ W, RowW W g (List.replicate (m + 2) 0) → Calls Tryz.prog 304 #[.pointer none, .slice (some ⟨g, 0, none⟩) (m + 2) (m + 2)] W fun e w' => e = .returned (.agg #[.int .i64 0, .int .u64 0]) ∧ Hid (RowW w' g (List.replicate (m + 2) 0)) ∧ Hid (Mid g (g + 1) W w')) := fun W hW => by
    have := drainSum_any g (m + 2) 0 0 (List.replicate m 0) W hW
    rw [List.length_replicate] at this
    exact this
  have HW : Hid (∀ (W : World) (i : Nat), i < m → RowW W g (List.replicate (m + 2) 0) → Calls Tryz.prog 133 #[.pointer (some ⟨g, 2 + i, none⟩), .pointer none, .int .i64 0] W fun e w' => e = .returned (.int .i64 0) ∧ Hid (RowW w' g (List.replicate (m + 2) 0)) ∧ Hid (Mid g (g + 1) W w')) := fun W i hi hW =>
    wswap_row g (2 + i) _ 0 0 W hW (by simp; omega) (by simp) _ (by rw [List.set_replicate_self])
  have hl := h.lt
  have hn1 : ¬ (g ≤ w.heap.size ∧ w.heap.size < g + 1) := by omega
  have HN : Hid _ := new_1 w (.cells #[.int .i64 0, .int .u64 0, .slice none 0 0, .int .u64 0, .complex .f64 0 0, .float .f64 0, .float .f64 0] 184)
  obtain ⟨w0, hw0⟩ : ∃ w0, w.alloc (.cells #[.int .i64 0, .int .u64 0, .slice none 0 0, .int .u64 0, .complex .f64 0 0, .float .f64 0, .float .f64 0] 184) = w0 := ⟨_, rfl⟩
  have HR : Hid (RowW w0 g (List.replicate (m + 2) 0)) := by rw [← hw0]; exact h.alloc _
  have HM0 : Hid (Mid g (g + 1) w w0) := by rw [← hw0]; exact (Mid.refl _ _ _).alloc _
  have hs0 : w.heap.size < w0.heap.size := by rw [← hw0]; simp
  rw [hw0] at HN
  have sF := store_f
  have sC := store_c
  clear h
  go_enter Tryz.func306, Tryz.ntmps306
  go_upto_region 2 with (go_at_call 304; with_reducible refine Calls.mono (HS.out _ HR.out) ?_; rintro e w1 ⟨rfl, HR1, HM1⟩)
  clear hw0
  have hs1 : w0.heap.size ≤ w1.heap.size := HM1.out.size
  have HI0 : Hid (HdI g w1.heap.size m w (w1.alloc (.cells #[.int .i64 0, .int .u64 0, .slice none 0 0, .int .u64 0, .complex .f64 0 0, .float .f64 0, .float .f64 0] 184))) :=
    ⟨HR1.out.alloc _, (HM0.out.trans HM1.out).alloc _, ((bel1 w1 _).block _ (by omega)).trans ((HM1.out.block _ hs0 hn1).trans HN.out), new_1 w1 _⟩
  have hk : w.heap.size < w1.heap.size := by omega
  generalize w1.heap.size = k at *
  go_wp2_with fail
  go_loopw [17] (fun a wr => ∃ i : Nat, i ≤ m ∧ a = .int .i64 (i : Int) ∧ Hid (HdI g k m w wr)) (fun a _ => m - (intOf a).toNat)
  case atStart => exact ⟨0, by omega, rfl, HI0.out⟩
  case round =>
    obtain ⟨i, hi, rfl, HI⟩ := hrel
    by_cases hlt : i < m
    · have hlt' : (i : Int) < (m : Int) := by omega
      have HSw : Hid (∀ _ : Unit, _) := fun _ => HW.out wr i hlt HI.out.row
      have e1 : (((2 + i : Nat) : Nat) : Int) = 2 + (i : Int) := by omega
      go_wp2_with (go_at_call 133; refine Calls.mono (HSw.out ()) ?_; rintro e w2 ⟨rfl, HR2, HM2⟩)
      exact ⟨⟨i + 1, by omega, by simp, HI.out.next hl (by omega) HR2.out HM2.out⟩, by simp [intOf]; omega⟩
    · obtain rfl : i = m := by omega
      have hlt' : ¬ (i : Int) < (i : Int) := by omega
      have HRs : Hid _ := HI.out.res
      have HPt : Hid _ := HI.out.prt
      obtain ⟨q0, q1, q2, q3, q4, q5, q6⟩ := seven_cells HPt
      obtain ⟨p0, p1, p2, p3, p4, p5, p6⟩ := seven_cells HRs
      obtain ⟨f0, f1, f2, f3, f4, f5, f6⟩ := seven_fr HRs
      go_wp2_with fail
      rw [put7_eq]
      have HE := set_seven (v0 := .int .i64 0) (v1 := .int .u64 0) (v2 := .slice none 0 0) (v3 := .int .u64 0) (v4 := .complex .f64 0 0) (v5 := .float .f64 0) (v6 := .float .f64 0) HRs.out
      obtain ⟨z0, z1, z2, z3, z4, z5, z6⟩ := seven_cells HE
      simp [bodyPost, results, Tryz.results306, go_sem, z0, z1, z2, z3, z4, z5, z6]
      exact ⟨HI.out.row.put7 (by omega) _ _ _ _ _ _ _, HI.out.mid.put7 (Nat.le_refl _) _ _ _ _ _ _ _⟩
theorem drains_counter (pc : Value) : Drains 295 pc [0, 0] 0 0 [0, 0] := fun W g h => cdrain_any pc g 2 0 0 [] W h
theorem drains_histogram (pc : Value) (m : Nat) (hm : m ≤ 16777216) : Drains 306 pc (List.replicate (m + 2) 0) 0 0 (List.replicate (m + 2) 0) := fun W g h => by
  rw [List.length_replicate]
  exact hdrain_zero pc g m hm W h
theorem drains_summary (pc : Value) : Drains 312 pc [0, 0, 0, 0, 0] 0 0 [0, 0, 0, 9218868437227405312, -4503599627370496] := fun W g h => sdrain_zero pc g W h
end Go.Proofs.YtfnohbalkpponaaGreatDoor
/- THE CELLS: how many. Own work of the verifier. -/
namespace Go.Proofs.YtfnohbalkpponaaGreatDoor
open Go.RowKit

/-- How many buckets. -/
def Lg (p : Int) : Nat := if 1 ≤ p ∧ p ≤ 14 then (64 - p.toNat) * 2 ^ p.toNat else 0
theorem Lg_le (p : Int) : Lg p ≤ 1048576 := by
  unfold Lg; split
  · exact len_le _ (by omega)
  · omega
theorem Lg_pos (p : Int) : 0 < Lg p ↔ (1 ≤ p ∧ p ≤ 14) := by
  unfold Lg; split
  · rename_i h
    exact ⟨fun _ => h, fun _ => Nat.mul_pos (by omega) (Nat.pow_pos (by decide))⟩
  · rename_i h; exact ⟨fun k => by omega, fun k => absurd k h⟩
theorem length_any (p : Int) (w : World) : Calls Tryz.prog 178 #[.int .i64 p] w fun e w' => e = .returned (.int .i64 (Lg p : Nat)) ∧ w' = w := by
  unfold Lg
  by_cases h : 1 ≤ p ∧ p ≤ 14
  · rw [if_pos h]
    obtain ⟨q, rfl⟩ := Int.eq_ofNat_of_zero_le (by omega : 0 ≤ p)
    exact len_yes q (by omega) (by omega) w
  · rw [if_neg h]
    exact len_no p h w
/-- May there be so many stripes, and that precision? -/
abbrev okS (s p : Int) : Prop := 1 ≤ s ∧ s ≤ 16 ∧ 1 ≤ p ∧ p ≤ 14
set_option maxHeartbeats 1000000 in
theorem smay_any (s p : Int) (w : World) : Calls Tryz.prog 121 #[.int .i64 s, .int .i64 p] w fun e w' => e = .returned (.bool (decide (okS s p))) ∧ w' = w := by
  have HL : Hid (∀ W, _) := length_any p
  have HP := Lg_pos p
  by_cases h1 : 1 ≤ s
  · by_cases h2 : s ≤ 16
    · by_cases h3 : 1 ≤ p ∧ p ≤ 14
      · have hp : 0 < Lg p := HP.2 h3
        have hp' : (0 : Int) < (Lg p : Int) := by omega
        rw [decide_eq_true (⟨h1, h2, h3.1, h3.2⟩ : okS s p)]
        clear HP h3
        generalize Lg p = q at *
        go_enter Tryz.func121, Tryz.ntmps121
        go_wp2_with (go_at_call 178; with_reducible refine (HL.out _).mono ?_; rintro e w ⟨rfl, rfl⟩)
        go_ret
        exact ⟨rfl, rfl⟩
      · have hp : Lg p = 0 := by have := mt HP.1 h3; omega
        rw [decide_eq_false (fun k : okS s p => h3 ⟨k.2.2.1, k.2.2.2⟩)]
        rw [hp] at HL
        clear HP h3 hp
        go_enter Tryz.func121, Tryz.ntmps121
        go_wp2_with (go_at_call 178; with_reducible refine (HL.out _).mono ?_; rintro e w ⟨rfl, rfl⟩)
        go_ret
        exact ⟨rfl, rfl⟩
    · rw [decide_eq_false (fun k : okS s p => h2 k.2.1)]
      clear HP
      go_enter Tryz.func121, Tryz.ntmps121
      go_wp2_with fail
      go_ret
      exact ⟨rfl, rfl⟩
  · rw [decide_eq_false (fun k : okS s p => h1 k.1)]
    clear HP
    go_enter Tryz.func121, Tryz.ntmps121
    go_wp2_with fail
    go_ret
    exact ⟨rfl, rfl⟩
theorem cwidth_any (p : Value) (w : World) : Calls Tryz.prog 301 #[p] w fun e w' => e = .returned (.int .i64 2) ∧ w' = w := by
  go_enter Tryz.func301, Tryz.ntmps301
  go_wp2
  go_ret
  exact ⟨rfl, rfl⟩
theorem swidth_any (p : Value) (w : World) : Calls Tryz.prog 315 #[p] w fun e w' => e = .returned (.int .i64 5) ∧ w' = w := by
  go_enter Tryz.func315, Tryz.ntmps315
  go_wp2
  go_ret
  exact ⟨rfl, rfl⟩
theorem hwidth_any (c : Nat) (p : Int) (w : World) (hc : w.cell? ⟨c, 2, none⟩ = some (.int .i64 p)) : Calls Tryz.prog 309 #[.pointer (some ⟨c, 0, none⟩)] w fun e w' => e = .returned (.int .i64 ((Lg p + 2 : Nat) : Int)) ∧ w' = w := by
  have HL : Hid (∀ W, _) := length_any p
  have hl := Lg_le p
  generalize Lg p = q at *
  go_enter Tryz.func309, Tryz.ntmps309
  go_wp2_with (go_at_call 178; with_reducible refine (HL.out _).mono ?_; rintro e w ⟨rfl, rfl⟩)
  go_ret
  exact ⟨congrArg (fun z => Ending.returned (Value.int .i64 z)) (by omega), rfl⟩
end Go.Proofs.YtfnohbalkpponaaGreatDoor
/- THE CELLS: Cells. Own work of the verifier. -/
namespace Go.Proofs.YtfnohbalkpponaaGreatDoor
open Go.RowKit

theorem unlaid_counter (p : Int) (w : World) : Calls Tryz.prog 120 #[.int .i64 1, .int .i64 p] w fun e w' => e = .returned (.iface 293 (.pointer (some ⟨w.heap.size, 0, none⟩))) ∧ w' = w.alloc (.cells #[.slice none 0 0, .slice none 0 0] 298) := by
  go_enter Tryz.func120, Tryz.ntmps120
  go_wp2
  go_ret
  exact ⟨rfl, rfl⟩
theorem unlaid_histogram (p : Int) (w : World) : Calls Tryz.prog 120 #[.int .i64 2, .int .i64 p] w fun e w' => e = .returned (.iface 299 (.pointer (some ⟨w.heap.size, 0, none⟩))) ∧ w' = w.alloc (.cells #[.slice none 0 0, .slice none 0 0, .int .i64 p] 301) := by
  go_enter Tryz.func120, Tryz.ntmps120
  go_wp2
  go_ret
  exact ⟨rfl, rfl⟩
theorem unlaid_summary (p : Int) (w : World) : Calls Tryz.prog 120 #[.int .i64 3, .int .i64 p] w fun e w' => e = .returned (.iface 302 (.pointer (some ⟨w.heap.size, 0, none⟩))) ∧ w' = w.alloc (.cells #[.slice none 0 0, .slice none 0 0] 303) := by
  go_enter Tryz.func120, Tryz.ntmps120
  go_wp2
  go_ret
  exact ⟨rfl, rfl⟩
theorem three_0 {W : World} {b : Nat} {u v x : Value} {t : TypeId} (h : W.heap[b]? = some (.cells #[u, v, x] t (0, 0))) : W.cell? ⟨b, 0, none⟩ = some u := by simp [World.cell?, h]
theorem three_1 {W : World} {b : Nat} {u v x : Value} {t : TypeId} (h : W.heap[b]? = some (.cells #[u, v, x] t (0, 0))) : W.cell? ⟨b, 1, none⟩ = some v := by simp [World.cell?, h]
theorem three_2 {W : World} {b : Nat} {u v x : Value} {t : TypeId} (h : W.heap[b]? = some (.cells #[u, v, x] t (0, 0))) : W.cell? ⟨b, 2, none⟩ = some x := by simp [World.cell?, h]
/-- How many cells a row has. -/
def widF (k p : Int) : Nat := if k = 1 then 2 else if k = 2 then Lg p + 2 else if k = 3 then 5 else 0
theorem mul_small {s : Int} {q : Nat} (h1 : 1 ≤ s) (h2 : s ≤ 16) (hq : q ≤ 1048578) : 0 ≤ 2 * s * (q : Int) ∧ 2 * s * (q : Int) ≤ 33554496 := by
  have a : 2 * s * (q : Int) ≤ 32 * (q : Int) := Int.mul_le_mul_of_nonneg_right (by omega) (by omega)
  have b : 0 ≤ 2 * s * (q : Int) := Int.mul_nonneg (by omega) (by omega)
  omega
/-- How many words. -/
def celF (k s p : Int) : Int := if okS s p then 2 * s * (widF k p : Nat) else 0
set_option maxHeartbeats 1000000 in
theorem cells_counter (s p : Int) (w : World) : Calls Tryz.prog 75 #[.int .i64 1, .int .i64 s, .int .i64 p] w fun e w' => e = .returned (.int .i64 (celF 1 s p)) ∧ Below w.heap.size w w' := by
  have HU : Hid (∀ W, _) := unlaid_counter p
  have HY : Hid (∀ W, _) := smay_any s p
  unfold celF
  by_cases h : okS s p
  · rw [decide_eq_true h] at HY
    rw [if_pos h, show widF 1 p = 2 from by simp [widF]]
    obtain ⟨h1, h2, h3, h4⟩ := h
    have hw1 : IntKind.i64.wrap (2 * s) = 2 * s := by rw [IntKind.wrap_i64]; omega
    have HWd : Hid (∀ W, Calls Tryz.prog 301 #[.pointer (some ⟨w.heap.size, 0, none⟩)] W fun e w' => e = .returned (.int .i64 2) ∧ w' = W) := fun W => cwidth_any _ W
    have hw2 : IntKind.i64.wrap (2 * s * 2) = 2 * s * 2 := by rw [IntKind.wrap_i64]; omega
    go_enter Tryz.func75, Tryz.ntmps75
    go_wp2_with (first | (go_at_call 120; with_reducible refine (HU.out _).mono ?_; rintro e w1 ⟨rfl, rfl⟩) | (go_at_call 121; with_reducible refine (HY.out _).mono ?_; rintro e w1 ⟨rfl, rfl⟩) | (go_at_call 301; with_reducible refine (HWd.out _).mono ?_; rintro e w1 ⟨rfl, rfl⟩))
    go_ret
    exact ⟨rfl, bel1 _ _⟩
  · rw [decide_eq_false h] at HY
    rw [if_neg h]
    go_enter Tryz.func75, Tryz.ntmps75
    go_wp2_with (first | (go_at_call 120; with_reducible refine (HU.out _).mono ?_; rintro e w1 ⟨rfl, rfl⟩) | (go_at_call 121; with_reducible refine (HY.out _).mono ?_; rintro e w1 ⟨rfl, rfl⟩))
    go_ret
    exact ⟨rfl, bel1 _ _⟩
set_option maxHeartbeats 1000000 in
theorem cells_histogram (s p : Int) (w : World) : Calls Tryz.prog 75 #[.int .i64 2, .int .i64 s, .int .i64 p] w fun e w' => e = .returned (.int .i64 (celF 2 s p)) ∧ Below w.heap.size w w' := by
  have HU : Hid (∀ W, _) := unlaid_histogram p
  have HY : Hid (∀ W, _) := smay_any s p
  unfold celF
  by_cases h : okS s p
  · rw [decide_eq_true h] at HY
    rw [if_pos h, show widF 2 p = Lg p + 2 from by simp [widF]]
    obtain ⟨h1, h2, h3, h4⟩ := h
    have hw1 : IntKind.i64.wrap (2 * s) = 2 * s := by rw [IntKind.wrap_i64]; omega
    have hlg := Lg_le p
    obtain ⟨q, hq⟩ : ∃ q, Lg p + 2 = q := ⟨_, rfl⟩
    rw [hq]
    have HWd : Hid (Calls Tryz.prog 309 #[.pointer (some ⟨w.heap.size, 0, none⟩)] (w.alloc (.cells #[.slice none 0 0, .slice none 0 0, .int .i64 p] 301)) fun e w' => e = .returned (.int .i64 ((q : Nat) : Int)) ∧ w' = (w.alloc (.cells #[.slice none 0 0, .slice none 0 0, .int .i64 p] 301))) := by
      have := hwidth_any w.heap.size p (w.alloc (.cells #[.slice none 0 0, .slice none 0 0, .int .i64 p] 301)) (three_2 (new_1 w _))
      rw [hq] at this
      exact this
    have hw2 : IntKind.i64.wrap (2 * s * (q : Int)) = 2 * s * (q : Int) := by rw [IntKind.wrap_i64]; have := mul_small h1 h2 (by omega : q ≤ 1048578); omega
    go_enter Tryz.func75, Tryz.ntmps75
    go_wp2_with (first | (go_at_call 120; with_reducible refine (HU.out _).mono ?_; rintro e w1 ⟨rfl, rfl⟩) | (go_at_call 121; with_reducible refine (HY.out _).mono ?_; rintro e w1 ⟨rfl, rfl⟩) | (go_at_call 309; with_reducible refine HWd.out.mono ?_; rintro e w1 ⟨rfl, rfl⟩))
    go_ret
    exact ⟨rfl, bel1 _ _⟩
  · rw [decide_eq_false h] at HY
    rw [if_neg h]
    go_enter Tryz.func75, Tryz.ntmps75
    go_wp2_with (first | (go_at_call 120; with_reducible refine (HU.out _).mono ?_; rintro e w1 ⟨rfl, rfl⟩) | (go_at_call 121; with_reducible refine (HY.out _).mono ?_; rintro e w1 ⟨rfl, rfl⟩))
    go_ret
    exact ⟨rfl, bel1 _ _⟩
set_option maxHeartbeats 1000000 in
theorem cells_summary (s p : Int) (w : World) : Calls Tryz.prog 75 #[.int .i64 3, .int .i64 s, .int .i64 p] w fun e w' => e = .returned (.int .i64 (celF 3 s p)) ∧ Below w.heap.size w w' := by
  have HU : Hid (∀ W, _) := unlaid_summary p
  have HY : Hid (∀ W, _) := smay_any s p
  unfold celF
  by_cases h : okS s p
  · rw [decide_eq_true h] at HY
    rw [if_pos h, show widF 3 p = 5 from by simp [widF]]
    obtain ⟨h1, h2, h3, h4⟩ := h
    have hw1 : IntKind.i64.wrap (2 * s) = 2 * s := by rw [IntKind.wrap_i64]; omega
    have HWd : Hid (∀ W, Calls Tryz.prog 315 #[.pointer (some ⟨w.heap.size, 0, none⟩)] W fun e w' => e = .returned (.int .i64 5) ∧ w' = W) := fun W => swidth_any _ W
    have hw2 : IntKind.i64.wrap (2 * s * 5) = 2 * s * 5 := by rw [IntKind.wrap_i64]; omega
    go_enter Tryz.func75, Tryz.ntmps75
    go_wp2_with (first | (go_at_call 120; with_reducible refine (HU.out _).mono ?_; rintro e w1 ⟨rfl, rfl⟩) | (go_at_call 121; with_reducible refine (HY.out _).mono ?_; rintro e w1 ⟨rfl, rfl⟩) | (go_at_call 315; with_reducible refine (HWd.out _).mono ?_; rintro e w1 ⟨rfl, rfl⟩))
    go_ret
    exact ⟨rfl, bel1 _ _⟩
  · rw [decide_eq_false h] at HY
    rw [if_neg h]
    go_enter Tryz.func75, Tryz.ntmps75
    go_wp2_with (first | (go_at_call 120; with_reducible refine (HU.out _).mono ?_; rintro e w1 ⟨rfl, rfl⟩) | (go_at_call 121; with_reducible refine (HY.out _).mono ?_; rintro e w1 ⟨rfl, rfl⟩))
    go_ret
    exact ⟨rfl, bel1 _ _⟩
end Go.Proofs.YtfnohbalkpponaaGreatDoor
