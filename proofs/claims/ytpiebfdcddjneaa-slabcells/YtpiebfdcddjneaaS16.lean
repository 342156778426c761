/- The document's New. Own work of the verifier. -/
import Derived.Test.YtpiebfdcddjneaaS15
namespace Go.Proofs.Ytpiebfdcddjneaa
open Go.RowKit

/-- Which error New tells. -/
def errF (k s p : Int) : Int := if widF k 1 = 0 then 7 else if celF k s p = 0 then 1 else if 1048576 < celF k s p then 13 else 0
structure OJ (c : Nat) (w1 : World) (b : Nat) (wr : World) : Prop where
  left : ∀ j, b ≤ j → j < 2 → wr.cell? ⟨c, 3 + j, none⟩ = some (.slice none 0 0)
  fr : ∀ j, wr.frozen? ⟨c, j, none⟩ = false
  mid : Mid c (c + 1) w1 wr
  clt : c < w1.heap.size
theorem OJ.start {c b : Nat} {w1 wr : World} (h : OJ c w1 b wr) (hb : b < 2) : LJ c b wr 0 (.slice none 0 0) wr :=
  ⟨h.left b (Nat.le_refl _) hb, ⟨[], World.ownsRow_nil _ _ _ _⟩, Mid.refl _ _ _, fun _ _ => rfl, h.fr, Nat.lt_of_lt_of_le h.clt h.mid.size⟩
theorem OJ.next {c b n : Nat} {w1 wr w' : World} {x : Value} (h : OJ c w1 b wr) (hI : LJ c b wr n x w') : OJ c w1 (b + 1) w' :=
  ⟨fun j hj hj2 => (hI.oth (3 + j) (by omega)).trans (h.left j (by omega) hj2), hI.fr, h.mid.trans hI.mid, h.clt⟩
theorem lj_facts {c b n : Nat} {W1 w : World} {x : Value} (h : Hid (LJ c b W1 n x w)) : w.cell? ⟨c, 3 + b, none⟩ = some x ∧ w.frozen? ⟨c, 3 + b, none⟩ = false ∧ (∀ o, (w.alloc o).cell? ⟨c, 3 + b, none⟩ = some x) :=
  ⟨h.out.cell, h.out.fr _, fun o => ((bel1 w o).cell (p := ⟨c, 3 + b, none⟩) (lt_of_cell h.out.cell)).trans h.out.cell⟩
theorem lj_own {n : Nat} {W1 w : World} {x : Value} {xs : List Value} (h : w.ownsRow W1.heap.size 56 1 x n xs) (o : Obj) : (w.alloc o).drew.ownsRow W1.heap.size 56 1 x n xs := World.ownsRow.drew (h.alloc _)
theorem lj_kept {c b n : Nat} {W1 w w' : World} {x : Value} {o : Obj} (h : LJ c b W1 n x w) (hgr : (w.alloc o).drew.grownBy w' x.ownBlock) : w'.cell? ⟨c, 3 + b, none⟩ = some x ∧ w'.frozen? ⟨c, 3 + b, none⟩ = false := by
  have hs := h.mid.size
  have hcl := h.clt
  obtain ⟨ys, hy⟩ := h.own
  have hcx : some c ≠ x.ownBlock := fun e => by have := hy.lt c e.symm; omega
  constructor
  · rw [hgr.cell_far ⟨c, 3 + b, none⟩ (by simp; omega) hcx]
    exact ((bel1 w _).cell (p := ⟨c, 3 + b, none⟩) (by show c < w.heap.size; omega)).trans h.cell
  · rw [hgr.frozen_far ⟨c, 3 + b, none⟩ (by simp; omega) hcx]
    exact ((bel1 w _).frozen (p := ⟨c, 3 + b, none⟩) (by show c < w.heap.size; omega)).trans (h.fr _)
theorem five_cells {W : World} {b : Nat} {u0 u1 u2 u3 u4 : Value} {t : TypeId} (h : W.heap[b]? = some (.cells #[u0, u1, u2, u3, u4] t (0, 0))) : W.cell? ⟨b, 3, none⟩ = some u3 ∧ W.cell? ⟨b, 4, none⟩ = some u4 ∧ ∀ j, W.frozen? ⟨b, j, none⟩ = false := by
  refine ⟨?_, ?_, fun j => ?_⟩
  · simp [World.cell?, h]
  · simp [World.cell?, h]
  · simp [World.frozen?, h]
theorem oj_start {c : Nat} {w : World} {u0 u1 u2 : Value} {t : TypeId} (h : w.heap[c]? = some (.cells #[u0, u1, u2, .slice none 0 0, .slice none 0 0] t (0, 0))) : OJ c w 0 w := by
  obtain ⟨h3, h4, hf⟩ := five_cells h
  refine ⟨fun j _ hj => ?_, hf, Mid.refl _ _ _, (Array.getElem?_eq_some_iff.1 h).1⟩
  rcases (show j = 0 ∨ j = 1 by omega) with rfl | rfl
  · exact h3
  · exact h4
set_option maxRecDepth 10000 in
set_option maxHeartbeats 4000000 in
theorem rnew_ok (k p : Int) (n wd : Nat) (hn : n ≤ 16) (hk : ¬ widF k 1 = 0) (h0 : ¬ celF k (n : Int) p = 0) (h1 : ¬ 1048576 < celF k (n : Int) p) (hwd : widF k p = wd) (w : World) :
    Calls Try.prog 8 #[.int .i64 k, .int .i64 (n : Int), .int .i64 p] w fun e w' => (∃ v, e = .returned (.tuple #[v, .int .i64 0])) ∧ Below w.heap.size w w' := by
  have hwl : wd ≤ 1048578 := by rw [← hwd]; exact widF_le k p
  have HW1 : Hid (∀ W, Calls Try.prog 14 #[.int .i64 k, .int .i64 1] W fun e w' => e = .returned (.int .i64 (widF k 1 : Nat)) ∧ w' = W) := rwidth_any k 1
  have HW2 : Hid (∀ W, Calls Try.prog 14 #[.int .i64 k, .int .i64 p] W fun e w' => e = .returned (.int .i64 (wd : Nat)) ∧ w' = W) := by rw [← hwd]; exact rwidth_any k p
  have HC : Hid (∀ W, _) := rcells_any k (n : Int) p
  have HF : Hid (∀ j W, _) := first_any k
  have tk : ((widF k 1 : Int) == 0) = false := by simp; omega
  have tc : (celF k (n : Int) p == 0) = false := by simpa using h0
  have td : decide ((1048576 : Int) < celF k (n : Int) p) = false := decide_eq_false h1
  have hmk := make_ints wd (by omega)
  obtain ⟨i0, hi, hz0, hz1, hz2⟩ := info_parts infoIS
  obtain ⟨w1, hw1⟩ : ∃ w1, w.alloc (.cells #[.int .i64 k, .int .i64 (n : Int), .int .i64 p, .slice none 0 0, .slice none 0 0] 55) = w1 := ⟨_, rfl⟩
  have HO : Hid (OJ w.heap.size w1 0 w1) := by rw [← hw1]; exact oj_start (new_1 w _)
  have HB1 : Hid (Below w.heap.size w w1) := by rw [← hw1]; exact bel1 _ _
  clear hk h0 hwd
  generalize widF k 1 = q1 at *
  generalize celF k (n : Int) p = q at *
  go_enter Try.func8, Try.ntmps8
  go_wp2_with (first
    | (go_at_call 14; with_reducible refine Calls.mono (HW1.out _) ?_; rintro e w ⟨rfl, rfl⟩)
    | (go_at_call 14; with_reducible refine Calls.mono (HW2.out _) ?_; rintro e w1 ⟨rfl, rfl⟩)
    | (go_at_call 6; with_reducible refine Calls.mono (HC.out _) ?_; rintro e w ⟨rfl, rfl⟩))
  clear hw1 HW1 HW2 HC
  generalize hcc : w.heap.size = c at *
  have Hcc : Hid (w.heap.size = c) := hcc
  clear hcc
  go_loopw [11] (fun a wr => ∃ b : Nat, b ≤ 2 ∧ a = .int .i64 (b : Int) ∧ Hid (OJ c w1 b wr)) (fun a _ => 2 - (intOf a).toNat)
  case atStart => exact ⟨0, by omega, rfl, HO.out⟩
  case round =>
    obtain ⟨b, hb2, rfl, HOb⟩ := hrel
    by_cases hb : b < 2
    · have hb' : (b : Int) < 2 := by omega
      have HL0 : Hid (LJ c b wr 0 (.slice none 0 0) wr) := HOb.out.start hb
      obtain ⟨w2, hw2⟩ : ∃ w2, w2 = wr := ⟨_, rfl⟩
      subst hw2
      go_wp2_with fail
      go_loopw [12] (fun a wi => ∃ (i : Nat) (x : Value), i ≤ n ∧ a = .int .i64 (i : Int) ∧ Hid (LJ c b w2 i x wi)) (fun a _ => n - (intOf a).toNat)
      case atStart => exact ⟨0, _, by omega, rfl, HL0.out⟩
      case round =>
        obtain ⟨i, x, hin, rfl, HI⟩ := hrel
        by_cases hlt : i < n
        · have hlt' : (i : Int) < (n : Int) := by omega
          obtain ⟨w3, hw3⟩ : ∃ w3, w3 = wr := ⟨_, rfl⟩
          subst hw3
          have HFl0 : Hid (Fl w3.heap.size wd (w3.alloc (.cells (Array.replicate wd (Value.int .i64 0)) 2)) (w3.alloc (.cells (Array.replicate wd (Value.int .i64 0)) 2))) := ⟨Mid.refl _ _ _, _, by simp, new_1 w3 _⟩
          go_wp2_with fail
          go_loopw [14] (fun a wj => ∃ j : Nat, j ≤ wd ∧ a = .int .i64 (j : Int) ∧ Hid (Fl w3.heap.size wd (w3.alloc (.cells (Array.replicate wd (Value.int .i64 0)) 2)) wj)) (fun a _ => wd - (intOf a).toNat)
          case atStart => exact ⟨0, by omega, rfl, HFl0.out⟩
          case round =>
            obtain ⟨j, hj, rfl, HFl⟩ := hrel
            by_cases hjl : j < wd
            · have hjl' : (j : Int) < (wd : Int) := by omega
              obtain ⟨⟨u, q0⟩, f0⟩ := Fl.facts HFl hjl
              have HFj : Hid (∀ W, _) := HF.out (j : Int)
              go_wp2_with (go_at_call 15; with_reducible refine Calls.mono (HFj.out _) ?_; rintro e w4 ⟨y, rfl, rfl⟩)
              exact ⟨⟨j + 1, by omega, by simp, HFl.out.set j _⟩, by simp [intOf]; omega⟩
            · have hjl' : ¬ (j : Int) < (wd : Int) := by omega
              have HJ : Hid (LJ c b w2 i x wr) := HI.out.filled _ HFl.out
              obtain ⟨q0, f0, qa⟩ := lj_facts HJ
              obtain ⟨xs, hxs⟩ := HJ.out.own
              have HX : Hid _ := hxs
              clear hxs
              go_wp2_with fail
              go_region_law (refine step_append_lies _ (by rfl) _ _ 52 (by rfl) w2.heap.size 56 i0 (.slice none 0 0) 1 24 Try.underlying52 hi hz0 hz1 hz2 rfl (by decide) x i xs (by rfl) (lj_own HX.out _) ⟨wr.heap.size, 0, none⟩ 1 1 [slc wd w3.heap.size] (by rfl) rfl (World.news_of_block (cs := #[slc wd w3.heap.size]) (new_1 wr _)) (by simp [Value.oneCell']) (by decide) (by unfold maxLen; omega) (by omega) (by have := HJ.out.mid.size; simp; omega) (wr.heap.size + 1) (by simp) ?_; intro g cap w' hown hgr hat hgl; obtain ⟨q1, f1⟩ := lj_kept HJ.out hgr)
              all_goals
                go_wp2_with fail
                exact ⟨⟨i + 1, _, by omega, by simp, HJ.out.push hown (grown_drew hgr) hat⟩, by simp [intOf]; omega⟩
        · have hE : i = n := by omega
          have hlt' : ¬ (i : Int) < (n : Int) := by omega
          go_wp2_with fail
          exact ⟨⟨b + 1, by omega, by simp, HOb.out.next HI.out⟩, by simp [intOf]; omega⟩
    · obtain rfl : b = 2 := by omega
      go_wp2_with fail
      go_ret2
      refine ⟨⟨_, rfl⟩, ?_⟩
      have hm := HOb.out.mid
      have hb := HB1.out
      have hc := Hcc.out
      subst hc
      exact below_mid hb hm (Nat.le_refl _)
theorem rnew_none (k s p : Int) (hk : widF k 1 = 0) (w : World) : Calls Try.prog 8 #[.int .i64 k, .int .i64 s, .int .i64 p] w fun e w' => (∃ v, e = .returned (.tuple #[v, .int .i64 7])) ∧ Below w.heap.size w w' := by
  have HW1 : Hid (∀ W, Calls Try.prog 14 #[.int .i64 k, .int .i64 1] W fun e w' => e = .returned (.int .i64 0) ∧ w' = W) := fun W => by
    have := rwidth_any k 1 W
    rw [hk] at this
    exact this
  clear hk
  go_enter Try.func8, Try.ntmps8
  go_wp2_with (go_at_call 14; with_reducible refine Calls.mono (HW1.out _) ?_; rintro e w ⟨rfl, rfl⟩)
  go_ret2
  exact ⟨⟨_, rfl⟩, Below.refl _ _⟩
theorem rnew_arg (k s p : Int) (hk : ¬ widF k 1 = 0) (hc : celF k s p = 0) (w : World) : Calls Try.prog 8 #[.int .i64 k, .int .i64 s, .int .i64 p] w fun e w' => (∃ v, e = .returned (.tuple #[v, .int .i64 1])) ∧ Below w.heap.size w w' := by
  have HW1 : Hid (∀ W, _) := rwidth_any k 1
  have HC : Hid (∀ W, _) := rcells_any k s p
  rw [hc] at HC
  have tk : ((widF k 1 : Int) == 0) = false := by simp; omega
  clear hk hc
  generalize widF k 1 = q1 at *
  go_enter Try.func8, Try.ntmps8
  go_wp2_with (first | (go_at_call 14; with_reducible refine Calls.mono (HW1.out _) ?_; rintro e w ⟨rfl, rfl⟩) | (go_at_call 6; with_reducible refine Calls.mono (HC.out _) ?_; rintro e w ⟨rfl, rfl⟩))
  go_ret2
  exact ⟨⟨_, rfl⟩, Below.refl _ _⟩
theorem rnew_room (k s p : Int) (hk : ¬ widF k 1 = 0) (h0 : ¬ celF k s p = 0) (h1 : 1048576 < celF k s p) (w : World) : Calls Try.prog 8 #[.int .i64 k, .int .i64 s, .int .i64 p] w fun e w' => (∃ v, e = .returned (.tuple #[v, .int .i64 13])) ∧ Below w.heap.size w w' := by
  have HW1 : Hid (∀ W, _) := rwidth_any k 1
  have HC : Hid (∀ W, _) := rcells_any k s p
  have tk : ((widF k 1 : Int) == 0) = false := by simp; omega
  have tc : (celF k s p == 0) = false := by simpa using h0
  clear hk h0
  generalize widF k 1 = q1 at *
  generalize celF k s p = q at *
  go_enter Try.func8, Try.ntmps8
  go_wp2_with (first | (go_at_call 14; with_reducible refine Calls.mono (HW1.out _) ?_; rintro e w ⟨rfl, rfl⟩) | (go_at_call 6; with_reducible refine Calls.mono (HC.out _) ?_; rintro e w ⟨rfl, rfl⟩))
  go_ret2
  exact ⟨⟨_, rfl⟩, Below.refl _ _⟩
end Go.Proofs.Ytpiebfdcddjneaa
