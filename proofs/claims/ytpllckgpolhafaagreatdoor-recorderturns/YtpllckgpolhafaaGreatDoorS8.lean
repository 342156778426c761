/- THE CELLS ARE LAID: the walk. Own work of the verifier. -/
import Derived.Test.YtpllckgpolhafaaGreatDoorS7
namespace Go.Proofs.YtpllckgpolhafaaGreatDoor
open Go.RowKit

/-- Both buffers, laid. -/
def LayQ (c n wd : Nat) (w wr : World) : Prop := ∃ x0 G0 x1 G1 w1, G0.length = n ∧ G1.length = n ∧ LI c 0 wd w G0 x0 w1 ∧ LI c 1 wd w1 G1 x1 wr
def OI (c n wd : Nat) (w : World) : Nat → World → Prop
  | 0, wr => wr = w
  | 1, wr => ∃ x0 G0, G0.length = n ∧ LI c 0 wd w G0 x0 wr
  | _, wr => LayQ c n wd w wr
/-- Where nothing is laid yet. -/
def Bare (c : Nat) (w : World) : Prop := w.cell? ⟨c, 0, none⟩ = some (.slice none 0 0) ∧ w.cell? ⟨c, 1, none⟩ = some (.slice none 0 0) ∧ (∀ j, w.frozen? ⟨c, j, none⟩ = false)
theorem oi_start {c n wd b : Nat} {w wr : World} (h : OI c n wd w b wr) (hw : Bare c w) (hb : b < 2) : LI c b wd wr [] (.slice none 0 0) wr := by
  have hl := lt_of_cell hw.1
  rcases (show b = 0 ∨ b = 1 by omega) with rfl | rfl
  · obtain rfl : wr = w := h
    exact ⟨hw.1, World.ownsRow_nil _ _ _ _, (fun g hg => by cases hg), (fun g hg => by cases hg), List.nodup_nil, (fun k hk => by cases hk), Mid.refl _ _ _, fun _ _ => rfl, hw.2.2, hl⟩
  · obtain ⟨x0, G0, _, hI⟩ := h
    exact ⟨(hI.oth 1 (by decide)).trans hw.2.1, World.ownsRow_nil _ _ _ _, (fun g hg => by cases hg), (fun g hg => by cases hg), List.nodup_nil, (fun k hk => by cases hk), Mid.refl _ _ _, fun _ _ => rfl, hI.fr, Nat.lt_of_lt_of_le hl hI.mid.size⟩
theorem oi_next {c n wd b : Nat} {w wr w' : World} {G : List Nat} {x : Value} (h : OI c n wd w b wr) (hb : b < 2) (hI : LI c b wd wr G x w') (hG : G.length = n) : OI c n wd w (b + 1) w' := by
  rcases (show b = 0 ∨ b = 1 by omega) with rfl | rfl
  · obtain rfl : wr = w := h
    exact ⟨x, G, hG, hI⟩
  · obtain ⟨x0, G0, hG0, hI0⟩ := h
    exact ⟨x0, G0, x, G, wr, hG0, hG, hI0, hI⟩
theorem grown_drew {W W' : World} {o : Option Nat} (h : W.drew.grownBy W' o) : W.grownBy W' o := ⟨h.os, h.tape, h.output, h.size, h.block⟩
theorem li_allocs {c b wd : Nat} {W1 w : World} {G : List Nat} {x : Value} (h : Hid (LI c b wd W1 G x w)) : (∀ o1, (w.alloc o1).cell? ⟨c, b, none⟩ = some x) ∧ (∀ o1 o2, ((w.alloc o1).alloc o2).cell? ⟨c, b, none⟩ = some x) := by
  have hl := lt_of_cell h.out.cell
  exact ⟨fun o1 => ((bel1 w o1).cell (p := ⟨c, b, none⟩) hl).trans h.out.cell, fun o1 o2 => ((bel2 w o1 o2).cell (p := ⟨c, b, none⟩) hl).trans h.out.cell⟩
theorem li_facts {c b wd : Nat} {W1 w : World} {G : List Nat} {x : Value} (h : Hid (LI c b wd W1 G x w)) : w.cell? ⟨c, b, none⟩ = some x ∧ w.frozen? ⟨c, b, none⟩ = false := ⟨h.out.cell, h.out.fr b⟩
theorem li_own {c b wd : Nat} {W1 w : World} {G : List Nat} {x : Value} (h : LI c b wd W1 G x w) (o1 o2 : Obj) : ((w.alloc o1).alloc o2).drew.ownsRow W1.heap.size 123 1 x G.length (G.map (slc wd)) := World.ownsRow.drew ((h.own.alloc _).alloc _)
/-- The two blocks behind which the append goes on keep the instrument's cell. -/
theorem li_kept {c b wd : Nat} {W1 w w' : World} {G : List Nat} {x : Value} {o1 o2 : Obj} (h : LI c b wd W1 G x w) (hgr : ((w.alloc o1).alloc o2).drew.grownBy w' x.ownBlock) : w'.cell? ⟨c, b, none⟩ = some x ∧ w'.frozen? ⟨c, b, none⟩ = false := by
  have hs := h.mid.size
  have hcl := h.clt
  have hcx : some c ≠ x.ownBlock := fun e => by have := h.own.lt c e.symm; omega
  constructor
  · rw [hgr.cell_far ⟨c, b, none⟩ (by simp; omega) hcx]
    exact ((bel2 w _ _).cell (p := ⟨c, b, none⟩) (by show c < w.heap.size; omega)).trans h.cell
  · rw [hgr.frozen_far ⟨c, b, none⟩ (by simp; omega) hcx]
    exact ((bel2 w _ _).frozen (p := ⟨c, b, none⟩) (by show c < w.heap.size; omega)).trans (h.fr b)
set_option maxRecDepth 10000 in
set_option maxHeartbeats 4000000 in
theorem lay_any (c n wd : Nat) (hn : n ≤ 16) (hwd : wd ≤ 16777216) (w : World) (hw : Bare c w) :
    Calls Tryz.prog 214 #[.pointer (some ⟨c, 0, none⟩), .int .i64 (n : Int), .int .i64 (wd : Int)] w fun e w' => e = .returned (.tuple #[]) ∧ LayQ c n wd w w' := by
  have HW : Hid (Bare c w) := hw
  have hmk := make_words wd hwd
  obtain ⟨i0, hi, hz0, hz1, hz2⟩ := info_parts infoWS
  clear hw
  go_enter Tryz.func214, Tryz.ntmps214
  go_wp2_with fail
  go_loopw [7] (fun a wr => ∃ b : Nat, b ≤ 2 ∧ a = .int .i64 (b : Int) ∧ Hid (OI c n wd w b wr)) (fun a _ => 2 - (intOf a).toNat)
  case atStart => exact ⟨0, by omega, rfl, rfl⟩
  case round =>
    obtain ⟨b, hb2, rfl, HO⟩ := hrel
    by_cases hb : b < 2
    · have hb' : (b : Int) < 2 := by omega
      have HLI : Hid (LI c b wd wr [] (.slice none 0 0) wr) := oi_start HO.out HW.out hb
      obtain ⟨w1, hw1⟩ : ∃ w1, w1 = wr := ⟨_, rfl⟩
      subst hw1
      go_wp2_with fail
      go_loopw [11] (fun a wi => ∃ i x G, i ≤ n ∧ a = .int .i64 (i : Int) ∧ G.length = i ∧ Hid (LI c b wd w1 G x wi)) (fun a _ => n - (intOf a).toNat)
      case atStart => exact ⟨0, _, [], by omega, rfl, rfl, HLI.out⟩
      case round =>
        obtain ⟨i, x, G, hin, rfl, rfl, HI⟩ := hrel
        by_cases hlt : G.length < n
        · have hlt' : (G.length : Int) < (n : Int) := by omega
          obtain ⟨q0, f0⟩ := li_facts HI
          obtain ⟨qa, qb⟩ := li_allocs HI
          go_wp2_with fail
          go_region_law (refine step_append_lies _ (by rfl) _ _ 121 (by rfl) w1.heap.size 123 i0 (.slice none 0 0) 1 24 Tryz.underlying121 hi hz0 hz1 hz2 rfl (by decide) x G.length (G.map (slc wd)) (by rfl) (li_own HI.out _ _) ⟨wr.heap.size + 1, 0, none⟩ 1 1 [slc wd wr.heap.size] (by rfl) rfl (World.news_of_block (cs := #[slc wd wr.heap.size]) (Pr.new2 wr _ _)) (by simp [Value.oneCell']) (by decide) (by unfold maxLen; omega) (by omega) (by have := HI.out.mid.size; simp; omega) (wr.heap.size + 2) (by simp) ?_; intro g cap w' hown hgr hat hgl; obtain ⟨q1, f1⟩ := li_kept HI.out hgr)
          all_goals
            go_wp2_with fail
            exact ⟨⟨G.length + 1, _, G ++ [wr.heap.size], by omega, by simp, by simp, HI.out.push _ hown (grown_drew hgr) hat⟩, by simp [intOf]; omega⟩
        · have hE : G.length = n := by omega
          have hlt' : ¬ (G.length : Int) < (n : Int) := by omega
          go_wp2_with fail
          exact ⟨⟨b + 1, by omega, by simp, oi_next HO.out hb HI.out hE⟩, by simp [intOf]; omega⟩
    · obtain rfl : b = 2 := by omega
      go_wp2_with fail
      first | go_end0 | refine bodyPost_ret (results_none rfl _ _ _) rfl ?_
      exact ⟨rfl, HO.out⟩
end Go.Proofs.YtpllckgpolhafaaGreatDoor
