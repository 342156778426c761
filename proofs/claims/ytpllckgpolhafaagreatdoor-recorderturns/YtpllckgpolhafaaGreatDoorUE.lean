/- THE RECORDER: what all share, a recorder, and the calls that lay nothing. Own work of the verifier. -/
import Derived.Test.YtpllckgpolhafaaGreatDoorUD
namespace Go.Proofs.YtpllckgpolhafaaGreatDoor
open Go.RowKit

/-- What recorders share, in memory: its phaser, the active buffer, what was refused. -/
def Sh (w : World) (k p a : Nat) (r0 r1 : Int) : Prop := w.heap[k]? = some (.cells #[.pointer (some ⟨p, 0, none⟩), .int .i64 (a : Int), .int .i64 (a : Int), .int .i64 r0, .int .i64 r1] 75 (0, 0))
theorem Sh.cells {w : World} {k p a : Nat} {r0 r1 : Int} (h : Sh w k p a r0 r1) : w.cell? ⟨k, 0, none⟩ = some (.pointer (some ⟨p, 0, none⟩)) ∧ w.cell? ⟨k, 1, none⟩ = some (.int .i64 (a : Int)) ∧ w.cell? ⟨k, 2, none⟩ = some (.int .i64 (a : Int)) ∧ w.cell? ⟨k, 3, none⟩ = some (.int .i64 r0) ∧ w.cell? ⟨k, 4, none⟩ = some (.int .i64 r1) := by
  unfold Sh at h; simp [World.cell?, h]
theorem Sh.fr {w : World} {k p a : Nat} {r0 r1 : Int} (h : Sh w k p a r0 r1) (o : Nat) : w.frozen? ⟨k, o, none⟩ = false := by
  unfold Sh at h; simp [World.frozen?, h]
theorem Sh.set3 {w : World} {k p a : Nat} {r0 r1 : Int} (h : Sh w k p a r0 r1) (x : Int) : Sh (w.setCell ⟨k, 3, none⟩ (.int .i64 x)) k p a x r1 := by
  unfold Sh at *; rw [heap_setCell_same w k 3 _ _ _ h]; rfl
theorem Sh.set4 {w : World} {k p a : Nat} {r0 r1 : Int} (h : Sh w k p a r0 r1) (x : Int) : Sh (w.setCell ⟨k, 4, none⟩ (.int .i64 x)) k p a r0 x := by
  unfold Sh at *; rw [heap_setCell_same w k 4 _ _ _ h]; rfl
theorem Sh.set12 {w : World} {k p a : Nat} {r0 r1 : Int} (h : Sh w k p a r0 r1) (x : Nat) : Sh ((w.setCell ⟨k, 1, none⟩ (.int .i64 (x : Int))).setCell ⟨k, 2, none⟩ (.int .i64 (x : Int))) k p x r0 r1 := by
  unfold Sh at *; rw [heap_setCell_same _ k 2 _ _ _ (heap_setCell_same w k 1 _ _ _ h)]; rfl
/-- A recorder in memory. -/
def Rc (w : World) (k s : Nat) (st : Int) (cl : Bool) : Prop := w.heap[k]? = some (.cells #[.pointer (some ⟨s, 0, none⟩), .int .i64 st, .bool cl] 115 (0, 0))
theorem Rc.cells {w : World} {k s : Nat} {st : Int} {cl : Bool} (h : Rc w k s st cl) : w.cell? ⟨k, 0, none⟩ = some (.pointer (some ⟨s, 0, none⟩)) ∧ w.cell? ⟨k, 1, none⟩ = some (.int .i64 st) ∧ w.cell? ⟨k, 2, none⟩ = some (.bool cl) := by
  unfold Rc at h; simp [World.cell?, h]
theorem Rc.fr {w : World} {k s : Nat} {st : Int} {cl : Bool} (h : Rc w k s st cl) (o : Nat) : w.frozen? ⟨k, o, none⟩ = false := by
  unfold Rc at h; simp [World.frozen?, h]
theorem Rc.close {w : World} {k s : Nat} {st : Int} {cl : Bool} (h : Rc w k s st cl) (x : Bool) : Rc (w.setCell ⟨k, 2, none⟩ (.bool x)) k s st x := by
  unfold Rc at *; rw [heap_setCell_same w k 2 _ _ _ h]; rfl
theorem rnew_any (w : World) : Calls Tryz.prog 6 #[] w fun e w' => ∃ k p, e = .returned (.pointer (some ⟨k, 0, none⟩)) ∧ Hid (Sh w' k p 0 0 0) ∧ Hid (Ph w' p 0 0 (-9223372036854775808)) ∧ Hid (Below w.heap.size w w') ∧ Hid (w.heap.size ≤ k ∧ w.heap.size ≤ p) := by
  have HN : Hid (∀ W : World, Calls Tryz.prog 17 #[] W fun e w' => e = .returned (.pointer (some ⟨W.heap.size, 0, none⟩)) ∧ Hid (Ph w' W.heap.size 0 0 (-9223372036854775808)) ∧ Hid (Below W.heap.size W w')) := pnew_any
  go_enter Tryz.func6, Tryz.ntmps6
  go_wp2_with (go_at_call 17; with_reducible refine Calls.mono (HN.out _) ?_; rintro e w1 ⟨rfl, HP1, HB1⟩)
  go_ret
  refine ⟨w1.heap.size, w.heap.size, rfl, new_1 w1 _, ?_, bt HB1.out (bel1 _ _), HB1.out.size, Nat.le_refl _⟩
  have hl : w.heap.size < w1.heap.size := (Array.getElem?_eq_some_iff.1 HP1.out).1
  unfold Hid Ph
  rw [(bel1 w1 _).block w.heap.size hl]
  exact HP1.out
theorem rrec_any (k : Nat) (st : Int) (w : World) : Calls Tryz.prog 13 #[.pointer (some ⟨k, 0, none⟩), .int .i64 st] w fun e w' => e = .returned (.pointer (some ⟨w.heap.size, 0, none⟩)) ∧ w' = w.alloc (.cells #[.pointer (some ⟨k, 0, none⟩), .int .i64 st, .bool false] 115) := by
  go_enter Tryz.func13, Tryz.ntmps13
  go_wp2
  go_ret
  exact ⟨rfl, rfl⟩
theorem stripe_any (k s : Nat) (st : Int) (cl : Bool) (w : World) (h : Rc w k s st cl) : Calls Tryz.prog 24 #[.pointer (some ⟨k, 0, none⟩)] w fun e w' => e = .returned (.int .i64 st) ∧ w' = w := by
  obtain ⟨c0, c1, c2⟩ := h.cells
  go_enter Tryz.func24, Tryz.ntmps24
  go_wp2
  go_ret
  exact ⟨rfl, rfl⟩
theorem closed_any (k s : Nat) (st : Int) (cl : Bool) (w : World) (h : Rc w k s st cl) : Calls Tryz.prog 25 #[.pointer (some ⟨k, 0, none⟩)] w fun e w' => e = .returned (.bool cl) ∧ w' = w := by
  obtain ⟨c0, c1, c2⟩ := h.cells
  go_enter Tryz.func25, Tryz.ntmps25
  go_wp2
  go_ret
  exact ⟨rfl, rfl⟩
theorem close_any (k s : Nat) (st : Int) (cl : Bool) (w : World) (h : Rc w k s st cl) : Calls Tryz.prog 43 #[.pointer (some ⟨k, 0, none⟩)] w fun e w' => e = .returned (.int .i64 (if cl then 8 else 0)) ∧ Hid (Rc w' k s st true) ∧ Hid (Mid k (k + 1) w w') := by
  obtain ⟨c0, c1, c2⟩ := h.cells
  have f2 := h.fr 2
  cases cl with
  | true =>
    have HQ : Hid (Rc w k s st true ∧ Mid k (k + 1) w w) := ⟨h, Mid.refl _ _ _⟩
    clear h
    go_enter Tryz.func43, Tryz.ntmps43
    go_wp2
    go_ret
    exact ⟨rfl, HQ.out.1, HQ.out.2⟩
  | false =>
    have HQ : Hid (Rc (w.setCell ⟨k, 2, none⟩ (.bool true)) k s st true ∧ Mid k (k + 1) w (w.setCell ⟨k, 2, none⟩ (.bool true))) := ⟨h.close true, mid_set k 2 _⟩
    clear h
    go_enter Tryz.func43, Tryz.ntmps43
    go_wp2
    go_ret
    exact ⟨rfl, HQ.out.1, HQ.out.2⟩
theorem mid_of_set {k o1 o2 p : Nat} {u1 u2 : Value} {w w' : World} (h : Mid p (p + 1) ((w.setCell ⟨k, o1, none⟩ u1).setCell ⟨k, o2, none⟩ u2) w') : ∃ w1, Mid k (k + 1) w w1 ∧ Mid p (p + 1) w1 w' := ⟨_, (mid_set k o1 _).trans (mid_set k o2 _), h⟩
set_option maxHeartbeats 1000000 in
/-- Turn, where nobody records. -/
theorem turn_any (k p a : Nat) (r0 r1 : Int) (neg : Bool) (n : Nat) (ha : a < 2) (hn : n < 9223372036854775808) (hkp : p ≠ k) (w : World) (h : Sh w k p a r0 r1) (hp : Pq w p neg n) :
    Calls Tryz.prog 15 #[.pointer (some ⟨k, 0, none⟩), .pointer none] w fun e w' => e = .returned (.tuple #[.int .i64 (a : Int), .int .i64 0]) ∧ Hid (Sh w' k p (1 - a) r0 r1) ∧ Hid (Pq w' p (!neg) 0) ∧ Hid (∃ w1, Mid k (k + 1) w w1 ∧ Mid p (p + 1) w1 w') := by
  obtain ⟨o, ho⟩ : ∃ o : Nat, o = 1 - a := ⟨_, rfl⟩
  have e1 : (1 : Int) - (a : Int) = (o : Int) := by omega
  rw [← ho]
  have HS : Hid (∀ _ : Unit, _) := fun _ => wstore_any k 1 _ (o : Int) w h.cells.2.1 (h.fr 1)
  have HPt : Hid (∀ W, _) := point_nil
  have h2 := h.set12 o
  have hp2 : Pq ((w.setCell ⟨k, 1, none⟩ (.int .i64 (o : Int))).setCell ⟨k, 2, none⟩ (.int .i64 (o : Int))) p neg n := by
    cases neg with
    | false => obtain ⟨q, hq⟩ := hp; exact ⟨q, by unfold Ph at *; rw [heap_setCell_other _ _ p _ hkp, heap_setCell_other _ _ p _ hkp]; exact hq⟩
    | true => obtain ⟨q, hq⟩ := hp; exact ⟨q, by unfold Ph at *; rw [heap_setCell_other _ _ p _ hkp, heap_setCell_other _ _ p _ hkp]; exact hq⟩
  have HF : Hid (∀ _ : Unit, _) := fun _ => flip_any p neg n hn _ hp2
  have HQ : Hid (∀ W, Mid p (p + 1) ((w.setCell ⟨k, 1, none⟩ (.int .i64 (o : Int))).setCell ⟨k, 2, none⟩ (.int .i64 (o : Int))) W → Sh W k p o r0 r1 ∧ ∃ w1, Mid k (k + 1) w w1 ∧ Mid p (p + 1) w1 W) := fun W hm => ⟨by
    have hl : k < ((w.setCell ⟨k, 1, none⟩ (.int .i64 (o : Int))).setCell ⟨k, 2, none⟩ (.int .i64 (o : Int))).heap.size := (Array.getElem?_eq_some_iff.1 h2).1
    have hb := hm.block k hl (by omega)
    unfold Sh at *
    rw [hb]; exact h2, mid_of_set hm⟩
  obtain ⟨c0, c1, c2, c3, c4⟩ := h.cells
  have f2 := h.fr 2
  clear h h2 hp hp2 ho
  go_enter Tryz.func15, Tryz.ntmps15
  go_wp2_with (first
    | (go_at_call 34; with_reducible refine Calls.mono (HS.out ()) ?_; rintro e w1 ⟨rfl, rfl⟩)
    | (go_at_call 35; with_reducible refine Calls.mono (HPt.out _) ?_; rintro e w1 ⟨rfl, rfl⟩)
    | (go_at_call 36; with_reducible refine Calls.mono (HF.out ()) ?_; rintro e w2 ⟨rfl, HP2, HM2⟩))
  go_ret2
  exact ⟨rfl, (HQ.out _ HM2.out).1, HP2, (HQ.out _ HM2.out).2⟩
/-- Refused, of a buffer that is there. -/
theorem refused_0 (k p a : Nat) (r0 r1 : Int) (w : World) (h : Sh w k p a r0 r1) :
    Calls Tryz.prog 11 #[.pointer (some ⟨k, 0, none⟩), .pointer none, .int .i64 0] w fun e w' => e = .returned (.int .u64 (IntKind.u64.wrap r0)) ∧ Hid (Sh w' k p a 0 r1) ∧ Hid (Mid k (k + 1) w w') := by
  have HS : Hid (∀ _ : Unit, _) := fun _ => wswap_any k 3 r0 0 w h.cells.2.2.2.1 (h.fr 3)
  have HQ : Hid (Sh (w.setCell ⟨k, 3, none⟩ (.int .i64 0)) k p a 0 r1) := h.set3 0
  clear h
  go_enter Tryz.func11, Tryz.ntmps11
  go_wp2_with (go_at_call 30; with_reducible refine Calls.mono (HS.out ()) ?_; rintro e w1 ⟨rfl, rfl⟩)
  go_ret
  exact ⟨rfl, HQ, mid_set k 3 _⟩
theorem refused_1 (k p a : Nat) (r0 r1 : Int) (w : World) (h : Sh w k p a r0 r1) :
    Calls Tryz.prog 11 #[.pointer (some ⟨k, 0, none⟩), .pointer none, .int .i64 1] w fun e w' => e = .returned (.int .u64 (IntKind.u64.wrap r1)) ∧ Hid (Sh w' k p a r0 0) ∧ Hid (Mid k (k + 1) w w') := by
  have HS : Hid (∀ _ : Unit, _) := fun _ => wswap_any k 4 r1 0 w h.cells.2.2.2.2 (h.fr 4)
  have HQ : Hid (Sh (w.setCell ⟨k, 4, none⟩ (.int .i64 0)) k p a r0 0) := h.set4 0
  clear h
  go_enter Tryz.func11, Tryz.ntmps11
  go_wp2_with (go_at_call 30; with_reducible refine Calls.mono (HS.out ()) ?_; rintro e w1 ⟨rfl, rfl⟩)
  go_ret
  exact ⟨rfl, HQ, mid_set k 4 _⟩
theorem refused_no (k : Nat) (b : Int) (hb : b < 0 ∨ 2 ≤ b) (w : World) :
    Calls Tryz.prog 11 #[.pointer (some ⟨k, 0, none⟩), .pointer none, .int .i64 b] w fun e w' => e = .returned (.int .u64 0) ∧ w' = w := by
  by_cases h0 : b < 0
  · clear hb
    go_enter Tryz.func11, Tryz.ntmps11
    go_wp2
    go_ret
    exact ⟨rfl, rfl⟩
  · have h1 : ¬ b < 2 := by omega
    clear hb
    go_enter Tryz.func11, Tryz.ntmps11
    go_wp2
    go_ret
    exact ⟨rfl, rfl⟩
end Go.Proofs.YtpllckgpolhafaaGreatDoor
