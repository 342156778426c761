/- THE RECORDER: what all share, a recorder, and the calls that lay nothing. Own work of the verifier. -/
import Derived.Test.YtfnohbalkpponaaGreatDoorZAW
import Derived.Deep.RegionHeld3
namespace Go.Proofs.YtfnohbalkpponaaGreatDoor
open Go.RowKit

/-- What recorders share, in memory: its phaser, the active buffer, what was refused. -/
def Sh (w : World) (k p a : Nat) (r0 r1 : Int) : Prop := w.heap[k]? = some (.cells #[.pointer (some ⟨p, 0, none⟩), .int .i64 (a : Int), .int .i64 (a : Int), .int .i64 r0, .int .i64 r1] 147 (0, 0))
theorem Sh.cells {w : World} {k p a : Nat} {r0 r1 : Int} (h : Sh w k p a r0 r1) : w.cell? ⟨k, 0, none⟩ = some (.pointer (some ⟨p, 0, none⟩)) ∧ w.cell? ⟨k, 1, none⟩ = some (.int .i64 (a : Int)) ∧ w.cell? ⟨k, 2, none⟩ = some (.int .i64 (a : Int)) ∧ w.cell? ⟨k, 3, none⟩ = some (.int .i64 r0) ∧ w.cell? ⟨k, 4, none⟩ = some (.int .i64 r1) := by
  unfold Sh at h; simp [World.cell?, h]
theorem Sh.fr {w : World} {k p a : Nat} {r0 r1 : Int} (h : Sh w k p a r0 r1) (o : Nat) : w.frozen? ⟨k, o, none⟩ = false := by
  unfold Sh at h; simp [World.frozen?, h]
theorem Sh.set3 {w : World} {k p a : Nat} {r0 r1 : Int} (h : Sh w k p a r0 r1) (x : Int) : Sh (w.setCell ⟨k, 3, none⟩ (.int .i64 x)) k p a x r1 := by
  unfold Sh at *; rw [heap_setCell_same w k 3 _ _ _ h]; rfl
theorem Sh.set4 {w : World} {k p a : Nat} {r0 r1 : Int} (h : Sh w k p a r0 r1) (x : Int) : Sh (w.setCell ⟨k, 4, none⟩ (.int .i64 x)) k p a r0 x := by
  unfold Sh at *; rw [heap_setCell_same w k 4 _ _ _ h]; rfl
theorem Sh.set12 {w : World} {k p a : Nat} {r0 r1 : Int} (h : Sh w k p a r0 r1) (x : Nat) : Sh ((w.setCell ⟨k, 1, none⟩ (.int .i64 (x : Int))).setCell ⟨k, 2, none⟩ (.int .i64 (x : Int))) k p x r0 r1 := by
  unfold Sh at *; rw [heap_setCell_same _ k 2 _ _ _ (heap_setCell_same w k 1 _ _ _ h)]; rfl
/-- A recorder in memory. -/
def Rc (w : World) (k s : Nat) (st : Int) (cl : Bool) : Prop := w.heap[k]? = some (.cells #[.pointer (some ⟨s, 0, none⟩), .int .i64 st, .bool cl] 151 (0, 0))
theorem Rc.cells {w : World} {k s : Nat} {st : Int} {cl : Bool} (h : Rc w k s st cl) : w.cell? ⟨k, 0, none⟩ = some (.pointer (some ⟨s, 0, none⟩)) ∧ w.cell? ⟨k, 1, none⟩ = some (.int .i64 st) ∧ w.cell? ⟨k, 2, none⟩ = some (.bool cl) := by
  unfold Rc at h; simp [World.cell?, h]
theorem Rc.fr {w : World} {k s : Nat} {st : Int} {cl : Bool} (h : Rc w k s st cl) (o : Nat) : w.frozen? ⟨k, o, none⟩ = false := by
  unfold Rc at h; simp [World.frozen?, h]
theorem rnew_any (w : World) : Calls Tryz.prog 20 #[] w fun e w' => ∃ k p, e = .returned (.pointer (some ⟨k, 0, none⟩)) ∧ Hid (Sh w' k p 0 0 0) ∧ Hid (Ph w' p 0 0 (-9223372036854775808)) ∧ Hid (Below w.heap.size w w') ∧ Hid (w.heap.size ≤ k ∧ w.heap.size ≤ p) := by
  have HN : Hid (∀ W : World, Calls Tryz.prog 49 #[] W fun e w' => e = .returned (.pointer (some ⟨W.heap.size, 0, none⟩)) ∧ Hid (Ph w' W.heap.size 0 0 (-9223372036854775808)) ∧ Hid (Below W.heap.size W w')) := pnew_any
  go_enter Tryz.func20, Tryz.ntmps20
  go_wp2_with (go_at_call 49; with_reducible refine Calls.mono (HN.out _) ?_; rintro e w1 ⟨rfl, HP1, HB1⟩)
  go_ret
  refine ⟨w1.heap.size, w.heap.size, rfl, new_1 w1 _, ?_, bt HB1.out (bel1 _ _), HB1.out.size, Nat.le_refl _⟩
  have hl : w.heap.size < w1.heap.size := (Array.getElem?_eq_some_iff.1 HP1.out).1
  unfold Hid Ph
  rw [(bel1 w1 _).block w.heap.size hl]
  exact HP1.out
theorem rrec_any (k : Nat) (st : Int) (w : World) : Calls Tryz.prog 34 #[.pointer (some ⟨k, 0, none⟩), .int .i64 st] w fun e w' => e = .returned (.pointer (some ⟨w.heap.size, 0, none⟩)) ∧ w' = w.alloc (.cells #[.pointer (some ⟨k, 0, none⟩), .int .i64 st, .bool false] 151) := by
  go_enter Tryz.func34, Tryz.ntmps34
  go_wp2
  go_ret
  exact ⟨rfl, rfl⟩
theorem mid_of_set {k o1 o2 p : Nat} {u1 u2 : Value} {w w' : World} (h : Mid p (p + 1) ((w.setCell ⟨k, o1, none⟩ u1).setCell ⟨k, o2, none⟩ u2) w') : ∃ w1, Mid k (k + 1) w w1 ∧ Mid p (p + 1) w1 w' := ⟨_, (mid_set k o1 _).trans (mid_set k o2 _), h⟩
set_option maxHeartbeats 1000000 in
/-- Turn, where nobody records. -/
theorem turn_any (k p a : Nat) (r0 r1 : Int) (neg : Bool) (n : Nat) (ha : a < 2) (hn : n < 9223372036854775808) (hkp : p ≠ k) (w : World) (h : Sh w k p a r0 r1) (hp : Pq w p neg n) :
    Calls Tryz.prog 85 #[.pointer (some ⟨k, 0, none⟩), .pointer none] w fun e w' => e = .returned (.tuple #[.int .i64 (a : Int), .int .i64 0]) ∧ Hid (Sh w' k p (1 - a) r0 r1) ∧ Hid (Pq w' p (!neg) 0) ∧ Hid (∃ w1, Mid k (k + 1) w w1 ∧ Mid p (p + 1) w1 w') := by
  obtain ⟨o, ho⟩ : ∃ o : Nat, o = 1 - a := ⟨_, rfl⟩
  have e1 : (1 : Int) - (a : Int) = (o : Int) := by omega
  rw [← ho]
  have HS : Hid (∀ _ : Unit, _) := fun _ => wstore_any k 1 _ (o : Int) w h.cells.2.1 (h.fr 1)
  have HPt : Hid (∀ W, _) := point_nil
  have h2 := h.set12 o
  have hp2 : Pq ((w.setCell ⟨k, 1, none⟩ (.int .i64 (o : Int))).setCell ⟨k, 2, none⟩ (.int .i64 (o : Int))) p neg n := by
    cases neg with
    | false => obtain ⟨q, hq⟩ := hp; exact ⟨q, by unfold Ph at *; rw [heap_setCell_other _ _ p _ hkp, heap_setCell_other _ _ p _ hkp]; exact hq⟩
    | true => obtain ⟨q, hq⟩ := hp; exact ⟨q, by unfold Ph at *; rw [heap_setCell_other _ _ p _ hkp, heap_setCell_other _ _ p _ hkp]; exact hq⟩
  have HF : Hid (∀ _ : Unit, _) := fun _ => flip_any p neg n hn _ hp2
  have HQ : Hid (∀ W, Mid p (p + 1) ((w.setCell ⟨k, 1, none⟩ (.int .i64 (o : Int))).setCell ⟨k, 2, none⟩ (.int .i64 (o : Int))) W → Sh W k p o r0 r1 ∧ ∃ w1, Mid k (k + 1) w w1 ∧ Mid p (p + 1) w1 W) := fun W hm => ⟨by
    have hl : k < ((w.setCell ⟨k, 1, none⟩ (.int .i64 (o : Int))).setCell ⟨k, 2, none⟩ (.int .i64 (o : Int))).heap.size := (Array.getElem?_eq_some_iff.1 h2).1
    have hb := hm.block k hl (by omega)
    unfold Sh at *
    rw [hb]; exact h2, mid_of_set hm⟩
  obtain ⟨c0, c1, c2, c3, c4⟩ := h.cells
  have f2 := h.fr 2
  clear h h2 hp hp2 ho
  go_enter Tryz.func85, Tryz.ntmps85
  go_wp2_with (first
    | (go_at_call 93; with_reducible refine Calls.mono (HS.out ()) ?_; rintro e w1 ⟨rfl, rfl⟩)
    | (go_at_call 64; with_reducible refine Calls.mono (HPt.out _) ?_; rintro e w1 ⟨rfl, rfl⟩)
    | (go_at_call 131; with_reducible refine Calls.mono (HF.out ()) ?_; rintro e w2 ⟨rfl, HP2, HM2⟩))
  go_ret2
  exact ⟨rfl, (HQ.out _ HM2.out).1, HP2, (HQ.out _ HM2.out).2⟩
/-- Refused, of a buffer that is there. -/
theorem refused_0 (k p a : Nat) (r0 r1 : Int) (w : World) (h : Sh w k p a r0 r1) :
    Calls Tryz.prog 87 #[.pointer (some ⟨k, 0, none⟩), .pointer none, .int .i64 0] w fun e w' => e = .returned (.int .u64 (IntKind.u64.wrap r0)) ∧ Hid (Sh w' k p a 0 r1) ∧ Hid (Mid k (k + 1) w w') := by
  have HS : Hid (∀ _ : Unit, _) := fun _ => wswap_any k 3 r0 0 w h.cells.2.2.2.1 (h.fr 3)
  have HQ : Hid (Sh (w.setCell ⟨k, 3, none⟩ (.int .i64 0)) k p a 0 r1) := h.set3 0
  clear h
  go_enter Tryz.func87, Tryz.ntmps87
  go_wp2_with (go_at_call 133; with_reducible refine Calls.mono (HS.out ()) ?_; rintro e w1 ⟨rfl, rfl⟩)
  go_ret
  exact ⟨rfl, HQ, mid_set k 3 _⟩
theorem refused_1 (k p a : Nat) (r0 r1 : Int) (w : World) (h : Sh w k p a r0 r1) :
    Calls Tryz.prog 87 #[.pointer (some ⟨k, 0, none⟩), .pointer none, .int .i64 1] w fun e w' => e = .returned (.int .u64 (IntKind.u64.wrap r1)) ∧ Hid (Sh w' k p a r0 0) ∧ Hid (Mid k (k + 1) w w') := by
  have HS : Hid (∀ _ : Unit, _) := fun _ => wswap_any k 4 r1 0 w h.cells.2.2.2.2 (h.fr 4)
  have HQ : Hid (Sh (w.setCell ⟨k, 4, none⟩ (.int .i64 0)) k p a r0 0) := h.set4 0
  clear h
  go_enter Tryz.func87, Tryz.ntmps87
  go_wp2_with (go_at_call 133; with_reducible refine Calls.mono (HS.out ()) ?_; rintro e w1 ⟨rfl, rfl⟩)
  go_ret
  exact ⟨rfl, HQ, mid_set k 4 _⟩
end Go.Proofs.YtfnohbalkpponaaGreatDoor
/- THE RECORDER: a record, whatever lays it. Own work of the verifier. -/
namespace Go.Proofs.YtfnohbalkpponaaGreatDoor
open Go.RowKit

/-- A number that a word may hold. -/
abbrev In64 (x : Int) : Prop := -9223372036854775808 ≤ x ∧ x < 9223372036854775808
/-- What a record answers, where its laying answers er. -/
def answ (er : Int) (may : Bool) : Int := if er = 1 ∧ may = false then 2 else er
/-- The world behind a record's laying: what was refused is counted. -/
def refd (w : World) (k a : Nat) (ra er : Int) : World := if er = 0 then w else w.setCell ⟨k, 3 + a, none⟩ (.int .i64 (wrap64 (ra + 1)))
theorem laid_closed (rc s : Nat) (st b : Int) (may : Bool) (lay : Value) (w : World) (h : Rc w rc s st true) :
    Calls Tryz.prog 140 #[.pointer (some ⟨rc, 0, none⟩), .int .i64 b, .bool may, lay] w fun e w' => e = .returned (.int .i64 8) ∧ w' = w := by
  obtain ⟨c0, c1, c2⟩ := h.cells
  clear h
  go_enter Tryz.func140, Tryz.ntmps140
  go_wp2
  go_ret
  exact ⟨rfl, rfl⟩
set_option maxHeartbeats 1000000 in
theorem laid_add (rc s kt kg kr kn : Nat) (st b er : Int) (may : Bool) (w : World) (h : Rc w rc s st false) (J : World → Prop)
    (HC : Hid (∀ _ : Unit, Calls Tryz.prog 90 #[.int .i64 b, .pointer (some ⟨kt, 0, none⟩), .pointer (some ⟨kg, 0, none⟩), .pointer (some ⟨kr, 0, none⟩), .pointer (some ⟨kn, 0, none⟩)] w fun e w' => e = .returned (.int .i64 er) ∧ Hid (J w'))) :
    Calls Tryz.prog 140 #[.pointer (some ⟨rc, 0, none⟩), .int .i64 b, .bool may, .func (.func 90) #[] #[.pointer (some ⟨kt, 0, none⟩), .pointer (some ⟨kg, 0, none⟩), .pointer (some ⟨kr, 0, none⟩), .pointer (some ⟨kn, 0, none⟩)]] w fun e w' => e = .returned (.int .i64 (answ er may)) ∧ Hid (J w') := by
  obtain ⟨c0, c1, c2⟩ := h.cells
  clear h
  by_cases h1 : er = 1
  · subst h1
    cases may with
    | false =>
      go_enter Tryz.func140, Tryz.ntmps140
      go_wp2_with (go_at_call 90; with_reducible refine Calls.mono (HC.out ()) ?_; rintro e w1 ⟨rfl, HJ⟩)
      go_ret
      exact ⟨rfl, HJ⟩
    | true =>
      go_enter Tryz.func140, Tryz.ntmps140
      go_wp2_with (go_at_call 90; with_reducible refine Calls.mono (HC.out ()) ?_; rintro e w1 ⟨rfl, HJ⟩)
      go_ret
      exact ⟨rfl, HJ⟩
  · have e1 : answ er may = er := if_neg (fun k => h1 k.1)
    rw [e1]
    go_enter Tryz.func140, Tryz.ntmps140
    go_wp2_with (go_at_call 90; with_reducible refine Calls.mono (HC.out ()) ?_; rintro e w1 ⟨rfl, HJ⟩)
    go_ret
    exact ⟨rfl, HJ⟩
theorem refd_Ph {w : World} {k a p : Nat} {ra er s l0 l1 : Int} (h : Ph w p s l0 l1) (hk : p ≠ k) : Ph (refd w k a ra er) p s l0 l1 := by
  unfold refd Ph at *
  split
  · exact h
  · rw [heap_setCell_other _ _ p _ hk]; exact h
theorem sh_ne {w : World} {k p a : Nat} {r0 r1 s l0 l1 : Int} (hS : Sh w k p a r0 r1) (hP : Ph w p s l0 l1) : p ≠ k := fun e => by
  subst e
  unfold Sh at hS; unfold Ph at hP
  rw [hS] at hP
  injection hP with hP
  injection hP with hP
  have := congrArg Array.size hP
  simp at this
theorem sh_cell {w : World} {k p a : Nat} {r0 r1 ra : Int} (h : Sh w k p a r0 r1) (ha : a < 2) (hra : ra = if a = 0 then r0 else r1) : w.cell? ⟨k, 3 + a, none⟩ = some (.int .i64 ra) := by
  obtain ⟨_, _, _, d3, d4⟩ := h.cells
  rcases (show a = 0 ∨ a = 1 by omega) with rfl | rfl
  · rw [if_pos rfl] at hra; subst hra; exact d3
  · rw [if_neg (by decide)] at hra; subst hra; exact d4
set_option maxHeartbeats 2000000 in
/-- A record: it enters, its laying is done in the world behind that, what was refused is counted, it leaves. -/
theorem record_pos (rc k p a : Nat) (r0 r1 ra s l0 l1 st er : Int) (cl may : Bool) (lay : Value) (J : World → Prop) (w : World) (ha : a < 2) (hs0 : 0 ≤ s) (hs1 : s < 9223372036854775807) (hl : In64 l0)
    (hra : ra = if a = 0 then r0 else r1) (hr : In64 ra) (hR : Rc w rc k st cl) (hS : Sh w k p a r0 r1) (hP : Ph w p s l0 l1)
    (HL : Hid (∀ _ : Unit, Calls Tryz.prog 140 #[.pointer (some ⟨rc, 0, none⟩), .int .i64 (a : Int), .bool may, lay] (w.setCell ⟨p, 0, none⟩ (.int .i64 (s + 1))) fun e w' => e = .returned (.int .i64 er) ∧ Hid (Sh w' k p a r0 r1) ∧ Hid (Ph w' p (s + 1) l0 l1) ∧ Hid (J w'))) :
    Calls Tryz.prog 89 #[.pointer (some ⟨rc, 0, none⟩), .pointer none, .bool may, lay] w fun e w' => e = .returned (.int .i64 er) ∧ ∃ w2, Hid (Sh w2 k p a r0 r1) ∧ Hid (Ph w2 p (s + 1) l0 l1) ∧ Hid (J w2) ∧ w' = (refd w2 k a ra er).setCell ⟨p, 1, none⟩ (.int .i64 (wrap64 (l0 + 1))) := by
  have hkp : p ≠ k := sh_ne hS hP
  obtain ⟨c0, c1, c2⟩ := hR.cells
  obtain ⟨d0, _, _, _, _⟩ := hS.cells
  have HE : Hid (∀ _ : Unit, Calls Tryz.prog 138 #[.pointer (some ⟨p, 0, none⟩), .pointer none] w fun e w' => e = .returned (.int .i64 s) ∧ w' = w.setCell ⟨p, 0, none⟩ (.int .i64 (s + 1))) := fun _ => by
    have := enter_any p s l0 l1 (by omega) (by omega) w hP
    rw [show wrap64 (s + 1) = s + 1 by unfold wrap64; omega] at this
    exact this
  have HPt : Hid (∀ W, _) := point_nil
  have hS1 : Sh (w.setCell ⟨p, 0, none⟩ (.int .i64 (s + 1))) k p a r0 r1 := by unfold Sh at *; rw [heap_setCell_other _ _ k _ (Ne.symm hkp)]; exact hS
  obtain ⟨b0, b1, _, _, _⟩ := hS1.cells
  have HA : Hid (∀ _ : Unit, _) := fun _ => wload_any k 1 (a : Int) _ b1
  have HC : Hid (∀ W, Sh W k p a r0 r1 → Calls Tryz.prog 59 #[.pointer (some ⟨k, 3 + a, none⟩), .pointer none, .int .i64 1] W fun e w' => e = .returned (.int .i64 ra) ∧ w' = W.setCell ⟨k, 3 + a, none⟩ (.int .i64 (wrap64 (ra + 1)))) := fun W h => wadd_any k (3 + a) ra 1 W hr.1 hr.2 (sh_cell h ha hra) (h.fr _)
  have HV : Hid (∀ W, Ph W p (s + 1) l0 l1 → _) := fun W h => leave_pos p s (s + 1) l0 l1 .returning (by omega) (by omega) hl.1 hl.2 W h
  have HPp : Hid (∀ W, Ph W p (s + 1) l0 l1 → Ph (refd W k a ra er) p (s + 1) l0 l1) := fun W h => refd_Ph h hkp
  have a0 : (0 : Int) ≤ (a : Int) := by omega
  have a1 : (a : Int) < 2 := by omega
  clear hS1 hR hP hr hra b1
  by_cases he : er = 0
  · subst he
    go_enter_defers Tryz.func89, Tryz.ntmps89
    go_wp2_with (first
      | (go_at_call 138; with_reducible refine Calls.mono (HE.out ()) ?_; rintro e w1 ⟨rfl, rfl⟩)
      | (go_at_call 61; with_reducible refine Calls.mono (HA.out ()) ?_; rintro e w1 ⟨rfl, rfl⟩)
      | (go_at_call 64; with_reducible refine Calls.mono (HPt.out _) ?_; rintro e w1 ⟨rfl, rfl⟩)
      | (go_at_call 140; with_reducible refine Calls.mono (HL.out ()) ?_; rintro e w2 ⟨rfl, HS2, HP2, HJ2⟩))
    refine leaves_cons (f := 139) (args := #[.pointer (some ⟨p, 0, none⟩), .pointer none, .int .i64 s]) (by simp) (by simp [go_sem]) ?_
    refine CallsD.mono (HV.out _ HP2.out) ?_
    rintro e u' w'' ⟨rfl, rfl, rfl⟩
    exact ⟨_, results_tmp rfl _ _ _, rfl, w2, HS2, HP2, HJ2, by rw [refd, if_pos rfl]⟩
  · go_enter_defers Tryz.func89, Tryz.ntmps89
    go_wp2_with (first
      | (go_at_call 138; with_reducible refine Calls.mono (HE.out ()) ?_; rintro e w1 ⟨rfl, rfl⟩)
      | (go_at_call 61; with_reducible refine Calls.mono (HA.out ()) ?_; rintro e w1 ⟨rfl, rfl⟩)
      | (go_at_call 64; with_reducible refine Calls.mono (HPt.out _) ?_; rintro e w1 ⟨rfl, rfl⟩)
      | (go_at_call 140; with_reducible refine Calls.mono (HL.out ()) ?_; rintro e w2 ⟨rfl, HS2, HP2, HJ2⟩)
      | (go_at_call 59; with_reducible refine Calls.mono (HC.out _ HS2.out) ?_; rintro e w3 ⟨rfl, rfl⟩))
    have HP3 := HPp.out _ HP2.out
    rw [refd, if_neg he] at HP3
    refine leaves_cons (f := 139) (args := #[.pointer (some ⟨p, 0, none⟩), .pointer none, .int .i64 s]) (by simp) (by simp [go_sem]) ?_
    refine CallsD.mono (HV.out _ HP3) ?_
    rintro e u' w'' ⟨rfl, rfl, rfl⟩
    exact ⟨_, results_tmp rfl _ _ _, rfl, w2, HS2, HP2, HJ2, by rw [refd, if_neg he]⟩
set_option maxHeartbeats 2000000 in
/-- A record: it enters, its laying is done in the world behind that, what was refused is counted, it leaves. -/
theorem record_neg (rc k p a : Nat) (r0 r1 ra s l0 l1 st er : Int) (cl may : Bool) (lay : Value) (J : World → Prop) (w : World) (ha : a < 2) (hs0 : -9223372036854775808 ≤ s) (hs1 : s < 0) (hl : In64 l1)
    (hra : ra = if a = 0 then r0 else r1) (hr : In64 ra) (hR : Rc w rc k st cl) (hS : Sh w k p a r0 r1) (hP : Ph w p s l0 l1)
    (HL : Hid (∀ _ : Unit, Calls Tryz.prog 140 #[.pointer (some ⟨rc, 0, none⟩), .int .i64 (a : Int), .bool may, lay] (w.setCell ⟨p, 0, none⟩ (.int .i64 (s + 1))) fun e w' => e = .returned (.int .i64 er) ∧ Hid (Sh w' k p a r0 r1) ∧ Hid (Ph w' p (s + 1) l0 l1) ∧ Hid (J w'))) :
    Calls Tryz.prog 89 #[.pointer (some ⟨rc, 0, none⟩), .pointer none, .bool may, lay] w fun e w' => e = .returned (.int .i64 er) ∧ ∃ w2, Hid (Sh w2 k p a r0 r1) ∧ Hid (Ph w2 p (s + 1) l0 l1) ∧ Hid (J w2) ∧ w' = (refd w2 k a ra er).setCell ⟨p, 2, none⟩ (.int .i64 (wrap64 (l1 + 1))) := by
  have hkp : p ≠ k := sh_ne hS hP
  obtain ⟨c0, c1, c2⟩ := hR.cells
  obtain ⟨d0, _, _, _, _⟩ := hS.cells
  have HE : Hid (∀ _ : Unit, Calls Tryz.prog 138 #[.pointer (some ⟨p, 0, none⟩), .pointer none] w fun e w' => e = .returned (.int .i64 s) ∧ w' = w.setCell ⟨p, 0, none⟩ (.int .i64 (s + 1))) := fun _ => by
    have := enter_any p s l0 l1 (by omega) (by omega) w hP
    rw [show wrap64 (s + 1) = s + 1 by unfold wrap64; omega] at this
    exact this
  have HPt : Hid (∀ W, _) := point_nil
  have hS1 : Sh (w.setCell ⟨p, 0, none⟩ (.int .i64 (s + 1))) k p a r0 r1 := by unfold Sh at *; rw [heap_setCell_other _ _ k _ (Ne.symm hkp)]; exact hS
  obtain ⟨b0, b1, _, _, _⟩ := hS1.cells
  have HA : Hid (∀ _ : Unit, _) := fun _ => wload_any k 1 (a : Int) _ b1
  have HC : Hid (∀ W, Sh W k p a r0 r1 → Calls Tryz.prog 59 #[.pointer (some ⟨k, 3 + a, none⟩), .pointer none, .int .i64 1] W fun e w' => e = .returned (.int .i64 ra) ∧ w' = W.setCell ⟨k, 3 + a, none⟩ (.int .i64 (wrap64 (ra + 1)))) := fun W h => wadd_any k (3 + a) ra 1 W hr.1 hr.2 (sh_cell h ha hra) (h.fr _)
  have HV : Hid (∀ W, Ph W p (s + 1) l0 l1 → _) := fun W h => leave_neg p s (s + 1) l0 l1 .returning (by omega) (by omega) hl.1 hl.2 W h
  have HPp : Hid (∀ W, Ph W p (s + 1) l0 l1 → Ph (refd W k a ra er) p (s + 1) l0 l1) := fun W h => refd_Ph h hkp
  have a0 : (0 : Int) ≤ (a : Int) := by omega
  have a1 : (a : Int) < 2 := by omega
  clear hS1 hR hP hr hra b1
  by_cases he : er = 0
  · subst he
    go_enter_defers Tryz.func89, Tryz.ntmps89
    go_wp2_with (first
      | (go_at_call 138; with_reducible refine Calls.mono (HE.out ()) ?_; rintro e w1 ⟨rfl, rfl⟩)
      | (go_at_call 61; with_reducible refine Calls.mono (HA.out ()) ?_; rintro e w1 ⟨rfl, rfl⟩)
      | (go_at_call 64; with_reducible refine Calls.mono (HPt.out _) ?_; rintro e w1 ⟨rfl, rfl⟩)
      | (go_at_call 140; with_reducible refine Calls.mono (HL.out ()) ?_; rintro e w2 ⟨rfl, HS2, HP2, HJ2⟩))
    refine leaves_cons (f := 139) (args := #[.pointer (some ⟨p, 0, none⟩), .pointer none, .int .i64 s]) (by simp) (by simp [go_sem]) ?_
    refine CallsD.mono (HV.out _ HP2.out) ?_
    rintro e u' w'' ⟨rfl, rfl, rfl⟩
    exact ⟨_, results_tmp rfl _ _ _, rfl, w2, HS2, HP2, HJ2, by rw [refd, if_pos rfl]⟩
  · go_enter_defers Tryz.func89, Tryz.ntmps89
    go_wp2_with (first
      | (go_at_call 138; with_reducible refine Calls.mono (HE.out ()) ?_; rintro e w1 ⟨rfl, rfl⟩)
      | (go_at_call 61; with_reducible refine Calls.mono (HA.out ()) ?_; rintro e w1 ⟨rfl, rfl⟩)
      | (go_at_call 64; with_reducible refine Calls.mono (HPt.out _) ?_; rintro e w1 ⟨rfl, rfl⟩)
      | (go_at_call 140; with_reducible refine Calls.mono (HL.out ()) ?_; rintro e w2 ⟨rfl, HS2, HP2, HJ2⟩)
      | (go_at_call 59; with_reducible refine Calls.mono (HC.out _ HS2.out) ?_; rintro e w3 ⟨rfl, rfl⟩))
    have HP3 := HPp.out _ HP2.out
    rw [refd, if_neg he] at HP3
    refine leaves_cons (f := 139) (args := #[.pointer (some ⟨p, 0, none⟩), .pointer none, .int .i64 s]) (by simp) (by simp [go_sem]) ?_
    refine CallsD.mono (HV.out _ HP3) ?_
    rintro e u' w'' ⟨rfl, rfl, rfl⟩
    exact ⟨_, results_tmp rfl _ _ _, rfl, w2, HS2, HP2, HJ2, by rw [refd, if_neg he]⟩
end Go.Proofs.YtfnohbalkpponaaGreatDoor
/- A SLAB WITH ANY CONTENTS; Add. Own work of the verifier. -/
namespace Go.Proofs.YtfnohbalkpponaaGreatDoor
open Go.RowKit

/-- A word as a number without sign. -/
abbrev uw (x : Int) : Int := IntKind.u64.wrap x
theorem uw_eq (x : Int) : uw x = x % 18446744073709551616 := IntKind.wrap_u64 x
theorem in_wrap (x : Int) : In64 (wrap64 x) := by unfold wrap64; constructor <;> omega
/-- What a row's sum becomes. -/
def adW : List Int → Int → List Int
  | lo :: hi :: r, n => wrap64 (lo + n) :: (if 18446744073709551616 ≤ uw lo + n then wrap64 (hi + 1) else hi) :: r
  | l, _ => l
theorem adW_len (l : List Int) (n : Int) : (adW l n).length = l.length := by
  unfold adW; split <;> simp
set_option maxHeartbeats 1000000 in
theorem addSum_any (g cap : Nat) (lo hi n : Int) (rest : List Int) (w : World) (h : RowW w g (lo :: hi :: rest)) (hl : In64 lo) (hh : In64 hi) (hn : 0 ≤ n) (hn1 : n < 9223372036854775808) :
    Calls Tryz.prog 303 #[.pointer none, .slice (some ⟨g, 0, none⟩) (rest.length + 2) cap, .int .i64 n] w fun e w' => e = .returned (.tuple #[]) ∧ Hid (RowW w' g (adW (lo :: hi :: rest) n)) ∧ Hid (Mid g (g + 1) w w') := by
  have HA : Hid (∀ _ : Unit, _) := fun _ => wadd_row g 0 (lo :: hi :: rest) lo n w h (by simp) rfl hl.1 hl.2 (wrap64 (lo + n) :: hi :: rest) rfl
  have HB : Hid (∀ W, RowW W g (wrap64 (lo + n) :: hi :: rest) → _) := fun W hW => wadd_row g 1 (wrap64 (lo + n) :: hi :: rest) hi 1 W hW (by simp) rfl hh.1 hh.2 (wrap64 (lo + n) :: wrap64 (hi + 1) :: rest) rfl
  have hu0 : 0 ≤ uw lo := by rw [uw_eq]; omega
  have hu1 : uw lo < 18446744073709551616 := by rw [uw_eq]; omega
  have hun : IntKind.u64.wrap n = n := by rw [IntKind.wrap_u64]; omega
  have ha := add64_0 (uw lo) n hu0 hn
  have HM : Hid (∀ a b, Mid g (g + 1) w a → Mid g (g + 1) a b → Mid g (g + 1) w b) := fun a b h1 h2 => h1.trans h2
  clear h
  by_cases hc : 18446744073709551616 ≤ uw lo + n
  · have e : adW (lo :: hi :: rest) n = wrap64 (lo + n) :: wrap64 (hi + 1) :: rest := by simp only [adW, if_pos hc]
    rw [e]
    have hd : (uw lo + n) / 18446744073709551616 = 1 := by omega
    rw [hd] at ha
    generalize wrap64 (lo + n) = z at *
    generalize wrap64 (hi + 1) = y at *
    go_enter Tryz.func303, Tryz.ntmps303
    go_wp2_with (first | (go_at_call 59; with_reducible refine (HA.out ()).mono ?_; rintro e w1 ⟨rfl, HR1, HM1⟩) | (go_at_call 59; with_reducible refine (HB.out _ HR1.out).mono ?_; rintro e w2 ⟨rfl, HR2, HM2⟩))
    first | go_end0 | refine bodyPost_ret (results_none rfl _ _ _) rfl ?_
    exact ⟨rfl, HR2, HM.out _ _ HM1.out HM2.out⟩
  · have e : adW (lo :: hi :: rest) n = wrap64 (lo + n) :: hi :: rest := by simp only [adW, if_neg hc]
    rw [e]
    have hd : (uw lo + n) / 18446744073709551616 = 0 := by omega
    rw [hd] at ha
    generalize wrap64 (lo + n) = z at *
    clear HB
    go_enter Tryz.func303, Tryz.ntmps303
    go_wp2_with (go_at_call 59; with_reducible refine (HA.out ()).mono ?_; rintro e w1 ⟨rfl, HR1, HM1⟩)
    first | go_end0 | refine bodyPost_ret (results_none rfl _ _ _) rfl ?_
    exact ⟨rfl, HR1, HM1⟩
/-- A slab with any contents: of each buffer and stripe its words. -/
structure SlG (T : TypeId) (s c : Nat) (h : Nat → Nat) (G : Nat → List Nat) (C : Nat → Nat → List Int) (wd n : Nat) (w : World) : Prop where
  slab : w.cell? ⟨s, 0, none⟩ = some (.iface T (.pointer (some ⟨c, 0, none⟩)))
  held : ∀ b, b < 2 → ∃ cap, w.cell? ⟨c, b, none⟩ = some (.slice (some ⟨h b, 0, none⟩) n cap)
  rows : ∀ b, b < 2 → ∀ i (hi : i < (G b).length), w.cell? ⟨h b, i, none⟩ = some (slc wd (G b)[i])
  len : ∀ b, b < 2 → (G b).length = n
  nd : (G 0 ++ G 1).Nodup
  s_ne : s ∉ G 0 ++ G 1
  c_ne : c ∉ G 0 ++ G 1
  h_ne : ∀ b, b < 2 → h b ∉ G 0 ++ G 1
  left : ∀ b, b < 2 → ∀ i (hi : i < (G b).length), RowW w (G b)[i] (C b i)
  wid : ∀ b, b < 2 → ∀ i, i < n → (C b i).length = wd
theorem SlabAt.gen {T : TypeId} {s c : Nat} {h : Nat → Nat} {G : Nat → List Nat} {X : List Int} {n : Nat} {w : World} (H : SlabAt T s c h G (fun _ => X) n w) : SlG T s c h G (fun _ _ => X) X.length n w :=
  ⟨H.slab, H.held, H.rows, H.len, H.nd, H.s_ne, H.c_ne, H.h_ne, fun b hb _i hi => H.left b hb _ (List.getElem_mem hi), fun _ _ _ _ => rfl⟩
/-- One row holds others now. -/
def upC (C : Nat → Nat → List Int) (b i : Nat) (ys : List Int) : Nat → Nat → List Int := fun b' i' => if b' = b ∧ i' = i then ys else C b' i'
theorem upC_at (C : Nat → Nat → List Int) (b i : Nat) (ys : List Int) : upC C b i ys b i = ys := if_pos ⟨rfl, rfl⟩
theorem upC_ne (C : Nat → Nat → List Int) (b i b' i' : Nat) (ys : List Int) (h : ¬ (b' = b ∧ i' = i)) : upC C b i ys b' i' = C b' i' := if_neg h
/-- Blocks that are no rows of the slab may change. -/
theorem SlG.chg {T : TypeId} {s c : Nat} {h : Nat → Nat} {G : Nat → List Nat} {C : Nat → Nat → List Int} {wd n : Nat} {w w' : World} (H : SlG T s c h G C wd n w) (k : ∀ x, x < w.heap.size → (x = s ∨ x = c ∨ x = h 0 ∨ x = h 1 ∨ x ∈ G 0 ++ G 1) → w'.heap[x]? = w.heap[x]?) : SlG T s c h G C wd n w' := by
  have kc : ∀ (a : Addr) (u : Value), w.cell? a = some u → (a.block = s ∨ a.block = c ∨ a.block = h 0 ∨ a.block = h 1 ∨ a.block ∈ G 0 ++ G 1) → w'.cell? a = some u := fun a u hc ha => (World.cell?_of_block (k a.block (lt_of_cell hc) ha)).trans hc
  refine ⟨kc _ _ H.slab (Or.inl rfl), fun b hb => ?_, fun b hb i hi => ?_, H.len, H.nd, H.s_ne, H.c_ne, H.h_ne, fun b hb i hi => ?_, H.wid⟩
  · obtain ⟨cap, hc⟩ := H.held b hb
    exact ⟨cap, kc _ _ hc (Or.inr (Or.inl rfl))⟩
  · refine kc _ _ (H.rows b hb i hi) ?_
    rcases (show b = 0 ∨ b = 1 by omega) with rfl | rfl
    · exact Or.inr (Or.inr (Or.inl rfl))
    · exact Or.inr (Or.inr (Or.inr (Or.inl rfl)))
  · have hr := H.left b hb i hi
    have := k _ hr.lt (Or.inr (Or.inr (Or.inr (Or.inr (mem_of hb (List.getElem_mem hi))))))
    unfold RowW at *; rw [this]; exact hr
theorem SlG.below {T : TypeId} {s c : Nat} {h : Nat → Nat} {G : Nat → List Nat} {C : Nat → Nat → List Int} {wd n : Nat} {w w' : World} (H : SlG T s c h G C wd n w) (hb : Below w.heap.size w w') : SlG T s c h G C wd n w' := H.chg fun x hx _ => hb.block x hx
theorem SlG.same {T : TypeId} {s c : Nat} {h : Nat → Nat} {G : Nat → List Nat} {C C' : Nat → Nat → List Int} {wd n : Nat} {w : World} (H : SlG T s c h G C wd n w) (hC : ∀ b, b < 2 → ∀ i, i < n → C b i = C' b i) : SlG T s c h G C' wd n w :=
  ⟨H.slab, H.held, H.rows, H.len, H.nd, H.s_ne, H.c_ne, H.h_ne, fun b hb i hi => by rw [← hC b hb i (by rw [← H.len b hb]; exact hi)]; exact H.left b hb i hi, fun b hb i hi => by rw [← hC b hb i hi]; exact H.wid b hb i hi⟩
theorem nd_ne {G : Nat → List Nat} (hnd : (G 0 ++ G 1).Nodup) {b b' i i' : Nat} (hb : b < 2) (hb' : b' < 2) (hi : i < (G b).length) (hi' : i' < (G b').length) (hne : ¬ (b' = b ∧ i' = i)) : (G b')[i'] ≠ (G b)[i] := by
  have hn := List.nodup_append.1 hnd
  by_cases e : b' = b
  · subst e
    have hii : i' ≠ i := fun e2 => hne ⟨rfl, e2⟩
    have hndb : (G b').Nodup := by
      rcases (show b' = 0 ∨ b' = 1 by omega) with rfl | rfl
      · exact hn.1
      · exact hn.2.1
    intro e2
    rcases Nat.lt_or_gt_of_ne hii with hlt | hlt
    · exact List.pairwise_iff_getElem.1 hndb i' i hi' hi hlt e2
    · exact List.pairwise_iff_getElem.1 hndb i i' hi hi' hlt e2.symm
  · rcases (show b = 0 ∨ b = 1 by omega) with rfl | rfl
    · obtain rfl : b' = 1 := by omega
      exact fun e2 => hn.2.2 _ (List.getElem_mem hi) _ (List.getElem_mem hi') e2.symm
    · obtain rfl : b' = 0 := by omega
      exact fun e2 => hn.2.2 _ (List.getElem_mem hi') _ (List.getElem_mem hi) e2
theorem SlG.put {T : TypeId} {s c : Nat} {h : Nat → Nat} {G : Nat → List Nat} {C : Nat → Nat → List Int} {wd n : Nat} {w w' : World} (H : SlG T s c h G C wd n w) {b i : Nat} (hb : b < 2) (hi : i < (G b).length) {ys : List Int} (hy : ys.length = wd) (hr : RowW w' (G b)[i] ys) (hm : Mid (G b)[i] ((G b)[i] + 1) w w') : SlG T s c h G (upC C b i ys) wd n w' := by
  have hg : (G b)[i] ∈ G 0 ++ G 1 := mem_of hb (List.getElem_mem hi)
  have kb : ∀ x, x < w.heap.size → x ≠ (G b)[i] → w'.heap[x]? = w.heap[x]? := fun x hx hne => hm.block x hx (by omega)
  have kc : ∀ (a : Addr) (u : Value), w.cell? a = some u → a.block ≠ (G b)[i] → w'.cell? a = some u := fun a u hc ha => (World.cell?_of_block (kb a.block (lt_of_cell hc) ha)).trans hc
  refine ⟨kc _ _ H.slab (fun e => H.s_ne (by rw [show s = (G b)[i] from e]; exact hg)), fun b' hb' => ?_, fun b' hb' i' hi' => kc _ _ (H.rows b' hb' i' hi') (fun e => H.h_ne b' hb' (by rw [show h b' = (G b)[i] from e]; exact hg)), H.len, H.nd, H.s_ne, H.c_ne, H.h_ne, fun b' hb' i' hi' => ?_, fun b' hb' i' hi' => ?_⟩
  · obtain ⟨cap, hc⟩ := H.held b' hb'
    exact ⟨cap, kc _ _ hc (fun e => H.c_ne (by rw [show c = (G b)[i] from e]; exact hg))⟩
  · by_cases e : b' = b ∧ i' = i
    · obtain ⟨rfl, rfl⟩ := e
      rw [upC_at]; exact hr
    · rw [upC_ne _ _ _ _ _ _ e]
      have hr' := H.left b' hb' i' hi'
      have := kb _ hr'.lt (nd_ne H.nd hb hb' hi hi' e)
      unfold RowW at *; rw [this]; exact hr'
  · by_cases e : b' = b ∧ i' = i
    · obtain ⟨rfl, rfl⟩ := e
      rw [upC_at]; exact hy
    · rw [upC_ne _ _ _ _ _ _ e]; exact H.wid b' hb' i' hi'
set_option maxHeartbeats 1000000 in
theorem row_ok (c h g n cap wd : Nat) (b i : Nat) (hb : b < 2) (hi : i < n) (_hn : n ≤ 16) (w : World) (h0 : w.cell? ⟨c, b, none⟩ = some (.slice (some ⟨h, 0, none⟩) n cap)) (h1 : w.cell? ⟨h, i, none⟩ = some (slc wd g)) :
    Calls Tryz.prog 302 #[.pointer (some ⟨c, 0, none⟩), .int .i64 (b : Int), .int .i64 (i : Int), .bool true] w fun e w' => e = .returned (.tuple #[slc wd g, .int .i64 0]) ∧ w' = w := by
  have HB : Hid (∀ W, _) := isbuf_any b (by omega) (by omega)
  have e1 : ¬ (i : Int) < 0 := by omega
  have e2 : (i : Int) < (n : Int) := by omega
  go_enter Tryz.func302, Tryz.ntmps302
  go_wp2_with (go_at_call 132; refine (HB.out _).mono ?_; rintro e w1 ⟨rfl, rfl⟩)
  go_ret2
  exact ⟨rfl, rfl⟩
set_option maxHeartbeats 1000000 in
theorem row_range (c h n cap : Nat) (b i : Nat) (hb : b < 2) (hi : i < n) (_hn : n ≤ 16) (w : World) (h0 : w.cell? ⟨c, b, none⟩ = some (.slice (some ⟨h, 0, none⟩) n cap)) :
    Calls Tryz.prog 302 #[.pointer (some ⟨c, 0, none⟩), .int .i64 (b : Int), .int .i64 (i : Int), .bool false] w fun e w' => e = .returned (.tuple #[.slice none 0 0, .int .i64 2]) ∧ w' = w := by
  have HB : Hid (∀ W, _) := isbuf_any b (by omega) (by omega)
  have e1 : ¬ (i : Int) < 0 := by omega
  have e2 : (i : Int) < (n : Int) := by omega
  go_enter Tryz.func302, Tryz.ntmps302
  go_wp2_with (go_at_call 132; refine (HB.out _).mono ?_; rintro e w1 ⟨rfl, rfl⟩)
  go_ret2
  exact ⟨rfl, rfl⟩
set_option maxHeartbeats 1000000 in
theorem row_arg (c h n cap : Nat) (b : Nat) (i : Int) (hb : b < 2) (hi : i < 0 ∨ (n : Int) ≤ i) (_hn : n ≤ 16) (m : Bool) (w : World) (h0 : w.cell? ⟨c, b, none⟩ = some (.slice (some ⟨h, 0, none⟩) n cap)) :
    Calls Tryz.prog 302 #[.pointer (some ⟨c, 0, none⟩), .int .i64 (b : Int), .int .i64 i, .bool m] w fun e w' => e = .returned (.tuple #[.slice none 0 0, .int .i64 1]) ∧ w' = w := by
  have HB : Hid (∀ W, _) := isbuf_any b (by omega) (by omega)
  by_cases e1 : i < 0
  · clear hi
    go_enter Tryz.func302, Tryz.ntmps302
    go_wp2_with (go_at_call 132; refine (HB.out _).mono ?_; rintro e w1 ⟨rfl, rfl⟩)
    go_ret2
    exact ⟨rfl, rfl⟩
  · have e2 : ¬ i < (n : Int) := by omega
    clear hi
    go_enter Tryz.func302, Tryz.ntmps302
    go_wp2_with (go_at_call 132; refine (HB.out _).mono ?_; rintro e w1 ⟨rfl, rfl⟩)
    go_ret2
    exact ⟨rfl, rfl⟩
end Go.Proofs.YtfnohbalkpponaaGreatDoor
