/- THE RECORDER: a record, whatever lays it. Own work of the verifier. -/
import Derived.Test.YtpllckgpolhafaaGreatDoorUE
import Derived.Deep.RegionHeld3
namespace Go.Proofs.YtpllckgpolhafaaGreatDoor
open Go.RowKit

/-- A number that a word may hold. -/
abbrev In64 (x : Int) : Prop := -9223372036854775808 ≤ x ∧ x < 9223372036854775808
/-- What a record answers, where its laying answers er. -/
def answ (er : Int) (may : Bool) : Int := if er = 1 ∧ may = false then 2 else er
/-- The world behind a record's laying: what was refused is counted. -/
def refd (w : World) (k a : Nat) (ra er : Int) : World := if er = 0 then w else w.setCell ⟨k, 3 + a, none⟩ (.int .i64 (wrap64 (ra + 1)))
theorem laid_closed (rc s : Nat) (st b : Int) (may : Bool) (lay : Value) (w : World) (h : Rc w rc s st true) :
    Calls Tryz.prog 55 #[.pointer (some ⟨rc, 0, none⟩), .int .i64 b, .bool may, lay] w fun e w' => e = .returned (.int .i64 8) ∧ w' = w := by
  obtain ⟨c0, c1, c2⟩ := h.cells
  clear h
  go_enter Tryz.func55, Tryz.ntmps55
  go_wp2
  go_ret
  exact ⟨rfl, rfl⟩
set_option maxHeartbeats 1000000 in
theorem laid_add (rc s kt kg kr kn : Nat) (st b er : Int) (may : Bool) (w : World) (h : Rc w rc s st false) (J : World → Prop)
    (HC : Hid (∀ _ : Unit, Calls Tryz.prog 32 #[.int .i64 b, .pointer (some ⟨kt, 0, none⟩), .pointer (some ⟨kg, 0, none⟩), .pointer (some ⟨kr, 0, none⟩), .pointer (some ⟨kn, 0, none⟩)] w fun e w' => e = .returned (.int .i64 er) ∧ Hid (J w'))) :
    Calls Tryz.prog 55 #[.pointer (some ⟨rc, 0, none⟩), .int .i64 b, .bool may, .func (.func 32) #[] #[.pointer (some ⟨kt, 0, none⟩), .pointer (some ⟨kg, 0, none⟩), .pointer (some ⟨kr, 0, none⟩), .pointer (some ⟨kn, 0, none⟩)]] w fun e w' => e = .returned (.int .i64 (answ er may)) ∧ Hid (J w') := by
  obtain ⟨c0, c1, c2⟩ := h.cells
  clear h
  by_cases h1 : er = 1
  · subst h1
    cases may with
    | false =>
      go_enter Tryz.func55, Tryz.ntmps55
      go_wp2_with (go_at_call 32; with_reducible refine Calls.mono (HC.out ()) ?_; rintro e w1 ⟨rfl, HJ⟩)
      go_ret
      exact ⟨rfl, HJ⟩
    | true =>
      go_enter Tryz.func55, Tryz.ntmps55
      go_wp2_with (go_at_call 32; with_reducible refine Calls.mono (HC.out ()) ?_; rintro e w1 ⟨rfl, HJ⟩)
      go_ret
      exact ⟨rfl, HJ⟩
  · have e1 : answ er may = er := if_neg (fun k => h1 k.1)
    rw [e1]
    go_enter Tryz.func55, Tryz.ntmps55
    go_wp2_with (go_at_call 32; with_reducible refine Calls.mono (HC.out ()) ?_; rintro e w1 ⟨rfl, HJ⟩)
    go_ret
    exact ⟨rfl, HJ⟩
theorem refd_Ph {w : World} {k a p : Nat} {ra er s l0 l1 : Int} (h : Ph w p s l0 l1) (hk : p ≠ k) : Ph (refd w k a ra er) p s l0 l1 := by
  unfold refd Ph at *
  split
  · exact h
  · rw [heap_setCell_other _ _ p _ hk]; exact h
theorem sh_ne {w : World} {k p a : Nat} {r0 r1 s l0 l1 : Int} (hS : Sh w k p a r0 r1) (hP : Ph w p s l0 l1) : p ≠ k := fun e => by
  subst e
  unfold Sh at hS; unfold Ph at hP
  rw [hS] at hP
  injection hP with hP
  injection hP with hP
  have := congrArg Array.size hP
  simp at this
theorem sh_cell {w : World} {k p a : Nat} {r0 r1 ra : Int} (h : Sh w k p a r0 r1) (ha : a < 2) (hra : ra = if a = 0 then r0 else r1) : w.cell? ⟨k, 3 + a, none⟩ = some (.int .i64 ra) := by
  obtain ⟨_, _, _, d3, d4⟩ := h.cells
  rcases (show a = 0 ∨ a = 1 by omega) with rfl | rfl
  · rw [if_pos rfl] at hra; subst hra; exact d3
  · rw [if_neg (by decide)] at hra; subst hra; exact d4
set_option maxHeartbeats 2000000 in
/-- A record: it enters, its laying is done in the world behind that, what was refused is counted, it leaves. -/
theorem record_pos (rc k p a : Nat) (r0 r1 ra s l0 l1 st er : Int) (cl may : Bool) (lay : Value) (J : World → Prop) (w : World) (ha : a < 2) (hs0 : 0 ≤ s) (hs1 : s < 9223372036854775807) (hl : In64 l0)
    (hra : ra = if a = 0 then r0 else r1) (hr : In64 ra) (hR : Rc w rc k st cl) (hS : Sh w k p a r0 r1) (hP : Ph w p s l0 l1)
    (HL : Hid (∀ _ : Unit, Calls Tryz.prog 55 #[.pointer (some ⟨rc, 0, none⟩), .int .i64 (a : Int), .bool may, lay] (w.setCell ⟨p, 0, none⟩ (.int .i64 (s + 1))) fun e w' => e = .returned (.int .i64 er) ∧ Hid (Sh w' k p a r0 r1) ∧ Hid (Ph w' p (s + 1) l0 l1) ∧ Hid (J w'))) :
    Calls Tryz.prog 31 #[.pointer (some ⟨rc, 0, none⟩), .pointer none, .bool may, lay] w fun e w' => e = .returned (.int .i64 er) ∧ ∃ w2, Hid (Sh w2 k p a r0 r1) ∧ Hid (Ph w2 p (s + 1) l0 l1) ∧ Hid (J w2) ∧ w' = (refd w2 k a ra er).setCell ⟨p, 1, none⟩ (.int .i64 (wrap64 (l0 + 1))) := by
  have hkp : p ≠ k := sh_ne hS hP
  obtain ⟨c0, c1, c2⟩ := hR.cells
  obtain ⟨d0, _, _, _, _⟩ := hS.cells
  have HE : Hid (∀ _ : Unit, Calls Tryz.prog 52 #[.pointer (some ⟨p, 0, none⟩), .pointer none] w fun e w' => e = .returned (.int .i64 s) ∧ w' = w.setCell ⟨p, 0, none⟩ (.int .i64 (s + 1))) := fun _ => by
    have := enter_any p s l0 l1 (by omega) (by omega) w hP
    rw [show wrap64 (s + 1) = s + 1 by unfold wrap64; omega] at this
    exact this
  have HPt : Hid (∀ W, _) := point_nil
  have hS1 : Sh (w.setCell ⟨p, 0, none⟩ (.int .i64 (s + 1))) k p a r0 r1 := by unfold Sh at *; rw [heap_setCell_other _ _ k _ (Ne.symm hkp)]; exact hS
  obtain ⟨b0, b1, _, _, _⟩ := hS1.cells
  have HA : Hid (∀ _ : Unit, _) := fun _ => wload_any k 1 (a : Int) _ b1
  have HC : Hid (∀ W, Sh W k p a r0 r1 → Calls Tryz.prog 56 #[.pointer (some ⟨k, 3 + a, none⟩), .pointer none, .int .i64 1] W fun e w' => e = .returned (.int .i64 ra) ∧ w' = W.setCell ⟨k, 3 + a, none⟩ (.int .i64 (wrap64 (ra + 1)))) := fun W h => wadd_any k (3 + a) ra 1 W hr.1 hr.2 (sh_cell h ha hra) (h.fr _)
  have HV : Hid (∀ W, Ph W p (s + 1) l0 l1 → _) := fun W h => leave_pos p s (s + 1) l0 l1 .returning (by omega) (by omega) hl.1 hl.2 W h
  have HPp : Hid (∀ W, Ph W p (s + 1) l0 l1 → Ph (refd W k a ra er) p (s + 1) l0 l1) := fun W h => refd_Ph h hkp
  have a0 : (0 : Int) ≤ (a : Int) := by omega
  have a1 : (a : Int) < 2 := by omega
  clear hS1 hR hP hr hra b1
  by_cases he : er = 0
  · subst he
    go_enter_defers Tryz.func31, Tryz.ntmps31
    go_wp2_with (first
      | (go_at_call 52; with_reducible refine Calls.mono (HE.out ()) ?_; rintro e w1 ⟨rfl, rfl⟩)
      | (go_at_call 54; with_reducible refine Calls.mono (HA.out ()) ?_; rintro e w1 ⟨rfl, rfl⟩)
      | (go_at_call 35; with_reducible refine Calls.mono (HPt.out _) ?_; rintro e w1 ⟨rfl, rfl⟩)
      | (go_at_call 55; with_reducible refine Calls.mono (HL.out ()) ?_; rintro e w2 ⟨rfl, HS2, HP2, HJ2⟩))
    refine leaves_cons (f := 53) (args := #[.pointer (some ⟨p, 0, none⟩), .pointer none, .int .i64 s]) (by simp) (by simp [go_sem]) ?_
    refine CallsD.mono (HV.out _ HP2.out) ?_
    rintro e u' w'' ⟨rfl, rfl, rfl⟩
    exact ⟨_, results_tmp rfl _ _ _, rfl, w2, HS2, HP2, HJ2, by rw [refd, if_pos rfl]⟩
  · go_enter_defers Tryz.func31, Tryz.ntmps31
    go_wp2_with (first
      | (go_at_call 52; with_reducible refine Calls.mono (HE.out ()) ?_; rintro e w1 ⟨rfl, rfl⟩)
      | (go_at_call 54; with_reducible refine Calls.mono (HA.out ()) ?_; rintro e w1 ⟨rfl, rfl⟩)
      | (go_at_call 35; with_reducible refine Calls.mono (HPt.out _) ?_; rintro e w1 ⟨rfl, rfl⟩)
      | (go_at_call 55; with_reducible refine Calls.mono (HL.out ()) ?_; rintro e w2 ⟨rfl, HS2, HP2, HJ2⟩)
      | (go_at_call 56; with_reducible refine Calls.mono (HC.out _ HS2.out) ?_; rintro e w3 ⟨rfl, rfl⟩))
    have HP3 := HPp.out _ HP2.out
    rw [refd, if_neg he] at HP3
    refine leaves_cons (f := 53) (args := #[.pointer (some ⟨p, 0, none⟩), .pointer none, .int .i64 s]) (by simp) (by simp [go_sem]) ?_
    refine CallsD.mono (HV.out _ HP3) ?_
    rintro e u' w'' ⟨rfl, rfl, rfl⟩
    exact ⟨_, results_tmp rfl _ _ _, rfl, w2, HS2, HP2, HJ2, by rw [refd, if_neg he]⟩
set_option maxHeartbeats 2000000 in
/-- A record: it enters, its laying is done in the world behind that, what was refused is counted, it leaves. -/
theorem record_neg (rc k p a : Nat) (r0 r1 ra s l0 l1 st er : Int) (cl may : Bool) (lay : Value) (J : World → Prop) (w : World) (ha : a < 2) (hs0 : -9223372036854775808 ≤ s) (hs1 : s < 0) (hl : In64 l1)
    (hra : ra = if a = 0 then r0 else r1) (hr : In64 ra) (hR : Rc w rc k st cl) (hS : Sh w k p a r0 r1) (hP : Ph w p s l0 l1)
    (HL : Hid (∀ _ : Unit, Calls Tryz.prog 55 #[.pointer (some ⟨rc, 0, none⟩), .int .i64 (a : Int), .bool may, lay] (w.setCell ⟨p, 0, none⟩ (.int .i64 (s + 1))) fun e w' => e = .returned (.int .i64 er) ∧ Hid (Sh w' k p a r0 r1) ∧ Hid (Ph w' p (s + 1) l0 l1) ∧ Hid (J w'))) :
    Calls Tryz.prog 31 #[.pointer (some ⟨rc, 0, none⟩), .pointer none, .bool may, lay] w fun e w' => e = .returned (.int .i64 er) ∧ ∃ w2, Hid (Sh w2 k p a r0 r1) ∧ Hid (Ph w2 p (s + 1) l0 l1) ∧ Hid (J w2) ∧ w' = (refd w2 k a ra er).setCell ⟨p, 2, none⟩ (.int .i64 (wrap64 (l1 + 1))) := by
  have hkp : p ≠ k := sh_ne hS hP
  obtain ⟨c0, c1, c2⟩ := hR.cells
  obtain ⟨d0, _, _, _, _⟩ := hS.cells
  have HE : Hid (∀ _ : Unit, Calls Tryz.prog 52 #[.pointer (some ⟨p, 0, none⟩), .pointer none] w fun e w' => e = .returned (.int .i64 s) ∧ w' = w.setCell ⟨p, 0, none⟩ (.int .i64 (s + 1))) := fun _ => by
    have := enter_any p s l0 l1 (by omega) (by omega) w hP
    rw [show wrap64 (s + 1) = s + 1 by unfold wrap64; omega] at this
    exact this
  have HPt : Hid (∀ W, _) := point_nil
  have hS1 : Sh (w.setCell ⟨p, 0, none⟩ (.int .i64 (s + 1))) k p a r0 r1 := by unfold Sh at *; rw [heap_setCell_other _ _ k _ (Ne.symm hkp)]; exact hS
  obtain ⟨b0, b1, _, _, _⟩ := hS1.cells
  have HA : Hid (∀ _ : Unit, _) := fun _ => wload_any k 1 (a : Int) _ b1
  have HC : Hid (∀ W, Sh W k p a r0 r1 → Calls Tryz.prog 56 #[.pointer (some ⟨k, 3 + a, none⟩), .pointer none, .int .i64 1] W fun e w' => e = .returned (.int .i64 ra) ∧ w' = W.setCell ⟨k, 3 + a, none⟩ (.int .i64 (wrap64 (ra + 1)))) := fun W h => wadd_any k (3 + a) ra 1 W hr.1 hr.2 (sh_cell h ha hra) (h.fr _)
  have HV : Hid (∀ W, Ph W p (s + 1) l0 l1 → _) := fun W h => leave_neg p s (s + 1) l0 l1 .returning (by omega) (by omega) hl.1 hl.2 W h
  have HPp : Hid (∀ W, Ph W p (s + 1) l0 l1 → Ph (refd W k a ra er) p (s + 1) l0 l1) := fun W h => refd_Ph h hkp
  have a0 : (0 : Int) ≤ (a : Int) := by omega
  have a1 : (a : Int) < 2 := by omega
  clear hS1 hR hP hr hra b1
  by_cases he : er = 0
  · subst he
    go_enter_defers Tryz.func31, Tryz.ntmps31
    go_wp2_with (first
      | (go_at_call 52; with_reducible refine Calls.mono (HE.out ()) ?_; rintro e w1 ⟨rfl, rfl⟩)
      | (go_at_call 54; with_reducible refine Calls.mono (HA.out ()) ?_; rintro e w1 ⟨rfl, rfl⟩)
      | (go_at_call 35; with_reducible refine Calls.mono (HPt.out _) ?_; rintro e w1 ⟨rfl, rfl⟩)
      | (go_at_call 55; with_reducible refine Calls.mono (HL.out ()) ?_; rintro e w2 ⟨rfl, HS2, HP2, HJ2⟩))
    refine leaves_cons (f := 53) (args := #[.pointer (some ⟨p, 0, none⟩), .pointer none, .int .i64 s]) (by simp) (by simp [go_sem]) ?_
    refine CallsD.mono (HV.out _ HP2.out) ?_
    rintro e u' w'' ⟨rfl, rfl, rfl⟩
    exact ⟨_, results_tmp rfl _ _ _, rfl, w2, HS2, HP2, HJ2, by rw [refd, if_pos rfl]⟩
  · go_enter_defers Tryz.func31, Tryz.ntmps31
    go_wp2_with (first
      | (go_at_call 52; with_reducible refine Calls.mono (HE.out ()) ?_; rintro e w1 ⟨rfl, rfl⟩)
      | (go_at_call 54; with_reducible refine Calls.mono (HA.out ()) ?_; rintro e w1 ⟨rfl, rfl⟩)
      | (go_at_call 35; with_reducible refine Calls.mono (HPt.out _) ?_; rintro e w1 ⟨rfl, rfl⟩)
      | (go_at_call 55; with_reducible refine Calls.mono (HL.out ()) ?_; rintro e w2 ⟨rfl, HS2, HP2, HJ2⟩)
      | (go_at_call 56; with_reducible refine Calls.mono (HC.out _ HS2.out) ?_; rintro e w3 ⟨rfl, rfl⟩))
    have HP3 := HPp.out _ HP2.out
    rw [refd, if_neg he] at HP3
    refine leaves_cons (f := 53) (args := #[.pointer (some ⟨p, 0, none⟩), .pointer none, .int .i64 s]) (by simp) (by simp [go_sem]) ?_
    refine CallsD.mono (HV.out _ HP3) ?_
    rintro e u' w'' ⟨rfl, rfl, rfl⟩
    exact ⟨_, results_tmp rfl _ _ _, rfl, w2, HS2, HP2, HJ2, by rw [refd, if_neg he]⟩
end Go.Proofs.YtpllckgpolhafaaGreatDoor
