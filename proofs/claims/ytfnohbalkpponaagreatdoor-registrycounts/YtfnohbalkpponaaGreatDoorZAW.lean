/- New, where it is refused; Kind; Add; the calls whose answers the document fixes. Own work of the verifier. -/
import Derived.Test.YtfnohbalkpponaaGreatDoorZAV
import Derived.Test.YtfnohbalkpponaaGreatDoorZAS
import Derived.Defers
import Derived.TacticsInMore
import Derived.Deep.RegionHeld3
namespace Go.Proofs.YtfnohbalkpponaaGreatDoor
open Go.RowKit

end Go.Proofs.YtfnohbalkpponaaGreatDoor
/- The calls whose answers the document fixes. Own work of the verifier. -/
namespace Go.Proofs.YtfnohbalkpponaaGreatDoor
open Go.RowKit

theorem sn_form {w : World} {v : Value} {L : List Cn} (h : SN w v L) : ∃ ao n cap, v = .slice ao n cap := by
  rcases h with ⟨rfl, _⟩ | ⟨b, o, cap, rfl, _⟩
  · exact ⟨_, _, _, rfl⟩
  · exact ⟨_, _, _, rfl⟩
end Go.Proofs.YtfnohbalkpponaaGreatDoor
/- WORDS AND THE PHASER, without a gate. Own work of the verifier. -/
namespace Go.Proofs.YtfnohbalkpponaaGreatDoor
open Go.RowKit

theorem load_run (w : World) (a : Addr) (x : Int) (hc : w.cell? a = some (.int .i64 x)) :
    (callFunc 152 #[.pointer (some a)]).run Tryz.prog w = .ok (.value (.int .i64 x)) w :=
  run_call_load Tryz.func152 (by kernel_rfl) (by kernel_rfl) (by kernel_rfl) .i64 (by kernel_rfl) hc
theorem store_run (w : World) (a : Addr) (u : Value) (y : Int) (hc : w.cell? a = some u) (hz : w.frozen? a = false) :
    (callFunc 203 #[.pointer (some a), .int .i64 y]).run Tryz.prog w = .ok (.value (.tuple #[])) (w.setCell a (.int .i64 y)) :=
  run_call_store Tryz.func203 (by kernel_rfl) (by kernel_rfl) (by kernel_rfl) (by kernel_rfl) hc hz
theorem aload_any (b o : Nat) (x : Int) (w : World) (hc : w.cell? ⟨b, o, none⟩ = some (.int .i64 x)) :
    Calls Tryz.prog 106 #[.pointer (some ⟨b, o, none⟩)] w fun e w' => e = .returned (.int .i64 x) ∧ w' = w := by
  have hs := load_run w ⟨b, o, none⟩ x hc
  go_enter Tryz.func106, Tryz.ntmps106
  go_wp2
  go_ret
  exact ⟨rfl, rfl⟩
theorem astore_any (b o : Nat) (u : Value) (y : Int) (w : World) (hc : w.cell? ⟨b, o, none⟩ = some u) (hz : w.frozen? ⟨b, o, none⟩ = false) :
    Calls Tryz.prog 141 #[.pointer (some ⟨b, o, none⟩), .int .i64 y] w fun e w' => e = .returned (.tuple #[]) ∧ w' = w.setCell ⟨b, o, none⟩ (.int .i64 y) := by
  have hs := store_run w ⟨b, o, none⟩ u y hc hz
  go_enter Tryz.func141, Tryz.ntmps141
  go_wp2
  first | go_end0 | refine bodyPost_ret (results_none rfl _ _ _) rfl ?_
  exact ⟨rfl, rfl⟩
theorem wload_any (b o : Nat) (x : Int) (w : World) (hc : w.cell? ⟨b, o, none⟩ = some (.int .i64 x)) :
    Calls Tryz.prog 61 #[.pointer (some ⟨b, o, none⟩), .pointer none] w fun e w' => e = .returned (.int .i64 x) ∧ w' = w := by
  have HS : Hid (∀ W, _) := step_nil
  have HA : Hid (∀ _ : Unit, _) := fun _ => aload_any b o x w hc
  go_enter Tryz.func61, Tryz.ntmps61
  go_wp2_with (first
    | (go_at_call 105; refine (HS.out _).mono ?_; rintro e w ⟨rfl, rfl⟩)
    | (go_at_call 106; refine (HA.out ()).mono ?_; rintro e w ⟨rfl, rfl⟩))
  go_ret
  exact ⟨rfl, rfl⟩
theorem wstore_any (b o : Nat) (u : Value) (y : Int) (w : World) (hc : w.cell? ⟨b, o, none⟩ = some u) (hz : w.frozen? ⟨b, o, none⟩ = false) :
    Calls Tryz.prog 93 #[.pointer (some ⟨b, o, none⟩), .pointer none, .int .i64 y] w fun e w' => e = .returned (.tuple #[]) ∧ w' = w.setCell ⟨b, o, none⟩ (.int .i64 y) := by
  have HS : Hid (∀ W, _) := step_nil
  have HA : Hid (∀ _ : Unit, _) := fun _ => astore_any b o u y w hc hz
  go_enter Tryz.func93, Tryz.ntmps93
  go_wp2_with (first
    | (go_at_call 105; refine (HS.out _).mono ?_; rintro e w ⟨rfl, rfl⟩)
    | (go_at_call 141; refine (HA.out ()).mono ?_; rintro e w ⟨rfl, rfl⟩))
  first | go_end0 | refine bodyPost_ret (results_none rfl _ _ _) rfl ?_
  exact ⟨rfl, rfl⟩
theorem point_nil (w : World) : Calls Tryz.prog 64 #[.pointer none] w fun e w' => e = .returned (.tuple #[]) ∧ w' = w := by
  go_enter Tryz.func64, Tryz.ntmps64
  go_wp2
  first | go_end0 | refine bodyPost_ret (results_none rfl _ _ _) rfl ?_
  exact ⟨rfl, rfl⟩
/-- A phaser in memory. -/
def Ph (w : World) (p : Nat) (s l0 l1 : Int) : Prop := w.heap[p]? = some (.cells #[.int .i64 s, .int .i64 l0, .int .i64 l1] 201 (0, 0))
theorem Ph.cells {w : World} {p : Nat} {s l0 l1 : Int} (h : Ph w p s l0 l1) : w.cell? ⟨p, 0, none⟩ = some (.int .i64 s) ∧ w.cell? ⟨p, 1, none⟩ = some (.int .i64 l0) ∧ w.cell? ⟨p, 2, none⟩ = some (.int .i64 l1) := by
  unfold Ph at h; simp [World.cell?, h]
theorem Ph.fr {w : World} {p : Nat} {s l0 l1 : Int} (h : Ph w p s l0 l1) (o : Nat) : w.frozen? ⟨p, o, none⟩ = false := by
  unfold Ph at h; simp [World.frozen?, h]
theorem Ph.set0 {w : World} {p : Nat} {s l0 l1 : Int} (h : Ph w p s l0 l1) (x : Int) : Ph (w.setCell ⟨p, 0, none⟩ (.int .i64 x)) p x l0 l1 := by
  unfold Ph at *; rw [heap_setCell_same w p 0 _ _ _ h]; rfl
theorem Ph.set1 {w : World} {p : Nat} {s l0 l1 : Int} (h : Ph w p s l0 l1) (x : Int) : Ph (w.setCell ⟨p, 1, none⟩ (.int .i64 x)) p s x l1 := by
  unfold Ph at *; rw [heap_setCell_same w p 1 _ _ _ h]; rfl
theorem Ph.set2 {w : World} {p : Nat} {s l0 l1 : Int} (h : Ph w p s l0 l1) (x : Int) : Ph (w.setCell ⟨p, 2, none⟩ (.int .i64 x)) p s l0 x := by
  unfold Ph at *; rw [heap_setCell_same w p 2 _ _ _ h]; rfl
theorem of_pos (p : Nat) (x : Int) (h0 : 0 ≤ x) (h1 : x < 9223372036854775808) (w : World) :
    Calls Tryz.prog 92 #[.pointer (some ⟨p, 0, none⟩), .int .i64 x] w fun e w' => e = .returned (.pointer (some ⟨p, 1, none⟩)) ∧ w' = w := by
  have hw : IntKind.u64.wrap x = x := by show x % 18446744073709551616 = x; omega
  have hq : x / 9223372036854775808 = 0 := by omega
  go_enter Tryz.func92, Tryz.ntmps92
  go_wp2
  go_ret
  exact ⟨rfl, rfl⟩
theorem of_neg (p : Nat) (x : Int) (h0 : -9223372036854775808 ≤ x) (h1 : x < 0) (w : World) :
    Calls Tryz.prog 92 #[.pointer (some ⟨p, 0, none⟩), .int .i64 x] w fun e w' => e = .returned (.pointer (some ⟨p, 2, none⟩)) ∧ w' = w := by
  have hw : IntKind.u64.wrap x = x + 18446744073709551616 := by show x % 18446744073709551616 = _; omega
  have hq : (x + 18446744073709551616) / 9223372036854775808 = 1 := by omega
  go_enter Tryz.func92, Tryz.ntmps92
  go_wp2
  go_ret
  exact ⟨rfl, rfl⟩
end Go.Proofs.YtfnohbalkpponaaGreatDoor
/- THE PHASER: New, Enter, Leave, Flip, of one alone. Own work of the verifier. -/
namespace Go.Proofs.YtfnohbalkpponaaGreatDoor
open Go.RowKit

theorem pnew_any (w : World) : Calls Tryz.prog 49 #[] w fun e w' => e = .returned (.pointer (some ⟨w.heap.size, 0, none⟩)) ∧ Ph w' w.heap.size 0 0 (-9223372036854775808) ∧ Below w.heap.size w w' := by
  have HO : Hid (∀ W, Calls Tryz.prog 92 #[.pointer (some ⟨w.heap.size, 0, none⟩), .int .i64 (-9223372036854775808)] W fun e w' => e = .returned (.pointer (some ⟨w.heap.size, 2, none⟩)) ∧ w' = W) := fun W => of_neg _ _ (by decide) (by decide) W
  have HN : Ph (w.alloc (.cells #[.int .i64 0, .int .i64 0, .int .i64 0] 201)) w.heap.size 0 0 0 := new_1 w _
  have HS : Hid (∀ _ : Unit, _) := fun _ => wstore_any w.heap.size 2 (.int .i64 0) (-9223372036854775808) _ HN.cells.2.2 (HN.fr 2)
  have HP : Hid (Ph (w.alloc (.cells #[.int .i64 0, .int .i64 0, .int .i64 (-9223372036854775808)] 201)) w.heap.size 0 0 (-9223372036854775808)) := new_1 w _
  clear HN
  go_enter Tryz.func49, Tryz.ntmps49
  go_wp2_with (first | (go_at_call 92; with_reducible refine Calls.mono (HO.out _) ?_; rintro e w1 ⟨rfl, rfl⟩) | (go_at_call 93; with_reducible refine Calls.mono (HS.out ()) ?_; rintro e w1 ⟨rfl, rfl⟩))
  go_ret
  exact ⟨rfl, HP.out, bel1 _ _⟩
theorem enter_any (p : Nat) (s l0 l1 : Int) (h0 : -9223372036854775808 ≤ s) (h1 : s < 9223372036854775808) (w : World) (h : Ph w p s l0 l1) :
    Calls Tryz.prog 138 #[.pointer (some ⟨p, 0, none⟩), .pointer none] w fun e w' => e = .returned (.int .i64 s) ∧ w' = w.setCell ⟨p, 0, none⟩ (.int .i64 (wrap64 (s + 1))) := by
  have HA : Hid (∀ _ : Unit, _) := fun _ => wadd_any p 0 s 1 w h0 h1 h.cells.1 (h.fr 0)
  clear h
  go_enter Tryz.func138, Tryz.ntmps138
  go_wp2_with (go_at_call 59; with_reducible refine Calls.mono (HA.out ()) ?_; rintro e w1 ⟨rfl, rfl⟩)
  go_ret
  exact ⟨rfl, rfl⟩
/-- Leave, as a deferred call: in the first phase. -/
theorem leave_pos (p : Nat) (x s l0 l1 : Int) (u : FrameMode) (h0 : 0 ≤ x) (h1 : x < 9223372036854775808) (k0 : -9223372036854775808 ≤ l0) (k1 : l0 < 9223372036854775808) (w : World) (h : Ph w p s l0 l1) :
    CallsD Tryz.prog 139 #[.pointer (some ⟨p, 0, none⟩), .pointer none, .int .i64 x] u w fun e u' w' => u' = u ∧ (e = .returned (.tuple #[]) ∧ w' = w.setCell ⟨p, 1, none⟩ (.int .i64 (wrap64 (l0 + 1)))) := by
  have HO : Hid (∀ W, _) := of_pos p x h0 h1
  have HA : Hid (∀ _ : Unit, _) := fun _ => wadd_any p 1 l0 1 w k0 k1 h.cells.2.1 (h.fr 1)
  clear h
  go_enter_d Tryz.func139, Tryz.ntmps139
  go_wp2_with (first | (go_at_call 92; with_reducible refine Calls.mono (HO.out _) ?_; rintro e w1 ⟨rfl, rfl⟩) | (go_at_call 59; with_reducible refine Calls.mono (HA.out ()) ?_; rintro e w1 ⟨rfl, rfl⟩))
  go_end0
  exact ⟨rfl, rfl⟩
theorem leave_neg (p : Nat) (x s l0 l1 : Int) (u : FrameMode) (h0 : -9223372036854775808 ≤ x) (h1 : x < 0) (k0 : -9223372036854775808 ≤ l1) (k1 : l1 < 9223372036854775808) (w : World) (h : Ph w p s l0 l1) :
    CallsD Tryz.prog 139 #[.pointer (some ⟨p, 0, none⟩), .pointer none, .int .i64 x] u w fun e u' w' => u' = u ∧ (e = .returned (.tuple #[]) ∧ w' = w.setCell ⟨p, 2, none⟩ (.int .i64 (wrap64 (l1 + 1)))) := by
  have HO : Hid (∀ W, _) := of_neg p x h0 h1
  have HA : Hid (∀ _ : Unit, _) := fun _ => wadd_any p 2 l1 1 w k0 k1 h.cells.2.2 (h.fr 2)
  clear h
  go_enter_d Tryz.func139, Tryz.ntmps139
  go_wp2_with (first | (go_at_call 92; with_reducible refine Calls.mono (HO.out _) ?_; rintro e w1 ⟨rfl, rfl⟩) | (go_at_call 59; with_reducible refine Calls.mono (HA.out ()) ?_; rintro e w1 ⟨rfl, rfl⟩))
  go_end0
  exact ⟨rfl, rfl⟩
theorem await_any (p o : Nat) (x : Int) (w : World) (hc : w.cell? ⟨p, o, none⟩ = some (.int .i64 x)) :
    Calls Tryz.prog 192 #[.pointer none, .pointer (some ⟨p, o, none⟩), .int .i64 x] w fun e w' => e = .returned (.int .i64 0) ∧ w' = w := by
  have HL : Hid (∀ _ : Unit, _) := fun _ => wload_any p o x w hc
  clear hc
  go_enter Tryz.func192, Tryz.ntmps192
  go_wp2_with fail
  go_loopw [6] (fun a W => a = .int .i64 0 ∧ W = w) (fun _ _ => 0)
  case atStart => exact ⟨rfl, rfl⟩
  case round =>
    obtain ⟨rfl, rfl⟩ := hrel
    go_wp2_with (go_at_call 61; with_reducible refine Calls.mono (HL.out ()) ?_; rintro e w1 ⟨rfl, rfl⟩)
    go_ret
    exact ⟨rfl, rfl⟩
/-- A phaser in which nobody is: n entered in this phase. -/
def Pq (w : World) (p : Nat) (neg : Bool) (n : Nat) : Prop := match neg with
  | false => ∃ o, Ph w p n n o
  | true => ∃ o, Ph w p (-9223372036854775808 + (n : Int)) o (-9223372036854775808 + (n : Int))
theorem turn_pos (p : Nat) (s l0 l1 : Int) (h0 : 0 ≤ s) (h1 : s < 9223372036854775808) (w : World) (h : Ph w p s l0 l1) :
    Calls Tryz.prog 191 #[.pointer (some ⟨p, 0, none⟩), .pointer none] w fun e w' => e = .returned (.tuple #[.pointer (some ⟨p, 1, none⟩), .int .i64 s]) ∧ Hid (Ph w' p (-9223372036854775808) l0 (-9223372036854775808)) ∧ Hid (Mid p (p + 1) w w') := by
  have HL : Hid (∀ _ : Unit, _) := fun _ => wload_any p 0 s w h.cells.1
  have HO1 : Hid (∀ W, _) := of_neg p (-9223372036854775808) (by decide) (by decide)
  have HO2 : Hid (∀ W, _) := of_pos p s h0 h1
  have HS : Hid (∀ _ : Unit, _) := fun _ => wstore_any p 2 _ (-9223372036854775808) w h.cells.2.2 (h.fr 2)
  obtain ⟨w2, hw2⟩ : ∃ w2, w.setCell ⟨p, 2, none⟩ (.int .i64 (-9223372036854775808)) = w2 := ⟨_, rfl⟩
  have h2 := h.set2 (-9223372036854775808)
  have hm2 : Mid p (p + 1) w w2 := by rw [← hw2]; exact mid_set p _ _
  rw [hw2] at h2 HS
  have h2d : Ph w2.drew p s l0 (-9223372036854775808) := h2
  have HW : Hid (∀ _ : Unit, Calls Tryz.prog 133 #[.pointer (some ⟨p, 0, none⟩), .pointer none, .int .i64 (-9223372036854775808)] w2.drew fun e w' => e = .returned (.int .i64 s) ∧ Hid (Ph w' p (-9223372036854775808) l0 (-9223372036854775808)) ∧ Hid (Mid p (p + 1) w w')) := fun _ => by
    refine Calls.mono (wswap_any p 0 s (-9223372036854775808) _ h2d.cells.1 (h2d.fr 0)) ?_
    rintro e w' ⟨rfl, rfl⟩
    exact ⟨rfl, h2d.set0 _, (hm2.drew).trans (mid_set p 0 _)⟩
  have e1 : ¬ s < 0 := by omega
  clear h h2 h2d hm2 hw2
  go_enter Tryz.func191, Tryz.ntmps191
  go_upto_region 6 with (first
    | (go_at_call 61; with_reducible refine Calls.mono (HL.out ()) ?_; rintro e w1 ⟨rfl, rfl⟩)
    | (go_at_call 92; with_reducible refine Calls.mono (HO1.out _) ?_; rintro e w1 ⟨rfl, rfl⟩)
    | (go_at_call 93; with_reducible refine Calls.mono (HS.out ()) ?_; rintro e w1 ⟨rfl, rfl⟩))
  go_region_held3 (fun _ => True) (exact trivial)
    (first
      | (go_at_call 92; with_reducible refine Calls.mono (HO2.out _) ?_; rintro e w3 ⟨rfl, rfl⟩)
      | (go_at_call 133; with_reducible refine Calls.mono (HW.out ()) ?_; rintro e w3 ⟨rfl, HP3, HM3⟩))
  all_goals
    go_wp2_with fail
    go_ret2
    exact ⟨rfl, HP3, HM3⟩
theorem turn_neg (p : Nat) (s l0 l1 : Int) (h0 : -9223372036854775808 ≤ s) (h1 : s < 0) (w : World) (h : Ph w p s l0 l1) :
    Calls Tryz.prog 191 #[.pointer (some ⟨p, 0, none⟩), .pointer none] w fun e w' => e = .returned (.tuple #[.pointer (some ⟨p, 2, none⟩), .int .i64 s]) ∧ Hid (Ph w' p 0 0 l1) ∧ Hid (Mid p (p + 1) w w') := by
  have HL : Hid (∀ _ : Unit, _) := fun _ => wload_any p 0 s w h.cells.1
  have HO1 : Hid (∀ W, _) := of_pos p 0 (by decide) (by decide)
  have HO2 : Hid (∀ W, _) := of_neg p s h0 h1
  have HS : Hid (∀ _ : Unit, _) := fun _ => wstore_any p 1 _ 0 w h.cells.2.1 (h.fr 1)
  obtain ⟨w2, hw2⟩ : ∃ w2, w.setCell ⟨p, 1, none⟩ (.int .i64 0) = w2 := ⟨_, rfl⟩
  have h2 := h.set1 0
  have hm2 : Mid p (p + 1) w w2 := by rw [← hw2]; exact mid_set p _ _
  rw [hw2] at h2 HS
  have h2d : Ph w2.drew p s 0 l1 := h2
  have HW : Hid (∀ _ : Unit, Calls Tryz.prog 133 #[.pointer (some ⟨p, 0, none⟩), .pointer none, .int .i64 0] w2.drew fun e w' => e = .returned (.int .i64 s) ∧ Hid (Ph w' p 0 0 l1) ∧ Hid (Mid p (p + 1) w w')) := fun _ => by
    refine Calls.mono (wswap_any p 0 s 0 _ h2d.cells.1 (h2d.fr 0)) ?_
    rintro e w' ⟨rfl, rfl⟩
    exact ⟨rfl, h2d.set0 _, (hm2.drew).trans (mid_set p 0 _)⟩
  have e1 : s < 0 := h1
  clear h h2 h2d hm2 hw2
  go_enter Tryz.func191, Tryz.ntmps191
  go_upto_region 6 with (first
    | (go_at_call 61; with_reducible refine Calls.mono (HL.out ()) ?_; rintro e w1 ⟨rfl, rfl⟩)
    | (go_at_call 92; with_reducible refine Calls.mono (HO1.out _) ?_; rintro e w1 ⟨rfl, rfl⟩)
    | (go_at_call 93; with_reducible refine Calls.mono (HS.out ()) ?_; rintro e w1 ⟨rfl, rfl⟩))
  go_region_held3 (fun _ => True) (exact trivial)
    (first
      | (go_at_call 92; with_reducible refine Calls.mono (HO2.out _) ?_; rintro e w3 ⟨rfl, rfl⟩)
      | (go_at_call 133; with_reducible refine Calls.mono (HW.out ()) ?_; rintro e w3 ⟨rfl, HP3, HM3⟩))
  all_goals
    go_wp2_with fail
    go_ret2
    exact ⟨rfl, HP3, HM3⟩
/-- Flip, where nobody is in: no polls. -/
theorem flip_any (p : Nat) (neg : Bool) (n : Nat) (hn : n < 9223372036854775808) (w : World) (h : Pq w p neg n) :
    Calls Tryz.prog 131 #[.pointer (some ⟨p, 0, none⟩), .pointer none] w fun e w' => e = .returned (.int .i64 0) ∧ Hid (Pq w' p (!neg) 0) ∧ Hid (Mid p (p + 1) w w') := by
  cases neg with
  | false =>
    obtain ⟨o, h⟩ := h
    have HT : Hid (∀ _ : Unit, _) := fun _ => turn_pos p n n o (by omega) (by omega) w h
    have HA : Hid (∀ W, Ph W p (-9223372036854775808) n (-9223372036854775808) → _) := fun W h2 => await_any p 1 n W h2.cells.2.1
    have HQ : Hid (∀ W, Ph W p (-9223372036854775808) n (-9223372036854775808) → Pq W p true 0) := fun W h2 => ⟨_, h2⟩
    clear h
    go_enter Tryz.func131, Tryz.ntmps131
    go_wp2_with (first
      | (go_at_call 191; with_reducible refine Calls.mono (HT.out ()) ?_; rintro e w1 ⟨rfl, HP1, HM1⟩)
      | (go_at_call 192; with_reducible refine Calls.mono (HA.out _ HP1.out) ?_; rintro e w2 ⟨rfl, rfl⟩))
    go_ret
    exact ⟨rfl, HQ.out _ HP1.out, HM1⟩
  | true =>
    obtain ⟨o, h⟩ := h
    generalize hx : -9223372036854775808 + (n : Int) = x at h
    have HT : Hid (∀ _ : Unit, _) := fun _ => turn_neg p x o x (by omega) (by omega) w h
    have HA : Hid (∀ W, Ph W p 0 0 x → _) := fun W h2 => await_any p 2 x W h2.cells.2.2
    have HQ : Hid (∀ W, Ph W p 0 0 x → Pq W p false 0) := fun W h2 => ⟨_, h2⟩
    clear h hx
    go_enter Tryz.func131, Tryz.ntmps131
    go_wp2_with (first
      | (go_at_call 191; with_reducible refine Calls.mono (HT.out ()) ?_; rintro e w1 ⟨rfl, HP1, HM1⟩)
      | (go_at_call 192; with_reducible refine Calls.mono (HA.out _ HP1.out) ?_; rintro e w2 ⟨rfl, rfl⟩))
    go_ret
    exact ⟨rfl, HQ.out _ HP1.out, HM1⟩
end Go.Proofs.YtfnohbalkpponaaGreatDoor
