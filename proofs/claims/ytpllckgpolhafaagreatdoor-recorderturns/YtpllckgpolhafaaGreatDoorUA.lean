/- WORDS AND THE PHASER, without a gate. Own work of the verifier. -/
import Derived.Test.YtpllckgpolhafaaGreatDoorS1
import Derived.Defers
import Derived.TacticsInMore
namespace Go.Proofs.YtpllckgpolhafaaGreatDoor
open Go.RowKit

theorem load_run (w : World) (a : Addr) (x : Int) (hc : w.cell? a = some (.int .i64 x)) :
    (callFunc 99 #[.pointer (some a)]).run Tryz.prog w = .ok (.value (.int .i64 x)) w :=
  run_call_load Tryz.func99 (by kernel_rfl) (by kernel_rfl) (by kernel_rfl) .i64 (by kernel_rfl) hc
theorem store_run (w : World) (a : Addr) (u : Value) (y : Int) (hc : w.cell? a = some u) (hz : w.frozen? a = false) :
    (callFunc 80 #[.pointer (some a), .int .i64 y]).run Tryz.prog w = .ok (.value (.tuple #[])) (w.setCell a (.int .i64 y)) :=
  run_call_store Tryz.func80 (by kernel_rfl) (by kernel_rfl) (by kernel_rfl) (by kernel_rfl) hc hz
theorem aload_any (b o : Nat) (x : Int) (w : World) (hc : w.cell? ⟨b, o, none⟩ = some (.int .i64 x)) :
    Calls Tryz.prog 78 #[.pointer (some ⟨b, o, none⟩)] w fun e w' => e = .returned (.int .i64 x) ∧ w' = w := by
  have hs := load_run w ⟨b, o, none⟩ x hc
  go_enter Tryz.func78, Tryz.ntmps78
  go_wp2
  go_ret
  exact ⟨rfl, rfl⟩
theorem astore_any (b o : Nat) (u : Value) (y : Int) (w : World) (hc : w.cell? ⟨b, o, none⟩ = some u) (hz : w.frozen? ⟨b, o, none⟩ = false) :
    Calls Tryz.prog 57 #[.pointer (some ⟨b, o, none⟩), .int .i64 y] w fun e w' => e = .returned (.tuple #[]) ∧ w' = w.setCell ⟨b, o, none⟩ (.int .i64 y) := by
  have hs := store_run w ⟨b, o, none⟩ u y hc hz
  go_enter Tryz.func57, Tryz.ntmps57
  go_wp2
  first | go_end0 | refine bodyPost_ret (results_none rfl _ _ _) rfl ?_
  exact ⟨rfl, rfl⟩
theorem wload_any (b o : Nat) (x : Int) (w : World) (hc : w.cell? ⟨b, o, none⟩ = some (.int .i64 x)) :
    Calls Tryz.prog 54 #[.pointer (some ⟨b, o, none⟩), .pointer none] w fun e w' => e = .returned (.int .i64 x) ∧ w' = w := by
  have HS : Hid (∀ W, _) := step_nil
  have HA : Hid (∀ _ : Unit, _) := fun _ => aload_any b o x w hc
  go_enter Tryz.func54, Tryz.ntmps54
  go_wp2_with (first
    | (go_at_call 50; refine (HS.out _).mono ?_; rintro e w ⟨rfl, rfl⟩)
    | (go_at_call 78; refine (HA.out ()).mono ?_; rintro e w ⟨rfl, rfl⟩))
  go_ret
  exact ⟨rfl, rfl⟩
theorem wstore_any (b o : Nat) (u : Value) (y : Int) (w : World) (hc : w.cell? ⟨b, o, none⟩ = some u) (hz : w.frozen? ⟨b, o, none⟩ = false) :
    Calls Tryz.prog 34 #[.pointer (some ⟨b, o, none⟩), .pointer none, .int .i64 y] w fun e w' => e = .returned (.tuple #[]) ∧ w' = w.setCell ⟨b, o, none⟩ (.int .i64 y) := by
  have HS : Hid (∀ W, _) := step_nil
  have HA : Hid (∀ _ : Unit, _) := fun _ => astore_any b o u y w hc hz
  go_enter Tryz.func34, Tryz.ntmps34
  go_wp2_with (first
    | (go_at_call 50; refine (HS.out _).mono ?_; rintro e w ⟨rfl, rfl⟩)
    | (go_at_call 57; refine (HA.out ()).mono ?_; rintro e w ⟨rfl, rfl⟩))
  first | go_end0 | refine bodyPost_ret (results_none rfl _ _ _) rfl ?_
  exact ⟨rfl, rfl⟩
theorem point_nil (w : World) : Calls Tryz.prog 35 #[.pointer none] w fun e w' => e = .returned (.tuple #[]) ∧ w' = w := by
  go_enter Tryz.func35, Tryz.ntmps35
  go_wp2
  first | go_end0 | refine bodyPost_ret (results_none rfl _ _ _) rfl ?_
  exact ⟨rfl, rfl⟩
/-- A phaser in memory. -/
def Ph (w : World) (p : Nat) (s l0 l1 : Int) : Prop := w.heap[p]? = some (.cells #[.int .i64 s, .int .i64 l0, .int .i64 l1] 127 (0, 0))
theorem Ph.cells {w : World} {p : Nat} {s l0 l1 : Int} (h : Ph w p s l0 l1) : w.cell? ⟨p, 0, none⟩ = some (.int .i64 s) ∧ w.cell? ⟨p, 1, none⟩ = some (.int .i64 l0) ∧ w.cell? ⟨p, 2, none⟩ = some (.int .i64 l1) := by
  unfold Ph at h; simp [World.cell?, h]
theorem Ph.fr {w : World} {p : Nat} {s l0 l1 : Int} (h : Ph w p s l0 l1) (o : Nat) : w.frozen? ⟨p, o, none⟩ = false := by
  unfold Ph at h; simp [World.frozen?, h]
theorem Ph.set0 {w : World} {p : Nat} {s l0 l1 : Int} (h : Ph w p s l0 l1) (x : Int) : Ph (w.setCell ⟨p, 0, none⟩ (.int .i64 x)) p x l0 l1 := by
  unfold Ph at *; rw [heap_setCell_same w p 0 _ _ _ h]; rfl
theorem Ph.set1 {w : World} {p : Nat} {s l0 l1 : Int} (h : Ph w p s l0 l1) (x : Int) : Ph (w.setCell ⟨p, 1, none⟩ (.int .i64 x)) p s x l1 := by
  unfold Ph at *; rw [heap_setCell_same w p 1 _ _ _ h]; rfl
theorem Ph.set2 {w : World} {p : Nat} {s l0 l1 : Int} (h : Ph w p s l0 l1) (x : Int) : Ph (w.setCell ⟨p, 2, none⟩ (.int .i64 x)) p s l0 x := by
  unfold Ph at *; rw [heap_setCell_same w p 2 _ _ _ h]; rfl
theorem of_pos (p : Nat) (x : Int) (h0 : 0 ≤ x) (h1 : x < 9223372036854775808) (w : World) :
    Calls Tryz.prog 39 #[.pointer (some ⟨p, 0, none⟩), .int .i64 x] w fun e w' => e = .returned (.pointer (some ⟨p, 1, none⟩)) ∧ w' = w := by
  have hw : IntKind.u64.wrap x = x := by show x % 18446744073709551616 = x; omega
  have hq : x / 9223372036854775808 = 0 := by omega
  go_enter Tryz.func39, Tryz.ntmps39
  go_wp2
  go_ret
  exact ⟨rfl, rfl⟩
theorem of_neg (p : Nat) (x : Int) (h0 : -9223372036854775808 ≤ x) (h1 : x < 0) (w : World) :
    Calls Tryz.prog 39 #[.pointer (some ⟨p, 0, none⟩), .int .i64 x] w fun e w' => e = .returned (.pointer (some ⟨p, 2, none⟩)) ∧ w' = w := by
  have hw : IntKind.u64.wrap x = x + 18446744073709551616 := by show x % 18446744073709551616 = _; omega
  have hq : (x + 18446744073709551616) / 9223372036854775808 = 1 := by omega
  go_enter Tryz.func39, Tryz.ntmps39
  go_wp2
  go_ret
  exact ⟨rfl, rfl⟩
end Go.Proofs.YtpllckgpolhafaaGreatDoor
