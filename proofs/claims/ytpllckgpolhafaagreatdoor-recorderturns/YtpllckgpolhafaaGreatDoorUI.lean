/- THE RECORDER: Add. Own work of the verifier. -/
import Derived.Test.YtpllckgpolhafaaGreatDoorUF
namespace Go.Proofs.YtpllckgpolhafaaGreatDoor
open Go.RowKit

/-- What the closure reads. -/
abbrev Bx (kt kg kr kn s rc k : Nat) (st : Int) (cl : Bool) (n : Value) (W : World) : Prop := W.cell? ⟨kt, 0, none⟩ = some (.pointer (some ⟨s, 0, none⟩)) ∧ W.cell? ⟨kg, 0, none⟩ = some (.pointer none) ∧ W.cell? ⟨kr, 0, none⟩ = some (.pointer (some ⟨rc, 0, none⟩)) ∧ W.cell? ⟨kn, 0, none⟩ = some n ∧ W.cell? ⟨rc, 0, none⟩ = some (.pointer (some ⟨k, 0, none⟩)) ∧ W.cell? ⟨rc, 1, none⟩ = some (.int .i64 st) ∧ W.cell? ⟨rc, 2, none⟩ = some (.bool cl)
theorem add1_any (kt kg kr kn s rc k : Nat) (b st n er : Int) (cl : Bool) (W : World) (J : World → Prop) (hB : Bx kt kg kr kn s rc k st cl (.int .i64 n) W) (HJB : Hid (∀ w', J w' → Bx kt kg kr kn s rc k st cl (.int .i64 n) w'))
    (HA : Hid (∀ _ : Unit, Calls Tryz.prog 33 #[.pointer (some ⟨s, 0, none⟩), .pointer none, .int .i64 b, .int .i64 st, .int .i64 n] W.drew fun e w' => e = .returned (.int .i64 er) ∧ Hid (J w'))) :
    Calls Tryz.prog 32 #[.int .i64 b, .pointer (some ⟨kt, 0, none⟩), .pointer (some ⟨kg, 0, none⟩), .pointer (some ⟨kr, 0, none⟩), .pointer (some ⟨kn, 0, none⟩)] W fun e w' => e = .returned (.int .i64 er) ∧ Hid (J w') := by
  go_enter Tryz.func32, Tryz.ntmps32
  go_wp2_with fail
  go_region_held3 (fun V => Bx kt kg kr kn s rc k st cl (.int .i64 n) V) (first | with_reducible assumption | exact hB) ((go_at_call 33; with_reducible refine Calls.mono (HA.out ()) ?_; rintro e w3 ⟨rfl, HJ⟩; have hB3 := HJB.out _ HJ.out))
  all_goals
    go_wp2_with fail
    go_ret
    exact ⟨rfl, HJ⟩
/-- The boxes of a record. -/
def bxs (w : World) (rc s : Nat) (n : Value) (t : TypeId) : World := (((w.alloc (.cells #[.pointer (some ⟨rc, 0, none⟩)] 49)).alloc (.cells #[.pointer none] 112)).alloc (.cells #[.pointer (some ⟨s, 0, none⟩)] 34)).alloc (.cells #[n] t)
theorem bxs_cells (w : World) (rc s : Nat) (n : Value) (t : TypeId) : (bxs w rc s n t).cell? ⟨w.heap.size, 0, none⟩ = some (.pointer (some ⟨rc, 0, none⟩)) ∧ (bxs w rc s n t).cell? ⟨w.heap.size + 1, 0, none⟩ = some (.pointer none) ∧ (bxs w rc s n t).cell? ⟨w.heap.size + 2, 0, none⟩ = some (.pointer (some ⟨s, 0, none⟩)) ∧ (bxs w rc s n t).cell? ⟨w.heap.size + 3, 0, none⟩ = some n := by
  have one : ∀ (W : World) (b : Nat) (u : Value) (t : TypeId), W.heap[b]? = some (.cells #[u] t (0, 0)) → W.cell? ⟨b, 0, none⟩ = some u := fun W b u t h => by simp [World.cell?, h]
  refine ⟨one _ _ _ 49 ?_, one _ _ _ 112 ?_, one _ _ _ 34 ?_, one _ _ _ t ?_⟩ <;> (show ((((w.heap.push _).push _).push _).push _)[_]? = _; simp only [Array.getElem?_push, Array.size_push]; repeat (first | rw [if_pos trivial] | rw [if_pos (by omega)] | rw [if_neg (by omega)]))
theorem bxs_below (w : World) (rc s : Nat) (n : Value) (t : TypeId) : Below w.heap.size w (bxs w rc s n t) := by
  unfold bxs
  exact (((bel1 w _).alloc (by simp) _).alloc (by simp; omega) _).alloc (by simp; omega) _
theorem radd_any (rc s : Nat) (n er : Int) (w : World) (Q : World → Prop) (b : Bool) (hb : b = decide (0 ≤ n))
    (HR : Hid (∀ _ : Unit, Calls Tryz.prog 31 #[.pointer (some ⟨rc, 0, none⟩), .pointer none, .bool b, .func (.func 32) #[] #[.pointer (some ⟨w.heap.size + 2, 0, none⟩), .pointer (some ⟨w.heap.size + 1, 0, none⟩), .pointer (some ⟨w.heap.size, 0, none⟩), .pointer (some ⟨w.heap.size + 3, 0, none⟩)]] (bxs w rc s (.int .i64 n) 2) fun e w' => e = .returned (.int .i64 er) ∧ Hid (Q w'))) :
    Calls Tryz.prog 14 #[.pointer (some ⟨rc, 0, none⟩), .pointer none, .pointer (some ⟨s, 0, none⟩), .int .i64 n] w fun e w' => e = .returned (.int .i64 er) ∧ Hid (Q w') := by
  have hmf : ∀ (fn : Fn) (first cap : Array Value) (w : World), (Instr.makeFunc fn first cap).run Tryz.prog w = .ok (.func fn first cap) w := fun _ _ _ _ => rfl
  unfold bxs at HR
  subst hb
  go_enter Tryz.func14, Tryz.ntmps14
  go_wp2_with (go_at_call 31; with_reducible refine Calls.mono (HR.out ()) ?_; rintro e w3 ⟨rfl, HJ⟩)
  go_ret
  exact ⟨rfl, HJ⟩
end Go.Proofs.YtpllckgpolhafaaGreatDoor
