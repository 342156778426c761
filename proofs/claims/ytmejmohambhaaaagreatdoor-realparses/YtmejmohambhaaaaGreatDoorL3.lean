/- THE TABLE OF POWERS OF TEN, and what prescale lays. Own work of the verifier. -/
import Derived.Test.YtmejmohambhaaaaGreatDoorL2
namespace Go.Proofs.YtmejmohambhaaaaGreatDoor
open Go.RowKit

def tabHi (i : Nat) : Nat := (Go.Pinned.pow10Rows.getD i (0, 0)).1
def tabLo (i : Nat) : Nat := (Go.Pinned.pow10Rows.getD i (0, 0)).2
/-- The table lies where it belongs. -/
def Pow (w : World) : Prop := ∀ i, i < 696 → w.cell? ⟨8, i * 2, none⟩ = some (.int .u64 (tabHi i : Int)) ∧ w.cell? ⟨8, i * 2 + 1, none⟩ = some (.int .u64 (tabLo i : Int))
theorem tab_fit : ∀ i, i < 696 → tabHi i < 18446744073709551616 ∧ tabLo i < 18446744073709551616 := by
  have h : (List.range 696).all (fun i => decide (tabHi i < 18446744073709551616) && decide (tabLo i < 18446744073709551616)) = true := by decide +kernel
  intro i hi
  have := List.all_eq_true.1 h i (List.mem_range.2 hi)
  simpa using this

set_option maxHeartbeats 400000 in
theorem prescale_any (g : Nat) (e p lp : Int) (hp0 : -348 ≤ p) (hp1 : p ≤ 347) (he0 : -100000 ≤ e) (he1 : e ≤ 100000) (hl0 : -100000 ≤ lp) (hl1 : lp ≤ 100000) (w : World) (_hg : 8 ≠ g)
    (hT : Pow w) (v0 v1 v2 : Value) (c0 : w.cell? ⟨g, 0, none⟩ = some v0) (c1 : w.cell? ⟨g, 1, none⟩ = some v1) (c2 : w.cell? ⟨g, 2, none⟩ = some v2)
    (f0 : w.frozen? ⟨g, 0, none⟩ = false) (f1 : w.frozen? ⟨g, 1, none⟩ = false) (f2 : w.frozen? ⟨g, 2, none⟩ = false) :
    Calls Tryz.prog 93 #[.pointer (some ⟨g, 0, none⟩), .int .i64 e, .int .i64 p, .int .i64 lp] w fun r w' => r = .returned (.tuple #[]) ∧
      w' = ((w.setCell ⟨g, 0, none⟩ (.int .u64 (tabHi (p + 348).toNat : Int))).setCell ⟨g, 1, none⟩ (.int .u64 (tabLo (p + 348).toNat : Int))).setCell ⟨g, 2, none⟩ (.int .i64 (-(e + lp + 3))) := by
  obtain ⟨i, hi⟩ : ∃ i : Nat, p = (i : Int) - 348 := ⟨(p + 348).toNat, by omega⟩
  subst hi
  rw [show ((i : Int) - 348 + 348).toNat = i from by omega]
  obtain ⟨t0, t1⟩ := hT i (by omega)
  go_enter Tryz.func93, Tryz.ntmps93
  go_wp2
  simp [bodyPost, results, Tryz.results93, go_sem]
end Go.Proofs.YtmejmohambhaaaaGreatDoor
