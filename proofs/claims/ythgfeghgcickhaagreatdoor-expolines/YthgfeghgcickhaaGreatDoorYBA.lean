/- At, the code's. Own work of the verifier. -/
import Derived.Test.YthgfeghgcickhaaGreatDoorYAZ
namespace Go.Proofs.YthgfeghgcickhaaGreatDoor
open Go.RowKit Go.Shelf

attribute [local go_sem] Oper.semAt_some

theorem cmp_sum (s r : Nat) : cmp (val ((s / 18446744073709551616 : Nat) : Int) ((s % 18446744073709551616 : Nat) : Int)) (r : Int) = if s < r then -1 else if s = r then 0 else 1 := by
  have e : val ((s / 18446744073709551616 : Nat) : Int) ((s % 18446744073709551616 : Nat) : Int) = (s : Int) := by unfold val; omega
  rw [e]
  unfold cmp
  split <;> split <;> (try split) <;> omega
theorem compare_sum (s r : Nat) (hs : s < 18446744073709551616 * 17592186044416) (hr : r < 18446744073709551616) (w : World) :
    Calls Tryz.prog 53 #[.agg #[.int .i64 ((s / 18446744073709551616 : Nat) : Int), .int .u64 ((s % 18446744073709551616 : Nat) : Int)], .agg #[.int .i64 0, .int .u64 (r : Int)]] w fun e w' =>
      e = .returned (.int .i64 (if s < r then -1 else if s = r then 0 else 1)) ∧ Below w.heap.size w w' := by
  refine (cmp_any _ _ _ _ ⟨by omega, by omega, by omega, by omega⟩ ⟨by omega, by omega, by omega, by omega⟩ w).mono ?_
  rintro e w' ⟨rfl, hb⟩
  refine ⟨?_, hb⟩
  rw [show val 0 (r : Int) = (r : Int) by unfold val; omega, cmp_sum]

theorem results_c1 {fn : Func} {t : Tmp} (h : fn.results = #[.cell t 28]) (tmps : Array Value) (w : World) (a : Addr) {x : Int} (ha : tmps[t]?.getD undef = .pointer (some a)) (hx : w.cell? a = some (.int .i64 x)) : (results fn tmps).run Tryz.prog w = .ok (.int .i64 x) w := by
  simp [results, h, ha, hx, go_sem]
theorem new_2 (W : World) (o1 o2 : Obj) : ((W.alloc o1).alloc o2).heap[W.heap.size]? = some o1 ∧ ((W.alloc o1).alloc o2).heap[W.heap.size + 1]? = some o2 := by
  refine ⟨(Below.heap_alloc _ _ _ (by simp)).trans (World.alloc_heap_new W _), ?_⟩
  have := World.alloc_heap_new (W.alloc o1) o2
  rwa [World.size_alloc] at this
theorem Mid.st {n0 B : Nat} {a w : World} (h : Mid n0 B a w) {b : Nat} (h1 : n0 ≤ b) (h2 : b < B) (u : Value) : Mid n0 B a (w.setCell ⟨b, 0, none⟩ u) := h.setCell (p := ⟨b, 0, none⟩) (Or.inl ⟨h1, h2⟩) u
theorem bl_st {B : Nat} {a w : World} (h : Below B a w) {b : Nat} (hp : B ≤ b) (u : Value) : Below B a (w.setCell ⟨b, 0, none⟩ u) := h.setCell (p := ⟨b, 0, none⟩) hp u
theorem below_put {w W : World} {D : Nat} {o : Obj} (h : Below w.heap.size w W) (hD : w.heap.size ≤ D) : Below w.heap.size w (W.putObj D o) := h.grown (grownBy_putObj' _ _ _) (by have := h.size; omega) (fun k e => by cases e; omega)
theorem bx_put {W : World} {b D : Nat} {t : TypeId} {v : Value} {o : Obj} (h : Boxed W b t v) (hne : b ≠ D) : Boxed (W.putObj D o) b t v := (World.putObj_heap_other hne).trans h
theorem not_deferred {W : World} {b D : Nat} {t : TypeId} {v : Value} {x : Option (List Deferred)} (h : Boxed W b t v) (hD : W.heap[D]? = some (.deferred x)) : b ≠ D := fun e => by
  subst e
  have := (show W.heap[b]? = _ from h).symm.trans hD
  cases this

end Go.Proofs.YthgfeghgcickhaaGreatDoor
