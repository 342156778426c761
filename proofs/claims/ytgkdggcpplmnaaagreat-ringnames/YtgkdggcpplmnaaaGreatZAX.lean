/- TWO VALUES OF ONE SERIES: what comes of them. Own work of the verifier. -/
import Derived.Test.YtgkdggcpplmnaaaGreatZAV
import Derived.Test.YtgkdggcpplmnaaaGreatZAW
import Derived.Test.YtgkdggcpplmnaaaGreatRows
import Derived.WalkKit
import Derived.WalkSpells
import Derived.RowKit3
import Derived.Below
import Derived.Laws.Externs
import Derived.Outline
import Derived.Deep.QuietTactic
import Derived.Deep.Draws
import Derived.BigQuiet
import Derived.Laws.Bits64
import Derived.Laws.BitsAllLaws
import Derived.Laws.ComplexArith
import Derived.Deep.DeepCutAuto
import Derived.Deep.RegionHeld3
import Derived.Laws.FloatArith
namespace Go.Proofs.YtgkdggcpplmnaaaGreat
open Go.RowKit Me

/-- The merged counts. -/
noncomputable def mrgC (A C : List Cn) : List Cn := Classical.epsilon (fun O => IsMerge O (A ++ C))
theorem mrgC_eq {O A C : List Cn} (h : IsMerge O (A ++ C)) : mrgC A C = O := (Classical.epsilon_spec (p := fun O => IsMerge O (A ++ C)) ⟨O, h⟩).uniq h
def zV : Vl := ⟨⟨0, [], [], []⟩, 0, [], 0, 0, 0, 0⟩
/-- The floats that come of two. -/
def jF (x y : Vl) : Nat × Nat × Nat := if x.n = 0 then (y.sum, y.mn, y.mx) else if 0 < y.n then (Soft.fa x.sum y.sum, Re.outF x.mn y.mn (-1), Re.outF x.mx y.mx 1) else (x.sum, x.mn, x.mx)
noncomputable def jV (x y : Vl) : Vl := ⟨x.d, rnd (x.t + y.t), mrgC x.cs y.cs, (x.n + y.n) % 18446744073709551616, (jF x y).1, (jF x y).2.1, (jF x y).2.2⟩
noncomputable def joinV (x y : Vl) : Vl × Int :=
  if rnd (x.t + y.t) < 0 ∨ 9223372036854775807 < (x.n + y.n) % 18446744073709551616 then (zV, 3)
  else if Re.finF (jF x y).1 = false then (zV, 2) else (jV x y, 0)
theorem fin_add {x y : Nat} (hx : x < 18446744073709551616) (hy : y < 18446744073709551616) (fx : Re.finF x = true) (fy : Re.finF y = true) : Ieee.double.add x y = some (Soft.fa x y) := by
  obtain ⟨s, a, rfl, ha⟩ := sw_of x hx
  obtain ⟨t, b, rfl, hb⟩ := sw_of y hy
  have e1 : a < 9218868437227405312 := by
    have := of_decide_eq_true fx
    unfold sw at this
    cases s <;> simp at this <;> omega
  have e2 : b < 9218868437227405312 := by
    have := of_decide_eq_true fy
    unfold sw at this
    cases t <;> simp at this <;> omega
  have := Soft.add_fin s t a b e1 e2
  unfold Soft.fa
  rw [this]
  rfl
theorem run_add {x y : Nat} (hx : x < 18446744073709551616) (hy : y < 18446744073709551616) (fx : Re.finF x = true) (fy : Re.finF y = true) (W : World) (t : TypeId) : (binOp .add t (.float .f64 x) (.float .f64 y)).run Tryz.prog W = .ok (.float .f64 (Soft.fa x y)) W := run_float_arith W .add t .f64 x y _ (fin_add hx hy fx fy)
/-- The four blocks while two values become one. -/
structure Jt (w : World) (x y : Vl) (lv cv lw cw : Value) (c4 : Array Value) (W : World) : Prop where
  g1 : W.heap[w.heap.size]? = some (.cells (vc x lv cv) 45 (0, 0))
  g2 : W.heap[w.heap.size + 1]? = some (.cells (vc y lw cw) 45 (0, 0))
  g3 : W.heap[w.heap.size + 1 + 1]? = some (.cells zc 45 (0, 0))
  g4 : W.heap[w.heap.size + 1 + 1 + 1]? = some (.cells c4 45 (0, 0))
  bl : Below w.heap.size w W
theorem Jt.below {w W W1 : World} {x y : Vl} {lv cv lw cw : Value} {c4 : Array Value} (h : Jt w x y lv cv lw cw c4 W) (hb : Below W.heap.size W W1) : Jt w x y lv cv lw cw c4 W1 := ⟨hkN h.g1 hb, hkN h.g2 hb, hkN h.g3 hb, hkN h.g4 hb, bt h.bl hb⟩
theorem Jt.set {w W : World} {x y : Vl} {lv cv lw cw : Value} {c4 c5 : Array Value} (h : Jt w x y lv cv lw cw c4 W) (j : Nat) (u : Value) (he : c4.set! j u = c5) : Jt w x y lv cv lw cw c5 (W.setCell ⟨w.heap.size + 1 + 1 + 1, j, none⟩ u) := by
  refine ⟨?_, ?_, ?_, ?_, h.bl.setCell (p := ⟨w.heap.size + 1 + 1 + 1, j, none⟩) (by show w.heap.size ≤ w.heap.size + 1 + 1 + 1; omega) u⟩
  · rw [heap_other _ _ _ _ (by simp; omega)]; exact h.g1
  · rw [heap_other _ _ _ _ (by simp)]; exact h.g2
  · rw [heap_other _ _ _ _ (by simp)]; exact h.g3
  · rw [heap_setCell_same _ _ j _ _ _ h.g4, ← he]
    simp
theorem Jt.new (w : World) (x y : Vl) (lv cv lw cw : Value) : Jt w x y lv cv lw cw (vc x lv cv) ((((w.alloc (.cells (vc x lv cv) 45)).alloc (.cells (vc y lw cw) 45)).alloc (.cells zc 45)).alloc (.cells (vc x lv cv) 45)) := by
  have e1 : (w.alloc (.cells (vc x lv cv) 45)).heap.size = w.heap.size + 1 := by simp
  have e2 : ((w.alloc (.cells (vc x lv cv) 45)).alloc (.cells (vc y lw cw) 45)).heap.size = w.heap.size + 1 + 1 := by simp
  have e3 : (((w.alloc (.cells (vc x lv cv) 45)).alloc (.cells (vc y lw cw) 45)).alloc (.cells zc 45)).heap.size = w.heap.size + 1 + 1 + 1 := by simp
  have n1 := new_1 w (.cells (vc x lv cv) 45)
  have n2 := new_1 (w.alloc (.cells (vc x lv cv) 45)) (.cells (vc y lw cw) 45)
  have n3 := new_1 ((w.alloc (.cells (vc x lv cv) 45)).alloc (.cells (vc y lw cw) 45)) (.cells zc 45)
  have n4 := new_1 (((w.alloc (.cells (vc x lv cv) 45)).alloc (.cells (vc y lw cw) 45)).alloc (.cells zc 45)) (.cells (vc x lv cv) 45)
  rw [e1] at n2
  rw [e2] at n3
  rw [e3] at n4
  exact ⟨hkN (hkN (hkN n1 (bel1 _ _)) (bel1 _ _)) (bel1 _ _), hkN (hkN n2 (bel1 _ _)) (bel1 _ _), hkN n3 (bel1 _ _), n4, bt (bt (bt (bel1 _ _) (bel1 _ _)) (bel1 _ _)) (bel1 _ _)⟩
/-- What joinTwo tells. -/
def JnQ (w : World) (x y : Vl) (lv : Value) (e : Ending) (w' : World) : Prop := ∃ a1 n1 c1 a2 n2 c2, e = .returned (.tuple #[vx (joinV x y).1 (.slice a1 n1 c1) (.slice a2 n2 c2), .int .i64 (joinV x y).2]) ∧ ((joinV x y).2 = 0 → .slice a1 n1 c1 = lv ∧ OwnC w.heap.size (.slice a2 n2 c2) (joinV x y).1.cs w') ∧ Below w.heap.size w w'
end Go.Proofs.YtgkdggcpplmnaaaGreat
