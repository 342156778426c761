/- one, the document's. Own work of the verifier. -/
import Derived.Test.YtmphajfhilpgeabLA14
namespace Go.Proofs.Ytmphajfhilpgeab
open Go.RowKit

/-- A label from a place on, behind others. -/
def nmAt (l : List UInt8) (p : Nat) : List UInt8 := (l.drop p).take (rowN false (l.drop p))
def oneR (l : List UInt8) (p : Nat) (L : List Lb) : Except (Int × Nat) (Lb × Nat) :=
  if L.length = 16 then .error (3, p)
  else if lnameB (nmAt l p) = false then .error (9, p)
  else if L.length ≠ 0 ∧ bhE (L.getD (L.length - 1) ([], [])).1 (nmAt l p) ≠ 0 then .error (bhE (L.getD (L.length - 1) ([], [])).1 (nmAt l p), p)
  else if (l.getD (p + rowN false (l.drop p)) 0).toNat ≠ 61 then .error (5, p + rowN false (l.drop p))
  else if (l.getD (p + rowN false (l.drop p) + 1) 0).toNat ≠ 34 then .error (5, p + rowN false (l.drop p) + 1)
  else match valR (l.drop (p + rowN false (l.drop p) + 2)) (p + rowN false (l.drop p) + 2) with
    | .error e => .error e
    | .ok q => if txE q.1 ≠ 0 then .error (txE q.1, p + rowN false (l.drop p) + 2) else .ok ((nmAt l p, q.1), q.2)
theorem results_ctc {fn : Func} {p u q : Tmp} {ty ty' : TypeId} (h : fn.results = #[.cell p ty, .tmp u, .cell q ty']) (tmps : Array Value) (P : Program) (w : World) :
    (results fn tmps).run P w =
      ((asAddr (tmps.getD p undef)).run P w).andThen fun a w₁ => ((loadVar ty a).run P w₁).andThen fun v w₂ => ((asAddr (tmps.getD q undef)).run P w₂).andThen fun b w₃ => ((loadVar ty' b).run P w₃).andThen fun x w₄ => .ok (.tuple #[v, tmps.getD u undef, x]) w₄ := by
  simp only [results, h]
  simp [Sem.run_bind, Result.andThen]
theorem load_label (g : Nat) (x y : ByteArray) (w : World) (c0 : w.cell? ⟨g, 0, none⟩ = some (.string x)) (c1 : w.cell? ⟨g, 1, none⟩ = some (.string y)) : (loadVar 41 ⟨g, 0, none⟩).run Try.prog w = .ok (.agg #[.string x, .string y]) w := by
  simp [loadVar, go_sem, c0, c1]
theorem ret_one (tmps : Array Value) (g h : Nat) (x y : ByteArray) (z k : Int) (w : World) (hp : tmps.getD 6 undef = .pointer (some ⟨g, 0, none⟩)) (hq : tmps.getD 8 undef = .pointer (some ⟨h, 0, none⟩))
    (c0 : w.cell? ⟨g, 0, none⟩ = some (.string x)) (c1 : w.cell? ⟨g, 1, none⟩ = some (.string y)) (d0 : w.cell? ⟨h, 0, none⟩ = some (.int .i64 z)) (d1 : w.cell? ⟨h, 1, none⟩ = some (.int .i64 k)) :
    (results Try.f39 tmps).run Try.prog w = .ok (.tuple #[.agg #[.string x, .string y], tmps.getD 7 undef, .agg #[.int .i64 z, .int .i64 k]]) w := by
  rw [results_ctc (p := 6) (u := 7) (q := 8) (ty := 41) (ty' := 44) rfl, hp, hq]
  simp [asAddr, load_label g x y w c0 c1, load_wrong h z k w d0 d1, Result.andThen]
/-- The two results that lie in memory, as they are at first; nothing else has changed. -/
structure KN (w W : World) : Prop where
  a0 : W.cell? ⟨w.heap.size, 0, none⟩ = some (.string ⟨#[]⟩)
  a1 : W.cell? ⟨w.heap.size, 1, none⟩ = some (.string ⟨#[]⟩)
  b0 : W.cell? ⟨w.heap.size + 1, 0, none⟩ = some (.int .i64 0)
  b1 : W.cell? ⟨w.heap.size + 1, 1, none⟩ = some (.int .i64 0)
  fa : ∀ k, W.frozen? ⟨w.heap.size, k, none⟩ = false
  fb : ∀ k, W.frozen? ⟨w.heap.size + 1, k, none⟩ = false
  bl : Below w.heap.size w W
theorem KN.below {w W W1 : World} (h : KN w W) (hb : Below W.heap.size W W1) : KN w W1 :=
  ⟨by rw [hb.cell (p := ⟨w.heap.size, 0, none⟩) (lt_of_cell h.a0)]; exact h.a0, by rw [hb.cell (p := ⟨w.heap.size, 1, none⟩) (lt_of_cell h.a1)]; exact h.a1,
   by rw [hb.cell (p := ⟨w.heap.size + 1, 0, none⟩) (lt_of_cell h.b0)]; exact h.b0, by rw [hb.cell (p := ⟨w.heap.size + 1, 1, none⟩) (lt_of_cell h.b1)]; exact h.b1,
   fun k => by rw [hb.frozen (p := ⟨w.heap.size, k, none⟩) (show w.heap.size < W.heap.size from lt_of_cell h.a0)]; exact h.fa k, fun k => by rw [hb.frozen (p := ⟨w.heap.size + 1, k, none⟩) (show w.heap.size + 1 < W.heap.size from lt_of_cell h.b0)]; exact h.fb k, h.bl.trans (hb.mono h.bl.size)⟩
theorem kn_new (w : World) (t t' : TypeId) : KN w ((w.alloc (.cells #[.string ⟨#[]⟩, .string ⟨#[]⟩] t)).alloc (.cells #[.int .i64 0, .int .i64 0] t')) :=
  ⟨by simp [go_sem], by simp [go_sem], by simp [go_sem], by simp [go_sem], fun k => by simp [go_sem], fun k => by simp [go_sem], bel2 w _ _⟩
/-- All four cells written. -/
def put4 (w W : World) (x y : ByteArray) (z k : Int) : World := (((W.setCell ⟨w.heap.size, 0, none⟩ (.string x)).setCell ⟨w.heap.size, 1, none⟩ (.string y)).setCell ⟨w.heap.size + 1, 0, none⟩ (.int .i64 z)).setCell ⟨w.heap.size + 1, 1, none⟩ (.int .i64 k)
theorem put4_ok {w W : World} (h : KN w W) (x y : ByteArray) (z k : Int) : (put4 w W x y z k).cell? ⟨w.heap.size, 0, none⟩ = some (.string x) ∧ (put4 w W x y z k).cell? ⟨w.heap.size, 1, none⟩ = some (.string y) ∧ (put4 w W x y z k).cell? ⟨w.heap.size + 1, 0, none⟩ = some (.int .i64 z) ∧ (put4 w W x y z k).cell? ⟨w.heap.size + 1, 1, none⟩ = some (.int .i64 k) ∧ Below w.heap.size w (put4 w W x y z k) := by
  have ne : ∀ i j : Nat, (⟨w.heap.size, i, none⟩ : Addr) ≠ ⟨w.heap.size + 1, j, none⟩ := fun i j e => by
    have := congrArg Addr.block e
    simp at this
  have n01 : ∀ g : Nat, (⟨g, 0, none⟩ : Addr) ≠ ⟨g, 1, none⟩ := fun g e => by cases e
  obtain ⟨c0, c1⟩ := two_set (x := .string x) (y := .string y) h.a0 h.a1
  have e0 : ((W.setCell ⟨w.heap.size, 0, none⟩ (.string x)).setCell ⟨w.heap.size, 1, none⟩ (.string y)).cell? ⟨w.heap.size + 1, 0, none⟩ = some (.int .i64 0) := by
    rw [World.cell?_setCell_other _ _ _ _ (ne 1 0), World.cell?_setCell_other _ _ _ _ (ne 0 0)]; exact h.b0
  have e1 : ((W.setCell ⟨w.heap.size, 0, none⟩ (.string x)).setCell ⟨w.heap.size, 1, none⟩ (.string y)).cell? ⟨w.heap.size + 1, 1, none⟩ = some (.int .i64 0) := by
    rw [World.cell?_setCell_other _ _ _ _ (ne 1 1), World.cell?_setCell_other _ _ _ _ (ne 0 1)]; exact h.b1
  obtain ⟨d0, d1⟩ := two_set (x := .int .i64 z) (y := .int .i64 k) e0 e1
  refine ⟨?_, ?_, d0, d1, ?_⟩
  · unfold put4
    rw [World.cell?_setCell_other _ _ _ _ (fun e => ne 0 1 e.symm), World.cell?_setCell_other _ _ _ _ (fun e => ne 0 0 e.symm)]; exact c0
  · unfold put4
    rw [World.cell?_setCell_other _ _ _ _ (fun e => ne 1 1 e.symm), World.cell?_setCell_other _ _ _ _ (fun e => ne 1 0 e.symm)]; exact c1
  · unfold put4
    exact (((h.bl.setCell (p := ⟨w.heap.size, 0, none⟩) (Nat.le_refl _) _).setCell (p := ⟨w.heap.size, 1, none⟩) (Nat.le_refl _) _).setCell (p := ⟨w.heap.size + 1, 0, none⟩) (by show w.heap.size ≤ w.heap.size + 1; omega) _).setCell (p := ⟨w.heap.size + 1, 1, none⟩) (by show w.heap.size ≤ w.heap.size + 1; omega) _
/-- What one answers. -/
def TellsO (l : List UInt8) (p : Nat) (L : List Lb) (e : Ending) : Prop :=
  (∃ (z : Int) (k : Nat) (x y : ByteArray) (n : Int), oneR l p L = .error (z, k) ∧ e = .returned (.tuple #[.agg #[.string x, .string y], .int .i64 n, .agg #[.int .i64 z, .int .i64 (k : Int)]])) ∨
  (∃ (a c : List UInt8) (k : Nat), oneR l p L = .ok ((a, c), k) ∧ e = .returned (.tuple #[.agg #[.string ⟨a.toArray⟩, .string ⟨c.toArray⟩], .int .i64 (k : Int), .agg #[.int .i64 0, .int .i64 0]]))
end Go.Proofs.Ytmphajfhilpgeab
