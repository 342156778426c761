/- PARSE's deferred closure: what a reader that gave up leaves. Own work of the verifier. -/
import Derived.Test.YtliehacfoiigpaaGreatDoorSAY
import Derived.Recover
import Derived.Defers
namespace Go.Proofs.YtliehacfoiigpaaGreatDoor
open Go.RowKit Me

/-- The three variables of Parse's results. -/
structure Rs (w : World) (b : Nat) (x0 x1 x2 x3 x4 : Value) : Prop where
  s : w.heap[b]? = some (.cells #[x0, x1, x2] 26)
  e : w.heap[b + 1]? = some (.cells #[x3] 27)
  l : w.heap[b + 2]? = some (.cells #[x4] 3)
theorem Rs.below {w W : World} {b : Nat} {x0 x1 x2 x3 x4 : Value} (h : Rs w b x0 x1 x2 x3 x4) (hb : Below w.heap.size w W) : Rs W b x0 x1 x2 x3 x4 := ⟨hkN' h.s hb, hkN' h.e hb, hkN' h.l hb⟩
theorem Rs.put {w : World} {b : Nat} {x0 x1 x2 x3 x4 : Value} (h : Rs w b x0 x1 x2 x3 x4) (y0 y1 y2 y3 y4 : Value) : Rs (((((w.setCell ⟨b, 0, none⟩ y0).setCell ⟨b, 1, none⟩ y1).setCell ⟨b, 2, none⟩ y2).setCell ⟨b + 1, 0, none⟩ y3).setCell ⟨b + 2, 0, none⟩ y4) b y0 y1 y2 y3 y4 := by
  have i1 := Lib.heap_setCell_same (i := 0) h.s y0
  have i2 := Lib.heap_setCell_same (i := 1) i1 y1
  have i3 := Lib.heap_setCell_same (i := 2) i2 y2
  have e1 : (((w.setCell ⟨b, 0, none⟩ y0).setCell ⟨b, 1, none⟩ y1).setCell ⟨b, 2, none⟩ y2).heap[b + 1]? = some (.cells #[x3] 27) := by
    rw [heap_other _ _ _ _ (by show b + 1 ≠ b; omega), heap_other _ _ _ _ (by show b + 1 ≠ b; omega), heap_other _ _ _ _ (by show b + 1 ≠ b; omega)]
    exact h.e
  have e2 := Lib.heap_setCell_same (i := 0) e1 y3
  have l1 : ((((w.setCell ⟨b, 0, none⟩ y0).setCell ⟨b, 1, none⟩ y1).setCell ⟨b, 2, none⟩ y2).setCell ⟨b + 1, 0, none⟩ y3).heap[b + 2]? = some (.cells #[x4] 3) := by
    rw [heap_other _ _ _ _ (by show b + 2 ≠ b + 1; omega), heap_other _ _ _ _ (by show b + 2 ≠ b; omega), heap_other _ _ _ _ (by show b + 2 ≠ b; omega), heap_other _ _ _ _ (by show b + 2 ≠ b; omega)]
    exact h.l
  have l2 := Lib.heap_setCell_same (i := 0) l1 y4
  refine ⟨?_, ?_, by simpa using l2⟩
  · rw [heap_other _ _ _ _ (by show b ≠ b + 2; omega), heap_other _ _ _ _ (by show b ≠ b + 1; omega)]
    simpa using i3
  · rw [heap_other _ _ _ _ (by show b + 1 ≠ b + 2; omega)]
    simpa using e2
abbrev cap3 (b : Nat) : Array Value := #[.pointer (some ⟨b, 0, none⟩), .pointer (some ⟨b + 1, 0, none⟩), .pointer (some ⟨b + 2, 0, none⟩)]
theorem assert_nil (ty : TypeId) (w : World) : (Instr.typeAssert Value.nilIface ty 41 true).run Tryz.prog w = .ok (.tuple #[.agg #[.int .i64 0, .int .i64 0], .bool false]) w := by
  kernel_rfl
theorem assert_is (ty : TypeId) (e n : Int) (w : World) : (Instr.typeAssert (.iface 41 (.agg #[.int .i64 e, .int .i64 n])) ty 41 true).run Tryz.prog w = .ok (.tuple #[.agg #[.int .i64 e, .int .i64 n], .bool true]) w := by
  kernel_rfl
set_option maxRecDepth 100000 in
theorem catch_idle (b : Nat) (w : World) :
    CallsD Tryz.prog 6 (cap3 b) .returning w fun e u' w' => e = .returned (.tuple #[]) ∧ u' = .returning ∧ Below w.heap.size w w' := by
  refine callsD_of_wpS Tryz.func6 rfl fun c₀ cs hu => ?_
  apply wpS_seq
  apply wpS_region
  rw [Tryz.ntmps6]
  rw [show cap3 b ++ Array.replicate (16 - (cap3 b).size) undef = #[.pointer (some ⟨b, 0, none⟩), .pointer (some ⟨b + 1, 0, none⟩), .pointer (some ⟨b + 2, 0, none⟩), undef, undef, undef, undef, undef, undef, undef, undef, undef, undef, undef, undef, undef] from rfl]
  simp [wpOpsS, go_sem, recoverD, hu, Exit.thenS, assert_nil]
  have HB : Hid (Below w.heap.size w (w.alloc (.cells #[.int .i64 0, .int .i64 0] 41))) := bel1 _ _
  refine wpS_of_wp ?_
  go_wp2_with fail
  cases c₀
  simp_all [bodyPostS, results, Tryz.results6, Hid]
set_option maxRecDepth 100000 in
set_option maxHeartbeats 2000000 in
theorem catch_pan (b : Nat) (ec : Int) (n : Nat) (older : List PanicEntry) (x0 x1 x2 x3 x4 : Value) (w : World) (h : Rs w b x0 x1 x2 x3 x4) :
    CallsD Tryz.prog 6 (cap3 b) (.panicking ({ v := flt ec n, recovered := false } :: older)) w fun e u' w' => e = .returned (.tuple #[]) ∧ u' = .panicking ({ v := flt ec n, recovered := true } :: older) ∧ Rs w' b (.int .i64 0) (.slice none 0 0) (.int .u64 0) (.int .i64 ec) (.int .i64 n) ∧ Below b w w' := by
  have hsz : b + 2 < w.heap.size := (Array.getElem?_eq_some_iff.1 h.l).1
  obtain ⟨W0, hW0⟩ : ∃ W0, W0 = w.alloc (.cells #[.int .i64 ec, .int .i64 (n : Int)] 41) := ⟨_, rfl⟩
  have hb0 : Below w.heap.size w W0 := by rw [hW0]; exact bel1 _ _
  have hN : W0.heap[w.heap.size]? = some (.cells #[.int .i64 ec, .int .i64 (n : Int)] 41) := by rw [hW0]; exact new_1 w _
  have h0 := h.below hb0
  have HQ : Hid (Rs (((((W0.setCell ⟨b, 0, none⟩ (.int .i64 0)).setCell ⟨b, 1, none⟩ (.slice none 0 0)).setCell ⟨b, 2, none⟩ (.int .u64 0)).setCell ⟨b + 1, 0, none⟩ (.int .i64 ec)).setCell ⟨b + 2, 0, none⟩ (.int .i64 (n : Int))) b (.int .i64 0) (.slice none 0 0) (.int .u64 0) (.int .i64 ec) (.int .i64 n) ∧ Below b w (((((W0.setCell ⟨b, 0, none⟩ (.int .i64 0)).setCell ⟨b, 1, none⟩ (.slice none 0 0)).setCell ⟨b, 2, none⟩ (.int .u64 0)).setCell ⟨b + 1, 0, none⟩ (.int .i64 ec)).setCell ⟨b + 2, 0, none⟩ (.int .i64 (n : Int)))) := ⟨h0.put _ _ _ _ _, (((((hb0.mono (show b ≤ w.heap.size by omega)).setCell (p := ⟨b, 0, none⟩) (Nat.le_refl _) _).setCell (p := ⟨b, 1, none⟩) (Nat.le_refl _) _).setCell (p := ⟨b, 2, none⟩) (Nat.le_refl _) _).setCell (p := ⟨b + 1, 0, none⟩) (by show b ≤ b + 1; omega) _).setCell (p := ⟨b + 2, 0, none⟩) (by show b ≤ b + 2; omega) _⟩
  obtain ⟨s0, s1, s2, f1⟩ := three_cells h0.s
  have f0 : W0.frozen? ⟨b, 0, none⟩ = false := by simp [World.frozen?, h0.s]
  have f2 : W0.frozen? ⟨b, 2, none⟩ = false := by simp [World.frozen?, h0.s]
  have e0 : W0.cell? ⟨b + 1, 0, none⟩ = some x3 := by simp [World.cell?, h0.e]
  have fe : W0.frozen? ⟨b + 1, 0, none⟩ = false := by simp [World.frozen?, h0.e]
  have l0 : W0.cell? ⟨b + 2, 0, none⟩ = some x4 := by simp [World.cell?, h0.l]
  have fl0 : W0.frozen? ⟨b + 2, 0, none⟩ = false := by simp [World.frozen?, h0.l]
  have n0 : W0.cell? ⟨w.heap.size, 0, none⟩ = some (.int .i64 ec) := by simp [World.cell?, hN]
  have n1 : W0.cell? ⟨w.heap.size, 1, none⟩ = some (.int .i64 (n : Int)) := by simp [World.cell?, hN]
  have HW0 := hid_of hW0
  clear hW0 hN h0 hb0 h
  refine callsD_of_wpS Tryz.func6 rfl fun c₀ cs hu => ?_
  apply wpS_seq
  apply wpS_region
  rw [Tryz.ntmps6]
  rw [show cap3 b ++ Array.replicate (16 - (cap3 b).size) undef = #[.pointer (some ⟨b, 0, none⟩), .pointer (some ⟨b + 1, 0, none⟩), .pointer (some ⟨b + 2, 0, none⟩), undef, undef, undef, undef, undef, undef, undef, undef, undef, undef, undef, undef, undef] from rfl]
  simp [wpOpsS, go_sem, recoverD, hu, Exit.thenS, assert_is]
  rw [← HW0.out]
  clear HW0
  refine wpS_of_wp ?_
  go_upto_region 2 with fail
  go_region
  have hR : Rs (((((W0.setCell ⟨b, 0, none⟩ (.int .i64 0)).setCell ⟨b, 1, none⟩ (.slice none 0 0)).setCell ⟨b, 2, none⟩ (.int .u64 0)).setCell ⟨b + 1, 0, none⟩ (.int .i64 ec)).setCell ⟨b + 2, 0, none⟩ (.int .i64 (n : Int))).drew b (.int .i64 0) (.slice none 0 0) (.int .u64 0) (.int .i64 ec) (.int .i64 n) := ⟨HQ.out.1.s, HQ.out.1.e, HQ.out.1.l⟩
  have hB : Below b w (((((W0.setCell ⟨b, 0, none⟩ (.int .i64 0)).setCell ⟨b, 1, none⟩ (.slice none 0 0)).setCell ⟨b, 2, none⟩ (.int .u64 0)).setCell ⟨b + 1, 0, none⟩ (.int .i64 ec)).setCell ⟨b + 2, 0, none⟩ (.int .i64 (n : Int))).drew := HQ.out.2.drew
  clear HQ s0 s1 s2 f0 f1 f2 e0 fe l0 fl0 n0 n1 hsz
  generalize (((((W0.setCell ⟨b, 0, none⟩ (.int .i64 0)).setCell ⟨b, 1, none⟩ (.slice none 0 0)).setCell ⟨b, 2, none⟩ (.int .u64 0)).setCell ⟨b + 1, 0, none⟩ (.int .i64 ec)).setCell ⟨b + 2, 0, none⟩ (.int .i64 (n : Int))).drew = W5 at *
  show bodyPostS Tryz.prog _ _ _ _ _ _ _ _
  clear hu
  simp [bodyPostS, results, Tryz.results6, hR, hB]
end Go.Proofs.YtliehacfoiigpaaGreatDoor
