/- PARTS: of, kept. Own work of the verifier. -/
import Derived.Test.YtbgdmlekhobjdaaGreatV5
import Derived.Test.YtbgdmlekhobjdaaGreatV4
namespace Go.Proofs.YtbgdmlekhobjdaaGreat
open Go.RowKit

theorem made2 (n : Nat) (hn : n ≤ 1048576) : ∃ cs : Array Value, cs.size = (n + 2) * 2 ∧ ∀ w : World, (Instr.makeSlice 25 (.int .i64 ((n : Int) + 2)) (.int .i64 ((n : Int) + 2))).run Tryz.prog w = .ok (.slice (some ⟨w.heap.size, 0, none⟩) (n + 2) (n + 2)) (w.alloc (.cells cs 45)) := by
  refine ⟨madeCells #[.int .i64 0, .int .u64 0] ((n + 2) * 2), size_madeCells _ _, fun w => ?_⟩
  have := make_counts (n + 2) (by omega) w
  rw [show ((n + 2 : Nat) : Int) = (n : Int) + 2 from by omega] at this
  exact this
theorem put_hid {b k : Nat} {cs : Array Value} {t : TypeId} {W W' : World} {o : Obj} (h : Hid (Put b cs t W W')) (hk : Hid (W.heap[k]? = some o)) (hne : k ≠ b) : Hid (W'.heap[k]? = some o) := (h.out.there k hne).trans hk
theorem put_tl {g : Nat} {L : List Cn} {cs : Array Value} {W W' : World} (hs : cs.size = (L.length + 2) * 2) (h : Hid (Put g (fl L ++ cs.toList.drop (L.length * 2)).toArray 45 W W')) : ∃ r0 r1 r2 r3, Hid (Tl W' g L r0 r1 r2 r3) := tl_of hs h.out.here
theorem put_bel {b B : Nat} {cs : Array Value} {t : TypeId} {W0 W W' : World} (h : Hid (Put b cs t W W')) (hb : Hid (Below B W0 W)) (hB : B ≤ b) : Hid (Below B W0 W') := h.out.below hb.out hB
/-- What of tells. -/
def OfQ (w : World) (hi lo : Int) (n s c mn mx : Nat) (L : List Cn) (e : Ending) (w' : World) : Prop := ∃ g, e = .returned (part hi lo (.slice (some ⟨g, 0, none⟩) L.length (L.length + 2)) n s c mn mx) ∧ Hid (w'.heap[g]? = some (.cells (fl (L ++ [(91, 0), (92, 0)])).toArray 45 (0, 0))) ∧ w.heap.size ≤ g ∧ Hid (Below w.heap.size w w')
theorem four_other {w : World} {k b : Nat} {o : Obj} (h : Hid (w.heap[k]? = some o)) (hk : k ≠ b) (j0 j1 j2 j3 : Nat) (u0 u1 u2 u3 : Value) : Hid (((((w.setCell ⟨b, j0, none⟩ u0).setCell ⟨b, j1, none⟩ u1).setCell ⟨b, j2, none⟩ u2).setCell ⟨b, j3, none⟩ u3).heap[k]? = some o) := by
  unfold Hid at *
  rw [heap_setCell_other _ _ k _ hk, heap_setCell_other _ _ k _ hk, heap_setCell_other _ _ k _ hk, heap_setCell_other _ _ k _ hk]
  exact h
theorem four_below {w0 w : World} {B b : Nat} (h : Hid (Below B w0 w)) (hb : B ≤ b) (j0 j1 j2 j3 : Nat) (u0 u1 u2 u3 : Value) : Hid (Below B w0 ((((w.setCell ⟨b, j0, none⟩ u0).setCell ⟨b, j1, none⟩ u1).setCell ⟨b, j2, none⟩ u2).setCell ⟨b, j3, none⟩ u3)) :=
  (((h.out.setCell (p := ⟨b, j0, none⟩) hb _).setCell (p := ⟨b, j1, none⟩) hb _).setCell (p := ⟨b, j2, none⟩) hb _).setCell (p := ⟨b, j3, none⟩) hb _
set_option maxRecDepth 10000 in
set_option maxHeartbeats 4000000 in
theorem zof_any (hi lo : Int) (a1 : Option Addr) (c1 n s c mn mx : Nat) (L : List Cn) (hl : L.length ≤ 1048576) (w : World) (hA : SN w (.slice a1 L.length c1) L) :
    Calls Tryz.prog 6 #[rpart hi lo (.slice a1 L.length c1) n s c mn mx] w fun e w' => OfQ w hi lo n s c mn mx L e w' := by
  obtain ⟨cs, hcs, hmk⟩ := made2 L.length hl
  obtain ⟨w3, hw3⟩ : ∃ w3, ((w.alloc (.cells #[.int .i64 hi, .int .u64 lo, .slice a1 L.length c1, .int .u64 (n : Int), .int .u64 (s : Int), .int .u64 (c : Int), .int .u64 (mn : Int), .int .u64 (mx : Int)] 27)).alloc (.cells #[.int .i64 0, .int .u64 0, .slice none 0 0, .int .u64 0, .complex .f64 0 0, .float .f64 0, .float .f64 0] 32)).alloc (.cells cs 45) = w3 := ⟨_, rfl⟩
  have HB3 : Hid (Below w.heap.size w w3) := by rw [← hw3]; exact bel3 _ _ _ _
  have HX : Hid (w3.heap[w.heap.size]? = some (.cells #[.int .i64 hi, .int .u64 lo, .slice a1 L.length c1, .int .u64 (n : Int), .int .u64 (s : Int), .int .u64 (c : Int), .int .u64 (mn : Int), .int .u64 (mx : Int)] 27 (0, 0))) := by rw [← hw3]; exact new3_0 _ _ _ _
  have HY : Hid (w3.heap[w.heap.size + 1]? = some (.cells #[.int .i64 0, .int .u64 0, .slice none 0 0, .int .u64 0, .complex .f64 0 0, .float .f64 0, .float .f64 0] 32 (0, 0))) := by rw [← hw3]; exact new3_1 _ _ _ _
  have HZ : Hid (w3.heap[w.heap.size + 1 + 1]? = some (.cells cs 45 (0, 0))) := by rw [← hw3]; exact new3_2 _ _ _ _
  have HSN : Hid (SN w3 (.slice a1 L.length c1) L) := hA.below HB3.out
  obtain ⟨w4, hcp, hP4⟩ := copy_counts 3 (w.heap.size + 1 + 1) (L.length + 2) (L.length + 2) (.slice a1 L.length c1) L HSN.out (by omega) cs 45 HZ.out (by omega)
  have HP4 := hid_of hP4
  obtain ⟨r0, r1, r2, r3, HT4⟩ := put_tl hcs HP4
  obtain ⟨t0, t1, t2, t3, tf⟩ := Tl.facts HT4
  have HX4 := put_hid HP4 HX (by omega)
  have HY4 := put_hid HP4 HY (by omega)
  have HB4 := put_bel HP4 HB3 (by omega)
  obtain ⟨x0, x1, x2, x3, x4, x5, x6, x7⟩ := eight_cells HX
  obtain ⟨y0, y1, y2, y3, y4, y5, y6, y7⟩ := eight_cells HX4
  obtain ⟨z0, z1, z2, z3, z4, z5, z6⟩ := seven_cells HY4
  obtain ⟨k0, k1, k2, k3, k4, k5, k6⟩ := seven_fr HY4
  have hf := Pr.mf64from
  have sF := store_f
  have sC := store_c
  clear hA hP4
  go_enter Tryz.func6, Tryz.ntmps6
  go_upto_region 6 with fail
  have HT5 : Hid (Tl ((((w4.setCell ⟨w.heap.size + 1 + 1, L.length * 2, none⟩ (.int .i64 91)).setCell ⟨w.heap.size + 1 + 1, L.length * 2 + 1, none⟩ (.int .u64 0)).setCell ⟨w.heap.size + 1 + 1, (L.length + 1) * 2, none⟩ (.int .i64 92)).setCell ⟨w.heap.size + 1 + 1, (L.length + 1) * 2 + 1, none⟩ (.int .u64 0)) (w.heap.size + 1 + 1) L (.int .i64 91) (.int .u64 0) (.int .i64 92) (.int .u64 0)) := (HT4.out.set0 (.int .i64 91) (.int .u64 0)).set1 (.int .i64 92) (.int .u64 0)
  have HX5 : Hid (((((w4.setCell ⟨w.heap.size + 1 + 1, L.length * 2, none⟩ (.int .i64 91)).setCell ⟨w.heap.size + 1 + 1, L.length * 2 + 1, none⟩ (.int .u64 0)).setCell ⟨w.heap.size + 1 + 1, (L.length + 1) * 2, none⟩ (.int .i64 92)).setCell ⟨w.heap.size + 1 + 1, (L.length + 1) * 2 + 1, none⟩ (.int .u64 0)).heap[w.heap.size]? = some (.cells #[.int .i64 hi, .int .u64 lo, .slice a1 L.length c1, .int .u64 (n : Int), .int .u64 (s : Int), .int .u64 (c : Int), .int .u64 (mn : Int), .int .u64 (mx : Int)] 27 (0, 0))) := four_other HX4 (by omega) _ _ _ _ _ _ _ _
  have HY5 : Hid (((((w4.setCell ⟨w.heap.size + 1 + 1, L.length * 2, none⟩ (.int .i64 91)).setCell ⟨w.heap.size + 1 + 1, L.length * 2 + 1, none⟩ (.int .u64 0)).setCell ⟨w.heap.size + 1 + 1, (L.length + 1) * 2, none⟩ (.int .i64 92)).setCell ⟨w.heap.size + 1 + 1, (L.length + 1) * 2 + 1, none⟩ (.int .u64 0)).heap[w.heap.size + 1]? = some (.cells #[.int .i64 0, .int .u64 0, .slice none 0 0, .int .u64 0, .complex .f64 0 0, .float .f64 0, .float .f64 0] 32 (0, 0))) := four_other HY4 (by omega) _ _ _ _ _ _ _ _
  have HB5 : Hid (Below w.heap.size w ((((w4.setCell ⟨w.heap.size + 1 + 1, L.length * 2, none⟩ (.int .i64 91)).setCell ⟨w.heap.size + 1 + 1, L.length * 2 + 1, none⟩ (.int .u64 0)).setCell ⟨w.heap.size + 1 + 1, (L.length + 1) * 2, none⟩ (.int .i64 92)).setCell ⟨w.heap.size + 1 + 1, (L.length + 1) * 2 + 1, none⟩ (.int .u64 0))) := four_below HB4 (by omega) _ _ _ _ _ _ _ _
  clear x0 x1 x2 x3 x4 x5 x6 x7 y0 y1 y2 y3 y4 y5 y6 y7 z0 z1 z2 z3 z4 z5 z6 k0 k1 k2 k3 k4 k5 k6 t0 t1 t2 t3 tf hcp hmk hw3
  generalize ((((w4.setCell ⟨w.heap.size + 1 + 1, L.length * 2, none⟩ (.int .i64 91)).setCell ⟨w.heap.size + 1 + 1, L.length * 2 + 1, none⟩ (.int .u64 0)).setCell ⟨w.heap.size + 1 + 1, (L.length + 1) * 2, none⟩ (.int .i64 92)).setCell ⟨w.heap.size + 1 + 1, (L.length + 1) * 2 + 1, none⟩ (.int .u64 0)) = w5 at HT5 HX5 HY5 HB5 ⊢
  generalize hB : w.heap.size = B at *
  obtain ⟨x0, x1, x2, x3, x4, x5, x6, x7⟩ := eight_cells HX5
  obtain ⟨z0, z1, z2, z3, z4, z5, z6⟩ := seven_cells HY5
  obtain ⟨k0, k1, k2, k3, k4, k5, k6⟩ := seven_fr HY5
  have i0 : (0 : Int) ≤ (L.length : Int) := by omega
  have i1 : (L.length : Int) ≤ (L.length : Int) + 2 := by omega
  have i2 : L.length ≤ L.length + 2 := by omega
  go_region_held3 (fun W => W.cell? ⟨B, 0, none⟩ = some (.int .i64 hi) ∧ W.cell? ⟨B, 1, none⟩ = some (.int .u64 lo) ∧ W.cell? ⟨B, 2, none⟩ = some (.slice a1 L.length c1) ∧ W.cell? ⟨B, 3, none⟩ = some (.int .u64 (n : Int)) ∧ W.cell? ⟨B, 4, none⟩ = some (.int .u64 (s : Int)) ∧ W.cell? ⟨B, 5, none⟩ = some (.int .u64 (c : Int)) ∧ W.cell? ⟨B, 6, none⟩ = some (.int .u64 (mn : Int)) ∧ W.cell? ⟨B, 7, none⟩ = some (.int .u64 (mx : Int))) (go_keep) (fail)
  all_goals
    rename_i hHeld
    clear hHeld x0 x1 x2 x3 x4 x5 x6 x7
    go_wp2_with fail
    rw [put7_eq]
    have HE := set_seven (v0 := .int .i64 hi) (v1 := .int .u64 lo) (v2 := .slice (some ⟨B + 1 + 1, 0, none⟩) L.length (L.length + 2)) (v3 := .int .u64 (n : Int)) (v4 := .complex .f64 s c) (v5 := .float .f64 mn) (v6 := .float .f64 mx) HY5.out
    have HR : Hid ((put7 w5 (B + 1) (.int .i64 hi) (.int .u64 lo) (.slice (some ⟨B + 1 + 1, 0, none⟩) L.length (L.length + 2)) (.int .u64 (n : Int)) (.complex .f64 s c) (.float .f64 mn) (.float .f64 mx)).drew.heap[B + 1 + 1]? = some (.cells (fl (L ++ [(91, 0), (92, 0)])).toArray 45 (0, 0))) := hid_drew ((put7_other w5 (B + 1) (B + 1 + 1) _ _ _ _ _ _ _ (by omega)).trans HT5.out.row)
    have HBF : Hid (Below B w (put7 w5 (B + 1) (.int .i64 hi) (.int .u64 lo) (.slice (some ⟨B + 1 + 1, 0, none⟩) L.length (L.length + 2)) (.int .u64 (n : Int)) (.complex .f64 s c) (.float .f64 mn) (.float .f64 mx)).drew) := Below.drew ((put7_put HY5 _ _ _ _ _ _ _).below HB5.out (by omega))
    obtain ⟨z0, z1, z2, z3, z4, z5, z6⟩ := seven_cells HE
    simp [bodyPost, results, Tryz.results6, go_sem, z0, z1, z2, z3, z4, z5, z6]
    exact ⟨B + 1 + 1, rfl, HR, by omega, by rw [hB]; exact HBF⟩
end Go.Proofs.YtbgdmlekhobjdaaGreat
